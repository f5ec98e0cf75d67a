/-
  The walk of the model's RestOf. No statement is proved here.
-/
import Derived.Test.YtdacjpaaffpfgaaC6t
namespace Go.Proofs.Ytdacjpaaffpfgaa
open Go.RowKit
set_option linter.unusedVariables false
set_option linter.unusedSimpArgs false

def restD (D C : List Int) : List Int := if ctrOk D C = true then (restL (D.zip C) D.length).map Prod.fst else []
def restC (D C : List Int) : List Int := if ctrOk D C = true then (restL (D.zip C) D.length).map Prod.snd else []
theorem tick_of {l : Cnt} (h1 : 1 ≤ l.length) (h8 : l.length ≤ 8) (h : okL l) (t : Bool) :
    ctrOk (l.map Prod.fst) (l.map Prod.snd) = true ∧ tickD (l.map Prod.fst) (l.map Prod.snd) t = (tickL (bitI t) l).map Prod.fst ∧ tickC (l.map Prod.fst) (l.map Prod.snd) t = (tickL (bitI t) l).map Prod.snd := by
  have ho := ctrOk_of h1 h8 h
  refine ⟨ho, ?_, ?_⟩
  · unfold tickD; rw [if_pos ho, zip_of]
  · unfold tickC; rw [if_pos ho, zip_of]

set_option maxRecDepth 100000 in
set_option maxHeartbeats 6400000 in
theorem specRestOf_any (A : Option Addr) (n c : Nat) (A2 : Option Addr) (n2 c2 : Nat) (D C : List Int) (w : World) (h1 : Sl w w.heap.size A n D) (h2 : Sl w w.heap.size A2 n2 C) :
    Calls Try.prog 34 #[ctr A n c A2 n2 c2] w fun e w' => ∃ A3 n3 c3 A4 n4 c4, e = .returned (.tuple #[ctr A3 n3 c3 A4 n4 c4, .bool (ctrOk D C)]) ∧ Ctr w' w.heap.size A3 n3 c3 A4 n4 c4 (restD D C) (restC D C) ∧ Below w.heap.size w w' := by
  have HD := hid h1.len
  have HC := hid h2.len
  have X0 := (Bk.new w (.slice A n c) (.slice A2 n2 c2)).on (row := none) (grown_alloc _ (.cells #[.slice none 0 0, .slice none 0 0] 25) none) (by simp)
  have hz : (w.alloc (.cells #[.slice A n c, .slice A2 n2 c2] 25)).heap.size = w.heap.size + 1 := by simp
  have X1 := Bk.new (w.alloc (.cells #[.slice A n c, .slice A2 n2 c2] 25)) (.slice none 0 0) (.slice none 0 0)
  rw [hz] at X1
  have B0 := ((Below.refl w.heap.size w).alloc (Nat.le_refl _) (.cells #[.slice A n c, .slice A2 n2 c2] 25)).alloc (by simp) (.cells #[.slice none 0 0, .slice none 0 0] 25)
  have CK := hid (specCounterOk_any A n c A2 n2 c2 D C _ (h1.on B0) (h2.on B0))
  have k0 := X0.c0
  have k1 := X0.c1
  cases hok : ctrOk D C with
  | false =>
    have HV := hid (show restD D C = [] ∧ restC D C = [] from by unfold restD restC; rw [hok]; exact ⟨rfl, rfl⟩)
    rw [hok] at CK
    clear hok
    go_enter Try.func34, Try.ntmps34
    go_wp2_with fail
    with_reducible refine Calls.mono CK.out ?_
    rintro e w1 ⟨rfl, g1⟩
    have Y1 := X1.on g1 (by simp)
    have f0 := Y1.fz 0
    have f1 := Y1.fz 1
    have k2 := Y1.c0
    have k3 := Y1.c1
    have HB := hid (B0.trans ((below_grown g1).mono B0.size))
    have HY := hid Y1
    clear g1 B0 X0 X1 k0 k1 Y1
    go_wp2
    (try simp only [Exit.inBlock, Exit.then])
    refine bodyPost_ret (results_k1 rfl _ _ (w.heap.size + 1) 25 _ (0, 0) _ (by simp [Act.put]) (HY.out.set (.slice none 0 0) (.slice none 0 0)) Try.underlying25 rfl size_ctr) rfl ?_
    exact ⟨_, 0, 0, _, 0, 0, rfl, by rw [HV.out.1, HV.out.2]; exact Ctr.none _ _, HB.out.trans ((below_put2 w1 (w.heap.size + 1) _ _).mono (by omega))⟩
  | true =>
    obtain ⟨hn, hnn, hol⟩ := ctrOk_iff.1 hok
    rw [HD.out] at hn
    rw [HD.out, HC.out] at hnn
    subst hnn
    have hCD : C.length = D.length := by rw [HD.out, HC.out]
    have HV := hid (show restD D C = (restL (D.zip C) n2).map Prod.fst ∧ restC D C = (restL (D.zip C) n2).map Prod.snd from by unfold restD restC; rw [hok, HD.out]; exact ⟨rfl, rfl⟩)
    rw [hok] at CK
    have HZ := hid (show (D.zip C).length = n2 from by rw [List.length_zip, HD.out, HC.out]; omega)
    have HK := hid (fun (k : Nat) => tick_of (l := restL (D.zip C) k) (by rw [restL_len, HZ.out]; omega) (by rw [restL_len, HZ.out]; omega) (rest_ok hol k) false)
    have HF := hid (zip_fst hCD)
    have HS := hid (zip_snd hCD)
    clear hok hol hCD
    go_enter Try.func34, Try.ntmps34
    go_wp2_with fail
    with_reducible refine Calls.mono CK.out ?_
    rintro e w1 ⟨rfl, g1⟩
    obtain ⟨b, hb⟩ : ∃ b, w1.heap.size = b := ⟨_, rfl⟩
    have hbb : w.heap.size + 2 ≤ b := by rw [← hb]; have := g1.size; simp at this; omega
    have j0 := (X0.on g1 (by simp)).c0
    have j1 := (X0.on g1 (by simp)).c1
    have Y0 := hid ((X0.on g1 (by simp)).on (row := none) (grown_alloc w1 (.cells #[.slice A n2 c, .slice A2 n2 c2] 25) none) (by simp))
    have Y1 := hid ((X1.on g1 (by simp)).on (row := none) (grown_alloc w1 (.cells #[.slice A n2 c, .slice A2 n2 c2] 25) none) (by simp))
    have Y2 : Hid (Bk (w1.alloc (.cells #[.slice A n2 c, .slice A2 n2 c2] 25)) b (.slice A n2 c) (.slice A2 n2 c2)) := hid (by rw [← hb]; exact Bk.new w1 _ _)
    have HB := hid ((B0.trans ((below_grown g1).mono B0.size)).alloc (by have := B0.size; omega) (.cells #[.slice A n2 c, .slice A2 n2 c2] 25))
    have hsz : b + 1 ≤ (w1.alloc (.cells #[.slice A n2 c, .slice A2 n2 c2] 25)).heap.size := by simp [hb]
    have S1 := hid (h1.on HB.out)
    have S2 := hid (h2.on HB.out)
    clear g1 B0 X0 X1 k0 k1 CK h1 h2
    go_wp2_with fail
    obtain ⟨w2, e2⟩ : ∃ W, w1.alloc (.cells #[.slice A n2 c, .slice A2 n2 c2] 25) = W := ⟨_, rfl⟩
    rw [e2] at Y0 Y1 Y2 HB hsz S1 S2 ⊢
    clear e2 hb j0 j1
    go_loopw [5] (fun kk wr => ∃ (A3 : Option Addr) (c3 : Nat) (A4 : Option Addr) (c4 k : Nat), kk = .int .i64 k ∧ k ≤ n2 ∧ Hid (Bk wr w.heap.size (.slice A n2 c) (.slice A2 n2 c2)) ∧ Hid (Bk wr (w.heap.size + 1) (.slice none 0 0) (.slice none 0 0)) ∧ Hid (Bk wr b (.slice A3 n2 c3) (.slice A4 n2 c4)) ∧ Hid (Sl wr wr.heap.size A3 n2 ((restL (D.zip C) k).map Prod.fst) ∧ Sl wr wr.heap.size A4 n2 ((restL (D.zip C) k).map Prod.snd)) ∧ Hid (k = 0 ∨ Ctr wr (b + 1) A3 n2 c3 A4 n2 c4 ((restL (D.zip C) k).map Prod.fst) ((restL (D.zip C) k).map Prod.snd)) ∧ b + 1 ≤ wr.heap.size ∧ Hid (Below w.heap.size w wr)) (fun kk _ => n2 - (intOf kk).toNat)
    case atStart => exact ⟨A, c, A2, c2, 0, rfl, Nat.zero_le _, Y0, Y1, Y2, hid ⟨by rw [show restL (D.zip C) 0 = D.zip C from rfl, HF.out]; exact S1.out, by rw [show restL (D.zip C) 0 = D.zip C from rfl, HS.out]; exact S2.out⟩, hid (.inl rfl), hsz, HB⟩
    case round =>
      clear Y0 Y1 Y2 HB hsz S1 S2
      obtain ⟨A3, c3, A4, c4, k, rfl, hk, Y0, Y1, Y2, SS, RR, hsz, HB⟩ := hrel
      have a0 := Y0.out.c0
      have d0 := Y2.out.c0
      have d1 := Y2.out.c1
      by_cases hlt : k < n2
      · have hlt' : (k : Int) < (n2 : Int) := by omega
        have CT := hid (specTickOf_any A3 n2 c3 A4 n2 c4 _ _ false wr SS.out.1 SS.out.2)
        rw [(HK.out k).1, (HK.out k).2.1, (HK.out k).2.2, show bitI false = 0 from rfl, ← restL_succ] at CT
        have hln : (restL (D.zip C) (k + 1)).length = n2 := by rw [restL_len, HZ.out]
        go_wp2_with fail
        with_reducible refine Calls.mono CT.out ?_
        rintro e w3 ⟨A5, n5, c5, A6, n6, c6, rfl, R5, B5⟩
        obtain rfl : n5 = n2 := by have := R5.lenD; rw [List.length_map, hln] at this; omega
        obtain rfl : n6 = n5 := by have := R5.lenC; rw [List.length_map, hln] at this; omega
        have L3 : Below (b + 1) wr w3 := B5.mono hsz
        have Y2' := Y2.out.below L3 (by omega)
        have s0 := Y2'.fz 0
        have s1 := Y2'.fz 1
        have t0 := Y2'.c0
        have t1 := Y2'.c1
        obtain ⟨w4, e4⟩ : ∃ W, (w3.setCell ⟨b, 0, none⟩ (.slice A5 n6 c5)).setCell ⟨b, 1, none⟩ (.slice A6 n6 c6) = W := ⟨_, rfl⟩
        have L4 : Below b wr w4 := by rw [← e4]; exact (L3.mono (by omega)).trans (below_put2 _ _ _ _)
        have Q0 := hid (Y0.out.below L4 (by omega))
        have Q1 := hid (Y1.out.below L4 (by omega))
        have Q2 : Hid (Bk w4 b (.slice A5 n6 c5) (.slice A6 n6 c6)) := hid (by rw [← e4]; exact Y2'.set _ _)
        have z4 : b + 1 ≤ w4.heap.size := by rw [← e4]; have := L3.size; simp [World.setCell]; omega
        have QR : Hid (Ctr w4 (b + 1) A5 n6 c5 A6 n6 c6 _ _) := hid (by rw [← e4]; exact ((R5.mono hsz).putAt (by omega) _).putAt (by omega) _)
        have QB := hid (HB.out.trans (L4.mono (by omega)))
        clear R5 B5 L3 Y2' L4 CT
        go_wp2
        go_roundw
        case rel => exact ⟨A5, c5, A6, c6, k + 1, by go_num, by omega, Q0, Q1, Q2, hid ⟨Sl.of_own QR.out.d, Sl.of_own QR.out.e⟩, hid (.inr QR.out), z4, QB⟩
        case measure => simp [intOf]; omega
      · obtain rfl : k = n2 := by omega
        have R : Ctr wr (b + 1) A3 k c3 A4 k c4 (restD D C) (restC D C) := by
          rcases RR.out with h | h
          · omega
          · rw [HV.out.1, HV.out.2]; exact h
        have HR := hid R
        clear R RR SS
        have p0 := Y1.out.c0
        have p1 := Y1.out.c1
        have ff0 := Y1.out.fz 0
        have ff1 := Y1.out.fz 1
        go_wp2
        (try simp only [Exit.inBlock, Exit.then])
        refine bodyPost_ret (results_k1 rfl _ _ (w.heap.size + 1) 25 _ (0, 0) _ (by simp [Act.put]) (Y1.out.set (.slice A3 k c3) (.slice A4 k c4)) Try.underlying25 rfl size_ctr) rfl ?_
        exact ⟨_, k, _, _, k, _, rfl, ((HR.out.putAt (by omega) _).putAt (by omega) _).mono (by omega), HB.out.trans ((below_put2 wr (w.heap.size + 1) _ _).mono (by omega))⟩
end Go.Proofs.Ytdacjpaaffpfgaa
