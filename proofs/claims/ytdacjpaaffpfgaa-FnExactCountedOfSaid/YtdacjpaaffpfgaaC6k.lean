/-
  Walks of the program's RestOf and CountedOf. No statement is proved here.
-/
import Derived.Test.YtdacjpaaffpfgaaC6j
import Derived.Test.YtdacjpaaffpfgaaC6q
namespace Go.Proofs.Ytdacjpaaffpfgaa
open Go.RowKit
set_option linter.unusedVariables false
set_option linter.unusedSimpArgs false

/-- A tick of a counter whose rows are those of a list. -/
theorem tickedL_any (A : Option Addr) (n c : Nat) (A2 : Option Addr) (c2 : Nat) (l : Cnt) (t : Bool) (w : World) (h1 : Sl w w.heap.size A n (l.map Prod.fst)) (h2 : Sl w w.heap.size A2 n (l.map Prod.snd)) (hn : 1 ≤ n) (h8 : n ≤ 8) (hol : okL l) :
    Calls Try.prog 55 #[ctr A n c A2 n c2, .bool t] w fun e w' => ∃ A3 c3 A4 c4, e = .returned (ctr A3 n c3 A4 n c4) ∧ Ctr w' w.heap.size A3 n c3 A4 n c4 ((tickL (bitI t) l).map Prod.fst) ((tickL (bitI t) l).map Prod.snd) ∧ Below w.heap.size w w' := by
  have h := ticked_any A n c A2 c2 _ _ t w h1 h2 hn h8 (by rw [zip_of]; exact hol)
  rw [zip_of] at h
  exact h

set_option maxRecDepth 100000 in
set_option maxHeartbeats 6400000 in
theorem implRestOf_any (A : Option Addr) (n c : Nat) (A2 : Option Addr) (n2 c2 : Nat) (D C : List Int) (w : World) (h1 : Sl w w.heap.size A n D) (h2 : Sl w w.heap.size A2 n2 C) :
    Calls Try.prog 33 #[ctr A n c A2 n2 c2] w fun e w' => ∃ A3 n3 c3 A4 n4 c4, e = .returned (.tuple #[ctr A3 n3 c3 A4 n4 c4, .bool (ctrOk D C)]) ∧ Ctr w' w.heap.size A3 n3 c3 A4 n4 c4 (restD D C) (restC D C) ∧ Below w.heap.size w w' := by
  have HD := hid h1.len
  have HC := hid h2.len
  have X0 := (Bk.new w (.slice A n c) (.slice A2 n2 c2)).on (row := none) (grown_alloc _ (.cells #[.slice none 0 0, .slice none 0 0] 25) none) (by simp)
  have hz : (w.alloc (.cells #[.slice A n c, .slice A2 n2 c2] 25)).heap.size = w.heap.size + 1 := by simp
  have X1 := Bk.new (w.alloc (.cells #[.slice A n c, .slice A2 n2 c2] 25)) (.slice none 0 0) (.slice none 0 0)
  rw [hz] at X1
  have B0 := ((Below.refl w.heap.size w).alloc (Nat.le_refl _) (.cells #[.slice A n c, .slice A2 n2 c2] 25)).alloc (by simp) (.cells #[.slice none 0 0, .slice none 0 0] 25)
  have CK := hid (counterI_any A n c A2 n2 c2 D C _ (h1.on B0) (h2.on B0))
  have k0 := X0.c0
  have k1 := X0.c1
  cases hok : ctrOk D C with
  | false =>
    have HV := hid (show restD D C = [] ∧ restC D C = [] from by unfold restD restC; rw [hok]; exact ⟨rfl, rfl⟩)
    rw [hok] at CK
    clear hok
    go_enter Try.func33, Try.ntmps33
    go_wp2_with fail
    with_reducible refine Calls.mono CK.out ?_
    rintro e w1 ⟨rfl, g1⟩
    have Y1 := X1.on g1 (by simp)
    have f0 := Y1.fz 0
    have f1 := Y1.fz 1
    have k2 := Y1.c0
    have k3 := Y1.c1
    have HB := hid (B0.trans ((below_grown g1).mono B0.size))
    have HY := hid Y1
    clear g1 B0 X0 X1 k0 k1 Y1
    go_wp2_with fail
    (try simp only [Exit.inBlock, Exit.then])
    refine bodyPost_ret (results_k1 rfl _ _ (w.heap.size + 1) 25 _ (0, 0) _ (by simp [Act.put]) (HY.out.set (.slice none 0 0) (.slice none 0 0)) Try.underlying25 rfl size_ctr) rfl ?_
    exact ⟨_, 0, 0, _, 0, 0, rfl, by rw [HV.out.1, HV.out.2]; exact Ctr.none _ _, HB.out.trans ((below_put2 w1 (w.heap.size + 1) _ _).mono (by omega))⟩
  | true =>
    obtain ⟨hn, hnn, hol⟩ := ctrOk_iff.1 hok
    rw [HD.out] at hn
    rw [HD.out, HC.out] at hnn
    subst hnn
    have hCD : C.length = D.length := by rw [HD.out, HC.out]
    have HV := hid (show restD D C = (restL (D.zip C) n2).map Prod.fst ∧ restC D C = (restL (D.zip C) n2).map Prod.snd from by unfold restD restC; rw [hok, HD.out]; exact ⟨rfl, rfl⟩)
    rw [hok] at CK
    have HZ := hid (show (D.zip C).length = n2 from by rw [List.length_zip, HD.out, HC.out]; omega)
    have HK := hid (fun (k : Nat) => rest_ok hol k)
    have HF := hid (zip_fst hCD)
    have HS := hid (zip_snd hCD)
    clear hok hol hCD
    go_enter Try.func33, Try.ntmps33
    go_wp2_with fail
    with_reducible refine Calls.mono CK.out ?_
    rintro e w1 ⟨rfl, g1⟩
    obtain ⟨b, hb⟩ : ∃ b, w1.heap.size = b := ⟨_, rfl⟩
    have hbb : w.heap.size + 2 ≤ b := by rw [← hb]; have := g1.size; simp at this; omega
    have j0 := (X0.on g1 (by simp)).c0
    have j1 := (X0.on g1 (by simp)).c1
    have Y0 := hid ((X0.on g1 (by simp)).on (row := none) (grown_alloc w1 (.cells #[.slice A n2 c, .slice A2 n2 c2] 25) none) (by simp))
    have Y1 := hid ((X1.on g1 (by simp)).on (row := none) (grown_alloc w1 (.cells #[.slice A n2 c, .slice A2 n2 c2] 25) none) (by simp))
    have Y2 : Hid (Bk (w1.alloc (.cells #[.slice A n2 c, .slice A2 n2 c2] 25)) b (.slice A n2 c) (.slice A2 n2 c2)) := hid (by rw [← hb]; exact Bk.new w1 _ _)
    have HB := hid ((B0.trans ((below_grown g1).mono B0.size)).alloc (by have := B0.size; omega) (.cells #[.slice A n2 c, .slice A2 n2 c2] 25))
    have hsz : b + 1 ≤ (w1.alloc (.cells #[.slice A n2 c, .slice A2 n2 c2] 25)).heap.size := by simp [hb]
    have S1 := hid (h1.on HB.out)
    have S2 := hid (h2.on HB.out)
    have l0 := Y0.out.c0
    clear g1 B0 X0 X1 k0 k1 CK h1 h2
    go_wp2_with fail
    obtain ⟨w2, e2⟩ : ∃ W, w1.alloc (.cells #[.slice A n2 c, .slice A2 n2 c2] 25) = W := ⟨_, rfl⟩
    rw [e2] at Y0 Y1 Y2 HB hsz S1 S2 ⊢
    clear e2 hb j0 j1 l0
    go_loopw [13] (fun kk wr => ∃ (A3 : Option Addr) (c3 : Nat) (A4 : Option Addr) (c4 k : Nat), kk = .int .i64 k ∧ k ≤ n2 ∧ Hid (Bk wr (w.heap.size + 1) (.slice none 0 0) (.slice none 0 0)) ∧ Hid (Bk wr b (.slice A3 n2 c3) (.slice A4 n2 c4)) ∧ Hid (Sl wr wr.heap.size A3 n2 ((restL (D.zip C) k).map Prod.fst) ∧ Sl wr wr.heap.size A4 n2 ((restL (D.zip C) k).map Prod.snd)) ∧ Hid (k = 0 ∨ Ctr wr (b + 1) A3 n2 c3 A4 n2 c4 ((restL (D.zip C) k).map Prod.fst) ((restL (D.zip C) k).map Prod.snd)) ∧ b + 1 ≤ wr.heap.size ∧ Hid (Below w.heap.size w wr)) (fun kk _ => n2 - (intOf kk).toNat)
    case atStart => exact ⟨A, c, A2, c2, 0, rfl, Nat.zero_le _, Y1, Y2, hid ⟨by rw [show restL (D.zip C) 0 = D.zip C from rfl, HF.out]; exact S1.out, by rw [show restL (D.zip C) 0 = D.zip C from rfl, HS.out]; exact S2.out⟩, hid (.inl rfl), hsz, HB⟩
    case round =>
      clear Y0 Y1 Y2 HB hsz S1 S2
      obtain ⟨A3, c3, A4, c4, k, rfl, hk, Y1, Y2, SS, RR, hsz, HB⟩ := hrel
      have d0 := Y2.out.c0
      have d1 := Y2.out.c1
      by_cases hlt : k < n2
      · have hlt' : (k : Int) < (n2 : Int) := by omega
        have CT := hid (tickedL_any A3 n2 c3 A4 c4 _ false wr SS.out.1 SS.out.2 hn.1 hn.2 (HK.out k))
        rw [show bitI false = 0 from rfl, ← restL_succ] at CT
        go_wp2_with fail
        with_reducible refine Calls.mono CT.out ?_
        rintro e w3 ⟨A5, c5, A6, c6, rfl, R5, B5⟩
        have L3 : Below (b + 1) wr w3 := B5.mono hsz
        have Y2' := Y2.out.below L3 (by omega)
        have s0 := Y2'.fz 0
        have s1 := Y2'.fz 1
        have t0 := Y2'.c0
        have t1 := Y2'.c1
        obtain ⟨w4, e4⟩ : ∃ W, (w3.setCell ⟨b, 0, none⟩ (.slice A5 n2 c5)).setCell ⟨b, 1, none⟩ (.slice A6 n2 c6) = W := ⟨_, rfl⟩
        have L4 : Below b wr w4 := by rw [← e4]; exact (L3.mono (by omega)).trans (below_put2 _ _ _ _)
        have Q1 := hid (Y1.out.below L4 (by omega))
        have Q2 : Hid (Bk w4 b (.slice A5 n2 c5) (.slice A6 n2 c6)) := hid (by rw [← e4]; exact Y2'.set _ _)
        have z4 : b + 1 ≤ w4.heap.size := by rw [← e4]; have := L3.size; simp [World.setCell]; omega
        have QR : Hid (Ctr w4 (b + 1) A5 n2 c5 A6 n2 c6 _ _) := hid (by rw [← e4]; exact ((R5.mono hsz).putAt (by omega) _).putAt (by omega) _)
        have QB := hid (HB.out.trans (L4.mono (by omega)))
        clear R5 B5 L3 Y2' L4 CT
        go_wp2
        go_roundw
        case rel => exact ⟨A5, c5, A6, c6, k + 1, by go_num, by omega, Q1, Q2, hid ⟨Sl.of_own QR.out.d, Sl.of_own QR.out.e⟩, hid (.inr QR.out), z4, QB⟩
        case measure => simp [intOf]; omega
      · obtain rfl : k = n2 := by omega
        have R : Ctr wr (b + 1) A3 k c3 A4 k c4 (restD D C) (restC D C) := by
          rcases RR.out with h | h
          · omega
          · rw [HV.out.1, HV.out.2]; exact h
        have HR := hid R
        clear R RR SS
        have p0 := Y1.out.c0
        have p1 := Y1.out.c1
        have ff0 := Y1.out.fz 0
        have ff1 := Y1.out.fz 1
        go_wp2
        (try simp only [Exit.inBlock, Exit.then])
        refine bodyPost_ret (results_k1 rfl _ _ (w.heap.size + 1) 25 _ (0, 0) _ (by simp [Act.put]) (Y1.out.set (.slice A3 k c3) (.slice A4 k c4)) Try.underlying25 rfl size_ctr) rfl ?_
        exact ⟨_, k, _, _, k, _, rfl, ((HR.out.putAt (by omega) _).putAt (by omega) _).mono (by omega), HB.out.trans ((below_put2 wr (w.heap.size + 1) _ _).mono (by omega))⟩

set_option maxRecDepth 100000 in
set_option maxHeartbeats 6400000 in
theorem implCountedOf_any (m : Int) (A : Option Addr) (n c : Nat) (ts : List Bool) (w : World) (hs : Sb w w.heap.size A n ts) (hw : (Lit.int .i64 m).wf = true) :
    Calls Try.prog 30 #[.int .i64 m, .slice A n c] w fun e w' => ∃ A3 n3 c3 A4 n4 c4, e = .returned (.tuple #[ctr A3 n3 c3 A4 n4 c4, .bool (countOk m ts)]) ∧ Ctr w' w.heap.size A3 n3 c3 A4 n4 c4 (countD m ts) (countC m ts) ∧ Below w.heap.size w w' := by
  have hm1 : n ≤ 9223372036854775807 := by have := hs.2.1; simpa [maxLen] using this
  have HL := hid hs.1
  have X1 := Bk.new w (.slice none 0 0) (.slice none 0 0)
  have B0 := (Below.refl w.heap.size w).alloc (Nat.le_refl _) (.cells #[.slice none 0 0, .slice none 0 0] 25)
  have hzz : (w.alloc (.cells #[.slice none 0 0, .slice none 0 0] 25)).heap.size = w.heap.size + 1 := by simp
  by_cases hok : countOk m ts = true
  · have hok2 : within m 1 8 = true ∧ ts.length ≤ 300 := by simpa [countOk] using hok
    obtain ⟨hm, h300⟩ := hok2
    have hmb := within_iff.1 hm
    obtain ⟨N, rfl⟩ : ∃ N : Nat, m = N := Int.eq_ofNat_of_zero_le (by omega)
    have CK := hid (newCtr_any N (w.alloc (.cells #[.slice none 0 0, .slice none 0 0] 25)) (by omega))
    have HV := hid (show countD N ts = (countL (zeroL N) ts).map Prod.fst ∧ countC N ts = (countL (zeroL N) ts).map Prod.snd from by unfold countD countC; rw [if_pos hok, if_pos hok, Int.toNat_natCast]; exact ⟨rfl, rfl⟩)
    have HO := hid hok
    have HK := hid (fun (k : Nat) => count_ok (zeroL_ok N) (ts.take k))
    rw [hs.1] at h300
    have hle : decide ((300 : Int) < (n : Int)) = false := by simp; omega
    have hle2 : ¬ (300 : Int) < (n : Int) := by omega
    clear hok
    go_enter Try.func30, Try.ntmps30
    go_wp2_with (go_at_call 45; refine (digitsOk_any _ _).mono ?_; rintro e w' ⟨rfl, rfl⟩)
    with_reducible refine Calls.mono CK.out ?_
    rintro e w1 ⟨A3, c3, A4, c4, rfl, R1, B1⟩
    obtain ⟨b, hb⟩ : ∃ b, w1.heap.size = b := ⟨_, rfl⟩
    have hbb : w.heap.size + 1 ≤ b := by rw [← hb]; have := B1.size; simp at this; omega
    have hlb : ∀ k, (Value.slice A3 N c3).ownBlock = some k → k < b := by rw [← hb]; exact own_hi R1.d
    have hlc : ∀ k, (Value.slice A4 N c4).ownBlock = some k → k < b := by rw [← hb]; exact own_hi R1.e
    have Y1 := hid ((X1.below B1 (by simp)).on (row := none) (grown_alloc w1 (.cells #[.slice A3 N c3, .slice A4 N c4] 25) none) (by simp))
    have Y2 : Hid (Bk (w1.alloc (.cells #[.slice A3 N c3, .slice A4 N c4] 25)) b (.slice A3 N c3) (.slice A4 N c4)) := hid (by rw [← hb]; exact Bk.new w1 _ _)
    have HB := hid ((B0.trans (B1.mono (by simp))).alloc (by have := B0.size; have := B1.size; omega) (.cells #[.slice A3 N c3, .slice A4 N c4] 25))
    have hsz : b + 1 ≤ (w1.alloc (.cells #[.slice A3 N c3, .slice A4 N c4] 25)).heap.size := by simp [hb]
    have RR : Hid (Ctr (w1.alloc (.cells #[.slice A3 N c3, .slice A4 N c4] 25)) (w.heap.size + 1) A3 N c3 A4 N c4 ((countL (zeroL N) (ts.take 0)).map Prod.fst) ((countL (zeroL N) (ts.take 0)).map Prod.snd)) :=
      hid (by rw [show countL (zeroL N) (ts.take 0) = zeroL N from by simp [countL], zeroL_fst, zeroL_snd, ← hzz]; exact R1.on ((Below.refl w1.heap.size w1).alloc (Nat.le_refl _) _))
    have NE := hid (And.intro (fun k h => Nat.ne_of_lt (hlb k h)) (fun k h => Nat.ne_of_lt (hlc k h)))
    have HS := hid hs
    clear hlb hlc
    clear B1 R1 B0 X1 CK hs hzz hm1
    go_wp2_with fail
    obtain ⟨w2, e2⟩ : ∃ W, w1.alloc (.cells #[.slice A3 N c3, .slice A4 N c4] 25) = W := ⟨_, rfl⟩
    rw [e2] at Y1 Y2 HB hsz RR ⊢
    clear e2 hb
    go_loopw [22] (fun kk wr => ∃ (A3 : Option Addr) (c3 : Nat) (A4 : Option Addr) (c4 k : Nat), kk = .int .i64 k ∧ k ≤ n ∧ Hid (Bk wr w.heap.size (.slice none 0 0) (.slice none 0 0)) ∧ Hid (Bk wr b (.slice A3 N c3) (.slice A4 N c4)) ∧ Hid (Ctr wr (w.heap.size + 1) A3 N c3 A4 N c4 ((countL (zeroL N) (ts.take k)).map Prod.fst) ((countL (zeroL N) (ts.take k)).map Prod.snd)) ∧ Hid ((∀ k, (Value.slice A3 N c3).ownBlock = some k → k ≠ b) ∧ (∀ k, (Value.slice A4 N c4).ownBlock = some k → k ≠ b)) ∧ b + 1 ≤ wr.heap.size ∧ Hid (Below w.heap.size w wr)) (fun kk _ => n - (intOf kk).toNat)
    case atStart => exact ⟨A3, c3, A4, c4, 0, rfl, Nat.zero_le _, Y1, Y2, RR, NE, hsz, HB⟩
    case round =>
      clear Y1 Y2 RR NE HB hsz
      obtain ⟨A3, c3, A4, c4, k, rfl, hk, Y1, Y2, RR, NE, hsz, HB⟩ := hrel
      have d0 := Y2.out.c0
      have d1 := Y2.out.c1
      by_cases hlt : k < n
      · have hlt' : (k : Int) < (n : Int) := by omega
        have hkl : k < ts.length := by rw [HL.out]; exact hlt
        obtain ⟨bt, ot, rfl, hlt2, hct⟩ := (HS.out.on HB.out).2.2 (by omega)
        have htk := hct k hlt
        have hts := take_bit hkl
        obtain ⟨t, hte⟩ : ∃ t, ts.getD k false = t := ⟨_, rfl⟩
        rw [hte] at htk hts
        have CT := hid (tickedL_any A3 N c3 A4 c4 _ t wr (Sl.of_own RR.out.d) (Sl.of_own RR.out.e) (by omega) (by omega) (HK.out k))
        rw [← countL_snoc, ← hts] at CT
        have s0 := Y2.out.fz 0
        have s1 := Y2.out.fz 1
        clear hct hte hts hkl hlt2
        go_wp2_with fail
        with_reducible refine Calls.mono CT.out ?_
        rintro e w3 ⟨A5, c5, A6, c6, rfl, R5, B5⟩
        have L3 : Below (b + 1) wr w3 := B5.mono hsz
        have Y2' := Y2.out.below L3 (by omega)
        have r0 := Y2'.fz 0
        have r1 := Y2'.fz 1
        have t0 := Y2'.c0
        have t1 := Y2'.c1
        obtain ⟨w4, e4⟩ : ∃ W, (w3.setCell ⟨b, 0, none⟩ (.slice A5 N c5)).setCell ⟨b, 1, none⟩ (.slice A6 N c6) = W := ⟨_, rfl⟩
        have L4 : Below b wr w4 := by rw [← e4]; exact (L3.mono (by omega)).trans (below_put2 _ _ _ _)
        have hbs := HB.out.size
        have Q1 := hid (Y1.out.below L4 (by omega))
        have Q2 : Hid (Bk w4 b (.slice A5 N c5) (.slice A6 N c6)) := hid (by rw [← e4]; exact Y2'.set _ _)
        have z4 : b + 1 ≤ w4.heap.size := by rw [← e4]; have := L3.size; simp [World.setCell]; omega
        have QR : Hid (Ctr w4 (w.heap.size + 1) A5 N c5 A6 N c6 _ _) := hid (by rw [← e4]; exact (((R5.mono hsz).putAt (by omega) _).putAt (by omega) _).mono (by omega))
        have QN := hid (And.intro (fun k h => Nat.ne_of_gt (Nat.lt_of_lt_of_le (Nat.lt_of_succ_le hsz) (R5.d.lt k h).1)) (fun k h => Nat.ne_of_gt (Nat.lt_of_lt_of_le (Nat.lt_of_succ_le hsz) (R5.e.lt k h).1)))
        have QB := hid (HB.out.trans (L4.mono (by omega)))
        clear R5 B5 L3 Y2' L4 CT
        go_wp2
        go_roundw
        case rel => exact ⟨A5, c5, A6, c6, k + 1, by go_num, by omega, Q1, Q2, QR, QN, z4, QB⟩
        case measure => simp [intOf]; omega
      · obtain rfl : k = n := by omega
        rw [List.take_of_length_le (by rw [HL.out]; omega)] at RR
        rw [← HV.out.1, ← HV.out.2] at RR
        have p0 := Y1.out.c0
        have p1 := Y1.out.c1
        have ff0 := Y1.out.fz 0
        have ff1 := Y1.out.fz 1
        go_wp2
        (try simp only [Exit.inBlock, Exit.then])
        refine bodyPost_ret (results_k1 rfl _ _ w.heap.size 25 _ (0, 0) _ (by simp [Act.put]) (Y1.out.set (.slice A3 N c3) (.slice A4 N c4)) Try.underlying25 rfl size_ctr) rfl ?_
        exact ⟨_, N, _, _, N, _, by rw [HO.out]; rfl, ((RR.out.putAt (by omega) _).putAt (by omega) _).mono (by omega), HB.out.trans ((below_put2 wr w.heap.size _ _).mono (by omega))⟩
  · have hok' : countOk m ts = false := by simpa using hok
    have HV := hid (show countD m ts = [] ∧ countC m ts = [] from by unfold countD countC; rw [hok']; exact ⟨rfl, rfl⟩)
    have HO := hid hok'
    have f0 := X1.fz 0
    have f1 := X1.fz 1
    have k0 := X1.c0
    have k1 := X1.c1
    cases hm : within m 1 8 with
    | false =>
      clear hok hok'
      go_enter Try.func30, Try.ntmps30
      go_wp2_with (go_at_call 45; refine (digitsOk_any _ _).mono ?_; rintro e w' ⟨rfl, rfl⟩)
      (try simp only [Exit.inBlock, Exit.then])
      refine bodyPost_ret (results_k1 rfl _ _ w.heap.size 25 _ (0, 0) _ (by simp [Act.put]) X1 Try.underlying25 rfl size_ctr) rfl ?_
      exact ⟨_, 0, 0, _, 0, 0, by rw [HO.out]; rfl, by rw [HV.out.1, HV.out.2]; exact Ctr.none _ _, B0⟩
    | true =>
      have h300 : 300 < ts.length := by
        rw [countOk, hm, Bool.true_and, decide_eq_false_iff_not] at hok'
        omega
      rw [hs.1] at h300
      have hle : decide ((300 : Int) < (n : Int)) = true := by simp; omega
      have hle2 : (300 : Int) < (n : Int) := by omega
      clear hok hok'
      go_enter Try.func30, Try.ntmps30
      go_wp2_with (go_at_call 45; refine (digitsOk_any _ _).mono ?_; rintro e w' ⟨rfl, rfl⟩)
      (try simp only [Exit.inBlock, Exit.then])
      refine bodyPost_ret (results_k1 rfl _ _ w.heap.size 25 _ (0, 0) _ (by simp [Act.put]) X1 Try.underlying25 rfl size_ctr) rfl ?_
      exact ⟨_, 0, 0, _, 0, 0, by rw [HO.out]; rfl, by rw [HV.out.1, HV.out.2]; exact Ctr.none _ _, B0⟩
end Go.Proofs.Ytdacjpaaffpfgaa
