/-
  The walk of the model's CountedOf. No statement is proved here.
-/
import Derived.Test.YtdacjpaaffpfgaaC6r
import Derived.Test.YtdacjpaaffpfgaaSb
import Derived.Deep.RegionWith
namespace Go.Proofs.Ytdacjpaaffpfgaa
open Go.RowKit
set_option linter.unusedVariables false
set_option linter.unusedSimpArgs false

def countOk (m : Int) (ts : List Bool) : Bool := within m 1 8 && decide (ts.length ≤ 300)
def zeroL (n : Nat) : Cnt := List.replicate n (0, 0)
def countD (m : Int) (ts : List Bool) : List Int := if countOk m ts = true then (countL (zeroL m.toNat) ts).map Prod.fst else []
def countC (m : Int) (ts : List Bool) : List Int := if countOk m ts = true then (countL (zeroL m.toNat) ts).map Prod.snd else []
theorem zeroL_ok (n : Nat) : okL (zeroL n) := by
  intro p hp
  rw [List.eq_of_mem_replicate hp]
  simp [okP]
theorem zeroL_fst (n : Nat) : (zeroL n).map Prod.fst = List.replicate n 0 := by simp [zeroL]
theorem zeroL_snd (n : Nat) : (zeroL n).map Prod.snd = List.replicate n 0 := by simp [zeroL]
theorem zeroL_told (n : Nat) : toldL (zeroL n) = 0 := (told_none (zeroL_ok n)).2 fun p hp => by rw [List.eq_of_mem_replicate hp]; exact ⟨rfl, rfl⟩

set_option maxRecDepth 100000 in
set_option maxHeartbeats 6400000 in
theorem specCountedOf_any (m : Int) (A : Option Addr) (n c : Nat) (ts : List Bool) (w : World) (hs : Sb w w.heap.size A n ts) (hw : (Lit.int .i64 m).wf = true) :
    Calls Try.prog 31 #[.int .i64 m, .slice A n c] w fun e w' => ∃ A3 n3 c3 A4 n4 c4, e = .returned (.tuple #[ctr A3 n3 c3 A4 n4 c4, .bool (countOk m ts)]) ∧ Ctr w' w.heap.size A3 n3 c3 A4 n4 c4 (countD m ts) (countC m ts) ∧ Below w.heap.size w w' := by
  have hm1 : n ≤ 9223372036854775807 := by have := hs.2.1; simpa [maxLen] using this
  have HL := hid hs.1
  have X1 := Bk.new w (.slice none 0 0) (.slice none 0 0)
  have B0 := (Below.refl w.heap.size w).alloc (Nat.le_refl _) (.cells #[.slice none 0 0, .slice none 0 0] 25)
  have CK := hid (specCounterOf_any m (w.alloc (.cells #[.slice none 0 0, .slice none 0 0] 25)) hw)
  have hzz : (w.alloc (.cells #[.slice none 0 0, .slice none 0 0] 25)).heap.size = w.heap.size + 1 := by simp
  by_cases hok : countOk m ts = true
  · have hok2 : within m 1 8 = true ∧ ts.length ≤ 300 := by simpa [countOk] using hok
    obtain ⟨hm, h300⟩ := hok2
    have hmb := within_iff.1 hm
    obtain ⟨N, rfl⟩ : ∃ N : Nat, m = N := Int.eq_ofNat_of_zero_le (by omega)
    have hz : zerosOut (N : Int) = List.replicate N 0 := by unfold zerosOut; rw [if_pos hm, Int.toNat_natCast]
    have HV := hid (show countD N ts = (countL (zeroL N) ts).map Prod.fst ∧ countC N ts = (countL (zeroL N) ts).map Prod.snd from by unfold countD countC; rw [if_pos hok, if_pos hok, Int.toNat_natCast]; exact ⟨rfl, rfl⟩)
    have HO := hid hok
    have HK := hid (fun (k : Nat) (t : Bool) => tick_of (l := countL (zeroL N) (ts.take k)) (by rw [countL_len]; simp [zeroL]; omega) (by rw [countL_len]; simp [zeroL]; omega) (count_ok (zeroL_ok N) _) t)
    rw [hm, hz] at CK
    rw [hs.1] at h300
    have hle : ¬ (300 : Int) < (n : Int) := by omega
    clear hok hz
    go_enter Try.func31, Try.ntmps31
    go_wp2_with fail
    with_reducible refine Calls.mono CK.out ?_
    rintro e w1 ⟨A3, n3, c3, A4, n4, c4, rfl, R1, B1⟩
    obtain rfl : n3 = N := by have := R1.lenD; simpa using this.symm
    obtain rfl : n4 = n3 := by have := R1.lenC; simpa using this.symm
    obtain ⟨b, hb⟩ : ∃ b, w1.heap.size = b := ⟨_, rfl⟩
    have hbb : w.heap.size + 1 ≤ b := by rw [← hb]; have := B1.size; simp at this; omega
    have hlb : ∀ k, (Value.slice A3 n4 c3).ownBlock = some k → k < b := by rw [← hb]; exact own_hi R1.d
    have hlc : ∀ k, (Value.slice A4 n4 c4).ownBlock = some k → k < b := by rw [← hb]; exact own_hi R1.e
    have Y1 := hid ((X1.below B1 (by simp)).on (row := none) (grown_alloc w1 (.cells #[.slice A3 n4 c3, .slice A4 n4 c4] 25) none) (by simp))
    have Y2 : Hid (Bk (w1.alloc (.cells #[.slice A3 n4 c3, .slice A4 n4 c4] 25)) b (.slice A3 n4 c3) (.slice A4 n4 c4)) := hid (by rw [← hb]; exact Bk.new w1 _ _)
    have HB := hid ((B0.trans (B1.mono (by simp))).alloc (by have := B0.size; have := B1.size; omega) (.cells #[.slice A3 n4 c3, .slice A4 n4 c4] 25))
    have hsz : b + 1 ≤ (w1.alloc (.cells #[.slice A3 n4 c3, .slice A4 n4 c4] 25)).heap.size := by simp [hb]
    have RR : Hid (Ctr (w1.alloc (.cells #[.slice A3 n4 c3, .slice A4 n4 c4] 25)) (w.heap.size + 1) A3 n4 c3 A4 n4 c4 ((countL (zeroL n4) (ts.take 0)).map Prod.fst) ((countL (zeroL n4) (ts.take 0)).map Prod.snd)) :=
      hid (by rw [show countL (zeroL n4) (ts.take 0) = zeroL n4 from by simp [countL], zeroL_fst, zeroL_snd, ← hzz]; exact R1.on ((Below.refl w1.heap.size w1).alloc (Nat.le_refl _) _))
    have NE := hid (And.intro (fun k h => Nat.ne_of_lt (hlb k h)) (fun k h => Nat.ne_of_lt (hlc k h)))
    have HS := hid hs
    clear hlb hlc
    clear B1 R1 B0 X1 CK hs hzz hm1
    go_wp2_with fail
    obtain ⟨w2, e2⟩ : ∃ W, w1.alloc (.cells #[.slice A3 n4 c3, .slice A4 n4 c4] 25) = W := ⟨_, rfl⟩
    rw [e2] at Y1 Y2 HB hsz RR ⊢
    clear e2 hb
    go_loopw [8] (fun kk wr => ∃ (A3 : Option Addr) (c3 : Nat) (A4 : Option Addr) (c4 k : Nat), kk = .int .i64 k ∧ k ≤ n ∧ Hid (Bk wr w.heap.size (.slice none 0 0) (.slice none 0 0)) ∧ Hid (Bk wr b (.slice A3 n4 c3) (.slice A4 n4 c4)) ∧ Hid (Ctr wr (w.heap.size + 1) A3 n4 c3 A4 n4 c4 ((countL (zeroL n4) (ts.take k)).map Prod.fst) ((countL (zeroL n4) (ts.take k)).map Prod.snd)) ∧ Hid ((∀ k, (Value.slice A3 n4 c3).ownBlock = some k → k ≠ b) ∧ (∀ k, (Value.slice A4 n4 c4).ownBlock = some k → k ≠ b)) ∧ b + 1 ≤ wr.heap.size ∧ Hid (Below w.heap.size w wr)) (fun kk _ => n - (intOf kk).toNat)
    case atStart => exact ⟨A3, c3, A4, c4, 0, rfl, Nat.zero_le _, Y1, Y2, RR, NE, hsz, HB⟩
    case round =>
      clear Y1 Y2 RR NE HB hsz
      obtain ⟨A3, c3, A4, c4, k, rfl, hk, Y1, Y2, RR, NE, hsz, HB⟩ := hrel
      have d0 := Y2.out.c0
      have d1 := Y2.out.c1
      by_cases hlt : k < n
      · have hlt' : (k : Int) < (n : Int) := by omega
        have hkl : k < ts.length := by rw [HL.out]; exact hlt
        obtain ⟨bt, ot, rfl, hlt2, hct⟩ := (HS.out.on HB.out).2.2 (by omega)
        have htk := hct k hlt
        have hts := take_bit hkl
        obtain ⟨t, hte⟩ : ∃ t, ts.getD k false = t := ⟨_, rfl⟩
        rw [hte] at htk hts
        have CT := hid (specTickOf_any A3 n4 c3 A4 n4 c4 _ _ t wr.drew ((Sl.of_own RR.out.d).on (Below.refl _ _).drew) ((Sl.of_own RR.out.e).on (Below.refl _ _).drew))
        rw [(HK.out k t).1, (HK.out k t).2.1, (HK.out k t).2.2, ← countL_snoc, ← hts] at CT
        have hln : (countL (zeroL n4) (ts.take (k + 1))).length = n4 := by rw [countL_len]; simp [zeroL]
        have s0 := Y2.out.fz 0
        have s1 := Y2.out.fz 1
        clear hct hte hts hkl hlt2
        go_wp2_with fail
        go_region_with (first
          | (go_at_call 26; refine Calls.mono CT.out ?_; rintro e w3 ⟨A5, n5, c5, A6, n6, c6, rfl, R5, B5⟩; have h1 := R5.lenD; have h2 := R5.lenC; rw [List.length_map, hln] at h1 h2; subst h1; subst h2; have L3 : Below (b + 1) wr w3 := (Below.drew (Below.refl (b + 1) wr)).trans (B5.mono hsz); have Y2' := Y2.out.below L3 (by omega); have r0 := Y2'.fz 0; have r1 := Y2'.fz 1; have t0 := Y2'.c0; have t1 := Y2'.c1))
        all_goals
          obtain ⟨w4, e4⟩ : ∃ W, (w3.setCell ⟨b, 0, none⟩ (.slice A5 n4 c5)).setCell ⟨b, 1, none⟩ (.slice A6 n4 c6) = W := ⟨_, rfl⟩
          have L4 : Below b wr w4 := by rw [← e4]; exact (L3.mono (by omega)).trans (below_put2 _ _ _ _)
          have hbs := HB.out.size
          have Q1 := hid (Y1.out.below L4 (by omega))
          have Q2 : Hid (Bk w4 b (.slice A5 n4 c5) (.slice A6 n4 c6)) := hid (by rw [← e4]; exact Y2'.set _ _)
          have z4 : b + 1 ≤ w4.heap.size := by rw [← e4]; have := L3.size; simp [World.setCell]; omega
          have hdz : wr.drew.heap.size = wr.heap.size := rfl
          have QR : Hid (Ctr w4 (w.heap.size + 1) A5 n4 c5 A6 n4 c6 _ _) := hid (by rw [← e4]; exact (((R5.mono (show b + 1 ≤ wr.drew.heap.size by omega)).putAt (by omega) _).putAt (by omega) _).mono (by omega))
          have QN := hid (And.intro (fun k h => Nat.ne_of_gt (Nat.lt_of_lt_of_le (Nat.lt_of_succ_le hsz) (R5.d.lt k h).1)) (fun k h => Nat.ne_of_gt (Nat.lt_of_lt_of_le (Nat.lt_of_succ_le hsz) (R5.e.lt k h).1)))
          have QB := hid (HB.out.trans (L4.mono (by omega)))
          clear R5 B5 L3 Y2' L4 CT
          go_wp2
          go_roundw
          case rel => exact ⟨A5, c5, A6, c6, k + 1, by go_num, by omega, Q1, Q2, QR, QN, z4, QB⟩
          case measure => simp [intOf]; omega
      · obtain rfl : k = n := by omega
        rw [List.take_of_length_le (by rw [HL.out]; omega)] at RR
        rw [← HV.out.1, ← HV.out.2] at RR
        have p0 := Y1.out.c0
        have p1 := Y1.out.c1
        have ff0 := Y1.out.fz 0
        have ff1 := Y1.out.fz 1
        go_wp2
        (try simp only [Exit.inBlock, Exit.then])
        refine bodyPost_ret (results_k1 rfl _ _ w.heap.size 25 _ (0, 0) _ (by simp [Act.put]) (Y1.out.set (.slice A3 n4 c3) (.slice A4 n4 c4)) Try.underlying25 rfl size_ctr) rfl ?_
        exact ⟨_, n4, _, _, n4, _, by rw [HO.out]; rfl, ((RR.out.putAt (by omega) _).putAt (by omega) _).mono (by omega), HB.out.trans ((below_put2 wr w.heap.size _ _).mono (by omega))⟩
  · have hok' : countOk m ts = false := by simpa using hok
    have HV := hid (show countD m ts = [] ∧ countC m ts = [] from by unfold countD countC; rw [hok']; exact ⟨rfl, rfl⟩)
    have HO := hid hok'
    cases hm : within m 1 8 with
    | false =>
      rw [hm, show zerosOut m = [] from by unfold zerosOut; rw [hm]; rfl] at CK
      clear hok hok' hm
      go_enter Try.func31, Try.ntmps31
      go_wp2_with fail
      with_reducible refine Calls.mono CK.out ?_
      rintro e w1 ⟨A3, n3, c3, A4, n4, c4, rfl, R1, B1⟩
      have Y1 := hid ((X1.below B1 (by simp)).on (row := none) (grown_alloc w1 (.cells #[.slice A3 n3 c3, .slice A4 n4 c4] 25) none) (by simp))
      have HB := hid ((B0.trans (B1.mono (by simp))).alloc (by have := B0.size; have := B1.size; omega) (.cells #[.slice A3 n3 c3, .slice A4 n4 c4] 25))
      have p0 := Y1.out.c0
      have p1 := Y1.out.c1
      have ff0 := Y1.out.fz 0
      have ff1 := Y1.out.fz 1
      clear B1 R1 B0 X1 CK hzz
      go_wp2
      (try simp only [Exit.inBlock, Exit.then])
      refine bodyPost_ret (results_k1 rfl _ _ w.heap.size 25 _ (0, 0) _ (by simp [Act.put]) (Y1.out.set (.slice none 0 0) (.slice none 0 0)) Try.underlying25 rfl size_ctr) rfl ?_
      exact ⟨_, 0, 0, _, 0, 0, by rw [HO.out]; rfl, by rw [HV.out.1, HV.out.2]; exact Ctr.none _ _, HB.out.trans ((below_put2 _ w.heap.size _ _).mono (by omega))⟩
    | true =>
      have hlen : (300 : Int) < (n : Int) := by
        simp only [countOk, hm, Bool.true_and, decide_eq_false_iff_not] at hok'
        have := HL.out
        omega
      have hlen2 : 300 < n := by omega
      rw [hm] at CK
      clear hok hok' hm
      go_enter Try.func31, Try.ntmps31
      go_wp2_with fail
      with_reducible refine Calls.mono CK.out ?_
      rintro e w1 ⟨A3, n3, c3, A4, n4, c4, rfl, R1, B1⟩
      have Y1 := hid ((X1.below B1 (by simp)).on (row := none) (grown_alloc w1 (.cells #[.slice A3 n3 c3, .slice A4 n4 c4] 25) none) (by simp))
      have HB := hid ((B0.trans (B1.mono (by simp))).alloc (by have := B0.size; have := B1.size; omega) (.cells #[.slice A3 n3 c3, .slice A4 n4 c4] 25))
      have p0 := Y1.out.c0
      have p1 := Y1.out.c1
      have ff0 := Y1.out.fz 0
      have ff1 := Y1.out.fz 1
      clear B1 R1 B0 X1 CK hzz
      go_wp2
      (try simp only [Exit.inBlock, Exit.then])
      refine bodyPost_ret (results_k1 rfl _ _ w.heap.size 25 _ (0, 0) _ (by simp [Act.put]) (Y1.out.set (.slice none 0 0) (.slice none 0 0)) Try.underlying25 rfl size_ctr) rfl ?_
      exact ⟨_, 0, 0, _, 0, 0, by rw [HO.out]; rfl, by rw [HV.out.1, HV.out.2]; exact Ctr.none _ _, HB.out.trans ((below_put2 _ w.heap.size _ _).mono (by omega))⟩
end Go.Proofs.Ytdacjpaaffpfgaa
