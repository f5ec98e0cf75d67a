/-
  Texts put together: C7i C11i DkIn K12a K12b K12c. No statement is proved here.
-/
import Derived.Test.YtkejcajboneniaaM4
import Derived.Test.YtkejcajboneniaaM3
import Derived.Test.YtkejcajboneniaaM2
import Derived.Laws.Rows
import Derived.OwnWalk
import Derived.BigRegion
import Derived.Deep.RegionHeld3
import Derived.Laws.AppendOwn
namespace Go.Proofs.Ytkejcajboneniaa
open Go.RowKit
set_option linter.unusedVariables false
set_option linter.unusedSimpArgs false

set_option maxRecDepth 100000 in
set_option maxHeartbeats 3200000 in
theorem implVotedAfter_any (A : Option Addr) (n c : Nat) (l : List Int) (s : Int) (w : World) (hs : Sl w w.heap.size A n l) :
    Calls Try.prog 95 #[.slice A n c, .int .i64 s] w fun e w' => ∃ A2 m c2, e = .returned (.slice A2 m c2) ∧ w'.ownsRow w.heap.size 3 1 (.slice A2 m c2) m (ints (votedN l s)) ∧ m ≤ 40 ∧ Below w.heap.size w w' := by
  have HL := hid hs.len
  have CK := hid (votesI_any A n c l w w.heap.size hs)
  cases hok : (votesOk l && within s 0 60) with
  | false =>
    have HV := hid (show votedN l s = [] from by unfold votedN; rw [hok]; rfl)
    cases h0 : votesOk l with
    | false =>
      rw [h0] at CK
      clear hok h0
      go_enter Try.func95, Try.ntmps95
      go_wp2_with fail
      with_reducible refine Calls.mono CK.out ?_
      rintro e w' ⟨rfl, rfl⟩
      go_wp2
      go_ret
      exact ⟨_, 0, _, rfl, by rw [HV.out]; exact World.ownsRow_nil _ _ _ _, by omega, Below.refl _ _⟩
    | true =>
      rw [h0, Bool.true_and] at hok
      rw [h0] at CK
      clear h0
      go_enter Try.func95, Try.ntmps95
      go_wp2_with fail
      with_reducible refine Calls.mono CK.out ?_
      rintro e w' ⟨rfl, rfl⟩
      go_wp2_with (go_at_call 102; refine (stepsOk7_any _ _).mono ?_; rintro e w' ⟨rfl, rfl⟩)
      go_ret
      exact ⟨_, 0, _, rfl, by rw [HV.out]; exact World.ownsRow_nil _ _ _ _, by omega, Below.refl _ _⟩
  | true =>
    have hok2 : votesOk l = true ∧ within s 0 60 = true := by simpa using hok
    obtain ⟨h0, hws⟩ := hok2
    obtain ⟨⟨h1, h2⟩, hb⟩ := votesOk_iff.1 h0
    rw [HL.out] at h1 h2
    have hsb := within_iff.1 hws
    obtain ⟨S, rfl⟩ : ∃ S : Nat, s = S := Int.eq_ofNat_of_zero_le hsb.1
    have HV := hid (show votedN l S = voteN S l from by unfold votedN; rw [if_pos hok, Int.toNat_natCast])
    rw [h0] at CK
    have HP := hid (fun k => voted_pk (n := n) (by rw [voteN_len, HL.out]) h1 (voteN_bits hb k))
    have CV := hid (votesOf_any A n c l w hs h2 hb)
    have CR := hid (fun W : World => voteRow_any (voteN S l) n W (by rw [voteN_len, HL.out]) h2 (voteN_bits hb S))
    clear hok h0 hb hs
    go_enter Try.func95, Try.ntmps95
    go_wp2_with fail
    with_reducible refine Calls.mono CK.out ?_
    rintro e w' ⟨rfl, rfl⟩
    go_wp2_with (first
      | (go_at_call 102; refine (stepsOk7_any _ _).mono ?_; rintro e w' ⟨rfl, rfl⟩)
      | (go_at_call 81; with_reducible refine Calls.mono CV.out ?_; rintro e w1 ⟨rfl, b1⟩))
    have QX := hid (Vb.new w1 (pk l n) n)
    have QB := hid (b1.alloc b1.size (.cells #[.int .u64 (pk l n : Nat), .int .i64 n] 82))
    have hz1 : w1.heap.size + 1 ≤ (w1.alloc (.cells #[.int .u64 (pk l n : Nat), .int .i64 n] 82)).heap.size := by simp
    have hw1 := b1.size
    obtain ⟨b, hb⟩ : ∃ b, w1.heap.size = b := ⟨_, rfl⟩
    obtain ⟨w2, hw2⟩ : ∃ w2, w1.alloc (.cells #[.int .u64 (pk l n : Nat), .int .i64 n] 82) = w2 := ⟨_, rfl⟩
    rw [hw2] at QX QB hz1 ⊢
    rw [hb] at QX hz1 hw1 ⊢
    clear hw2 hb b1 CV
    go_loopw [17] (fun i wr => ∃ k : Nat, i = .int .i64 k ∧ k ≤ S ∧ Hid (Vb wr b (pk (voteN k l) n) n) ∧ b + 1 ≤ wr.heap.size ∧ Hid (Below w.heap.size w wr)) (fun i _ => S - (intOf i).toNat)
    case atStart => exact ⟨0, rfl, Nat.zero_le _, QX, hz1, QB⟩
    case round =>
      clear QX QB hz1
      obtain ⟨k, rfl, hk, QX, hz1, QB⟩ := hrel
      have d0 := QX.out.c0
      have d1 := QX.out.c1
      by_cases hlt : k < S
      · have hlt' : (k : Int) < (S : Int) := by omega
        have CW := hid (voted_any (pk (voteN k l) n) n wr h1 h2 (pk_lt _ _))
        rw [HP.out k, ← voteN_succ] at CW
        go_wp2_with (go_at_call 105; with_reducible refine Calls.mono CW.out ?_; rintro e w3 ⟨rfl, b3⟩; have Y := QX.out.below b3 (by omega); have g0 := Y.fz 0; have g1 := Y.fz 1; have j0 := Y.c0; have j1 := Y.c1)
        have hz3 := b3.size
        have Q1 := hid (Y.set (pk (voteN (k + 1) l) n) n)
        have Q2 := hid (((QB.out.trans (b3.mono QB.out.size)).setCell (p := ⟨b, 0, none⟩) hw1 (.int .u64 (pk (voteN (k + 1) l) n : Nat))).setCell (p := ⟨b, 1, none⟩) hw1 (.int .i64 n))
        have hz4 : b + 1 ≤ ((w3.setCell ⟨b, 0, none⟩ (.int .u64 (pk (voteN (k + 1) l) n : Nat))).setCell ⟨b, 1, none⟩ (.int .i64 n)).heap.size := by simp [World.setCell]; omega
        go_roundw
        case rel => exact ⟨k + 1, by go_num, by omega, Q1, hz4, Q2⟩
        case measure => simp [intOf]; omega
      · obtain rfl : k = S := by omega
        go_wp2_with fail
        with_reducible refine Calls.mono (CR.out wr) ?_
        rintro e w3 ⟨A3, c3, rfl, o3, b3⟩
        have O3 := hid (own_mono o3 QB.out.size)
        have HB3 := hid (QB.out.trans (b3.mono QB.out.size))
        clear b3 o3
        go_wp2
        go_ret
        exact ⟨_, n, _, rfl, by rw [HV.out]; exact O3.out, h2, HB3.out⟩

set_option maxHeartbeats 800000 in
theorem implVotedOf_any (A : Option Addr) (n c : Nat) (l : List Int) (w : World) (hs : Sl w w.heap.size A n l) :
    Calls Try.prog 84 #[.slice A n c] w fun e w' => ∃ A2 m c2, e = .returned (.slice A2 m c2) ∧ w'.ownsRow w.heap.size 3 1 (.slice A2 m c2) m (ints (votedOut l)) ∧ m ≤ 40 ∧ Below w.heap.size w w' := by
  have HE := hid (show votedN l 1 = votedOut l from by
    unfold votedN votedOut
    rw [show within 1 0 60 = true from by decide, Bool.and_true]
    rfl)
  have CA := hid (implVotedAfter_any A n c l 1 w hs)
  rw [HE.out] at CA
  go_enter Try.func84, Try.ntmps84
  go_wp2_with fail
  with_reducible refine Calls.mono CA.out ?_
  rintro e w3 ⟨A3, m, c3, rfl, o3, hm, b3⟩
  have O3 := hid o3
  have B3 := hid b3
  clear o3 b3
  go_wp2
  go_ret
  exact ⟨_, m, _, rfl, O3.out, hm, B3.out⟩

end Go.Proofs.Ytkejcajboneniaa

namespace Go.Proofs.Ytkejcajboneniaa
open Go.RowKit
set_option linter.unusedVariables false
set_option linter.unusedSimpArgs false

theorem steps11_any (T : Int) (w : World) : Calls Try.prog 102 #[.int .i64 T] w fun e w' => e = .returned (.bool (within T 0 60)) ∧ w = w' := by
  by_cases h : 0 ≤ T
  · go_enter Try.func102, Try.ntmps102
    go_wp2
    go_ret
    exact ⟨ret_bool (by unfold within; simp [h]), rfl⟩
  · have h' : decide (0 ≤ T) = false := by simpa using h
    go_enter Try.func102, Try.ntmps102
    go_wp2
    go_ret
    exact ⟨ret_bool (by unfold within; simp; omega), rfl⟩

set_option maxHeartbeats 1600000 in
theorem implFreeAs_any (A : Option Addr) (n c : Nat) (l : List Int) (w : World) (hs : Sl w w.heap.size A n l) :
    Calls Try.prog 87 #[.slice A n c] w fun e w' => ∃ A2 m c2, e = .returned (.slice A2 m c2) ∧ w'.ownsRow w.heap.size 3 1 (.slice A2 m c2) m (ints (freeOut l)) ∧ m ≤ 16 ∧ Below w.heap.size w w' := by
  have HL := hid hs.len
  have CK := hid (bitsI_any A n c l w w.heap.size hs)
  cases hok : bitsOk l with
  | false =>
    have HV := hid (show freeOut l = [] from by unfold freeOut; rw [hok]; rfl)
    rw [hok] at CK
    clear hok
    go_enter Try.func87, Try.ntmps87
    go_wp2_with fail
    with_reducible refine Calls.mono CK.out ?_
    rintro e w' ⟨rfl, rfl⟩
    go_wp2
    go_ret
    exact ⟨_, 0, _, rfl, by rw [HV.out]; exact World.ownsRow_nil _ _ _ _, by omega, Below.refl _ _⟩
  | true =>
    obtain ⟨hb, h1, h2⟩ := bitsOk_iff.1 hok
    rw [HL.out] at h1 h2
    have HV := hid (show freeOut l = freeL l from by unfold freeOut; rw [if_pos hok])
    rw [hok] at CK
    have CV := hid (bitRingOf_any A n c l w hs h2 hb)
    have CF := hid (fun W : World => freeAs_any l n W HL.out h1 h2 hb)
    have CR := hid (fun W : World => voteRow_any (freeL l) n W (by rw [freeL_len, HL.out]) (by omega) (freeL_bits hb))
    rw [pk_pb] at CR
    have hf1 := fld_vr (pb (freeL l) n) n
    clear hok hb hs
    go_enter Try.func87, Try.ntmps87
    go_wp2_with fail
    with_reducible refine Calls.mono CK.out ?_
    rintro e w' ⟨rfl, rfl⟩
    go_wp2_with fail
    with_reducible refine Calls.mono CV.out ?_
    rintro e w1 ⟨rfl, b1⟩
    have B1 := hid b1
    clear b1
    go_wp2_with fail
    with_reducible refine Calls.mono (CF.out _) ?_
    rintro e w2 ⟨rfl, b2⟩
    have B2 := hid (below_tr B1.out b2)
    clear b2 B1
    go_wp2_with fail
    with_reducible refine Calls.mono (CR.out _) ?_
    rintro e w3 ⟨A3, c3, rfl, o3, b3⟩
    have O3 := hid (own_mono o3 B2.out.size)
    have B3 := hid (below_tr B2.out b3)
    clear b3 o3 B2
    go_wp2
    go_ret
    exact ⟨_, n, _, rfl, by rw [HV.out]; exact O3.out, h2, B3.out⟩

set_option maxRecDepth 100000 in
set_option maxHeartbeats 3200000 in
theorem implDrivenAfter_any (A : Option Addr) (n c : Nat) (l : List Int) (s : Int) (w : World) (hs : Sl w w.heap.size A n l) :
    Calls Try.prog 94 #[.slice A n c, .int .i64 s] w fun e w' => ∃ A2 m c2, e = .returned (.slice A2 m c2) ∧ w'.ownsRow w.heap.size 3 1 (.slice A2 m c2) m (ints (drivenAft l s)) ∧ m ≤ 16 ∧ Below w.heap.size w w' := by
  have HL := hid hs.len
  have CK := hid (bitsI_any A n c l w w.heap.size hs)
  have CS := hid (steps11_any s w)
  cases hok : (bitsOk l && within s 0 60) with
  | false =>
    have HV := hid (show drivenAft l s = [] from by unfold drivenAft; rw [hok]; rfl)
    cases h0 : bitsOk l with
    | false =>
      rw [h0] at CK
      clear hok h0 CS
      go_enter Try.func94, Try.ntmps94
      go_wp2_with (go_at_call 23; with_reducible refine Calls.mono CK.out ?_; rintro e w' ⟨rfl, rfl⟩)
      go_ret
      exact ⟨_, 0, _, rfl, by rw [HV.out]; exact World.ownsRow_nil _ _ _ _, by omega, Below.refl _ _⟩
    | true =>
      rw [h0, Bool.true_and] at hok
      rw [h0] at CK
      rw [hok] at CS
      clear h0 hok
      go_enter Try.func94, Try.ntmps94
      go_wp2_with (first | (go_at_call 23; with_reducible refine Calls.mono CK.out ?_; rintro e w' ⟨rfl, rfl⟩) | (go_at_call 102; with_reducible refine Calls.mono CS.out ?_; rintro e w' ⟨rfl, rfl⟩))
      go_ret
      exact ⟨_, 0, _, rfl, by rw [HV.out]; exact World.ownsRow_nil _ _ _ _, by omega, Below.refl _ _⟩
  | true =>
    have hok2 : bitsOk l = true ∧ within s 0 60 = true := by simpa using hok
    obtain ⟨h0, hws⟩ := hok2
    obtain ⟨hb, h1, h2⟩ := bitsOk_iff.1 h0
    rw [HL.out] at h1 h2
    have hsb := within_iff.1 hws
    obtain ⟨S, rfl⟩ : ∃ S : Nat, s = S := Int.eq_ofNat_of_zero_le hsb.1
    have hS : S ≤ 60 := by omega
    have HV := hid (show drivenAft l S = driveI S l from by unfold drivenAft; rw [if_pos hok, Int.toNat_natCast])
    rw [h0] at CK
    rw [hws] at CS
    have CV := hid (bitRingOf_any A n c l w hs h2 hb)
    have HDL := hid (fun k => show (driveI k l).length = n from by rw [driveI_len, HL.out])
    have HDB := hid (fun k => (end_driveI hb k).2)
    have CD := hid (fun (k : Nat) (W : World) => driven_any (driveI k l) n W (HDL.out k) h1 h2 (HDB.out k))
    have CR := hid (fun W : World => voteRow_any (driveI S l) n W (HDL.out S) (by omega) (HDB.out S))
    rw [pk_pb] at CR
    clear hok h0 hb hs hws hsb
    go_enter Try.func94, Try.ntmps94
    go_wp2_with (first | (go_at_call 23; with_reducible refine Calls.mono CK.out ?_; rintro e w' ⟨rfl, rfl⟩) | (go_at_call 102; with_reducible refine Calls.mono CS.out ?_; rintro e w' ⟨rfl, rfl⟩))
    with_reducible refine Calls.mono CV.out ?_
    rintro e w1 ⟨rfl, b1⟩
    have hzb := b1.size
    have X1 := hid (Vr.new w1 (pb l n) n)
    have B1 := hid (b1.alloc (by omega) (.cells #[.int .u64 (pb l n : Nat), .int .i64 n] 84))
    have hz2 : (w1.alloc (.cells #[.int .u64 (pb l n : Nat), .int .i64 n] 84)).heap.size = w1.heap.size + 1 := by simp
    clear CV b1
    go_wp2_with fail
    obtain ⟨b, hbe⟩ : ∃ b, w1.heap.size = b := ⟨_, rfl⟩
    obtain ⟨w2, hw2⟩ : ∃ W, w1.alloc (.cells #[.int .u64 (pb l n : Nat), .int .i64 n] 84) = W := ⟨_, rfl⟩
    rw [hbe] at X1 hz2 hzb ⊢
    rw [hw2] at X1 B1 hz2 ⊢
    clear hw2 hbe
    have X2 : Hid (Vr w2 b (pb (driveI 0 l) n) n) := hid X1.out
    clear X1
    go_loopw [17] (fun i wr => ∃ k : Nat, i = .int .i64 k ∧ k ≤ S ∧ Hid (Vr wr b (pb (driveI k l) n) n) ∧ b < wr.heap.size ∧ Hid (Below w.heap.size w wr)) (fun i _ => S - (intOf i).toNat)
    case atStart => exact ⟨0, rfl, Nat.zero_le _, X2, by omega, B1⟩
    case round =>
      clear X2 hz2 B1
      obtain ⟨k, rfl, hk, X, hbz, HB⟩ := hrel
      have c0 := X.out.c0
      have c1 := X.out.c1
      by_cases hlt : k < S
      · have hlt2 : (k : Int) < (S : Int) := by omega
        have CDk := hid (CD.out k)
        rw [← driveI_last] at CDk
        obtain ⟨x, hx⟩ : ∃ x, pb (driveI k l) n = x := ⟨_, rfl⟩
        obtain ⟨y, hy⟩ : ∃ y, pb (driveI (k + 1) l) n = y := ⟨_, rfl⟩
        rw [hx] at c0 CDk X
        rw [hy] at CDk
        have HYY := hid hy
        clear hx hy
        go_wp2_with fail
        with_reducible refine Calls.mono (CDk.out _) ?_
        rintro e w4 ⟨rfl, b4⟩
        have hs4 := b4.size
        have X4 := X.out.below b4 (by omega)
        have f0 := X4.fz 0
        have f1 := X4.fz 1
        have j0 := X4.c0
        have j1 := X4.c1
        have X5 : Hid (Vr ((w4.setCell ⟨b, 0, none⟩ (.int .u64 y)).setCell ⟨b, 1, none⟩ (.int .i64 n)) b (pb (driveI (k + 1) l) n) n) := hid (by rw [HYY.out]; exact X4.set y n)
        have B5 := hid (((HB.out.trans (b4.mono (by omega))).setCell (p := ⟨b, 0, none⟩) (by simp only []; omega) (.int .u64 y)).setCell (p := ⟨b, 1, none⟩) (by simp only []; omega) (.int .i64 n))
        have hz5 : ((w4.setCell ⟨b, 0, none⟩ (.int .u64 y)).setCell ⟨b, 1, none⟩ (.int .i64 n)).heap.size = w4.heap.size := by simp [World.setCell]
        clear X4 b4 HB X c0 c1
        go_wp2_with fail
        go_roundw
        case rel => exact ⟨k + 1, by go_num, by omega, X5, by omega, B5⟩
        case measure => simp [intOf]; omega
      · obtain rfl : k = S := by omega
        obtain ⟨x, hx⟩ : ∃ x, pb (driveI k l) n = x := ⟨_, rfl⟩
        rw [hx] at c0 CR
        clear hx X
        go_wp2_with fail
        with_reducible refine Calls.mono (CR.out _) ?_
        rintro e w3 ⟨A3, c3, rfl, o3, b3⟩
        have O3 := hid (own_mono o3 HB.out.size)
        have B3 := hid (below_tr HB.out b3)
        clear b3 o3
        go_wp2
        go_ret
        exact ⟨_, n, _, rfl, by rw [HV.out]; exact O3.out, h2, B3.out⟩

set_option maxHeartbeats 800000 in
theorem implDrivenOf_any (A : Option Addr) (n c : Nat) (l : List Int) (w : World) (hs : Sl w w.heap.size A n l) :
    Calls Try.prog 83 #[.slice A n c] w fun e w' => ∃ A2 m c2, e = .returned (.slice A2 m c2) ∧ w'.ownsRow w.heap.size 3 1 (.slice A2 m c2) m (ints (drivenOut l)) ∧ m ≤ 16 ∧ Below w.heap.size w w' := by
  have HE := hid (show drivenAft l 1 = drivenOut l from by
    unfold drivenAft drivenOut
    rw [show within 1 0 60 = true from by decide, Bool.and_true]
    rfl)
  have CA := hid (implDrivenAfter_any A n c l 1 w hs)
  rw [HE.out] at CA
  go_enter Try.func83, Try.ntmps83
  go_wp2_with fail
  with_reducible refine Calls.mono CA.out ?_
  rintro e w3 ⟨A3, m, c3, rfl, o3, hm, b3⟩
  have O3 := hid o3
  have B3 := hid b3
  clear o3 b3
  go_wp2
  go_ret
  exact ⟨_, m, _, rfl, O3.out, hm, B3.out⟩

attribute [local go_sem] Oper.semAt_some

end Go.Proofs.Ytkejcajboneniaa

namespace Go.Proofs.Ytkejcajboneniaa
open Go.RowKit
set_option linter.unusedVariables false
set_option linter.unusedSimpArgs false

theorem SlS.of_rows {w : World} {base : Nat} {a : Addr} {len cap : Nat} {A : Nat → Option Addr} {L C : Nat → Nat} {Z : Nat → List Int} (hl : len ≤ cap) (hm : cap ≤ maxLen)
    (h : ∀ r, r < cap → w.cell? (a.add r) = some (.slice (A r) (L r) (C r)) ∧ L r ≤ C r ∧ C r ≤ maxLen ∧ (Z r).length = C r ∧ (∀ n ∈ Z r, (Lit.int .i64 n).wf = true) ∧ (A r = none → C r = 0) ∧
      ∀ a', A r = some a' → base ≤ a'.block ∧ ∀ c, c < C r → w.cell? (a'.add c) = some (.int .i64 ((Z r).getD c 0))) :
    SlS w w.heap.size (some a) len ((List.range len).map fun r => (Z r).take (L r)) := by
  refine ⟨(List.range len).map fun r => .slice (A r) (L r) (C r), ⟨by simp, Nat.le_trans hl hm, fun hn => ?_⟩, by simp, fun j v l hv hl2 => ?_⟩
  · obtain ⟨b, off, spot⟩ := a
    have hc0 := (h 0 (by omega)).1
    have hspot : spot = none := by simpa [Addr.add] using World.cell?_spot hc0
    subst hspot
    have e : ∀ j, (⟨b, off, none⟩ : Addr).add j = ⟨b, off + j, none⟩ := fun j => by
      unfold Addr.add
      by_cases h0 : j = 0 <;> simp [h0]
    refine ⟨b, off, rfl, ?_, fun j v hv => ?_⟩
    · rw [e] at hc0
      rcases Nat.lt_or_ge b w.heap.size with hlt | hge
      · exact hlt
      · simp [World.cell?, Array.getElem?_eq_none hge] at hc0
    · have hj : j < len := by have := (List.getElem?_eq_some_iff.1 hv).1; simpa using this
      have hj2 := (h j (by omega)).1
      rw [e] at hj2
      rw [hj2]
      simpa [hj] using hv
  · have hj : j < len := by have := (List.getElem?_eq_some_iff.1 hv).1; simpa using this
    obtain ⟨h1, h2, h3, h4, h5, h6, h7⟩ := h j (by omega)
    have ev : v = .slice (A j) (L j) (C j) := by simpa [hj] using hv.symm
    have el : l = (Z j).take (L j) := by simpa [hj] using hl2.symm
    subst ev; subst el
    refine ⟨A j, L j, C j, rfl, ?_, h2, by simpa [maxLen] using h3⟩
    refine (Sl.of_row (cap := C j) (zs := Z j) ?_).1
    rcases hA : A j with _ | a'
    · left
      have h0 := h6 hA
      exact ⟨rfl, by omega, h0, List.eq_nil_of_length_eq_zero (by omega)⟩
    · right
      exact ⟨a', rfl, h2, h3, h4, fun i hi => (h7 a' hA).2 i (by omega), h5⟩
end Go.Proofs.Ytkejcajboneniaa

namespace Go.Proofs.Ytkejcajboneniaa
open Go.RowKit
set_option linter.unusedVariables false
set_option linter.unusedSimpArgs false

theorem all_past {ls : List (List Int)} {m : Nat} (h : ls.length = m) (ha : ∀ j, j < m → bitsOk (ls.getD j []) = true) : ls.all bitsOk = true := by
  rw [List.all_eq_true]
  intro x hx
  obtain ⟨j, hj, rfl⟩ := List.getElem_of_mem hx
  have := ha j (by omega)
  rwa [List.getD_eq_getElem?_getD, List.getElem?_eq_getElem hj] at this
theorem not_past {ls : List (List Int)} {m j : Nat} (h : ls.length = m) (hj : j < m) (hb : bitsOk (ls.getD j []) = false) : ls.all bitsOk = false := by
  rw [List.getD_eq_getElem?_getD, List.getElem?_eq_getElem (by omega)] at hb
  rw [Bool.eq_false_iff]
  intro ha
  have := List.all_eq_true.1 ha _ (List.getElem_mem (show j < ls.length by omega))
  simp at hb
  rw [hb] at this
  cases this

set_option maxRecDepth 100000 in
set_option maxHeartbeats 1600000 in
theorem specDeskOk_any (A : Option Addr) (n c : Nat) (A2 : Option Addr) (m c2 : Nat) (D : Dk) (w : World) (h : DkR w w.heap.size A n c A2 m c2 D) :
    Calls Try.prog 13 #[dsk A n c A2 m c2] w fun e w' => e = .returned (.bool (deskOk D)) ∧ w.grownBy w' none := by
  have hg0 := grown_alloc w (.cells #[.slice A n c, .slice A2 m c2] 26) none
  have c0 : (w.alloc (.cells #[.slice A n c, .slice A2 m c2] 26)).cell? ⟨w.heap.size, 0, none⟩ = some (.slice A n c) := by simp
  have c1 : (w.alloc (.cells #[.slice A n c, .slice A2 m c2] 26)).cell? ⟨w.heap.size, 1, none⟩ = some (.slice A2 m c2) := by simp
  have H := h.on (below_grown hg0)
  have HN := hid H.now
  have HP := hid H.past
  have hm : m ≤ 9223372036854775807 := H.past.max
  have HL := hid H.past.len
  have HG := hid hg0
  have CN := hid (specBitsOk_any A n c D.now (w.alloc (.cells #[.slice A n c, .slice A2 m c2] 26)) _ H.now)
  clear h H hg0
  go_enter Try.func13, Try.ntmps13
  go_wp2_with fail
  obtain ⟨w0, e0⟩ : ∃ W, w.alloc (.cells #[.slice A n c, .slice A2 m c2] 26) = W := ⟨_, rfl⟩
  rw [e0] at HG c0 c1 HN HP CN ⊢
  clear e0
  go_loop [3] (fun i => ∃ k : Nat, i = .int .i64 k ∧ k ≤ m ∧ Hid (∀ j, j < k → bitsOk (D.past.getD j []) = true)) (fun i => m - (intOf i).toNat)
  case atStart => exact ⟨0, rfl, Nat.zero_le _, hid (fun j hj => absurd hj (by omega))⟩
  case round =>
    obtain ⟨k, rfl, hk, HA⟩ := hrel
    by_cases hlt : k < m
    · obtain ⟨b, off, A3, n3, c3, rfl, hb, hck, hs3⟩ := HP.out.at hlt
      have CB := hid (specBitsOk_any A3 n3 c3 _ w0 _ hs3)
      have hlt' : (k : Int) < (m : Int) := by omega
      cases hok : bitsOk (D.past.getD k []) with
      | true =>
        rw [hok] at CB
        have HA2 : Hid (∀ j, j < k + 1 → bitsOk (D.past.getD j []) = true) := hid (fun j hj => by
          rcases (show j < k ∨ j = k by omega) with q | rfl
          · exact HA.out j q
          · exact hok)
        clear hok hs3 HA
        go_wp2_with (go_at_call 44; with_reducible refine Calls.mono CB.out ?_; rintro e w' ⟨rfl, rfl⟩)
        go_round
        case rel => exact ⟨k + 1, by go_num, by omega, HA2⟩
        case measure => simp [intOf]; omega
      | false =>
        rw [hok] at CB
        have HF := hid (show deskOk D = false from by unfold deskOk; rw [not_past HL.out hlt hok]; rfl)
        clear hok hs3 HA
        go_wp2_with (go_at_call 44; with_reducible refine Calls.mono CB.out ?_; rintro e w' ⟨rfl, rfl⟩)
        go_ret
        exact ⟨ret_bool HF.out.symm, HG.out⟩
    · obtain rfl : k = m := by omega
      have HV := hid (show deskOk D = (bitsOk D.now && decide (k ≤ 8)) from by unfold deskOk; rw [all_past HL.out HA.out, HL.out]; rfl)
      cases hok : bitsOk D.now with
      | true =>
        rw [hok] at CN HV
        clear hok
        by_cases h8 : k ≤ 8
        · have h8' : decide ((k : Int) ≤ 8) = true := by simp; omega
          have h8i : (k : Int) ≤ 8 := by omega
          go_wp2_with (go_at_call 44; with_reducible refine Calls.mono CN.out ?_; rintro e w' ⟨rfl, rfl⟩)
          go_ret
          exact ⟨ret_bool (by rw [HV.out]; simp [h8]), HG.out⟩
        · have h8' : decide ((k : Int) ≤ 8) = false := by simp; omega
          go_wp2_with (go_at_call 44; with_reducible refine Calls.mono CN.out ?_; rintro e w' ⟨rfl, rfl⟩)
          go_ret
          exact ⟨ret_bool (by rw [HV.out]; simp [h8]), HG.out⟩
      | false =>
        rw [hok] at CN HV
        clear hok
        go_wp2_with (go_at_call 44; with_reducible refine Calls.mono CN.out ?_; rintro e w' ⟨rfl, rfl⟩)
        go_ret
        exact ⟨ret_bool (by rw [HV.out]; rfl), HG.out⟩

/-- Block b holds a desk. -/
def Db (w : World) (b : Nat) (u v : Value) : Prop := w.heap[b]? = some (.cells #[u, v] 26 (0, 0))
section
variable {w w' : World} {b g : Nat} {x y : Value}
theorem Db.lt (h : Db w b x y) : b < w.heap.size := by
  rcases Nat.lt_or_ge b w.heap.size with hlt | hge
  · exact hlt
  · unfold Db at h; rw [Array.getElem?_eq_none hge] at h; cases h
theorem Db.new (w : World) (x y : Value) : Db (w.alloc (.cells #[x, y] 26)) w.heap.size x y := heap_alloc_new w _
theorem Db.on {row : Option Nat} (h : Db w b x y) (hg : w.grownBy w' row) (hn : some b ≠ row) : Db w' b x y := (hg.block b h.lt hn).trans h
theorem Db.below {B : Nat} (h : Db w b x y) (hb : Below B w w') (hB : b < B) : Db w' b x y := (hb.block b hB).trans h
theorem Db.c0 (h : Db w b x y) : w.cell? ⟨b, 0, none⟩ = some x := cell_of_row w b 0 _ _ _ h
theorem Db.c1 (h : Db w b x y) : w.cell? ⟨b, 1, none⟩ = some y := cell_of_row w b 1 _ _ _ h
theorem Db.fz (h : Db w b x y) (i : Nat) : w.frozen? ⟨b, i, none⟩ = false := frozen_of_row w b i _ _ h
theorem Db.set0 (h : Db w b x y) (v : Value) : Db (w.setCell ⟨b, 0, none⟩ v) b v y := by
  have := heap_setCell_same w b 0 _ _ v h
  unfold Db
  rw [this]
  rfl
theorem Db.set1 (h : Db w b x y) (v : Value) : Db (w.setCell ⟨b, 1, none⟩ v) b x v := by
  have := heap_setCell_same w b 1 _ _ v h
  unfold Db
  rw [this]
  rfl
theorem Db.set (h : Db w b x y) (u v : Value) : Db ((w.setCell ⟨b, 0, none⟩ u).setCell ⟨b, 1, none⟩ v) b u v := (h.set0 u).set1 v
theorem Db.other (h : Db w b x y) (hne : b ≠ g) (i : Nat) (v : Value) : Db (w.setCell ⟨g, i, none⟩ v) b x y := (heap_setCell_other w ⟨g, i, none⟩ b v hne).trans h
theorem Db.ne_int {B n : Nat} {v : Value} {xs : List Value} (h : Db w b x y) (ho : w.ownsRow B 3 1 v n xs) : some b ≠ v.ownBlock := by
  rcases ho.2 with ⟨h1, _⟩ | ⟨g, cap, cur, h1, _, h3, _⟩
  · rw [h1]; simp [Value.ownBlock]
  · rw [h1]; intro e
    have e' : b = g := by simpa [Value.ownBlock] using e
    subst e'
    unfold Db at h
    rw [h3] at h
    simp at h
theorem Db.ne_row {B n : Nat} {v : Value} {xs : List Value} (h : Db w b x y) (ho : w.ownsRow B 23 1 v n xs) : some b ≠ v.ownBlock := by
  rcases ho.2 with ⟨h1, _⟩ | ⟨g, cap, cur, h1, _, h3, _⟩
  · rw [h1]; simp [Value.ownBlock]
  · rw [h1]; intro e
    have e' : b = g := by simpa [Value.ownBlock] using e
    subst e'
    unfold Db at h
    rw [h3] at h
    simp at h
/-- A store into a desk's box leaves the rows. -/
theorem own_box {B n k : Nat} {v : Value} {e : TypeId} {xs : List Value} (x : Value) (h : w.ownsRow B e 1 v n xs) (hne : some b ≠ v.ownBlock) : (w.setCell ⟨b, k, none⟩ x).ownsRow B e 1 v n xs := by
  refine ⟨h.1, ?_⟩
  rcases h.2 with h2 | ⟨g, cap, cur, h1, h2, h3, h4⟩
  · exact .inl h2
  · refine .inr ⟨g, cap, cur, h1, h2, (heap_setCell_other _ _ _ _ ?_).trans h3, h4⟩
    intro e
    apply hne
    rw [h1, e]
    rfl
theorem Rows.box {B k : Nat} {u v : Value} {vs : List Value} {ls : List (List Int)} (x : Value) (h : Rows w B vs ls) (hd : Db w b u v) : Rows (w.setCell ⟨b, k, none⟩ x) B vs ls :=
  h.keep fun _ _ _ ho => own_box x ho (hd.ne_int ho)
end
theorem DkO.box2 {w : World} {B b n c m c2 : Nat} {A A2 : Option Addr} {vs : List Value} {D : Dk} {u v : Value} (h : DkO w B A n c A2 m c2 vs D) (hd : Db w b u v) (x y : Value) : DkO ((w.setCell ⟨b, 0, none⟩ x).setCell ⟨b, 1, none⟩ y) B A n c A2 m c2 vs D :=
  ⟨own_box y (own_box x h.now (hd.ne_int h.now)) ((hd.set0 x).ne_int (own_box (k := 0) x h.now (hd.ne_int h.now))), own_box y (own_box x h.past (hd.ne_row h.past)) ((hd.set0 x).ne_row (own_box (k := 0) x h.past (hd.ne_row h.past))), (h.rows.box x hd).box y (hd.set0 x)⟩
theorem DkF.box2 {w : World} {B b n c m c2 : Nat} {A A2 : Option Addr} {D : Dk} {u v : Value} (h : DkF w B A n c A2 m c2 D) (hd : Db w b u v) (x y : Value) : DkF ((w.setCell ⟨b, 0, none⟩ x).setCell ⟨b, 1, none⟩ y) B A n c A2 m c2 D := h.elim fun _ k => ⟨_, k.box2 hd x y⟩
theorem own_types2 {w : World} {B B2 n m : Nat} {v vo : Value} {xs ys : List Value} (h : w.ownsRow B 3 1 v n xs) (ho : w.ownsRow B2 23 1 vo m ys) : vo.ownBlock = none ∨ vo.ownBlock ≠ v.ownBlock := by
  rcases own_types h ho with h1 | h1
  · rcases hb : vo.ownBlock with _ | k
    · exact .inl rfl
    · right; rw [h1]; simp
  · exact .inr fun e => h1 e.symm
theorem info_rows : ∃ i, Try.prog.info? 23 = some i ∧ i.zero = some (.slice none 0 0) ∧ i.size = 1 ∧ i.bytes = 24 := by
  have h := info_row
  rcases hi : Try.prog.info? 23 with _ | i
  · rw [hi] at h; cases h
  · rw [hi] at h
    simp only [Option.map_some, Option.some.injEq, Prod.mk.injEq] at h
    exact ⟨i, rfl, h.1, h.2.1, h.2.2⟩
theorem size_desk : (Try.prog.info? 26).map (·.size) = some 2 := by kernel_rfl
set_option maxRecDepth 100000 in
set_option maxHeartbeats 3200000 in
theorem copyDesk_any (A : Option Addr) (n c : Nat) (A2 : Option Addr) (m c2 : Nat) (D : Dk) (w : World) (h : DkR w w.heap.size A n c A2 m c2 D) (hok : deskOk D = true) :
    Calls Try.prog 59 #[dsk A n c A2 m c2] w fun e w' => ∃ A3 c3 A4 c4, e = .returned (dsk A3 n c3 A4 m c4) ∧ DkF w' w.heap.size A3 n c3 A4 m c4 D ∧ Below w.heap.size w w' := by
  obtain ⟨i0, hi, hz0, hz1, hz2⟩ := info_parts info_int
  obtain ⟨ha, hnw, hm8⟩ := deskOk_iff.1 hok
  obtain ⟨_, hn1, hn2⟩ := bitsOk_iff.1 hnw
  have hlm := h.past.len
  have hln := h.now.len
  rw [hlm] at hm8
  rw [hln] at hn1 hn2
  obtain ⟨bn, offn, rfl, hbn, hcn⟩ := h.now.2.2 (by omega)
  have X0 := (Db.new w (.slice (some ⟨bn, offn, none⟩) n c) (.slice A2 m c2)).on (row := none) (grown_alloc _ (.cells #[.slice none 0 0, .slice none 0 0] 26) none) (by simp)
  have hz : (w.alloc (.cells #[.slice (some ⟨bn, offn, none⟩) n c, .slice A2 m c2] 26)).heap.size = w.heap.size + 1 := by simp
  have X1 := Db.new (w.alloc (.cells #[.slice (some ⟨bn, offn, none⟩) n c, .slice A2 m c2] 26)) (.slice none 0 0) (.slice none 0 0)
  rw [hz] at X1
  have B0 := ((Below.refl w.heap.size w).alloc (Nat.le_refl _) (.cells #[.slice (some ⟨bn, offn, none⟩) n c, .slice A2 m c2] 26)).alloc (by simp) (.cells #[.slice none 0 0, .slice none 0 0] 26)
  have H := h.on B0
  obtain ⟨w0, e0⟩ : ∃ W, (w.alloc (.cells #[.slice (some ⟨bn, offn, none⟩) n c, .slice A2 m c2] 26)).alloc (.cells #[.slice none 0 0, .slice none 0 0] 26) = W := ⟨_, rfl⟩
  have hz0' : w0.heap.size = w.heap.size + 2 := by rw [← e0]; simp
  go_enter Try.func59, Try.ntmps59
  rw [e0] at X0 X1 B0 H
  have c0 := X0.c0
  have HX0 := hid X0
  have HX1 := hid X1
  have HB0 := hid B0
  have HH := hid H
  have HS := hid h.past
  clear X0 X1 B0 h
  have ho0 : (w0.alloc (.cells #[] 3)).ownsRow w.heap.size 3 1 (.slice (some ⟨w.heap.size + 2, 0, none⟩) 0 0) 0 (ints []) := by
    have := World.ownsRow_lit (base := w.heap.size) (e := 3) (size := 1) w0 #[] 0 (by omega) (by simp [maxLen]) rfl
    rwa [hz0'] at this
  have hb1 := HB0.out.alloc (by omega) (.cells #[] 3)
  have hg1 := grown_alloc w0 (.cells #[] 3) none
  have hs1 := HH.out.now.on (below_grown hg1)
  go_wp2_with (at_builtin; refine wpList_append_own _ rfl _ _ 23 rfl w.heap.size 3 i0 (.int .i64 0) 1 8 Try.underlying23 hi hz0 hz1 hz2 rfl (by decide) (.slice (some ⟨w.heap.size + 2, 0, none⟩) 0 0) _ _ rfl ho0 ⟨bn, offn, none⟩ n c (ints D.now) rfl (by rw [List.length_map, hln, Nat.mul_one]) hs1.cellsAt (ints_one D.now) (by simp only [maxLen]; omega) (by omega) hb1.size ?_; intro v2 w2 o2 g2 _; rw [Nat.zero_add, show ints [] ++ ints D.now = ints D.now from rfl] at o2; obtain ⟨g, c3, rfl, hbg, hlt2⟩ := own_shape1 o2 (by omega))
  obtain ⟨j0, hj, hjz0, hjz1, hjz2⟩ := info_rows
  have hgO := grown_alloc w2 (.cells #[.slice (some ⟨g, 0, none⟩) n c3, .slice none 0 0] 26) none
  have hb2 := hb1.grown g2 hb1.size (by intro j hj; simp [Value.ownBlock] at hj; omega)
  have hzz2 := hb2.size
  have Y0 := hid (((HX0.out.on (row := none) hg1 (by simp)).on g2 (by simp [Value.ownBlock])).on (row := none) hgO (by simp))
  have Y1 := hid (((HX1.out.on (row := none) hg1 (by simp)).on g2 (by simp [Value.ownBlock])).on (row := none) hgO (by simp))
  have YO := hid (Db.new w2 (.slice (some ⟨g, 0, none⟩) n c3) (.slice none 0 0))
  have O1 := hid (own_kept_none o2 hgO)
  have BB := hid (hb2.alloc hzz2 (.cells #[.slice (some ⟨g, 0, none⟩) n c3, .slice none 0 0] 26))
  have hzo : w.heap.size + 3 ≤ w2.heap.size := by have := g2.size; simp at this; omega
  have HA := hid ha
  have HLM := hid hlm
  clear HX0 HX1 HB0 HH ho0 hb1 hg1 hs1 g2 o2 hgO hb2 hzz2 H e0 hz c0 hcn ha hlm
  obtain ⟨o, ho⟩ : ∃ o, w2.heap.size = o := ⟨_, rfl⟩
  obtain ⟨w3, e3⟩ : ∃ W, w2.alloc (.cells #[.slice (some ⟨g, 0, none⟩) n c3, .slice none 0 0] 26) = W := ⟨_, rfl⟩
  rw [ho] at YO hzo ⊢
  rw [e3] at Y0 Y1 YO O1 BB ⊢
  clear ho e3
  go_loopw [4] (fun i wr => ∃ (k : Nat) (A4 : Option Addr) (c4 : Nat) (vs : List Value), i = .int .i64 k ∧ k ≤ m ∧ Hid (Db wr w.heap.size (.slice (some ⟨bn, offn, none⟩) n c) (.slice A2 m c2)) ∧ Hid (Db wr (w.heap.size + 1) (.slice none 0 0) (.slice none 0 0)) ∧ Hid (Db wr o (.slice (some ⟨g, 0, none⟩) n c3) (.slice A4 k c4)) ∧ Hid (wr.ownsRow w.heap.size 3 1 (.slice (some ⟨g, 0, none⟩) n c3) n (ints D.now)) ∧ wr.ownsRow w.heap.size 23 1 (.slice A4 k c4) k vs ∧ Hid (Rows wr w.heap.size vs (D.past.take k)) ∧ Hid (Below w.heap.size w wr)) (fun i _ => m - (intOf i).toNat)
  case atStart => exact ⟨0, none, 0, [], rfl, Nat.zero_le _, Y0, Y1, YO, O1, World.ownsRow_nil _ _ _ _, hid (Rows.nil _ _), BB⟩
  case round =>
    clear Y0 Y1 YO O1 BB
    obtain ⟨k, A4, c4, vs, rfl, hk, Y0, Y1, YO, O1, oP, RP, BB⟩ := hrel
    have t1 := Y0.out.c1
    by_cases hlt : k < m
    · obtain ⟨b2, off2, A5, n5, c5, rfl, hb2, hck, hs5⟩ := (HS.out.below BB.out).at hlt
      have hlk : (D.past.getD k [])  = D.past[k]'(by rw [HLM.out]; exact hlt) := by rw [List.getD_eq_getElem?_getD, List.getElem?_eq_getElem (by rw [HLM.out]; exact hlt)]; rfl
      have hbk := HA.out (D.past.getD k []) (by rw [hlk]; exact List.getElem_mem _)
      obtain ⟨_, hk1, hk2⟩ := bitsOk_iff.1 hbk
      have htk := List.take_succ_eq_append_getElem (l := D.past) (i := k) (by rw [HLM.out]; exact hlt)
      rw [← hlk] at htk
      have HT := hid htk
      obtain ⟨lk, hlke⟩ : ∃ lk, D.past.getD k [] = lk := ⟨_, rfl⟩
      rw [hlke] at hs5 hk1 hk2 HT
      have hl5 := hs5.len
      rw [hl5] at hk1 hk2
      have HL5 := hid hl5
      have HS5 := hid hs5
      clear hlke hbk hlk htk hl5 hs5
      obtain ⟨b5, off5, rfl, hb5, _⟩ := HS5.out.2.2 (by omega)
      have hlt' : (k : Int) < (m : Int) := by omega
      have p7 : (0 : Int) ≤ (k : Int) := by omega
      have hwz := BB.out.size
      have d1 := YO.out.c1
      have f1 := YO.out.fz 1
      have hoz := YO.out.lt
      have go1 := (drewN_gA wr 1).trans (grown_alloc wr.drew (.cells #[] 3) none)
      have e1 : (wr.drew.alloc (.cells #[] 3)).cell? ⟨o, 1, none⟩ = some (.slice A4 k c4) := (YO.out.on (row := none) go1 (by simp)).c1
      have ho0 : (wr.drew.alloc (.cells #[] 3)).ownsRow w.heap.size 3 1 (.slice (some ⟨wr.heap.size, 0, none⟩) 0 0) 0 (ints []) := World.ownsRow_lit (base := w.heap.size) (e := 3) (size := 1) wr.drew #[] 0 hwz (by simp [maxLen]) rfl
      have hs1 := (HS5.out.more hwz).on (below_grown go1)
      have oP1 := own_kept_none oP go1
      go_wp2_with fail
      have kS1 : (wr.drew.alloc (.cells #[] 3)).cell? ⟨w.heap.size, 1, none⟩ = some (.slice (some ⟨b2, off2, none⟩) m c2) ∧ (wr.drew.alloc (.cells #[] 3)).cell? ⟨b2, off2 + k, none⟩ = some (.slice (some ⟨b5, off5, none⟩) n5 c5) := ⟨go1.cell t1 (by simp), go1.cell hck (by simp)⟩
      have hBd1 := BB.out.trans ((below_grown go1).mono hwz)
      obtain ⟨wd, hwd⟩ : ∃ W, wr.drew = W := ⟨_, rfl⟩
      have a0 : wd.cell? ⟨w.heap.size, 1, none⟩ = some (.slice (some ⟨b2, off2, none⟩) m c2) := by rw [← hwd]; exact t1
      have a1 : wd.cell? ⟨b2, off2 + k, none⟩ = some (.slice (some ⟨b5, off5, none⟩) n5 c5) := by rw [← hwd]; exact hck
      have a2 : wd.cell? ⟨o, 1, none⟩ = some (.slice A4 k c4) := by rw [← hwd]; exact d1
      have hsd : wd.heap.size = wr.heap.size := by rw [← hwd]; rfl
      refine wp_region_held_drew (S := (fun w' => w'.cell? ⟨w.heap.size, 1, none⟩ = some (.slice (some ⟨b2, off2, none⟩) m c2) ∧ w'.cell? ⟨b2, off2 + k, none⟩ = some (.slice (some ⟨b5, off5, none⟩) n5 c5))) (by kernel_rfl) (by go_keep) (fun hHeld => ?_)
      rw [hwd] at go1 e1 ho0 hs1 oP1 kS1 hBd1 hHeld ⊢
      refine wpAnyH_take (i := 0) (v := ?v0a) rfl (by kernel_rfl) (by kernel_rfl) (by kernel_rfl) (fun _ _ _ h => h) (Or.inl ⟨by rfl, ?y0a⟩) (by assumption) ?r0a
      case y0a => (intro w hSw; (try dsimp only at hSw); go_simp; try with_reducible rfl)
      try simp only [List.getElem_toArray, List.getElem_cons_zero, List.getElem_cons_succ, Act.put, List.setIfInBounds_toArray, List.set_cons_zero, List.set_cons_succ]
      refine wpAnyH_take (i := 3) (v := ?v3a) rfl (by kernel_rfl) (by kernel_rfl) (by kernel_rfl) (fun _ _ _ h => h) (Or.inl ⟨by rfl, ?y3a⟩) (by assumption) ?r3a
      case y3a => (intro w hSw; (try dsimp only at hSw); go_simp; try with_reducible rfl)
      try simp only [List.getElem_toArray, List.getElem_cons_zero, List.getElem_cons_succ, Act.put, List.setIfInBounds_toArray, List.set_cons_zero, List.set_cons_succ]
      refine wpAnyH_take (i := 4) (v := ?v4a) rfl (by kernel_rfl) (by kernel_rfl) (by kernel_rfl) (fun _ _ _ h => h) (Or.inl ⟨by rfl, ?y4a⟩) (by assumption) ?r4a
      case y4a => (intro w hSw; (try dsimp only at hSw); go_simp; try with_reducible rfl)
      try simp only [List.getElem_toArray, List.getElem_cons_zero, List.getElem_cons_succ, Act.put, List.setIfInBounds_toArray, List.set_cons_zero, List.set_cons_succ]
      refine wpAnyH_take (i := 5) (v := ?v5a) rfl (by kernel_rfl) (by kernel_rfl) (by kernel_rfl) (fun _ _ _ h => h) (Or.inl ⟨by rfl, ?y5a⟩) (by assumption) ?r5a
      case y5a => (intro w hSw; (try dsimp only at hSw); go_simp; try with_reducible rfl)
      try simp only [List.getElem_toArray, List.getElem_cons_zero, List.getElem_cons_succ, Act.put, List.setIfInBounds_toArray, List.set_cons_zero, List.set_cons_succ]
      refine wpAnyH_take (i := 6) (v := ?v6a) rfl (by kernel_rfl) (by kernel_rfl) (by kernel_rfl) (fun _ _ _ h => h) (Or.inl ⟨by rfl, ?y6a⟩) (by assumption) ?r6a
      case y6a => (intro w hSw; (try dsimp only at hSw); go_simp; try with_reducible rfl)
      try simp only [List.getElem_toArray, List.getElem_cons_zero, List.getElem_cons_succ, Act.put, List.setIfInBounds_toArray, List.set_cons_zero, List.set_cons_succ]
      refine wpAnyH_take (i := 7) (v := ?v7a) rfl (by kernel_rfl) (by kernel_rfl) (by kernel_rfl) (fun _ _ _ h => h) (Or.inl ⟨by rfl, ?y7a⟩) (by assumption) ?r7a
      case y7a => (intro w hSw; (try dsimp only at hSw); go_simp; try with_reducible rfl)
      try simp only [List.getElem_toArray, List.getElem_cons_zero, List.getElem_cons_succ, Act.put, List.setIfInBounds_toArray, List.set_cons_zero, List.set_cons_succ]
      refine wpAnyH_ready (rs := [1, 2]) (by kernel_rfl) (by simp) ?_
      refine AllReadyH.cons rfl (fun Kr hKr => ?_) (AllReadyH.cons rfl (fun Kr hKr => ?_) AllReadyH.nil)
      · go_simp
        try go_wp2_with fail
        refine hKr.out _ _ ⟨a0, a1⟩ (fun hHeld => ?_)
        clear hKr Kr
        try simp only [List.getElem_toArray, List.getElem_cons_zero, List.getElem_cons_succ, Act.put, List.setIfInBounds_toArray, List.set_cons_zero, List.set_cons_succ]
        refine wpAnyH_ready (rs := [2]) (by kernel_rfl) (by simp) ?_
        refine AllReadyH.cons rfl (fun Kr hKr => ?_) AllReadyH.nil
        go_simp
        try go_wp2_with fail
        refine hKr.out _ _ kS1 (fun hHeld => ?_)
        clear hKr Kr
        try simp only [List.getElem_toArray, List.getElem_cons_zero, List.getElem_cons_succ, Act.put, List.setIfInBounds_toArray, List.set_cons_zero, List.set_cons_succ]
        refine wpAnyH_ready (rs := [8]) (by kernel_rfl) (by simp) ?_
        refine AllReadyH.cons rfl (fun Kr hKr => ?_) AllReadyH.nil
        rw [if_pos (by simp [Region.wanted])]
        refine wp_append_own _ _ _ 23 rfl w.heap.size 3 i0 (.int .i64 0) 1 8 Try.underlying23 hi hz0 hz1 hz2 rfl (by decide) (.slice (some ⟨wr.heap.size, 0, none⟩) 0 0) _ _ rfl ho0 ⟨b5, off5, none⟩ n5 c5 (ints lk) rfl (by rw [List.length_map, HL5.out, Nat.mul_one]) hs1.cellsAt (ints_one lk) (by simp only [maxLen]; omega) (by omega) (by simp; omega) ?_
        intro v5 W2 o5 g5 _
        rw [Nat.zero_add, show ints [] ++ ints lk = ints lk from rfl] at o5
        obtain ⟨g5b, c6, rfl, hg5b, hlt5⟩ := own_shape1 o5 (by omega)
        have kS2 : W2.cell? ⟨w.heap.size, 1, none⟩ = some (.slice (some ⟨b2, off2, none⟩) m c2) ∧ W2.cell? ⟨b2, off2 + k, none⟩ = some (.slice (some ⟨b5, off5, none⟩) n5 c5) := ⟨g5.cell kS1.1 (by simp [Value.ownBlock]; have := Y0.out.lt; omega), g5.cell kS1.2 (by simp [Value.ownBlock]; omega)⟩
        have e2 : W2.cell? ⟨o, 1, none⟩ = some (.slice A4 k c4) := g5.cell e1 (by simp [Value.ownBlock]; omega)
        have ga3 := grown_alloc W2 (.cells #[.slice (some ⟨g5b, 0, none⟩) n5 c6] 23) none
        have kS3 : (W2.alloc (.cells #[.slice (some ⟨g5b, 0, none⟩) n5 c6] 23)).cell? ⟨w.heap.size, 1, none⟩ = some (.slice (some ⟨b2, off2, none⟩) m c2) ∧ (W2.alloc (.cells #[.slice (some ⟨g5b, 0, none⟩) n5 c6] 23)).cell? ⟨b2, off2 + k, none⟩ = some (.slice (some ⟨b5, off5, none⟩) n5 c5) := ⟨ga3.cell kS2.1 (by simp), ga3.cell kS2.2 (by simp)⟩
        have e3 : (W2.alloc (.cells #[.slice (some ⟨g5b, 0, none⟩) n5 c6] 23)).cell? ⟨o, 1, none⟩ = some (.slice A4 k c4) := ga3.cell e2 (by simp)
        have oP2 := own_kept_none (oP1.kept g5 (own_types2 ho0 oP1)) ga3
        have hB5 := hBd1.grown g5 hBd1.size (by intro j hj; simp [Value.ownBlock] at hj; omega)
        refine hKr.out _ _ kS2 (fun hHeld => ?_)
        clear hKr Kr
        try simp only [List.getElem_toArray, List.getElem_cons_zero, List.getElem_cons_succ, Act.put, List.setIfInBounds_toArray, List.set_cons_zero, List.set_cons_succ]
        refine wpAnyH_ready (rs := [9]) (by kernel_rfl) (by simp) ?_
        refine AllReadyH.cons rfl (fun Kr hKr => ?_) AllReadyH.nil
        go_simp
        try go_wp2_with fail
        refine hKr.out _ _ kS3 (fun hHeld => ?_)
        clear hKr Kr
        try simp only [List.getElem_toArray, List.getElem_cons_zero, List.getElem_cons_succ, Act.put, List.setIfInBounds_toArray, List.set_cons_zero, List.set_cons_succ]
        refine wpAnyH_ready (rs := [10]) (by kernel_rfl) (by simp) ?_
        refine AllReadyH.cons rfl (fun Kr hKr => ?_) AllReadyH.nil
        rw [if_pos (by simp [Region.wanted])]
        refine wp_append_own _ _ _ 24 rfl w.heap.size 23 j0 (.slice none 0 0) 1 24 Try.underlying24 hj hjz0 hjz1 hjz2 rfl (by decide) (.slice A4 k c4) _ _ rfl oP2 ⟨W2.heap.size, 0, none⟩ 1 1 [.slice (some ⟨g5b, 0, none⟩) n5 c6] rfl rfl (cell_one_new W2 _ _) (by simp [Value.oneCell']) (by simp only [maxLen]; omega) (by omega) (by have := hB5.size; simp; omega) ?_
        intro v6 W4 o6 g6 _
        obtain ⟨g6b, c7, rfl, hg6b, hlt6⟩ := own_shape1 o6 (by omega)
        have Y04 := ((Y0.out.on (row := none) go1 (by simp)).on g5 (by simp [Value.ownBlock]; have := Y0.out.lt; omega)).on (row := none) ga3 (by simp)
        have YO4 := ((YO.out.on (row := none) go1 (by simp)).on g5 (by simp [Value.ownBlock]; omega)).on (row := none) ga3 (by simp)
        have Y06 := Y04.on g6 (Y04.ne_row oP2)
        have YO6 := YO4.on g6 (YO4.ne_row oP2)
        have hne6 : some b2 ≠ (Value.slice A4 k c4).ownBlock := by intro h; have := (oP2.lt b2 h.symm).1; omega
        have kS6 : W4.cell? ⟨w.heap.size, 1, none⟩ = some (.slice (some ⟨b2, off2, none⟩) m c2) ∧ W4.cell? ⟨b2, off2 + k, none⟩ = some (.slice (some ⟨b5, off5, none⟩) n5 c5) := ⟨Y06.c1, g6.cell kS3.2 hne6⟩
        have kS7 : ∀ x, (W4.setCell ⟨o, 1, none⟩ x).cell? ⟨w.heap.size, 1, none⟩ = some (.slice (some ⟨b2, off2, none⟩) m c2) ∧ (W4.setCell ⟨o, 1, none⟩ x).cell? ⟨b2, off2 + k, none⟩ = some (.slice (some ⟨b5, off5, none⟩) n5 c5) := fun x => ⟨(Y06.other (by omega) 1 x).c1, (((Below.refl o W4).setCell (p := ⟨o, 1, none⟩) (Nat.le_refl _) x).cell (p := ⟨b2, off2 + k, none⟩) (show b2 < o by omega)).trans kS6.2⟩
        have e4 := YO6.c1
        have f4 := YO6.fz 1
        refine hKr.out _ _ kS6 (fun hHeld => ?_)
        clear hKr Kr
        try simp only [List.getElem_toArray, List.getElem_cons_zero, List.getElem_cons_succ, Act.put, List.setIfInBounds_toArray, List.set_cons_zero, List.set_cons_succ]
        refine wpAnyH_take (i := 11) (v := ?v11t1) rfl (by kernel_rfl) (by kernel_rfl) (by kernel_rfl) (fun _ _ _ h => h) (Or.inl ⟨by rfl, ?y11t1⟩) (by assumption) ?r11t1
        case y11t1 => (intro w hSw; (try dsimp only at hSw); go_simp; try with_reducible rfl)
        try simp only [List.getElem_toArray, List.getElem_cons_zero, List.getElem_cons_succ, Act.put, List.setIfInBounds_toArray, List.set_cons_zero, List.set_cons_succ]
        refine wpAnyH_ready (rs := [12]) (by kernel_rfl) (by simp) ?_
        refine AllReadyH.cons rfl (fun Kr hKr => ?_) AllReadyH.nil
        go_simp
        try go_wp2_with fail
        refine hKr.out _ _ (kS7 _) (fun hHeld => ?_)
        clear hKr Kr
        try simp only [List.getElem_toArray, List.getElem_cons_zero, List.getElem_cons_succ, Act.put, List.setIfInBounds_toArray, List.set_cons_zero, List.set_cons_succ]
        refine wpAnyH_done (by kernel_rfl) ?_ _
        have hBR := ((below_grown go1).grown g5 (by simp; omega) (by intro j hj; simp [Value.ownBlock] at hj; omega)).grown ga3 (by have := g5.size; simp at this; omega) (by simp)
        have RP3 := (RP.out.on hBR).snoc ⟨_, _, _, rfl, own_kept_none o5 ga3⟩
        rw [← HT.out] at RP3
        have O3 := own_on O1.out hBR
        have QR := hid ((RP3.beside oP2 g6).box (k := 1) (.slice (some ⟨g6b, 0, none⟩) (k + 1) c7) YO6)
        have QN := hid (own_box (k := 1) (.slice (some ⟨g6b, 0, none⟩) (k + 1) c7) (own_beside O3 oP2 g6) (YO6.ne_int (own_beside O3 oP2 g6)))
        have QP := hid (own_box (k := 1) (.slice (some ⟨g6b, 0, none⟩) (k + 1) c7) o6 (YO6.ne_row o6))
        have Y13 := (Y1.out.below hBR (by have := Y1.out.lt; omega)).on g6 ((Y1.out.below hBR (by have := Y1.out.lt; omega)).ne_row oP2)
        have Q0 := hid (Y06.other (g := o) (by omega) 1 (.slice (some ⟨g6b, 0, none⟩) (k + 1) c7))
        have Q1 := hid (Y13.other (g := o) (by omega) 1 (.slice (some ⟨g6b, 0, none⟩) (k + 1) c7))
        have QO := hid (YO6.set1 (.slice (some ⟨g6b, 0, none⟩) (k + 1) c7))
        have QB := hid (((hB5.grown ga3 hB5.size (by simp)).grown g6 (by have := hB5.size; simp; omega) (by intro j hj; exact (oP2.lt j hj).1)).setCell (p := ⟨o, 1, none⟩) (show w.heap.size ≤ o by omega) (.slice (some ⟨g6b, 0, none⟩) (k + 1) c7))
        clear RP3 O3 hBR Y13 Y06 YO6 Y04 YO4 o5 o6 g5 g6 ga3 oP2 hB5 kS1 kS2 kS3 kS6 kS7 e1 e2 e3 e4 f4 a0 a1 a2 d1 f1 hs1 oP1 ho0 go1 hBd1 t1 hck oP
        go_wp2
        go_roundw
        case rel => exact ⟨k + 1, some ⟨g6b, 0, none⟩, c7, vs ++ [.slice (some ⟨g5b, 0, none⟩) n5 c6], by go_num, by omega, Q0, Q1, QO, QN, QP.out, QR, QB⟩
        case measure => simp [intOf]; omega
      · go_simp
        try go_wp2_with fail
        refine hKr.out _ _ kS1 (fun hHeld => ?_)
        clear hKr Kr
        try simp only [List.getElem_toArray, List.getElem_cons_zero, List.getElem_cons_succ, Act.put, List.setIfInBounds_toArray, List.set_cons_zero, List.set_cons_succ]
        refine wpAnyH_ready (rs := [1, 8]) (by kernel_rfl) (by simp) ?_
        refine AllReadyH.cons rfl (fun Kr hKr => ?_) (AllReadyH.cons rfl (fun Kr hKr => ?_) AllReadyH.nil)
        · go_simp
          try go_wp2_with fail
          refine hKr.out _ _ kS1 (fun hHeld => ?_)
          clear hKr Kr
          try simp only [List.getElem_toArray, List.getElem_cons_zero, List.getElem_cons_succ, Act.put, List.setIfInBounds_toArray, List.set_cons_zero, List.set_cons_succ]
          refine wpAnyH_ready (rs := [8]) (by kernel_rfl) (by simp) ?_
          refine AllReadyH.cons rfl (fun Kr hKr => ?_) AllReadyH.nil
          rw [if_pos (by simp [Region.wanted])]
          refine wp_append_own _ _ _ 23 rfl w.heap.size 3 i0 (.int .i64 0) 1 8 Try.underlying23 hi hz0 hz1 hz2 rfl (by decide) (.slice (some ⟨wr.heap.size, 0, none⟩) 0 0) _ _ rfl ho0 ⟨b5, off5, none⟩ n5 c5 (ints lk) rfl (by rw [List.length_map, HL5.out, Nat.mul_one]) hs1.cellsAt (ints_one lk) (by simp only [maxLen]; omega) (by omega) (by simp; omega) ?_
          intro v5 W2 o5 g5 _
          rw [Nat.zero_add, show ints [] ++ ints lk = ints lk from rfl] at o5
          obtain ⟨g5b, c6, rfl, hg5b, hlt5⟩ := own_shape1 o5 (by omega)
          have kS2 : W2.cell? ⟨w.heap.size, 1, none⟩ = some (.slice (some ⟨b2, off2, none⟩) m c2) ∧ W2.cell? ⟨b2, off2 + k, none⟩ = some (.slice (some ⟨b5, off5, none⟩) n5 c5) := ⟨g5.cell kS1.1 (by simp [Value.ownBlock]; have := Y0.out.lt; omega), g5.cell kS1.2 (by simp [Value.ownBlock]; omega)⟩
          have e2 : W2.cell? ⟨o, 1, none⟩ = some (.slice A4 k c4) := g5.cell e1 (by simp [Value.ownBlock]; omega)
          have ga3 := grown_alloc W2 (.cells #[.slice (some ⟨g5b, 0, none⟩) n5 c6] 23) none
          have kS3 : (W2.alloc (.cells #[.slice (some ⟨g5b, 0, none⟩) n5 c6] 23)).cell? ⟨w.heap.size, 1, none⟩ = some (.slice (some ⟨b2, off2, none⟩) m c2) ∧ (W2.alloc (.cells #[.slice (some ⟨g5b, 0, none⟩) n5 c6] 23)).cell? ⟨b2, off2 + k, none⟩ = some (.slice (some ⟨b5, off5, none⟩) n5 c5) := ⟨ga3.cell kS2.1 (by simp), ga3.cell kS2.2 (by simp)⟩
          have e3 : (W2.alloc (.cells #[.slice (some ⟨g5b, 0, none⟩) n5 c6] 23)).cell? ⟨o, 1, none⟩ = some (.slice A4 k c4) := ga3.cell e2 (by simp)
          have oP2 := own_kept_none (oP1.kept g5 (own_types2 ho0 oP1)) ga3
          have hB5 := hBd1.grown g5 hBd1.size (by intro j hj; simp [Value.ownBlock] at hj; omega)
          refine hKr.out _ _ kS2 (fun hHeld => ?_)
          clear hKr Kr
          try simp only [List.getElem_toArray, List.getElem_cons_zero, List.getElem_cons_succ, Act.put, List.setIfInBounds_toArray, List.set_cons_zero, List.set_cons_succ]
          refine wpAnyH_ready (rs := [9]) (by kernel_rfl) (by simp) ?_
          refine AllReadyH.cons rfl (fun Kr hKr => ?_) AllReadyH.nil
          go_simp
          try go_wp2_with fail
          refine hKr.out _ _ kS3 (fun hHeld => ?_)
          clear hKr Kr
          try simp only [List.getElem_toArray, List.getElem_cons_zero, List.getElem_cons_succ, Act.put, List.setIfInBounds_toArray, List.set_cons_zero, List.set_cons_succ]
          refine wpAnyH_ready (rs := [10]) (by kernel_rfl) (by simp) ?_
          refine AllReadyH.cons rfl (fun Kr hKr => ?_) AllReadyH.nil
          rw [if_pos (by simp [Region.wanted])]
          refine wp_append_own _ _ _ 24 rfl w.heap.size 23 j0 (.slice none 0 0) 1 24 Try.underlying24 hj hjz0 hjz1 hjz2 rfl (by decide) (.slice A4 k c4) _ _ rfl oP2 ⟨W2.heap.size, 0, none⟩ 1 1 [.slice (some ⟨g5b, 0, none⟩) n5 c6] rfl rfl (cell_one_new W2 _ _) (by simp [Value.oneCell']) (by simp only [maxLen]; omega) (by omega) (by have := hB5.size; simp; omega) ?_
          intro v6 W4 o6 g6 _
          obtain ⟨g6b, c7, rfl, hg6b, hlt6⟩ := own_shape1 o6 (by omega)
          have Y04 := ((Y0.out.on (row := none) go1 (by simp)).on g5 (by simp [Value.ownBlock]; have := Y0.out.lt; omega)).on (row := none) ga3 (by simp)
          have YO4 := ((YO.out.on (row := none) go1 (by simp)).on g5 (by simp [Value.ownBlock]; omega)).on (row := none) ga3 (by simp)
          have Y06 := Y04.on g6 (Y04.ne_row oP2)
          have YO6 := YO4.on g6 (YO4.ne_row oP2)
          have hne6 : some b2 ≠ (Value.slice A4 k c4).ownBlock := by intro h; have := (oP2.lt b2 h.symm).1; omega
          have kS6 : W4.cell? ⟨w.heap.size, 1, none⟩ = some (.slice (some ⟨b2, off2, none⟩) m c2) ∧ W4.cell? ⟨b2, off2 + k, none⟩ = some (.slice (some ⟨b5, off5, none⟩) n5 c5) := ⟨Y06.c1, g6.cell kS3.2 hne6⟩
          have kS7 : ∀ x, (W4.setCell ⟨o, 1, none⟩ x).cell? ⟨w.heap.size, 1, none⟩ = some (.slice (some ⟨b2, off2, none⟩) m c2) ∧ (W4.setCell ⟨o, 1, none⟩ x).cell? ⟨b2, off2 + k, none⟩ = some (.slice (some ⟨b5, off5, none⟩) n5 c5) := fun x => ⟨(Y06.other (by omega) 1 x).c1, (((Below.refl o W4).setCell (p := ⟨o, 1, none⟩) (Nat.le_refl _) x).cell (p := ⟨b2, off2 + k, none⟩) (show b2 < o by omega)).trans kS6.2⟩
          have e4 := YO6.c1
          have f4 := YO6.fz 1
          refine hKr.out _ _ kS6 (fun hHeld => ?_)
          clear hKr Kr
          try simp only [List.getElem_toArray, List.getElem_cons_zero, List.getElem_cons_succ, Act.put, List.setIfInBounds_toArray, List.set_cons_zero, List.set_cons_succ]
          refine wpAnyH_take (i := 11) (v := ?v11t2) rfl (by kernel_rfl) (by kernel_rfl) (by kernel_rfl) (fun _ _ _ h => h) (Or.inl ⟨by rfl, ?y11t2⟩) (by assumption) ?r11t2
          case y11t2 => (intro w hSw; (try dsimp only at hSw); go_simp; try with_reducible rfl)
          try simp only [List.getElem_toArray, List.getElem_cons_zero, List.getElem_cons_succ, Act.put, List.setIfInBounds_toArray, List.set_cons_zero, List.set_cons_succ]
          refine wpAnyH_ready (rs := [12]) (by kernel_rfl) (by simp) ?_
          refine AllReadyH.cons rfl (fun Kr hKr => ?_) AllReadyH.nil
          go_simp
          try go_wp2_with fail
          refine hKr.out _ _ (kS7 _) (fun hHeld => ?_)
          clear hKr Kr
          try simp only [List.getElem_toArray, List.getElem_cons_zero, List.getElem_cons_succ, Act.put, List.setIfInBounds_toArray, List.set_cons_zero, List.set_cons_succ]
          refine wpAnyH_done (by kernel_rfl) ?_ _
          have hBR := ((below_grown go1).grown g5 (by simp; omega) (by intro j hj; simp [Value.ownBlock] at hj; omega)).grown ga3 (by have := g5.size; simp at this; omega) (by simp)
          have RP3 := (RP.out.on hBR).snoc ⟨_, _, _, rfl, own_kept_none o5 ga3⟩
          rw [← HT.out] at RP3
          have O3 := own_on O1.out hBR
          have QR := hid ((RP3.beside oP2 g6).box (k := 1) (.slice (some ⟨g6b, 0, none⟩) (k + 1) c7) YO6)
          have QN := hid (own_box (k := 1) (.slice (some ⟨g6b, 0, none⟩) (k + 1) c7) (own_beside O3 oP2 g6) (YO6.ne_int (own_beside O3 oP2 g6)))
          have QP := hid (own_box (k := 1) (.slice (some ⟨g6b, 0, none⟩) (k + 1) c7) o6 (YO6.ne_row o6))
          have Y13 := (Y1.out.below hBR (by have := Y1.out.lt; omega)).on g6 ((Y1.out.below hBR (by have := Y1.out.lt; omega)).ne_row oP2)
          have Q0 := hid (Y06.other (g := o) (by omega) 1 (.slice (some ⟨g6b, 0, none⟩) (k + 1) c7))
          have Q1 := hid (Y13.other (g := o) (by omega) 1 (.slice (some ⟨g6b, 0, none⟩) (k + 1) c7))
          have QO := hid (YO6.set1 (.slice (some ⟨g6b, 0, none⟩) (k + 1) c7))
          have QB := hid (((hB5.grown ga3 hB5.size (by simp)).grown g6 (by have := hB5.size; simp; omega) (by intro j hj; exact (oP2.lt j hj).1)).setCell (p := ⟨o, 1, none⟩) (show w.heap.size ≤ o by omega) (.slice (some ⟨g6b, 0, none⟩) (k + 1) c7))
          clear RP3 O3 hBR Y13 Y06 YO6 Y04 YO4 o5 o6 g5 g6 ga3 oP2 hB5 kS1 kS2 kS3 kS6 kS7 e1 e2 e3 e4 f4 a0 a1 a2 d1 f1 hs1 oP1 ho0 go1 hBd1 t1 hck oP
          go_wp2
          go_roundw
          case rel => exact ⟨k + 1, some ⟨g6b, 0, none⟩, c7, vs ++ [.slice (some ⟨g5b, 0, none⟩) n5 c6], by go_num, by omega, Q0, Q1, QO, QN, QP.out, QR, QB⟩
          case measure => simp [intOf]; omega
        · rw [if_pos (by simp [Region.wanted])]
          refine wp_append_own _ _ _ 23 rfl w.heap.size 3 i0 (.int .i64 0) 1 8 Try.underlying23 hi hz0 hz1 hz2 rfl (by decide) (.slice (some ⟨wr.heap.size, 0, none⟩) 0 0) _ _ rfl ho0 ⟨b5, off5, none⟩ n5 c5 (ints lk) rfl (by rw [List.length_map, HL5.out, Nat.mul_one]) hs1.cellsAt (ints_one lk) (by simp only [maxLen]; omega) (by omega) (by simp; omega) ?_
          intro v5 W2 o5 g5 _
          rw [Nat.zero_add, show ints [] ++ ints lk = ints lk from rfl] at o5
          obtain ⟨g5b, c6, rfl, hg5b, hlt5⟩ := own_shape1 o5 (by omega)
          have kS2 : W2.cell? ⟨w.heap.size, 1, none⟩ = some (.slice (some ⟨b2, off2, none⟩) m c2) ∧ W2.cell? ⟨b2, off2 + k, none⟩ = some (.slice (some ⟨b5, off5, none⟩) n5 c5) := ⟨g5.cell kS1.1 (by simp [Value.ownBlock]; have := Y0.out.lt; omega), g5.cell kS1.2 (by simp [Value.ownBlock]; omega)⟩
          have e2 : W2.cell? ⟨o, 1, none⟩ = some (.slice A4 k c4) := g5.cell e1 (by simp [Value.ownBlock]; omega)
          have ga3 := grown_alloc W2 (.cells #[.slice (some ⟨g5b, 0, none⟩) n5 c6] 23) none
          have kS3 : (W2.alloc (.cells #[.slice (some ⟨g5b, 0, none⟩) n5 c6] 23)).cell? ⟨w.heap.size, 1, none⟩ = some (.slice (some ⟨b2, off2, none⟩) m c2) ∧ (W2.alloc (.cells #[.slice (some ⟨g5b, 0, none⟩) n5 c6] 23)).cell? ⟨b2, off2 + k, none⟩ = some (.slice (some ⟨b5, off5, none⟩) n5 c5) := ⟨ga3.cell kS2.1 (by simp), ga3.cell kS2.2 (by simp)⟩
          have e3 : (W2.alloc (.cells #[.slice (some ⟨g5b, 0, none⟩) n5 c6] 23)).cell? ⟨o, 1, none⟩ = some (.slice A4 k c4) := ga3.cell e2 (by simp)
          have oP2 := own_kept_none (oP1.kept g5 (own_types2 ho0 oP1)) ga3
          have hB5 := hBd1.grown g5 hBd1.size (by intro j hj; simp [Value.ownBlock] at hj; omega)
          refine hKr.out _ _ kS2 (fun hHeld => ?_)
          clear hKr Kr
          try simp only [List.getElem_toArray, List.getElem_cons_zero, List.getElem_cons_succ, Act.put, List.setIfInBounds_toArray, List.set_cons_zero, List.set_cons_succ]
          refine wpAnyH_ready (rs := [1, 9]) (by kernel_rfl) (by simp) ?_
          refine AllReadyH.cons rfl (fun Kr hKr => ?_) (AllReadyH.cons rfl (fun Kr hKr => ?_) AllReadyH.nil)
          · go_simp
            try go_wp2_with fail
            refine hKr.out _ _ kS2 (fun hHeld => ?_)
            clear hKr Kr
            try simp only [List.getElem_toArray, List.getElem_cons_zero, List.getElem_cons_succ, Act.put, List.setIfInBounds_toArray, List.set_cons_zero, List.set_cons_succ]
            refine wpAnyH_ready (rs := [9]) (by kernel_rfl) (by simp) ?_
            refine AllReadyH.cons rfl (fun Kr hKr => ?_) AllReadyH.nil
            go_simp
            try go_wp2_with fail
            refine hKr.out _ _ kS3 (fun hHeld => ?_)
            clear hKr Kr
            try simp only [List.getElem_toArray, List.getElem_cons_zero, List.getElem_cons_succ, Act.put, List.setIfInBounds_toArray, List.set_cons_zero, List.set_cons_succ]
            refine wpAnyH_ready (rs := [10]) (by kernel_rfl) (by simp) ?_
            refine AllReadyH.cons rfl (fun Kr hKr => ?_) AllReadyH.nil
            rw [if_pos (by simp [Region.wanted])]
            refine wp_append_own _ _ _ 24 rfl w.heap.size 23 j0 (.slice none 0 0) 1 24 Try.underlying24 hj hjz0 hjz1 hjz2 rfl (by decide) (.slice A4 k c4) _ _ rfl oP2 ⟨W2.heap.size, 0, none⟩ 1 1 [.slice (some ⟨g5b, 0, none⟩) n5 c6] rfl rfl (cell_one_new W2 _ _) (by simp [Value.oneCell']) (by simp only [maxLen]; omega) (by omega) (by have := hB5.size; simp; omega) ?_
            intro v6 W4 o6 g6 _
            obtain ⟨g6b, c7, rfl, hg6b, hlt6⟩ := own_shape1 o6 (by omega)
            have Y04 := ((Y0.out.on (row := none) go1 (by simp)).on g5 (by simp [Value.ownBlock]; have := Y0.out.lt; omega)).on (row := none) ga3 (by simp)
            have YO4 := ((YO.out.on (row := none) go1 (by simp)).on g5 (by simp [Value.ownBlock]; omega)).on (row := none) ga3 (by simp)
            have Y06 := Y04.on g6 (Y04.ne_row oP2)
            have YO6 := YO4.on g6 (YO4.ne_row oP2)
            have hne6 : some b2 ≠ (Value.slice A4 k c4).ownBlock := by intro h; have := (oP2.lt b2 h.symm).1; omega
            have kS6 : W4.cell? ⟨w.heap.size, 1, none⟩ = some (.slice (some ⟨b2, off2, none⟩) m c2) ∧ W4.cell? ⟨b2, off2 + k, none⟩ = some (.slice (some ⟨b5, off5, none⟩) n5 c5) := ⟨Y06.c1, g6.cell kS3.2 hne6⟩
            have kS7 : ∀ x, (W4.setCell ⟨o, 1, none⟩ x).cell? ⟨w.heap.size, 1, none⟩ = some (.slice (some ⟨b2, off2, none⟩) m c2) ∧ (W4.setCell ⟨o, 1, none⟩ x).cell? ⟨b2, off2 + k, none⟩ = some (.slice (some ⟨b5, off5, none⟩) n5 c5) := fun x => ⟨(Y06.other (by omega) 1 x).c1, (((Below.refl o W4).setCell (p := ⟨o, 1, none⟩) (Nat.le_refl _) x).cell (p := ⟨b2, off2 + k, none⟩) (show b2 < o by omega)).trans kS6.2⟩
            have e4 := YO6.c1
            have f4 := YO6.fz 1
            refine hKr.out _ _ kS6 (fun hHeld => ?_)
            clear hKr Kr
            try simp only [List.getElem_toArray, List.getElem_cons_zero, List.getElem_cons_succ, Act.put, List.setIfInBounds_toArray, List.set_cons_zero, List.set_cons_succ]
            refine wpAnyH_take (i := 11) (v := ?v11t3) rfl (by kernel_rfl) (by kernel_rfl) (by kernel_rfl) (fun _ _ _ h => h) (Or.inl ⟨by rfl, ?y11t3⟩) (by assumption) ?r11t3
            case y11t3 => (intro w hSw; (try dsimp only at hSw); go_simp; try with_reducible rfl)
            try simp only [List.getElem_toArray, List.getElem_cons_zero, List.getElem_cons_succ, Act.put, List.setIfInBounds_toArray, List.set_cons_zero, List.set_cons_succ]
            refine wpAnyH_ready (rs := [12]) (by kernel_rfl) (by simp) ?_
            refine AllReadyH.cons rfl (fun Kr hKr => ?_) AllReadyH.nil
            go_simp
            try go_wp2_with fail
            refine hKr.out _ _ (kS7 _) (fun hHeld => ?_)
            clear hKr Kr
            try simp only [List.getElem_toArray, List.getElem_cons_zero, List.getElem_cons_succ, Act.put, List.setIfInBounds_toArray, List.set_cons_zero, List.set_cons_succ]
            refine wpAnyH_done (by kernel_rfl) ?_ _
            have hBR := ((below_grown go1).grown g5 (by simp; omega) (by intro j hj; simp [Value.ownBlock] at hj; omega)).grown ga3 (by have := g5.size; simp at this; omega) (by simp)
            have RP3 := (RP.out.on hBR).snoc ⟨_, _, _, rfl, own_kept_none o5 ga3⟩
            rw [← HT.out] at RP3
            have O3 := own_on O1.out hBR
            have QR := hid ((RP3.beside oP2 g6).box (k := 1) (.slice (some ⟨g6b, 0, none⟩) (k + 1) c7) YO6)
            have QN := hid (own_box (k := 1) (.slice (some ⟨g6b, 0, none⟩) (k + 1) c7) (own_beside O3 oP2 g6) (YO6.ne_int (own_beside O3 oP2 g6)))
            have QP := hid (own_box (k := 1) (.slice (some ⟨g6b, 0, none⟩) (k + 1) c7) o6 (YO6.ne_row o6))
            have Y13 := (Y1.out.below hBR (by have := Y1.out.lt; omega)).on g6 ((Y1.out.below hBR (by have := Y1.out.lt; omega)).ne_row oP2)
            have Q0 := hid (Y06.other (g := o) (by omega) 1 (.slice (some ⟨g6b, 0, none⟩) (k + 1) c7))
            have Q1 := hid (Y13.other (g := o) (by omega) 1 (.slice (some ⟨g6b, 0, none⟩) (k + 1) c7))
            have QO := hid (YO6.set1 (.slice (some ⟨g6b, 0, none⟩) (k + 1) c7))
            have QB := hid (((hB5.grown ga3 hB5.size (by simp)).grown g6 (by have := hB5.size; simp; omega) (by intro j hj; exact (oP2.lt j hj).1)).setCell (p := ⟨o, 1, none⟩) (show w.heap.size ≤ o by omega) (.slice (some ⟨g6b, 0, none⟩) (k + 1) c7))
            clear RP3 O3 hBR Y13 Y06 YO6 Y04 YO4 o5 o6 g5 g6 ga3 oP2 hB5 kS1 kS2 kS3 kS6 kS7 e1 e2 e3 e4 f4 a0 a1 a2 d1 f1 hs1 oP1 ho0 go1 hBd1 t1 hck oP
            go_wp2
            go_roundw
            case rel => exact ⟨k + 1, some ⟨g6b, 0, none⟩, c7, vs ++ [.slice (some ⟨g5b, 0, none⟩) n5 c6], by go_num, by omega, Q0, Q1, QO, QN, QP.out, QR, QB⟩
            case measure => simp [intOf]; omega
          · go_simp
            try go_wp2_with fail
            refine hKr.out _ _ kS3 (fun hHeld => ?_)
            clear hKr Kr
            try simp only [List.getElem_toArray, List.getElem_cons_zero, List.getElem_cons_succ, Act.put, List.setIfInBounds_toArray, List.set_cons_zero, List.set_cons_succ]
            refine wpAnyH_ready (rs := [1]) (by kernel_rfl) (by simp) ?_
            refine AllReadyH.cons rfl (fun Kr hKr => ?_) AllReadyH.nil
            go_simp
            try go_wp2_with fail
            refine hKr.out _ _ kS3 (fun hHeld => ?_)
            clear hKr Kr
            try simp only [List.getElem_toArray, List.getElem_cons_zero, List.getElem_cons_succ, Act.put, List.setIfInBounds_toArray, List.set_cons_zero, List.set_cons_succ]
            refine wpAnyH_ready (rs := [10]) (by kernel_rfl) (by simp) ?_
            refine AllReadyH.cons rfl (fun Kr hKr => ?_) AllReadyH.nil
            rw [if_pos (by simp [Region.wanted])]
            refine wp_append_own _ _ _ 24 rfl w.heap.size 23 j0 (.slice none 0 0) 1 24 Try.underlying24 hj hjz0 hjz1 hjz2 rfl (by decide) (.slice A4 k c4) _ _ rfl oP2 ⟨W2.heap.size, 0, none⟩ 1 1 [.slice (some ⟨g5b, 0, none⟩) n5 c6] rfl rfl (cell_one_new W2 _ _) (by simp [Value.oneCell']) (by simp only [maxLen]; omega) (by omega) (by have := hB5.size; simp; omega) ?_
            intro v6 W4 o6 g6 _
            obtain ⟨g6b, c7, rfl, hg6b, hlt6⟩ := own_shape1 o6 (by omega)
            have Y04 := ((Y0.out.on (row := none) go1 (by simp)).on g5 (by simp [Value.ownBlock]; have := Y0.out.lt; omega)).on (row := none) ga3 (by simp)
            have YO4 := ((YO.out.on (row := none) go1 (by simp)).on g5 (by simp [Value.ownBlock]; omega)).on (row := none) ga3 (by simp)
            have Y06 := Y04.on g6 (Y04.ne_row oP2)
            have YO6 := YO4.on g6 (YO4.ne_row oP2)
            have hne6 : some b2 ≠ (Value.slice A4 k c4).ownBlock := by intro h; have := (oP2.lt b2 h.symm).1; omega
            have kS6 : W4.cell? ⟨w.heap.size, 1, none⟩ = some (.slice (some ⟨b2, off2, none⟩) m c2) ∧ W4.cell? ⟨b2, off2 + k, none⟩ = some (.slice (some ⟨b5, off5, none⟩) n5 c5) := ⟨Y06.c1, g6.cell kS3.2 hne6⟩
            have kS7 : ∀ x, (W4.setCell ⟨o, 1, none⟩ x).cell? ⟨w.heap.size, 1, none⟩ = some (.slice (some ⟨b2, off2, none⟩) m c2) ∧ (W4.setCell ⟨o, 1, none⟩ x).cell? ⟨b2, off2 + k, none⟩ = some (.slice (some ⟨b5, off5, none⟩) n5 c5) := fun x => ⟨(Y06.other (by omega) 1 x).c1, (((Below.refl o W4).setCell (p := ⟨o, 1, none⟩) (Nat.le_refl _) x).cell (p := ⟨b2, off2 + k, none⟩) (show b2 < o by omega)).trans kS6.2⟩
            have e4 := YO6.c1
            have f4 := YO6.fz 1
            refine hKr.out _ _ kS6 (fun hHeld => ?_)
            clear hKr Kr
            try simp only [List.getElem_toArray, List.getElem_cons_zero, List.getElem_cons_succ, Act.put, List.setIfInBounds_toArray, List.set_cons_zero, List.set_cons_succ]
            refine wpAnyH_take (i := 11) (v := ?v11t4) rfl (by kernel_rfl) (by kernel_rfl) (by kernel_rfl) (fun _ _ _ h => h) (Or.inl ⟨by rfl, ?y11t4⟩) (by assumption) ?r11t4
            case y11t4 => (intro w hSw; (try dsimp only at hSw); go_simp; try with_reducible rfl)
            try simp only [List.getElem_toArray, List.getElem_cons_zero, List.getElem_cons_succ, Act.put, List.setIfInBounds_toArray, List.set_cons_zero, List.set_cons_succ]
            refine wpAnyH_ready (rs := [12]) (by kernel_rfl) (by simp) ?_
            refine AllReadyH.cons rfl (fun Kr hKr => ?_) AllReadyH.nil
            go_simp
            try go_wp2_with fail
            refine hKr.out _ _ (kS7 _) (fun hHeld => ?_)
            clear hKr Kr
            try simp only [List.getElem_toArray, List.getElem_cons_zero, List.getElem_cons_succ, Act.put, List.setIfInBounds_toArray, List.set_cons_zero, List.set_cons_succ]
            refine wpAnyH_done (by kernel_rfl) ?_ _
            have hBR := ((below_grown go1).grown g5 (by simp; omega) (by intro j hj; simp [Value.ownBlock] at hj; omega)).grown ga3 (by have := g5.size; simp at this; omega) (by simp)
            have RP3 := (RP.out.on hBR).snoc ⟨_, _, _, rfl, own_kept_none o5 ga3⟩
            rw [← HT.out] at RP3
            have O3 := own_on O1.out hBR
            have QR := hid ((RP3.beside oP2 g6).box (k := 1) (.slice (some ⟨g6b, 0, none⟩) (k + 1) c7) YO6)
            have QN := hid (own_box (k := 1) (.slice (some ⟨g6b, 0, none⟩) (k + 1) c7) (own_beside O3 oP2 g6) (YO6.ne_int (own_beside O3 oP2 g6)))
            have QP := hid (own_box (k := 1) (.slice (some ⟨g6b, 0, none⟩) (k + 1) c7) o6 (YO6.ne_row o6))
            have Y13 := (Y1.out.below hBR (by have := Y1.out.lt; omega)).on g6 ((Y1.out.below hBR (by have := Y1.out.lt; omega)).ne_row oP2)
            have Q0 := hid (Y06.other (g := o) (by omega) 1 (.slice (some ⟨g6b, 0, none⟩) (k + 1) c7))
            have Q1 := hid (Y13.other (g := o) (by omega) 1 (.slice (some ⟨g6b, 0, none⟩) (k + 1) c7))
            have QO := hid (YO6.set1 (.slice (some ⟨g6b, 0, none⟩) (k + 1) c7))
            have QB := hid (((hB5.grown ga3 hB5.size (by simp)).grown g6 (by have := hB5.size; simp; omega) (by intro j hj; exact (oP2.lt j hj).1)).setCell (p := ⟨o, 1, none⟩) (show w.heap.size ≤ o by omega) (.slice (some ⟨g6b, 0, none⟩) (k + 1) c7))
            clear RP3 O3 hBR Y13 Y06 YO6 Y04 YO4 o5 o6 g5 g6 ga3 oP2 hB5 kS1 kS2 kS3 kS6 kS7 e1 e2 e3 e4 f4 a0 a1 a2 d1 f1 hs1 oP1 ho0 go1 hBd1 t1 hck oP
            go_wp2
            go_roundw
            case rel => exact ⟨k + 1, some ⟨g6b, 0, none⟩, c7, vs ++ [.slice (some ⟨g5b, 0, none⟩) n5 c6], by go_num, by omega, Q0, Q1, QO, QN, QP.out, QR, QB⟩
            case measure => simp [intOf]; omega
    · obtain rfl : k = m := by omega
      have u0 := YO.out.c0
      have u1 := YO.out.c1
      have r0 := Y1.out.c0
      have r1 := Y1.out.c1
      have q0 := Y1.out.fz 0
      have q1 := Y1.out.fz 1
      rw [List.take_of_length_le (by rw [HLM.out]; exact Nat.le_refl _)] at RP
      have hlt' : ¬ (k : Int) < (k : Int) := by omega
      have OP := hid oP
      clear oP
      go_wp2
      (try simp only [Exit.inBlock, Exit.then])
      refine bodyPost_ret (results_cell_row rfl _ _ (w.heap.size + 1) 26 _ (0, 0) _ (by simp [Act.put]) (Y1.out.set _ _) Try.underlying26 rfl size_desk) rfl ?_
      refine ⟨_, _, _, _, rfl, ⟨vs, DkO.box2 (u := .slice none 0 0) (v := .slice none 0 0) ⟨O1.out, OP.out, RP.out⟩ Y1.out _ _⟩, ?_⟩
      exact (BB.out.setCell (p := ⟨w.heap.size + 1, 0, none⟩) (by simp) _).setCell (p := ⟨w.heap.size + 1, 1, none⟩) (by simp) _
end Go.Proofs.Ytkejcajboneniaa

namespace Go.Proofs.Ytkejcajboneniaa
open Go.RowKit
set_option linter.unusedVariables false
set_option linter.unusedSimpArgs false

/-- What DeskNew gives. -/
def newOut (l : List Int) : Dk := if bitsOk l = true then ⟨l, []⟩ else noDk
theorem results_db {P : Program} {fn : Func} {p u : Tmp} {ty : TypeId} (h : fn.results = #[.cell p ty, .tmp u]) (tmps : Array Value) (w : World) (g : Nat) (t : TypeId) (cs : Array Value) (fr : Nat × Nat) (d : TypeDesc)
    (hp : tmps.getD p undef = .pointer (some ⟨g, 0, none⟩)) (hg : w.heap[g]? = some (.cells cs t fr))
    (hu : P.underlying ty = some d) (hd : (match d with | .struct _ | .array _ _ => true | _ => false) = true) (hi : (P.info? ty).map (·.size) = some cs.size) :
    (results fn tmps).run P w = .ok (.tuple #[.agg cs, tmps.getD u undef]) w := by
  have hp' : tmps[p]?.getD undef = .pointer (some ⟨g, 0, none⟩) := by simpa using hp
  simp [results, h, hp', asAddr, run_loadVar_row w g t ty cs fr d hg hu hd hi]
theorem DkF.no (w : World) (B : Nat) : DkF w B none 0 0 none 0 0 noDk := ⟨[], World.ownsRow_nil _ _ _ _, World.ownsRow_nil _ _ _ _, Rows.nil _ _⟩

set_option maxRecDepth 100000 in
set_option maxHeartbeats 1600000 in
theorem specDeskNew_any (A : Option Addr) (n c : Nat) (l : List Int) (w : World) (hs : Sl w w.heap.size A n l) :
    Calls Try.prog 20 #[.slice A n c] w fun e w' => ∃ A3 n3 c3 A4 m4 c4, e = .returned (.tuple #[dsk A3 n3 c3 A4 m4 c4, .bool (bitsOk l)]) ∧ DkF w' w.heap.size A3 n3 c3 A4 m4 c4 (newOut l) ∧ Below w.heap.size w w' := by
  obtain ⟨i0, hi, hz0, hz1, hz2⟩ := info_parts info_int
  have hz : (w.alloc (.cells #[.slice none 0 0, .slice none 0 0] 26)).heap.size = w.heap.size + 1 := by simp
  have X0 := hid (Db.new w (.slice none 0 0) (.slice none 0 0))
  have B0 := hid ((Below.refl w.heap.size w).alloc (Nat.le_refl _) (.cells #[.slice none 0 0, .slice none 0 0] 26))
  have HS := hid (hs.on B0.out)
  have HL := hid hs.len
  have CK := hid (specBitsOk_any A n c l _ _ HS.out)
  have d0 := X0.out.c0
  have d1 := X0.out.c1
  have g0 := X0.out.fz 0
  have g1 := X0.out.fz 1
  cases hok : bitsOk l with
  | false =>
    have HV := hid (show newOut l = noDk from by unfold newOut; rw [hok]; rfl)
    rw [hok] at CK
    clear hok
    go_enter Try.func20, Try.ntmps20
    go_wp2_with fail
    with_reducible refine Calls.mono CK.out ?_
    rintro e w' ⟨rfl, rfl⟩
    go_wp2
    (try simp only [Exit.inBlock, Exit.then])
    refine bodyPost_ret (results_db rfl _ _ w.heap.size 26 _ (0, 0) _ (by simp [Act.put]) X0.out Try.underlying26 rfl size_desk) rfl ?_
    exact ⟨_, _, _, _, _, _, rfl, by rw [HV.out]; exact DkF.no _ _, B0.out⟩
  | true =>
    have HV := hid (show newOut l = ⟨l, []⟩ from by unfold newOut; rw [if_pos hok])
    obtain ⟨_, h1, h2⟩ := bitsOk_iff.1 hok
    rw [HL.out] at h1 h2
    rw [hok] at CK
    clear hok
    obtain ⟨bn, offn, rfl, hbn, _⟩ := hs.2.2 (by omega)
    obtain ⟨w0, e0⟩ : ∃ W, w.alloc (.cells #[.slice none 0 0, .slice none 0 0] 26) = W := ⟨_, rfl⟩
    have hb1 := B0.out.alloc (by simp) (.cells #[] 3)
    have hg1 := grown_alloc (w.alloc (.cells #[.slice none 0 0, .slice none 0 0] 26)) (.cells #[] 3) none
    have ho0 : ((w.alloc (.cells #[.slice none 0 0, .slice none 0 0] 26)).alloc (.cells #[] 3)).ownsRow w.heap.size 3 1 (.slice (some ⟨w.heap.size + 1, 0, none⟩) 0 0) 0 (ints []) := by
      have := World.ownsRow_lit (base := w.heap.size) (e := 3) (size := 1) (w.alloc (.cells #[.slice none 0 0, .slice none 0 0] 26)) #[] 0 (by simp) (by simp [maxLen]) rfl
      rwa [hz] at this
    have hs1 := HS.out.on (below_grown hg1)
    have X1 := X0.out.on (row := none) hg1 (by simp)
    go_enter Try.func20, Try.ntmps20
    rw [e0] at ho0 hb1 hg1 hs1 X1 CK
    go_wp2_with fail
    with_reducible refine Calls.mono CK.out ?_
    rintro e w' ⟨rfl, rfl⟩
    have hz' : w0.heap.size = w.heap.size + 1 := by rw [← e0]; exact hz
    rw [e0] at d0 d1 g0 g1
    clear e0 hz
    go_wp2_with (at_builtin; refine wpList_append_own _ rfl _ _ 23 rfl w.heap.size 3 i0 (.int .i64 0) 1 8 Try.underlying23 hi hz0 hz1 hz2 rfl (by decide) (.slice (some ⟨w.heap.size + 1, 0, none⟩) 0 0) _ _ rfl ho0 ⟨bn, offn, none⟩ n c (ints l) rfl (by rw [List.length_map, HL.out, Nat.mul_one]) hs1.cellsAt (ints_one l) (by simp only [maxLen]; omega) (by omega) hb1.size ?_; intro v2 w2 o2 g2 _; rw [Nat.zero_add, show ints [] ++ ints l = ints l from rfl] at o2; obtain ⟨g, c3, rfl, hbg, hlt2⟩ := own_shape1 o2 (by omega); have X2 := X1.on g2 (by simp [Value.ownBlock]); have k0 := X2.c0; have k1 := X2.c1; have l0 := X2.fz 0; have l1 := X2.fz 1)
    have HX2 := hid X2
    have HB2 := hid (hb1.grown g2 hb1.size (by intro j hj; simp [Value.ownBlock] at hj; omega))
    have O2 := hid o2
    clear g2 o2 ho0 hb1 hg1 hs1 X1 X2 k0 k1 l0 l1 d0 d1 g0 g1
    (try simp only [Exit.inBlock, Exit.then])
    refine bodyPost_ret (results_db rfl _ _ w.heap.size 26 _ (0, 0) _ (by simp [Act.put]) (HX2.out.set _ _) Try.underlying26 rfl size_desk) rfl ?_
    exact ⟨_, _, _, _, _, _, rfl, by rw [HV.out]; exact DkF.box2 ⟨[], O2.out, World.ownsRow_nil _ _ _ _, Rows.nil _ _⟩ HX2.out _ _, (HB2.out.setCell (p := ⟨w.heap.size, 0, none⟩) (Nat.le_refl _) _).setCell (p := ⟨w.heap.size, 1, none⟩) (Nat.le_refl _) _⟩
end Go.Proofs.Ytkejcajboneniaa

namespace Go.Proofs.Ytkejcajboneniaa
open Go.RowKit
set_option linter.unusedVariables false
set_option linter.unusedSimpArgs false

theorem Sl.takeK {w : World} {B n m : Nat} {A : Option Addr} {l : List Int} (h : Sl w B A n l) (hm : m ≤ n) : Sl w B A m (l.take m) := by
  refine ⟨by rw [List.length_take, h.len]; omega, Nat.le_trans hm h.max, fun h0 => ?_⟩
  obtain ⟨b, off, e, hb, hc⟩ := h.2.2 (by omega)
  refine ⟨b, off, e, hb, fun j hj => ?_⟩
  rw [hc j (by omega)]
  simp [nth, List.getD, hj]
theorem Sl.dropK {w : World} {B n a b off : Nat} {l : List Int} (h : Sl w B (some ⟨b, off, none⟩) n l) (ha : a ≤ n) : Sl w B (some ⟨b, off + a, none⟩) (n - a) (l.drop a) := by
  refine ⟨by rw [List.length_drop, h.len], Nat.le_trans (Nat.sub_le _ _) h.max, fun h0 => ?_⟩
  obtain ⟨b', off', e, hb, hc⟩ := h.2.2 (by omega)
  injection e with e
  injection e with e1 e2
  subst e1
  subst e2
  refine ⟨b, off + a, rfl, hb, fun j hj => ?_⟩
  rw [show off + a + j = off + (a + j) by omega, hc (a + j) (by omega)]
  simp [nth, List.getD]
theorem own_blk_ne {w : World} {B b n : Nat} {v : Value} {e t : TypeId} {cs : Array Value} {fr : Nat × Nat} {xs : List Value} (h : w.heap[b]? = some (.cells cs t fr)) (ho : w.ownsRow B e 1 v n xs) (hT : t ≠ e) : some b ≠ v.ownBlock := by
  rcases ho.2 with ⟨h1, _⟩ | ⟨g, cap, cur, h1, _, h3, _⟩
  · rw [h1]; simp [Value.ownBlock]
  · rw [h1]; intro e'
    have e2 : b = g := by simpa [Value.ownBlock] using e'
    subst e2
    rw [h3] at h
    simp at h
    exact hT h.2.1.symm

set_option maxRecDepth 100000 in
set_option maxHeartbeats 3200000 in
theorem made_any (A : Option Addr) (n c : Nat) (l : List Int) (k N : Int) (w : World) (hs : Sl w w.heap.size A n l) (hcap : n ≤ c ∧ c ≤ 9223372036854775807) (hok : bitsOk l = true) :
    Calls Try.prog 60 #[.slice A n c, deed k N] w fun e w' => ∃ A2 m c2, e = .returned (.slice A2 m c2) ∧ w'.ownsRow w.heap.size 3 1 (.slice A2 m c2) m (ints (madeL l k N)) ∧ m ≤ 40 ∧ Below w.heap.size w w' := by
  obtain ⟨i0, hi, hz0, hz1, hz2⟩ := info_parts info_int
  obtain ⟨hbits, h1, h2⟩ := bitsOk_iff.1 hok
  have HL := hid hs.len
  have hB := (Below.refl w.heap.size w).alloc (Nat.le_refl _) (.cells #[.int .i64 k, .int .i64 N] 45)
  have hz : (w.alloc (.cells #[.int .i64 k, .int .i64 N] 45)).heap.size = w.heap.size + 1 := by simp
  rw [HL.out] at h1 h2
  have c0 : (w.alloc (.cells #[.int .i64 k, .int .i64 N] 45)).cell? ⟨w.heap.size, 0, none⟩ = some (.int .i64 k) := by simp
  have c1 : (w.alloc (.cells #[.int .i64 k, .int .i64 N] 45)).cell? ⟨w.heap.size, 1, none⟩ = some (.int .i64 N) := by simp
  have HS := hid (hs.on hB)
  have HB := hid hB
  have CZ := hid (hB.alloc (by simp) (.cells #[] 3))
  have CL := World.ownsRow_lit (base := w.heap.size) (e := 3) (size := 1) (w.alloc (.cells #[.int .i64 k, .int .i64 N] 45)) #[] 0 (by simp) (by simp [maxLen]) rfl
  rw [hz, show (#[] : Array Value).toList = ints [] from rfl] at CL
  replace CL := hid CL
  have wn : IntKind.i64.wrap ((n : Int) - 1) = (n : Int) - 1 := IntWalk.i64_in _ (by omega)
  clear hB
  by_cases hk0 : k = 0
  · subst hk0
    by_cases hN : N = 0
    · subst hN
      have HV := hid (show madeL l 0 0 = sumOut l from by unfold madeL; simp)
      have CF := hid (specSummedOf_any A n c l _ HS.out)
      go_enter Try.func60, Try.ntmps60
      go_wp2_with fail
      with_reducible refine Calls.mono CF.out ?_
      rintro e w1 ⟨A2, m, c2, rfl, o1, hm, b1⟩
      have O1 := hid (own_mono (base' := w.heap.size) o1 (by simp))
      have B1 := hid (HB.out.trans (b1.mono (by simp)))
      clear o1 b1
      go_wp2
      go_ret
      exact ⟨_, m, _, rfl, by rw [HV.out]; exact O1.out, by omega, B1.out⟩
    · have hN' : (N == 0) = false := by simpa using hN
      have HV := hid (show madeL l 0 N = [] from by unfold madeL; simp [hN])
      go_enter Try.func60, Try.ntmps60
      go_wp2
      go_ret
      exact ⟨_, 0, _, rfl, by rw [HV.out]; exact CL.out, by omega, CZ.out⟩
  by_cases hk1 : k = 1
  · subst hk1
    by_cases hN : N = 0
    · subst hN
      have HV := hid (show madeL l 1 0 = drivenOut l from by unfold madeL; simp)
      have CF := hid (specDrivenOf_any A n c l _ HS.out)
      go_enter Try.func60, Try.ntmps60
      go_wp2_with fail
      with_reducible refine Calls.mono CF.out ?_
      rintro e w1 ⟨A2, m, c2, rfl, o1, hm, b1⟩
      have O1 := hid (own_mono (base' := w.heap.size) o1 (by simp))
      have B1 := hid (HB.out.trans (b1.mono (by simp)))
      clear o1 b1
      go_wp2
      go_ret
      exact ⟨_, m, _, rfl, by rw [HV.out]; exact O1.out, by omega, B1.out⟩
    · have hN' : (N == 0) = false := by simpa using hN
      have HV := hid (show madeL l 1 N = [] from by unfold madeL; simp [hN])
      go_enter Try.func60, Try.ntmps60
      go_wp2
      go_ret
      exact ⟨_, 0, _, rfl, by rw [HV.out]; exact CL.out, by omega, CZ.out⟩
  by_cases hk2 : k = 2
  · subst hk2
    by_cases hN : N = 0
    · subst hN
      have HV := hid (show madeL l 2 0 = votedOut l from by unfold madeL; simp)
      have CF := hid (specVotedOf_any A n c l _ HS.out)
      go_enter Try.func60, Try.ntmps60
      go_wp2_with fail
      with_reducible refine Calls.mono CF.out ?_
      rintro e w1 ⟨A2, m, c2, rfl, o1, hm, b1⟩
      have O1 := hid (own_mono (base' := w.heap.size) o1 (by simp))
      have B1 := hid (HB.out.trans (b1.mono (by simp)))
      clear o1 b1
      go_wp2
      go_ret
      exact ⟨_, m, _, rfl, by rw [HV.out]; exact O1.out, by omega, B1.out⟩
    · have hN' : (N == 0) = false := by simpa using hN
      have HV := hid (show madeL l 2 N = [] from by unfold madeL; simp [hN])
      go_enter Try.func60, Try.ntmps60
      go_wp2
      go_ret
      exact ⟨_, 0, _, rfl, by rw [HV.out]; exact CL.out, by omega, CZ.out⟩
  by_cases hk5 : k = 5
  · subst hk5
    by_cases hN : N = 0
    · subst hN
      have HV := hid (show madeL l 5 0 = freeOut l from by unfold madeL; simp)
      have CF := hid (specFreeAs_any A n c l _ HS.out)
      go_enter Try.func60, Try.ntmps60
      go_wp2_with fail
      with_reducible refine Calls.mono CF.out ?_
      rintro e w1 ⟨A2, m, c2, rfl, o1, hm, b1⟩
      have O1 := hid (own_mono (base' := w.heap.size) o1 (by simp))
      have B1 := hid (HB.out.trans (b1.mono (by simp)))
      clear o1 b1
      go_wp2
      go_ret
      exact ⟨_, m, _, rfl, by rw [HV.out]; exact O1.out, by omega, B1.out⟩
    · have hN' : (N == 0) = false := by simpa using hN
      have HV := hid (show madeL l 5 N = [] from by unfold madeL; simp [hN])
      go_enter Try.func60, Try.ntmps60
      go_wp2
      go_ret
      exact ⟨_, 0, _, rfl, by rw [HV.out]; exact CL.out, by omega, CZ.out⟩
  by_cases hk3 : k = 3
  · subst hk3
    cases hw : within N 0 ((n : Int) - 1) with
    | false =>
      have HV := hid (show madeL l 3 N = [] from by unfold madeL; rw [HL.out, hw]; simp)
      go_enter Try.func60, Try.ntmps60
      go_wp2_with (first
        | (go_at_call 68; refine (l1In_any _ _ _ _).mono ?_; rintro e w' ⟨rfl, rfl⟩))
      go_ret
      exact ⟨_, 0, _, rfl, by rw [HV.out]; exact CL.out, by omega, CZ.out⟩
    | true =>
      have hb := within_iff.1 hw
      obtain ⟨q, rfl⟩ : ∃ q : Nat, N = q := Int.eq_ofNat_of_zero_le hb.1
      have HV := hid (show madeL l 3 (q : Int) = flipL l q from by unfold madeL; rw [HL.out, hw]; simp)
      have hqn : q < n := by omega
      have hqi : (q : Int) < (n : Int) := by omega
      have hq0 : (0 : Int) ≤ (q : Int) := by omega
      obtain ⟨bn, offn, rfl, hbn, _⟩ := HS.out.2.2 (by omega)
      have hb1 := CZ.out
      have hg1 := grown_alloc (w.alloc (.cells #[.int .i64 3, .int .i64 (q : Int)] 45)) (.cells #[] 3) none
      have ho0 := CL.out
      have hs1 := HS.out.on (below_grown hg1)
      obtain ⟨w0, e0⟩ : ∃ W, w.alloc (.cells #[.int .i64 3, .int .i64 (q : Int)] 45) = W := ⟨_, rfl⟩
      rw [e0] at hb1 hg1 ho0 hs1 c0 c1 HB hz
      have hbit := bit_nth hbits q
      obtain ⟨x, hx⟩ : ∃ x, nth l q = x := ⟨_, rfl⟩
      rw [hx] at hbit
      have HX := hid hx
      have w1 : IntKind.i64.wrap (1 - x) = 1 - x := IntWalk.i64_in _ (by omega)
      clear hbits CL CZ
      go_enter Try.func60, Try.ntmps60
      rw [e0] at HS
      go_wp2_with (first
        | (go_at_call 68; refine (l1In_any _ _ _ _).mono ?_; rintro e w' ⟨rfl, rfl⟩)
        | (at_builtin; refine wpList_append_own _ rfl _ _ 23 rfl w.heap.size 3 i0 (.int .i64 0) 1 8 Try.underlying23 hi hz0 hz1 hz2 rfl (by decide) (.slice (some ⟨w.heap.size + 1, 0, none⟩) 0 0) _ _ rfl ho0 ⟨bn, offn, none⟩ n c (ints l) rfl (by rw [List.length_map, HL.out, Nat.mul_one]) hs1.cellsAt (ints_one l) (by simp only [maxLen]; omega) (by omega) hb1.size ?_; intro v2 w2 o2 g2 _; rw [Nat.zero_add, show ints [] ++ ints l = ints l from rfl] at o2; obtain ⟨g, c3, rfl, hbg, hlt2⟩ := own_shape1 o2 (by omega); have x1 := g2.cell (hg1.cell c1 (by simp)) (by simp [Value.ownBlock]); have xq := own_cell o2 HL.out hqn; rw [HX.out] at xq; have fq := o2.frozenAt q))
      go_region
      obtain ⟨p1, p2⟩ := (own_kept_none o2 (drewN_gA w2 1)).stored q (.int .i64 (1 - x))
      rw [ints_set] at p1
      have HE := hid (show l.set q (1 - x) = flipL l q from by unfold flipL; rw [HX.out])
      rw [HE.out] at p1
      have P1 := hid p1
      have PB := hid ((((hb1.grown g2 hb1.size (by intro j hj; simp [Value.ownBlock] at hj; omega)).grown (drewN_gA w2 1) (by have := g2.size; simp at this; omega) (by simp)).grown p2 (by have := g2.size; simp at this; show w.heap.size ≤ w2.heap.size; omega) (by intro j hj; cases hj; exact hbg)))
      clear p1 p2 o2 g2 ho0 hb1 hg1 hs1
      go_wp2
      go_ret
      exact ⟨_, n, _, rfl, by rw [HV.out]; exact P1.out, by omega, PB.out⟩
  by_cases hk4 : k = 4
  · subst hk4
    cases hw : within N 0 ((n : Int) - 1) with
    | false =>
      have HV := hid (show madeL l 4 N = [] from by unfold madeL; rw [HL.out, hw]; simp)
      go_enter Try.func60, Try.ntmps60
      go_wp2_with (first
        | (go_at_call 68; refine (l1In_any _ _ _ _).mono ?_; rintro e w' ⟨rfl, rfl⟩))
      go_ret
      exact ⟨_, 0, _, rfl, by rw [HV.out]; exact CL.out, by omega, CZ.out⟩
    | true =>
      have hb := within_iff.1 hw
      obtain ⟨q, rfl⟩ : ∃ q : Nat, N = q := Int.eq_ofNat_of_zero_le hb.1
      have HV := hid (show madeL l 4 (q : Int) = l.drop q ++ l.take q from by unfold madeL; rw [HL.out, hw]; simp [roundL])
      have hqn : q < n := by omega
      have e1 : (q : Int) ≤ (n : Int) := by omega
      have e2 : (q : Int) ≤ (c : Int) := by omega
      have e3 : (n : Int) ≤ (c : Int) := by omega
      have e4 : q ≤ c := by omega
      have e5 : q ≤ n := by omega
      have e6 : (0 : Int) ≤ (q : Int) := by omega
      obtain ⟨bn, offn, rfl, hbn, _⟩ := HS.out.2.2 (by omega)
      obtain ⟨w0, e0⟩ : ∃ W, w.alloc (.cells #[.int .i64 4, .int .i64 (q : Int)] 45) = W := ⟨_, rfl⟩
      rw [e0] at c0 c1 HB hz HS
      clear hbits CL CZ
      go_enter Try.func60, Try.ntmps60
      go_wp2_with (first
        | (go_at_call 68; refine (l1In_any _ _ _ _).mono ?_; rintro e w' ⟨rfl, rfl⟩))
      have bd := hid (HB.out.trans (((Below.refl w0.heap.size w0).drew).mono HB.out.size))
      have hdd : w0.grownBy w0.drew none := drewN_gA w0 1
      obtain ⟨wd, hwd⟩ : ∃ W, w0.drew = W := ⟨_, rfl⟩
      rw [hwd] at bd hdd
      have hzd := bd.out.size
      have hzw : wd.heap.size = w.heap.size + 1 := by rw [← hwd]; exact hz
      have x0 : wd.cell? ⟨w.heap.size, 1, none⟩ = some (.int .i64 q) := by rw [← hwd]; exact c1
      have ga := grown_alloc wd (.cells #[] 3) none
      have x1 : (wd.alloc (.cells #[] 3)).cell? ⟨w.heap.size, 1, none⟩ = some (.int .i64 q) := ga.cell x0 (by simp)
      have ho0 : (wd.alloc (.cells #[] 3)).ownsRow w.heap.size 3 1 (.slice (some ⟨wd.heap.size, 0, none⟩) 0 0) 0 (ints []) := World.ownsRow_lit wd #[] 0 hzd (by simp [maxLen]) rfl
      have hb0 : Below w.heap.size w (wd.alloc (.cells #[] 3)) := bd.out.alloc hzd _
      have hs1 := (hs.on hb0).dropK e5
      rw [hzw] at ho0
      have hbx : (wd.alloc (.cells #[] 3)).heap[w.heap.size]? = some (.cells #[.int .i64 4, .int .i64 (q : Int)] 45 (0, 0)) := (ga.block w.heap.size (by omega) (by simp)).trans (by rw [← hwd, ← e0]; exact heap_alloc_new w _)
      refine wp_region_held_drew (S := (fun w' => w'.cell? ⟨w.heap.size, 1, none⟩ = some (.int .i64 q))) (by kernel_rfl) (by go_keep) (fun hHeld => ?_)
      rw [hwd] at hHeld ⊢
      refine wpAnyH_take (i := 1) (v := ?v1r) rfl (by kernel_rfl) (by kernel_rfl) (by kernel_rfl) (fun _ _ _ h => h) (Or.inl ⟨by rfl, ?y1r⟩) (by assumption) ?r1r
      case y1r => (intro w hSw; (try dsimp only at hSw); go_simp; try with_reducible rfl)
      try simp only [List.getElem_toArray, List.getElem_cons_zero, List.getElem_cons_succ, Act.put, List.setIfInBounds_toArray, List.set_cons_zero, List.set_cons_succ]
      refine wpAnyH_take (i := 2) (v := ?v2r) rfl (by kernel_rfl) (by kernel_rfl) (by kernel_rfl) (fun _ _ _ h => h) (Or.inl ⟨by rfl, ?y2r⟩) (by assumption) ?r2r
      case y2r => (intro w hSw; (try dsimp only at hSw); go_simp; try with_reducible rfl)
      try simp only [List.getElem_toArray, List.getElem_cons_zero, List.getElem_cons_succ, Act.put, List.setIfInBounds_toArray, List.set_cons_zero, List.set_cons_succ]
      refine wpAnyH_take (i := 3) (v := ?v3r) rfl (by kernel_rfl) (by kernel_rfl) (by kernel_rfl) (fun _ _ _ h => h) (Or.inl ⟨by rfl, ?y3r⟩) (by assumption) ?r3r
      case y3r => (intro w hSw; (try dsimp only at hSw); go_simp; try with_reducible rfl)
      try simp only [List.getElem_toArray, List.getElem_cons_zero, List.getElem_cons_succ, Act.put, List.setIfInBounds_toArray, List.set_cons_zero, List.set_cons_succ]
      refine wpAnyH_take (i := 4) (v := ?v4r) rfl (by kernel_rfl) (by kernel_rfl) (by kernel_rfl) (fun _ _ _ h => h) (Or.inl ⟨by rfl, ?y4r⟩) (by assumption) ?r4r
      case y4r => (intro w hSw; (try dsimp only at hSw); go_simp; try with_reducible rfl)
      try simp only [List.getElem_toArray, List.getElem_cons_zero, List.getElem_cons_succ, Act.put, List.setIfInBounds_toArray, List.set_cons_zero, List.set_cons_succ]
      refine wpAnyH_take (i := 6) (v := ?v6r) rfl (by kernel_rfl) (by kernel_rfl) (by kernel_rfl) (fun _ _ _ h => h) (Or.inl ⟨by rfl, ?y6r⟩) (by assumption) ?r6r
      case y6r => (intro w hSw; (try dsimp only at hSw); go_simp; try with_reducible rfl)
      try simp only [List.getElem_toArray, List.getElem_cons_zero, List.getElem_cons_succ, Act.put, List.setIfInBounds_toArray, List.set_cons_zero, List.set_cons_succ]
      refine wpAnyH_take (i := 7) (v := ?v7r) rfl (by kernel_rfl) (by kernel_rfl) (by kernel_rfl) (fun _ _ _ h => h) (Or.inl ⟨by rfl, ?y7r⟩) (by assumption) ?r7r
      case y7r => (intro w hSw; (try dsimp only at hSw); go_simp; try with_reducible rfl)
      try simp only [List.getElem_toArray, List.getElem_cons_zero, List.getElem_cons_succ, Act.put, List.setIfInBounds_toArray, List.set_cons_zero, List.set_cons_succ]
      refine wpAnyH_take (i := 8) (v := ?v8r) rfl (by kernel_rfl) (by kernel_rfl) (by kernel_rfl) (fun _ _ _ h => h) (Or.inl ⟨by rfl, ?y8r⟩) (by assumption) ?r8r
      case y8r => (intro w hSw; (try dsimp only at hSw); go_simp; try with_reducible rfl)
      try simp only [List.getElem_toArray, List.getElem_cons_zero, List.getElem_cons_succ, Act.put, List.setIfInBounds_toArray, List.set_cons_zero, List.set_cons_succ]
      refine wpAnyH_take (i := 9) (v := ?v9r) rfl (by kernel_rfl) (by kernel_rfl) (by kernel_rfl) (fun _ _ _ h => h) (Or.inl ⟨by rfl, ?y9r⟩) (by assumption) ?r9r
      case y9r => (intro w hSw; (try dsimp only at hSw); go_simp; try with_reducible rfl)
      try simp only [List.getElem_toArray, List.getElem_cons_zero, List.getElem_cons_succ, Act.put, List.setIfInBounds_toArray, List.set_cons_zero, List.set_cons_succ]
      refine wpAnyH_ready (rs := [0]) (by kernel_rfl) (by simp) ?_
      refine AllReadyH.cons rfl (fun Kr hKr => ?_) AllReadyH.nil
      go_simp
      try go_wp2_with fail
      refine hKr.out _ _ x1 (fun hHeld => ?_)
      clear hKr Kr
      try simp only [List.getElem_toArray, List.getElem_cons_zero, List.getElem_cons_succ, Act.put, List.setIfInBounds_toArray, List.set_cons_zero, List.set_cons_succ]
      refine wpAnyH_ready (rs := [5]) (by kernel_rfl) (by simp) ?_
      refine AllReadyH.cons rfl (fun Kr hKr => ?_) AllReadyH.nil
      rw [if_pos (by simp [Region.wanted])]
      refine wp_append_own _ _ _ 23 rfl w.heap.size 3 i0 (.int .i64 0) 1 8 Try.underlying23 hi hz0 hz1 hz2 rfl (by decide) (.slice (some ⟨w.heap.size + 1, 0, none⟩) 0 0) _ _ rfl ho0 ⟨bn, offn + q, none⟩ (n - q) (c - q) (ints (l.drop q)) rfl (by rw [List.length_map, List.length_drop, HL.out, Nat.mul_one]) hs1.cellsAt (ints_one _) (by simp only [maxLen]; omega) (by omega) hb0.size ?_
      intro v2 w2 o2 g2 _
      rw [Nat.zero_add, show ints [] ++ ints (l.drop q) = ints (l.drop q) from rfl] at o2
      obtain ⟨gA, c2, rfl, hbA, hltA⟩ := own_shape1 o2 (by omega)
      have x2 : w2.cell? ⟨w.heap.size, 1, none⟩ = some (.int .i64 q) := g2.cell x1 (by simp [Value.ownBlock])
      have hgz := g2.size
      have hgA : w.heap.size ≠ gA := by
        have := own_blk_ne ((g2.block w.heap.size (by simp; omega) (by simp [Value.ownBlock])).trans hbx) o2 (by decide)
        simpa [Value.ownBlock] using this
      have hb2 := hb0.grown g2 hb0.size (by intro j hj; simp [Value.ownBlock] at hj; omega)
      have hs2 := (hs.on hb2).takeK e5
      clear g2 hb0 ho0 hs1
      refine hKr.out _ _ x2 (fun hHeld => ?_)
      clear hKr Kr
      try simp only [List.getElem_toArray, List.getElem_cons_zero, List.getElem_cons_succ, Act.put, List.setIfInBounds_toArray, List.set_cons_zero, List.set_cons_succ]
      refine wpAnyH_ready (rs := [10]) (by kernel_rfl) (by simp) ?_
      refine AllReadyH.cons rfl (fun Kr hKr => ?_) AllReadyH.nil
      rw [if_pos (by simp [Region.wanted])]
      refine wp_append_own _ _ _ 23 rfl w.heap.size 3 i0 (.int .i64 0) 1 8 Try.underlying23 hi hz0 hz1 hz2 rfl (by decide) (.slice (some ⟨gA, 0, none⟩) (n - q) c2) _ _ rfl o2 ⟨bn, offn, none⟩ q c (ints (l.take q)) rfl (by rw [List.length_map, List.length_take, HL.out, Nat.min_eq_left e5, Nat.mul_one]) hs2.cellsAt (ints_one _) (by simp only [maxLen]; omega) (by omega) hb2.size ?_
      intro v4 w4 o4 g4 _
      obtain ⟨gB, c4, rfl, hbB, hltB⟩ := own_shape1 o4 (by omega)
      have x4 : w4.cell? ⟨w.heap.size, 1, none⟩ = some (.int .i64 q) := g4.cell x2 (by simp [Value.ownBlock]; omega)
      have hb4 := hid (hb2.grown g4 hb2.size (by intro j hj; cases hj; exact hbA))
      rw [show ints (l.drop q) ++ ints (l.take q) = ints (madeL l 4 q) from by rw [HV.out]; simp [ints], show n - q + q = n by omega] at o4
      have O4 := hid o4
      clear g4 o4 o2 hb2 hs2
      refine hKr.out _ _ x4 (fun hHeld => ?_)
      clear hKr Kr
      try simp only [List.getElem_toArray, List.getElem_cons_zero, List.getElem_cons_succ, Act.put, List.setIfInBounds_toArray, List.set_cons_zero, List.set_cons_succ]
      refine wpAnyH_take (i := 11) (v := ?v11r) rfl (by kernel_rfl) (by kernel_rfl) (by kernel_rfl) (fun _ _ _ h => h) (Or.inl ⟨by rfl, ?y11r⟩) (by assumption) ?r11r
      case y11r => (intro w hSw; (try dsimp only at hSw); go_simp; try with_reducible rfl)
      try simp only [List.getElem_toArray, List.getElem_cons_zero, List.getElem_cons_succ, Act.put, List.setIfInBounds_toArray, List.set_cons_zero, List.set_cons_succ]
      refine wpAnyH_done (by kernel_rfl) ?_ _
      go_wp2
      go_ret
      exact ⟨_, n, _, rfl, O4.out, by omega, hb4.out⟩
  have q0 : (k == 0) = false := by simpa using hk0
  have q1 : (k == 1) = false := by simpa using hk1
  have q2 : (k == 2) = false := by simpa using hk2
  have q3 : (k == 3) = false := by simpa using hk3
  have q4 : (k == 4) = false := by simpa using hk4
  have q5 : (k == 5) = false := by simpa using hk5
  have HV := hid (show madeL l k N = [] from by unfold madeL; simp [hk0, hk1, hk2, hk3, hk4, hk5])
  go_enter Try.func60, Try.ntmps60
  go_wp2
  go_ret
  exact ⟨_, 0, _, rfl, by rw [HV.out]; exact CL.out, by omega, CZ.out⟩
end Go.Proofs.Ytkejcajboneniaa
