/-
  The walk of the program's ComesAgain: a map whose keys are rings of bits. No statement is proved here.
-/
import Derived.Test.YthncjopbagkdcaaC10g
import Derived.Test.YthncjopbagkdcaaC10h
import Derived.Test.YthncjopbagkdcaaC10c
import Derived.Maps.OwnSet
import Derived.DeepKeys4
namespace Go.Proofs.Ythncjopbagkdcaa
open Go.RowKit
open Go.Maps
set_option linter.unusedVariables false
set_option linter.unusedSimpArgs false

theorem laidOutR : laidOutB Try.prog = true := by kernel_rfl
theorem wideR : (match Try.prog.underlying 51 with | some (.array _ _) | some (.struct _) => true | _ => false) = true := by kernel_rfl
theorem keyedR : Keyed Try.prog 51 := Keyed.of_law (deep_law_laid laidOutR (m := 3) (by omega) (of_decide_eq_true (by kernel_rfl)) (by kernel_rfl) wideR)
def klit (x n : Nat) : Lit := .string (keyBytes [.int .u64 x, .int .i64 n])
theorem keyR {x n : Nat} (hx : x < 2 ^ 16) (hn : n ≤ 16) : keyOf Try.prog 51 (vot x n) = some (klit x n) := by
  have w1 : (Lit.int .u64 (x : Int)).wf = true := by
    have e : IntKind.u64.min = 0 := by decide
    have e2 : IntKind.u64.max = 18446744073709551615 := by decide
    simp [Lit.wf, e, e2]; omega
  have w2 : (Lit.int .i64 (n : Int)).wf = true := WalkArith.wf_i64 (by omega)
  have h1 : Try.prog.keyType 51 = true := by kernel_rfl
  have h2 : (vot x n).formed Try.prog 51 = true := by kernel_rfl
  have hsz : 2 ≤ Try.prog.types.size := of_decide_eq_true (by kernel_rfl)
  obtain ⟨d, hd⟩ : ∃ d, Try.prog.types.size + 1 = d + 3 := ⟨Try.prog.types.size - 2, by omega⟩
  have c1 : Try.prog.cellsOf 51 = 2 := by kernel_rfl
  have c2 : Try.prog.cellsOf 49 = 2 := by kernel_rfl
  have c3 : Try.prog.cellsOf 3 = 1 := by kernel_rfl
  have c4 : Try.prog.cellsOf 47 = 1 := by kernel_rfl
  unfold keyOf
  rw [Try.underlying51, h1, h2, hd]
  simp [Program.keyLits, Try.underlying51, Try.underlying49, Try.underlying3, Try.underlying47, c1, c2, c3, c4, w1, w2, Value.cells]
  rw [if_pos (by intro i hi; rcases i with _ | _ | i <;> first | (simp; done) | (exfalso; omega))]
  rfl
theorem klit_inj {x y n : Nat} (hx : x < 2 ^ 16) (hy : y < 2 ^ 16) (hn : n ≤ 16) (h : klit x n = klit y n) : x = y := by
  have e := keyedR.inj (keyR hx hn) (by rw [h]; exact keyR hy hn)
  injection e with e
  injection e with e
  injection e with e1 e2
  injection e1 with e3 e4
  omega
theorem pb16 (l : List Int) {n : Nat} (hn : n ≤ 16) : pb l n < 2 ^ 16 := Nat.lt_of_lt_of_le (pb_lt l n) (Nat.pow_le_pow_right (by omega) hn)

/-- The map after so many steps: at each row that was there, at which step. -/
def mapD (l : List Int) (n : Nat) : Nat → DataW Unit
  | 0 => .map []
  | N + 1 => (mapD l n N).put (klit (pb (sumI N l) n) n) (.lit (.int .i64 N))
theorem mapD_is (l : List Int) (n : Nat) : ∀ N, IsMap (mapD l n N)
  | 0 => isMap_empty
  | N + 1 => (mapD_is l n N).put _ _
theorem klit_ne {l : List Int} {n : Nat} (hok : bitsOk l = true) (hl : l.length = n) {i j : Nat} (h : sumI i l ≠ sumI j l) : klit (pb (sumI i l) n) n ≠ klit (pb (sumI j l) n) n := fun e => by
  have h2 : n ≤ 16 := by have := (bitsOk_iff.1 hok).2.2; omega
  exact h (pb_inj (by rw [sumI_len, hl]) (by rw [sumI_len, hl]) (bitsOk_iff.1 (sumI_ok hok i)).1 (bitsOk_iff.1 (sumI_ok hok j)).1 (klit_inj (pb16 _ h2) (pb16 _ h2) h2 e))
theorem key_is {x n : Nat} (hx : x < 2 ^ 16) (hn : n ≤ 16) : WideAt.IsKeyLit (klit x n) := keyedR.key (keyR hx hn)
theorem mapD_at {l : List Int} {n : Nat} (hok : bitsOk l = true) (hl : l.length = n) {j : Nat} (z : DataW Unit) : ∀ {N : Nat}, j < N → (∀ a b, a < b → b < N → sumI a l ≠ sumI b l) → (mapD l n N).atKey (klit (pb (sumI j l) n) n) z = .lit (.int .i64 j)
  | 0, h, _ => absurd h (by omega)
  | N + 1, h, hd => by
    have h2 : n ≤ 16 := by have := (bitsOk_iff.1 hok).2.2; omega
    rcases Nat.lt_or_ge j N with hj | hj
    · rw [mapD, atKey_put_other (klit_ne hok hl (hd j N hj (by omega)))]
      exact mapD_at hok hl z hj fun a b ha hb => hd a b ha (by omega)
    · obtain rfl : j = N := by omega
      rw [mapD, atKey_put_same (mapD_is l n j) (key_is (pb16 _ h2) h2)]
theorem mapD_has {l : List Int} {n : Nat} (hok : bitsOk l = true) (hl : l.length = n) {j : Nat} : ∀ {N : Nat}, (∀ a, a < N → sumI a l ≠ sumI j l) → Maps.has (mapD l n N) (klit (pb (sumI j l) n) n) = false
  | 0, _ => rfl
  | N + 1, hd => by
    rw [mapD, has_put_other (fun e => klit_ne hok hl (hd N (by omega)) e.symm)]
    exact mapD_has hok hl fun a ha => hd a (by omega)
theorem mapD_had {l : List Int} {n : Nat} (hok : bitsOk l = true) (hl : l.length = n) {j : Nat} {N : Nat} (h : j < N) (hd : ∀ a b, a < b → b < N → sumI a l ≠ sumI b l) : Maps.has (mapD l n N) (klit (pb (sumI j l) n) n) = true :=
  has_true_of_atKey fun z => mapD_at hok hl z h hd

theorem grown_below {w w' : World} (h : Below w.heap.size w w') : w.grownBy w' none := ⟨h.os, h.tape, h.output, h.size, fun k hk _ => h.block k hk⟩
theorem zeroInt (w : World) : (zeroValue 3).run Try.prog w = .ok (.int .i64 0) w := by kernel_rfl
theorem lit_int {a b : Int} (h : (DataW.lit (.int .i64 a) : DataW Unit) = .lit (.int .i64 b)) : a = b := by injection h with h; injection h

set_option maxRecDepth 100000 in
set_option maxHeartbeats 6400000 in
theorem implComesAgain_any (A : Option Addr) (n c : Nat) (l : List Int) (w : World) (hs : Sl w w.heap.size A n l) :
    Calls Try.prog 31 #[.slice A n c] w fun e w' => e = .returned (comesOut l) ∧ Below w.heap.size w w' := by
  have HL := hid hs.len
  have CK := hid (bitsI_any A n c l w w.heap.size hs)
  cases hok : bitsOk l with
  | false =>
    have HV := hid (comes_no hok)
    have HO := hid (show comesOut l = .tuple #[.int .i64 (comesN l), .int .i64 (comesM l), .bool false] from by unfold comesOut; rw [hok])
    rw [hok] at CK
    clear hok
    go_enter Try.func31, Try.ntmps31
    go_wp2_with fail
    with_reducible refine Calls.mono CK.out ?_
    rintro e w' ⟨rfl, rfl⟩
    go_wp2
    go_ret3
    exact ⟨by rw [HO.out, HV.out.1, HV.out.2]; rfl, Below.refl _ _⟩
  | true =>
    obtain ⟨hb, h1, h2⟩ := bitsOk_iff.1 hok
    rw [HL.out] at h1 h2
    have HOK := hid hok
    have HO := hid (show comesOut l = .tuple #[.int .i64 (comesN l), .int .i64 (comesM l), .bool true] from by unfold comesOut; rw [hok])
    rw [hok] at CK
    have b0 : Below w.heap.size w (w.alloc (.map #[] 0)) := (Below.refl w.heap.size w).alloc (Nat.le_refl _) _
    have CV := hid (bitRingOf_any A n c l _ (hs.on b0) h2 hb)
    have HB0 := hid b0
    have M0 := World.ownsMap_made (H := Unit) w Try.prog 51 (plainElem Try.prog 3)
    have hmm := @run_makeMap Try.prog
    clear hok b0 hs hb
    go_enter Try.func31, Try.ntmps31
    go_wp2_with fail
    with_reducible refine Calls.mono CK.out ?_
    rintro e w' ⟨rfl, rfl⟩
    go_wp2_with fail
    with_reducible refine Calls.mono CV.out ?_
    rintro e w1 ⟨rfl, b1⟩
    have hz1 : (w.alloc (.map #[] 0)).heap.size = w.heap.size + 1 := by simp
    have hzb := b1.size
    have ga := grown_alloc w1 (.cells #[.int .u64 (pb l n : Nat), .int .i64 n] 51) none
    have M1 := hid (((M0.kept (grown_below b1) (by simp)).alloc (.cells #[.int .u64 (pb l n : Nat), .int .i64 n] 51)))
    rw [hz1] at b1 hzb
    have X1 := hid (Vr.new w1 (pb l n) n)
    have B1 := hid ((HB0.out.trans (b1.mono (by omega))).alloc (by omega) (.cells #[.int .u64 (pb l n : Nat), .int .i64 n] 51))
    have hz2 : (w1.alloc (.cells #[.int .u64 (pb l n : Nat), .int .i64 n] 51)).heap.size = w1.heap.size + 1 := by simp
    clear CV HB0 M0 b1 ga hz1
    go_wp2_with fail
    obtain ⟨b, hb⟩ : ∃ b, w1.heap.size = b := ⟨_, rfl⟩
    obtain ⟨w2, hw2⟩ : ∃ W, w1.alloc (.cells #[.int .u64 (pb l n : Nat), .int .i64 n] 51) = W := ⟨_, rfl⟩
    rw [hb] at X1 hz2 hzb ⊢
    rw [hw2] at X1 B1 M1 hz2 ⊢
    clear hw2 hb
    obtain ⟨x0, hx0⟩ : ∃ x0, pb l n = x0 := ⟨_, rfl⟩
    rw [hx0] at X1 ⊢
    have X2 : Hid (Vr w2 b (pb (sumI 0 l) n) n) := hid (by rw [show pb (sumI 0 l) n = x0 from hx0]; exact X1.out)
    clear X1 hx0
    go_loopw [7] (fun i wr => ∃ N : Nat, i = .int .i64 N ∧ Hid (∀ i j, i < j → j < N → sumI i l ≠ sumI j l) ∧ Hid (Vr wr b (pb (sumI N l) n) n) ∧ Hid (wr.ownsMap Try.prog 51 (plainElem Try.prog 3) w.heap.size N (mapD l n N)) ∧ b < wr.heap.size ∧ Hid (Below w.heap.size w wr)) (fun i _ => 70000 - (intOf i).toNat)
    case atStart => exact ⟨0, rfl, hid (fun i j h3 h4 => by omega), X2, M1, by omega, B1⟩
    case round =>
      clear X2 M1 hz2 B1
      obtain ⟨N, rfl, HD, X, M, hbz, HB⟩ := hrel
      have hN : N ≤ 65536 := by
        rcases Nat.eq_zero_or_pos N with h0 | h0
        · omega
        · have h3 := apart_few HOK.out HD.out
          have h4 := pow16 (n := l.length) (by rw [HL.out]; exact h2)
          omega
      have hown := M.out
      have c0 := X.out.c0
      have c1 := X.out.c1
      have hkey := keyR (n := n) (pb16 (sumI N l) h2) h2
      by_cases hex : ∃ m, m < N ∧ sumI N l = sumI m l
      · obtain ⟨m, hm, hme⟩ := hex
        have hhas := mapD_had HOK.out HL.out hm HD.out
        have hat0 := hid (mapD_at HOK.out HL.out (.lit (.int .i64 0)) hm HD.out)
        have HC := hid (comes_at HOK.out (n := N) (m := m) ⟨hm, hme, HD.out⟩)
        rw [← hme] at hhas hat0
        obtain ⟨x, hx⟩ : ∃ x, pb (sumI N l) n = x := ⟨_, rfl⟩
        rw [hx] at c0 hkey hhas hat0
        clear hx X
        go_wp2_with (at_lookup; refine wpList_lookup_own_ok_int _ rfl _ _ 58 rfl 51 3 .i64 keyedR Try.underlying58 Try.underlying3 (zeroInt _) w.heap.size N (mapD l n N) rfl hown _ _ rfl hkey ?_; intro cc hat hwc)
        have hcc : cc = (m : Int) := lit_int (hat.symm.trans hat0.out)
        go_ret3
        exact ⟨by rw [HO.out, HC.out.1, HC.out.2, hcc]; rfl, HB.out⟩
      · have hne : ∀ a, a < N → sumI a l ≠ sumI N l := fun a ha e => hex ⟨a, ha, e.symm⟩
        have hhas := mapD_has HOK.out HL.out hne
        have HD2 := hid (apart_more HD.out hne)
        have CF := hid (fun W : World => summedFar_any (sumI N l) n 1 W (by rw [sumI_len, HL.out]) h1 h2 (bitsOk_iff.1 (sumI_ok HOK.out N)).1 (by omega))
        rw [far_one (by rw [sumI_len, HL.out]; omega), show sumL (sumI N l) = sumI (N + 1) l from rfl] at CF
        have HPUT := hid (show (mapD l n N).put (klit (pb (sumI N l) n) n) (.lit (.int .i64 N)) = mapD l n (N + 1) from rfl)
        obtain ⟨x, hx⟩ : ∃ x, pb (sumI N l) n = x := ⟨_, rfl⟩
        obtain ⟨y, hy⟩ : ∃ y, pb (sumI (N + 1) l) n = y := ⟨_, rfl⟩
        rw [hx] at c0 hkey hhas HPUT CF X
        rw [hy] at CF
        have HY := hid hy
        have HM := hid hzb
        clear hx hex hne M hy HD
        have hbw : b ≠ w.heap.size := by omega
        go_wp2_with (first
          | (at_lookup; refine wpList_lookup_own_ok_int _ rfl _ _ 58 rfl 51 3 .i64 keyedR Try.underlying58 Try.underlying3 (zeroInt _) w.heap.size N (mapD l n N) rfl hown _ _ rfl hkey ?_; intro cc hat hwc)
          | (at_mapUpdate; refine wpList_mapUpdate_own _ rfl _ _ _ 58 rfl 51 3 keyedR Try.underlying58 _ w.heap.size N _ rfl hown (by unfold maxLen; omega) _ _ _ rfl rfl hkey _ [] (plainElem_int Try.underlying3 (WalkArith.wf_i64 (by omega))) ?_; intro w3 hown3 hg3; have X3 := X.out.on hg3 (by simpa using hbw); have k0 := X3.c0; have k1 := X3.c1))
        with_reducible refine Calls.mono (CF.out _) ?_
        rintro e w4 ⟨rfl, b4⟩
        have hs3 := hg3.size
        have hs4 := b4.size
        have X4 := X3.below b4 (by omega)
        have f0 := X4.fz 0
        have f1 := X4.fz 1
        have j0 := X4.c0
        have j1 := X4.c1
        have M4 := hid (((hown3.kept (grown_below b4) (by simp)).setCell (a := ⟨b, 0, none⟩) (fun e => hbw e.symm) (.int .u64 y)).setCell (a := ⟨b, 1, none⟩) (fun e => hbw e.symm) (.int .i64 n))
        rw [HPUT.out] at M4
        have X5 : Hid (Vr ((w4.setCell ⟨b, 0, none⟩ (.int .u64 y)).setCell ⟨b, 1, none⟩ (.int .i64 n)) b (pb (sumI (N + 1) l) n) n) := hid (by rw [HY.out]; exact X4.set y n)
        have B5 := hid ((((HB.out.grown hg3 HB.out.size (by intro j hj; cases hj; exact Nat.le_refl _)).trans (b4.mono (by omega))).setCell (p := ⟨b, 0, none⟩) (by simp only []; omega) (.int .u64 y)).setCell (p := ⟨b, 1, none⟩) (by simp only []; omega) (.int .i64 n))
        have hz5 : ((w4.setCell ⟨b, 0, none⟩ (.int .u64 y)).setCell ⟨b, 1, none⟩ (.int .i64 n)).heap.size = w4.heap.size := by simp [World.setCell]
        clear hown hown3 hg3 X3 X4 b4 HB X c0 c1 k0 k1 hat hwc hkey hhas
        go_wp2_with fail
        go_roundw
        case rel => exact ⟨N + 1, by go_num, HD2, X5, M4, by omega, B5⟩
        case measure => simp [intOf]; omega
end Go.Proofs.Ythncjopbagkdcaa
