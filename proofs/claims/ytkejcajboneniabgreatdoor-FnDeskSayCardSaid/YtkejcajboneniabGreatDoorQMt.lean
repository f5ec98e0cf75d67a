/-
  Texts put together: T12j Bld T12k T12i. No statement is proved here.
-/
import Derived.Test.YtkejcajboneniabGreatDoorQT12h
import Derived.Test.YtkejcajboneniabGreatDoorShelf
import Derived.Test.YtkejcajboneniabGreatDoorQMd
import Derived.Lib.Builder
import Derived.Lib.AppendStr
import Derived.Lib.AppendIntMem
import Derived.Lib.Strings
import Derived.Lib.Slices
import Derived.Lib.Walk
import Derived.Laws.Externs
import Derived.WalkKit
import Derived.Test.YtkejcajboneniabGreatDoorQMf
import Derived.Test.YtkejcajboneniabGreatDoorQMe
import Derived.Test.YtkejcajboneniabGreatDoorQMq
import Derived.Test.YtkejcajboneniabGreatDoorQMb
import Derived.Test.YtkejcajboneniabGreatDoorQMs
set_option linter.unusedVariables false
set_option linter.unusedSimpArgs false
namespace Go.Proofs.YtkejcajboneniabGreatDoor
open Go.RowKit

theorem pair_set {W : World} {g : Nat} {u v : Value} {t : TypeId} (x y : Value) (h : W.heap[g]? = some (.cells #[u, v] t (0, 0))) : ((W.setCell ⟨g, 0, none⟩ x).setCell ⟨g, 1, none⟩ y).heap[g]? = some (.cells #[x, y] t (0, 0)) :=
  heap_setCell_same _ g 1 _ t y (heap_setCell_same W g 0 _ t x h)
/-- The word and the number of a text, and whether its word is that of a kind, and its deed's text the text. -/
def wordOf (s : List UInt8) : List UInt8 := (cutW s 32).1
def numOf (s : List UInt8) : Int := (numOut (cutW s 32).2.1 99).1
def hitD (s : List UInt8) (j : Nat) : Bool := (wordB j == wordOf s) && (deedB (j : Int) (numOf s) == s)
theorem read_hit {s : List UInt8} {j : Nat} (hj : j < 7) (h : hitD s j = true) : readOut s = some ((j : Int), numOf s) := by
  unfold hitD at h
  rw [Bool.and_eq_true] at h
  have h1 : wordB j = wordOf s := by simpa using h.1
  have h2 : deedP ((j : Int), numOf s) = s := by unfold deedP; simpa using h.2
  have hne : s ≠ [] := by
    intro e
    rw [e] at h1
    have h3 : wordOf [] = [] := by decide
    rw [h3] at h1
    have : ∀ j : Fin 7, wordB j.val ≠ [] := by decide
    exact this ⟨j, hj⟩ h1
  have := read_deed ((j : Int), numOf s) (by rw [h2]; exact hne)
  rw [h2] at this
  exact this
theorem cut_flipW : ∀ n : Fin 100, cutW (flipB ++ num2 n.val) 32 = ([102, 108, 105, 112], num2 n.val, true) := by decide +kernel
theorem cut_roundW : ∀ n : Fin 100, cutW (roundB ++ num2 n.val) 32 = ([114, 111, 117, 110, 100], num2 n.val, true) := by decide +kernel
theorem num_of {s w : List UInt8} {q : Nat} (hq : q < 100) (h : cutW s 32 = (w, num2 q, true)) : numOf s = (q : Int) := by
  unfold numOf
  rw [h, ← numB_two hq, numOut_yes (by omega) (by omega)]
theorem num_zero {s w : List UInt8} (h : cutW s 32 = (w, [], false)) : numOf s = 0 := by
  unfold numOf
  rw [h]
  rfl
theorem read_miss {s : List UInt8} (h : ∀ j, j < 7 → hitD s j = false) : readOut s = none := by
  cases hr : readOut s with
  | none => rfl
  | some a =>
    exfalso
    obtain ⟨h1, hne⟩ := read_text hr
    obtain ⟨k, n⟩ := a
    unfold deedP at h1
    simp only at h1
    have hit : ∀ (j : Nat) (x : Int), j < 7 → k = (j : Int) → wordOf s = wordB j → numOf s = x → n = x → False := by
      intro j x hj hk hw hn hx
      have hf := h j hj
      unfold hitD at hf
      rw [hw, hn, ← hx, ← hk, h1] at hf
      simp at hf
    rcases deedB_form k n with ⟨q, hq, e1, e2, e3⟩ | ⟨q, hq, e1, e2, e3⟩ | ⟨e1, e2⟩ | e
    · have hc : cutW s 32 = ([102, 108, 105, 112], num2 q, true) := by rw [← h1, e3]; exact cut_flipW ⟨q, hq⟩
      exact hit 3 q (by decide) e2 (by unfold wordOf; rw [hc]; rfl) (num_of hq hc) e1
    · have hc : cutW s 32 = ([114, 111, 117, 110, 100], num2 q, true) := by rw [← h1, e3]; exact cut_roundW ⟨q, hq⟩
      exact hit 4 q (by decide) e2 (by unfold wordOf; rw [hc]; rfl) (num_of hq hc) e1
    · rcases e2 with ⟨e2, e3⟩ | ⟨e2, e3⟩ | ⟨e2, e3⟩ | ⟨e2, e3⟩ | ⟨e2, e3⟩
      · have hc : cutW s 32 = (sumsB, [], false) := by rw [← h1, e3]; decide
        exact hit 0 0 (by decide) e2 (by unfold wordOf; rw [hc]; rfl) (num_zero hc) e1
      · have hc : cutW s 32 = (carsB, [], false) := by rw [← h1, e3]; decide
        exact hit 1 0 (by decide) e2 (by unfold wordOf; rw [hc]; rfl) (num_zero hc) e1
      · have hc : cutW s 32 = (votesB, [], false) := by rw [← h1, e3]; decide
        exact hit 2 0 (by decide) e2 (by unfold wordOf; rw [hc]; rfl) (num_zero hc) e1
      · have hc : cutW s 32 = (freeB, [], false) := by rw [← h1, e3]; decide
        exact hit 5 0 (by decide) e2 (by unfold wordOf; rw [hc]; rfl) (num_zero hc) e1
      · have hc : cutW s 32 = (backB, [], false) := by rw [← h1, e3]; decide
        exact hit 6 0 (by decide) e2 (by unfold wordOf; rw [hc]; rfl) (num_zero hc) e1
    · exact hne (by rw [← h1]; exact e)

set_option maxRecDepth 100000 in
set_option maxHeartbeats 6400000 in
theorem implReadDeed_any (s : List UInt8) (hn : s.length ≤ 10000000) (w : World) (hT : TabsL w) :
    Calls Tryz.prog 45 #[encStr s] w fun e w' => e = .returned (readV (readOut s)) ∧ Below w.heap.size w w' := by
  have XA := heap_alloc_new w (.cells #[.int .i64 0, .int .i64 0] 39)
  have B0 := (Below.refl w.heap.size w).alloc (Nat.le_refl _) (.cells #[.int .i64 0, .int .i64 0] 39)
  obtain ⟨w0, e0⟩ : ∃ W, w.alloc (.cells #[.int .i64 0, .int .i64 0] 39) = W := ⟨_, rfl⟩
  have hz0 : w0.heap.size = w.heap.size + 1 := by rw [← e0]; simp
  rw [e0] at XA B0
  have CC := hid (strCut_any s 32 w0 (by omega))
  have hc2 : (cutW s 32).2.1.length ≤ 10000000 := by
    unfold cutW
    split
    · show (s.drop _).length ≤ _; rw [List.length_drop]; omega
    · show ([] : List UInt8).length ≤ _; simp
  have CN := hid (fun (W : World) (hW : Below w.heap.size w W) => numberOf_any (cutW s 32).2.1 99 W (by omega) (by omega) (hT.below hW))
  have HWD := hid (show wordOf s = (cutW s 32).1 from rfl)
  have HNM := hid (show numOf s = (numOut (cutW s 32).2.1 99).1 from rfl)
  have HXA := hid XA
  have HB0 := hid B0
  have HTT := hid (fun (W : World) (hW : Below w.heap.size w W) => hT.below hW)
  clear XA B0 hc2
  obtain ⟨word, hword⟩ : ∃ x, (cutW s 32).1 = x := ⟨_, rfl⟩
  obtain ⟨rest, hrest⟩ : ∃ x, (cutW s 32).2.1 = x := ⟨_, rfl⟩
  obtain ⟨spaced, hspaced⟩ : ∃ x, (cutW s 32).2.2 = x := ⟨_, rfl⟩
  rw [hword, hrest, hspaced] at CC
  rw [hrest] at CN HNM
  rw [hword] at HWD
  obtain ⟨nn, hnn⟩ : ∃ x, (numOut rest 99).1 = x := ⟨_, rfl⟩
  obtain ⟨tt, htt⟩ : ∃ x, (numOut rest 99).2 = x := ⟨_, rfl⟩
  rw [hnn, htt] at CN
  rw [hnn] at HNM
  clear hword hrest hspaced hnn htt
  go_enter Tryz.func45, Tryz.ntmps45
  go_wp2_with fail
  with_reducible refine Calls.mono CC.out ?_
  rintro e w1 ⟨rfl, b1⟩
  have HB1 := hid (HB0.out.trans (b1.mono (by omega)))
  have HX1 := hid ((b1.block w.heap.size (by omega)).trans HXA.out)
  have hz1 := b1.size
  clear b1 e0
  go_wp2_with fail
  with_reducible refine Calls.mono (CN.out _ HB1.out) ?_
  rintro e w2 ⟨rfl, b2⟩
  have HB2 := hid (HB1.out.trans (b2.mono (by omega)))
  have HX2 := hid ((b2.block w.heap.size (by omega)).trans HX1.out)
  have hz2 := b2.size
  have T2 := HTT.out _ HB2.out
  have d0 := T2.d 0 (by decide)
  have d1 := T2.d 1 (by decide)
  have d2 := T2.d 2 (by decide)
  have d3 := T2.d 3 (by decide)
  have d4 := T2.d 4 (by decide)
  have d5 := T2.d 5 (by decide)
  have d6 := T2.d 6 (by decide)
  clear b2 T2
  go_wp2
  clear d0 d1 d2 d3 d4 d5 d6
  go_loopw [24] (fun i wr => ∃ k : Nat, i = .int .i64 k ∧ k ≤ 7 ∧ Hid (∀ j, j < k → hitD s j = false) ∧ Hid (Below w.heap.size w wr) ∧ w.heap.size + 1 ≤ wr.heap.size ∧ Hid (wr.heap[w.heap.size]? = some (.cells #[.int .i64 0, .int .i64 0] 39 (0, 0)))) (fun i _ => 7 - (intOf i).toNat)
  case atStart => exact ⟨0, rfl, by omega, hid (fun j hj => absurd hj (by omega)), HB2, by omega, HX2⟩
  case round =>
    clear HB1 HX1 hz1 HB2 HX2 hz2
    obtain ⟨k, rfl, hk, HA, BB, hwz, HX⟩ := hrel
    by_cases hlt : k < 7
    · have hk7 : k = 0 ∨ k = 1 ∨ k = 2 ∨ k = 3 ∨ k = 4 ∨ k = 5 ∨ k = 6 := by omega
      rcases hk7 with rfl | rfl | rfl | rfl | rfl | rfl | rfl
      · have HA2 := hid (fun (hf : hitD s 0 = false) => show ∀ j, j < 0 + 1 → hitD s j = false from fun j hj => by
          by_cases h1 : j < 0
          · exact HA.out j h1
          · obtain rfl : j = 0 := by omega
            exact hf)
        have B3 := BB.out.alloc (by omega) (.cells #[.int .i64 0, .int .i64 nn] 39)
        have g3 := (Below.refl wr.heap.size wr).alloc (Nat.le_refl _) (.cells #[.int .i64 0, .int .i64 nn] 39)
        have X3 := heap_alloc_new wr (.cells #[.int .i64 0, .int .i64 nn] 39)
        have XR := (g3.block w.heap.size (by omega)).trans HX.out
        obtain ⟨w3, e3⟩ : ∃ W, wr.alloc (.cells #[.int .i64 0, .int .i64 nn] 39) = W := ⟨_, rfl⟩
        have hz3 : w3.heap.size = wr.heap.size + 1 := by rw [← e3]; simp
        rw [e3] at B3 X3 XR g3
        have x0 : w3.cell? ⟨wr.heap.size, 0, none⟩ = some (.int .i64 0) := cell_of_row _ _ 0 _ _ _ X3
        have x1 : w3.cell? ⟨wr.heap.size, 1, none⟩ = some (.int .i64 nn) := cell_of_row _ _ 1 _ _ _ X3
        have HB3 := hid B3
        have HX3 := hid X3
        have HXR3 := hid XR
        have xi : ∀ W : World, (Instr.index 77 (.agg #[encStr (wordB 0), encStr (wordB 1), encStr (wordB 2), encStr (wordB 3), encStr (wordB 4), encStr (wordB 5), encStr (wordB 6)]) (.int .i64 0)).run Tryz.prog W = .ok (encStr (wordB 0)) W := fun _ => by kernel_rfl
        (try simp only [show ((0 : Nat) : Int) = 0 from rfl])
        clear B3 g3 X3 XR
        cases hw : (wordB 0 == word) with
        | false =>
          have hne : ¬ wordB 0 = word := by simpa using hw
          have hne2 : ¬ ((⟨(wordB 0).toArray⟩ : ByteArray) = ⟨word.toArray⟩) := by
            intro h
            injection h with h
            exact hne (by simpa using h)
          have HF := hid (HA2.out (by unfold hitD; rw [HWD.out, hw]; rfl))
          clear HA2 x0 x1
          go_wp2
          go_roundw
          case rel => exact ⟨0 + 1, by go_num, by omega, HF, HB3, by omega, HXR3⟩
          case measure => simp [intOf]
        | true =>
          have hwe : wordB 0 = word := by simpa using hw
          subst hwe
          clear hw
          have CT := hid (implDeedText_any 0 nn w3 (HTT.out _ HB3.out).D)
          cases ht : (deedB 0 nn == s) with
          | false =>
            have hne : ¬ deedB 0 nn = s := by simpa using ht
            have hne2 : ¬ ((⟨(deedB 0 nn).toArray⟩ : ByteArray) = ⟨s.toArray⟩) := by
              intro h
              injection h with h
              exact hne (by simpa using h)
            have HF := hid (HA2.out (by
              unfold hitD
              rw [HNM.out, show (((0 : Nat) : Int)) = 0 from rfl, ht, Bool.and_false]))
            clear HA2
            go_wp2_with fail
            with_reducible refine Calls.mono CT.out ?_
            rintro e w4 ⟨rfl, b4⟩
            have HB4 := hid (HB3.out.trans (b4.mono (by omega)))
            have HXR4 := hid ((b4.block w.heap.size (by omega)).trans HXR3.out)
            have hz4 := b4.size
            clear b4 x0 x1
            go_wp2
            go_roundw
            case rel => exact ⟨0 + 1, by go_num, by omega, HF, HB4, by omega, HXR4⟩
            case measure => simp [intOf]
          | true =>
            have hte : deedB 0 nn = s := by simpa using ht
            have HV := hid (show readV (readOut s) = .tuple #[deedV (0, nn), .bool true] from by
              rw [read_hit (j := 0) (by decide) (by unfold hitD; rw [HWD.out, HNM.out, show (((0 : Nat) : Int)) = 0 from rfl, ht]; simp), HNM.out]
              rfl)
            rw [hte] at CT
            clear HA2 ht hte
            go_wp2_with fail
            with_reducible refine Calls.mono CT.out ?_
            rintro e w4 ⟨rfl, b4⟩
            have HB4 := hid (HB3.out.trans (b4.mono (by omega)))
            have XR4 := (b4.block w.heap.size (by omega)).trans HXR3.out
            have X4 := (b4.block wr.heap.size (by omega)).trans HX3.out
            have y0 : w4.cell? ⟨wr.heap.size, 0, none⟩ = some (.int .i64 0) := cell_of_row _ _ 0 _ _ _ X4
            have y1 : w4.cell? ⟨wr.heap.size, 1, none⟩ = some (.int .i64 nn) := cell_of_row _ _ 1 _ _ _ X4
            have r0 : w4.cell? ⟨w.heap.size, 0, none⟩ = some (.int .i64 0) := cell_of_row _ _ 0 _ _ _ XR4
            have r1 : w4.cell? ⟨w.heap.size, 1, none⟩ = some (.int .i64 0) := cell_of_row _ _ 1 _ _ _ XR4
            have rf0 := frozen_of_row w4 w.heap.size 0 _ _ XR4
            have rf1 := frozen_of_row w4 w.heap.size 1 _ _ XR4
            have XQ := hid (pair_set (.int .i64 0) (.int .i64 nn) XR4)
            clear b4 x0 x1 XR4 X4
            go_wp2
            (try simp only [Exit.inBlock, Exit.then])
            refine bodyPost_ret (results_kk rfl _ _ w.heap.size 39 _ (0, 0) _ (by simp [Act.put]) XQ.out Tryz.underlying39 rfl (by kernel_rfl)) rfl ?_
            exact ⟨by rw [HV.out]; rfl, (HB4.out.setCell (p := ⟨w.heap.size, 0, none⟩) (Nat.le_refl _) _).setCell (p := ⟨w.heap.size, 1, none⟩) (Nat.le_refl _) _⟩
      · have HA2 := hid (fun (hf : hitD s 1 = false) => show ∀ j, j < 1 + 1 → hitD s j = false from fun j hj => by
          by_cases h1 : j < 1
          · exact HA.out j h1
          · obtain rfl : j = 1 := by omega
            exact hf)
        have B3 := BB.out.alloc (by omega) (.cells #[.int .i64 1, .int .i64 nn] 39)
        have g3 := (Below.refl wr.heap.size wr).alloc (Nat.le_refl _) (.cells #[.int .i64 1, .int .i64 nn] 39)
        have X3 := heap_alloc_new wr (.cells #[.int .i64 1, .int .i64 nn] 39)
        have XR := (g3.block w.heap.size (by omega)).trans HX.out
        obtain ⟨w3, e3⟩ : ∃ W, wr.alloc (.cells #[.int .i64 1, .int .i64 nn] 39) = W := ⟨_, rfl⟩
        have hz3 : w3.heap.size = wr.heap.size + 1 := by rw [← e3]; simp
        rw [e3] at B3 X3 XR g3
        have x0 : w3.cell? ⟨wr.heap.size, 0, none⟩ = some (.int .i64 1) := cell_of_row _ _ 0 _ _ _ X3
        have x1 : w3.cell? ⟨wr.heap.size, 1, none⟩ = some (.int .i64 nn) := cell_of_row _ _ 1 _ _ _ X3
        have HB3 := hid B3
        have HX3 := hid X3
        have HXR3 := hid XR
        have xi : ∀ W : World, (Instr.index 77 (.agg #[encStr (wordB 0), encStr (wordB 1), encStr (wordB 2), encStr (wordB 3), encStr (wordB 4), encStr (wordB 5), encStr (wordB 6)]) (.int .i64 1)).run Tryz.prog W = .ok (encStr (wordB 1)) W := fun _ => by kernel_rfl
        (try simp only [show ((1 : Nat) : Int) = 1 from rfl])
        clear B3 g3 X3 XR
        cases hw : (wordB 1 == word) with
        | false =>
          have hne : ¬ wordB 1 = word := by simpa using hw
          have hne2 : ¬ ((⟨(wordB 1).toArray⟩ : ByteArray) = ⟨word.toArray⟩) := by
            intro h
            injection h with h
            exact hne (by simpa using h)
          have HF := hid (HA2.out (by unfold hitD; rw [HWD.out, hw]; rfl))
          clear HA2 x0 x1
          go_wp2
          go_roundw
          case rel => exact ⟨1 + 1, by go_num, by omega, HF, HB3, by omega, HXR3⟩
          case measure => simp [intOf]
        | true =>
          have hwe : wordB 1 = word := by simpa using hw
          subst hwe
          clear hw
          have CT := hid (implDeedText_any 1 nn w3 (HTT.out _ HB3.out).D)
          cases ht : (deedB 1 nn == s) with
          | false =>
            have hne : ¬ deedB 1 nn = s := by simpa using ht
            have hne2 : ¬ ((⟨(deedB 1 nn).toArray⟩ : ByteArray) = ⟨s.toArray⟩) := by
              intro h
              injection h with h
              exact hne (by simpa using h)
            have HF := hid (HA2.out (by
              unfold hitD
              rw [HNM.out, show (((1 : Nat) : Int)) = 1 from rfl, ht, Bool.and_false]))
            clear HA2
            go_wp2_with fail
            with_reducible refine Calls.mono CT.out ?_
            rintro e w4 ⟨rfl, b4⟩
            have HB4 := hid (HB3.out.trans (b4.mono (by omega)))
            have HXR4 := hid ((b4.block w.heap.size (by omega)).trans HXR3.out)
            have hz4 := b4.size
            clear b4 x0 x1
            go_wp2
            go_roundw
            case rel => exact ⟨1 + 1, by go_num, by omega, HF, HB4, by omega, HXR4⟩
            case measure => simp [intOf]
          | true =>
            have hte : deedB 1 nn = s := by simpa using ht
            have HV := hid (show readV (readOut s) = .tuple #[deedV (1, nn), .bool true] from by
              rw [read_hit (j := 1) (by decide) (by unfold hitD; rw [HWD.out, HNM.out, show (((1 : Nat) : Int)) = 1 from rfl, ht]; simp), HNM.out]
              rfl)
            rw [hte] at CT
            clear HA2 ht hte
            go_wp2_with fail
            with_reducible refine Calls.mono CT.out ?_
            rintro e w4 ⟨rfl, b4⟩
            have HB4 := hid (HB3.out.trans (b4.mono (by omega)))
            have XR4 := (b4.block w.heap.size (by omega)).trans HXR3.out
            have X4 := (b4.block wr.heap.size (by omega)).trans HX3.out
            have y0 : w4.cell? ⟨wr.heap.size, 0, none⟩ = some (.int .i64 1) := cell_of_row _ _ 0 _ _ _ X4
            have y1 : w4.cell? ⟨wr.heap.size, 1, none⟩ = some (.int .i64 nn) := cell_of_row _ _ 1 _ _ _ X4
            have r0 : w4.cell? ⟨w.heap.size, 0, none⟩ = some (.int .i64 0) := cell_of_row _ _ 0 _ _ _ XR4
            have r1 : w4.cell? ⟨w.heap.size, 1, none⟩ = some (.int .i64 0) := cell_of_row _ _ 1 _ _ _ XR4
            have rf0 := frozen_of_row w4 w.heap.size 0 _ _ XR4
            have rf1 := frozen_of_row w4 w.heap.size 1 _ _ XR4
            have XQ := hid (pair_set (.int .i64 1) (.int .i64 nn) XR4)
            clear b4 x0 x1 XR4 X4
            go_wp2
            (try simp only [Exit.inBlock, Exit.then])
            refine bodyPost_ret (results_kk rfl _ _ w.heap.size 39 _ (0, 0) _ (by simp [Act.put]) XQ.out Tryz.underlying39 rfl (by kernel_rfl)) rfl ?_
            exact ⟨by rw [HV.out]; rfl, (HB4.out.setCell (p := ⟨w.heap.size, 0, none⟩) (Nat.le_refl _) _).setCell (p := ⟨w.heap.size, 1, none⟩) (Nat.le_refl _) _⟩
      · have HA2 := hid (fun (hf : hitD s 2 = false) => show ∀ j, j < 2 + 1 → hitD s j = false from fun j hj => by
          by_cases h1 : j < 2
          · exact HA.out j h1
          · obtain rfl : j = 2 := by omega
            exact hf)
        have B3 := BB.out.alloc (by omega) (.cells #[.int .i64 2, .int .i64 nn] 39)
        have g3 := (Below.refl wr.heap.size wr).alloc (Nat.le_refl _) (.cells #[.int .i64 2, .int .i64 nn] 39)
        have X3 := heap_alloc_new wr (.cells #[.int .i64 2, .int .i64 nn] 39)
        have XR := (g3.block w.heap.size (by omega)).trans HX.out
        obtain ⟨w3, e3⟩ : ∃ W, wr.alloc (.cells #[.int .i64 2, .int .i64 nn] 39) = W := ⟨_, rfl⟩
        have hz3 : w3.heap.size = wr.heap.size + 1 := by rw [← e3]; simp
        rw [e3] at B3 X3 XR g3
        have x0 : w3.cell? ⟨wr.heap.size, 0, none⟩ = some (.int .i64 2) := cell_of_row _ _ 0 _ _ _ X3
        have x1 : w3.cell? ⟨wr.heap.size, 1, none⟩ = some (.int .i64 nn) := cell_of_row _ _ 1 _ _ _ X3
        have HB3 := hid B3
        have HX3 := hid X3
        have HXR3 := hid XR
        have xi : ∀ W : World, (Instr.index 77 (.agg #[encStr (wordB 0), encStr (wordB 1), encStr (wordB 2), encStr (wordB 3), encStr (wordB 4), encStr (wordB 5), encStr (wordB 6)]) (.int .i64 2)).run Tryz.prog W = .ok (encStr (wordB 2)) W := fun _ => by kernel_rfl
        (try simp only [show ((2 : Nat) : Int) = 2 from rfl])
        clear B3 g3 X3 XR
        cases hw : (wordB 2 == word) with
        | false =>
          have hne : ¬ wordB 2 = word := by simpa using hw
          have hne2 : ¬ ((⟨(wordB 2).toArray⟩ : ByteArray) = ⟨word.toArray⟩) := by
            intro h
            injection h with h
            exact hne (by simpa using h)
          have HF := hid (HA2.out (by unfold hitD; rw [HWD.out, hw]; rfl))
          clear HA2 x0 x1
          go_wp2
          go_roundw
          case rel => exact ⟨2 + 1, by go_num, by omega, HF, HB3, by omega, HXR3⟩
          case measure => simp [intOf]
        | true =>
          have hwe : wordB 2 = word := by simpa using hw
          subst hwe
          clear hw
          have CT := hid (implDeedText_any 2 nn w3 (HTT.out _ HB3.out).D)
          cases ht : (deedB 2 nn == s) with
          | false =>
            have hne : ¬ deedB 2 nn = s := by simpa using ht
            have hne2 : ¬ ((⟨(deedB 2 nn).toArray⟩ : ByteArray) = ⟨s.toArray⟩) := by
              intro h
              injection h with h
              exact hne (by simpa using h)
            have HF := hid (HA2.out (by
              unfold hitD
              rw [HNM.out, show (((2 : Nat) : Int)) = 2 from rfl, ht, Bool.and_false]))
            clear HA2
            go_wp2_with fail
            with_reducible refine Calls.mono CT.out ?_
            rintro e w4 ⟨rfl, b4⟩
            have HB4 := hid (HB3.out.trans (b4.mono (by omega)))
            have HXR4 := hid ((b4.block w.heap.size (by omega)).trans HXR3.out)
            have hz4 := b4.size
            clear b4 x0 x1
            go_wp2
            go_roundw
            case rel => exact ⟨2 + 1, by go_num, by omega, HF, HB4, by omega, HXR4⟩
            case measure => simp [intOf]
          | true =>
            have hte : deedB 2 nn = s := by simpa using ht
            have HV := hid (show readV (readOut s) = .tuple #[deedV (2, nn), .bool true] from by
              rw [read_hit (j := 2) (by decide) (by unfold hitD; rw [HWD.out, HNM.out, show (((2 : Nat) : Int)) = 2 from rfl, ht]; simp), HNM.out]
              rfl)
            rw [hte] at CT
            clear HA2 ht hte
            go_wp2_with fail
            with_reducible refine Calls.mono CT.out ?_
            rintro e w4 ⟨rfl, b4⟩
            have HB4 := hid (HB3.out.trans (b4.mono (by omega)))
            have XR4 := (b4.block w.heap.size (by omega)).trans HXR3.out
            have X4 := (b4.block wr.heap.size (by omega)).trans HX3.out
            have y0 : w4.cell? ⟨wr.heap.size, 0, none⟩ = some (.int .i64 2) := cell_of_row _ _ 0 _ _ _ X4
            have y1 : w4.cell? ⟨wr.heap.size, 1, none⟩ = some (.int .i64 nn) := cell_of_row _ _ 1 _ _ _ X4
            have r0 : w4.cell? ⟨w.heap.size, 0, none⟩ = some (.int .i64 0) := cell_of_row _ _ 0 _ _ _ XR4
            have r1 : w4.cell? ⟨w.heap.size, 1, none⟩ = some (.int .i64 0) := cell_of_row _ _ 1 _ _ _ XR4
            have rf0 := frozen_of_row w4 w.heap.size 0 _ _ XR4
            have rf1 := frozen_of_row w4 w.heap.size 1 _ _ XR4
            have XQ := hid (pair_set (.int .i64 2) (.int .i64 nn) XR4)
            clear b4 x0 x1 XR4 X4
            go_wp2
            (try simp only [Exit.inBlock, Exit.then])
            refine bodyPost_ret (results_kk rfl _ _ w.heap.size 39 _ (0, 0) _ (by simp [Act.put]) XQ.out Tryz.underlying39 rfl (by kernel_rfl)) rfl ?_
            exact ⟨by rw [HV.out]; rfl, (HB4.out.setCell (p := ⟨w.heap.size, 0, none⟩) (Nat.le_refl _) _).setCell (p := ⟨w.heap.size, 1, none⟩) (Nat.le_refl _) _⟩
      · have HA2 := hid (fun (hf : hitD s 3 = false) => show ∀ j, j < 3 + 1 → hitD s j = false from fun j hj => by
          by_cases h1 : j < 3
          · exact HA.out j h1
          · obtain rfl : j = 3 := by omega
            exact hf)
        have B3 := BB.out.alloc (by omega) (.cells #[.int .i64 3, .int .i64 nn] 39)
        have g3 := (Below.refl wr.heap.size wr).alloc (Nat.le_refl _) (.cells #[.int .i64 3, .int .i64 nn] 39)
        have X3 := heap_alloc_new wr (.cells #[.int .i64 3, .int .i64 nn] 39)
        have XR := (g3.block w.heap.size (by omega)).trans HX.out
        obtain ⟨w3, e3⟩ : ∃ W, wr.alloc (.cells #[.int .i64 3, .int .i64 nn] 39) = W := ⟨_, rfl⟩
        have hz3 : w3.heap.size = wr.heap.size + 1 := by rw [← e3]; simp
        rw [e3] at B3 X3 XR g3
        have x0 : w3.cell? ⟨wr.heap.size, 0, none⟩ = some (.int .i64 3) := cell_of_row _ _ 0 _ _ _ X3
        have x1 : w3.cell? ⟨wr.heap.size, 1, none⟩ = some (.int .i64 nn) := cell_of_row _ _ 1 _ _ _ X3
        have HB3 := hid B3
        have HX3 := hid X3
        have HXR3 := hid XR
        have xi : ∀ W : World, (Instr.index 77 (.agg #[encStr (wordB 0), encStr (wordB 1), encStr (wordB 2), encStr (wordB 3), encStr (wordB 4), encStr (wordB 5), encStr (wordB 6)]) (.int .i64 3)).run Tryz.prog W = .ok (encStr (wordB 3)) W := fun _ => by kernel_rfl
        (try simp only [show ((3 : Nat) : Int) = 3 from rfl])
        clear B3 g3 X3 XR
        cases hw : (wordB 3 == word) with
        | false =>
          have hne : ¬ wordB 3 = word := by simpa using hw
          have hne2 : ¬ ((⟨(wordB 3).toArray⟩ : ByteArray) = ⟨word.toArray⟩) := by
            intro h
            injection h with h
            exact hne (by simpa using h)
          have HF := hid (HA2.out (by unfold hitD; rw [HWD.out, hw]; rfl))
          clear HA2 x0 x1
          go_wp2
          go_roundw
          case rel => exact ⟨3 + 1, by go_num, by omega, HF, HB3, by omega, HXR3⟩
          case measure => simp [intOf]
        | true =>
          have hwe : wordB 3 = word := by simpa using hw
          subst hwe
          clear hw
          have CT := hid (implDeedText_any 3 nn w3 (HTT.out _ HB3.out).D)
          cases ht : (deedB 3 nn == s) with
          | false =>
            have hne : ¬ deedB 3 nn = s := by simpa using ht
            have hne2 : ¬ ((⟨(deedB 3 nn).toArray⟩ : ByteArray) = ⟨s.toArray⟩) := by
              intro h
              injection h with h
              exact hne (by simpa using h)
            have HF := hid (HA2.out (by
              unfold hitD
              rw [HNM.out, show (((3 : Nat) : Int)) = 3 from rfl, ht, Bool.and_false]))
            clear HA2
            go_wp2_with fail
            with_reducible refine Calls.mono CT.out ?_
            rintro e w4 ⟨rfl, b4⟩
            have HB4 := hid (HB3.out.trans (b4.mono (by omega)))
            have HXR4 := hid ((b4.block w.heap.size (by omega)).trans HXR3.out)
            have hz4 := b4.size
            clear b4 x0 x1
            go_wp2
            go_roundw
            case rel => exact ⟨3 + 1, by go_num, by omega, HF, HB4, by omega, HXR4⟩
            case measure => simp [intOf]
          | true =>
            have hte : deedB 3 nn = s := by simpa using ht
            have HV := hid (show readV (readOut s) = .tuple #[deedV (3, nn), .bool true] from by
              rw [read_hit (j := 3) (by decide) (by unfold hitD; rw [HWD.out, HNM.out, show (((3 : Nat) : Int)) = 3 from rfl, ht]; simp), HNM.out]
              rfl)
            rw [hte] at CT
            clear HA2 ht hte
            go_wp2_with fail
            with_reducible refine Calls.mono CT.out ?_
            rintro e w4 ⟨rfl, b4⟩
            have HB4 := hid (HB3.out.trans (b4.mono (by omega)))
            have XR4 := (b4.block w.heap.size (by omega)).trans HXR3.out
            have X4 := (b4.block wr.heap.size (by omega)).trans HX3.out
            have y0 : w4.cell? ⟨wr.heap.size, 0, none⟩ = some (.int .i64 3) := cell_of_row _ _ 0 _ _ _ X4
            have y1 : w4.cell? ⟨wr.heap.size, 1, none⟩ = some (.int .i64 nn) := cell_of_row _ _ 1 _ _ _ X4
            have r0 : w4.cell? ⟨w.heap.size, 0, none⟩ = some (.int .i64 0) := cell_of_row _ _ 0 _ _ _ XR4
            have r1 : w4.cell? ⟨w.heap.size, 1, none⟩ = some (.int .i64 0) := cell_of_row _ _ 1 _ _ _ XR4
            have rf0 := frozen_of_row w4 w.heap.size 0 _ _ XR4
            have rf1 := frozen_of_row w4 w.heap.size 1 _ _ XR4
            have XQ := hid (pair_set (.int .i64 3) (.int .i64 nn) XR4)
            clear b4 x0 x1 XR4 X4
            go_wp2
            (try simp only [Exit.inBlock, Exit.then])
            refine bodyPost_ret (results_kk rfl _ _ w.heap.size 39 _ (0, 0) _ (by simp [Act.put]) XQ.out Tryz.underlying39 rfl (by kernel_rfl)) rfl ?_
            exact ⟨by rw [HV.out]; rfl, (HB4.out.setCell (p := ⟨w.heap.size, 0, none⟩) (Nat.le_refl _) _).setCell (p := ⟨w.heap.size, 1, none⟩) (Nat.le_refl _) _⟩
      · have HA2 := hid (fun (hf : hitD s 4 = false) => show ∀ j, j < 4 + 1 → hitD s j = false from fun j hj => by
          by_cases h1 : j < 4
          · exact HA.out j h1
          · obtain rfl : j = 4 := by omega
            exact hf)
        have B3 := BB.out.alloc (by omega) (.cells #[.int .i64 4, .int .i64 nn] 39)
        have g3 := (Below.refl wr.heap.size wr).alloc (Nat.le_refl _) (.cells #[.int .i64 4, .int .i64 nn] 39)
        have X3 := heap_alloc_new wr (.cells #[.int .i64 4, .int .i64 nn] 39)
        have XR := (g3.block w.heap.size (by omega)).trans HX.out
        obtain ⟨w3, e3⟩ : ∃ W, wr.alloc (.cells #[.int .i64 4, .int .i64 nn] 39) = W := ⟨_, rfl⟩
        have hz3 : w3.heap.size = wr.heap.size + 1 := by rw [← e3]; simp
        rw [e3] at B3 X3 XR g3
        have x0 : w3.cell? ⟨wr.heap.size, 0, none⟩ = some (.int .i64 4) := cell_of_row _ _ 0 _ _ _ X3
        have x1 : w3.cell? ⟨wr.heap.size, 1, none⟩ = some (.int .i64 nn) := cell_of_row _ _ 1 _ _ _ X3
        have HB3 := hid B3
        have HX3 := hid X3
        have HXR3 := hid XR
        have xi : ∀ W : World, (Instr.index 77 (.agg #[encStr (wordB 0), encStr (wordB 1), encStr (wordB 2), encStr (wordB 3), encStr (wordB 4), encStr (wordB 5), encStr (wordB 6)]) (.int .i64 4)).run Tryz.prog W = .ok (encStr (wordB 4)) W := fun _ => by kernel_rfl
        (try simp only [show ((4 : Nat) : Int) = 4 from rfl])
        clear B3 g3 X3 XR
        cases hw : (wordB 4 == word) with
        | false =>
          have hne : ¬ wordB 4 = word := by simpa using hw
          have hne2 : ¬ ((⟨(wordB 4).toArray⟩ : ByteArray) = ⟨word.toArray⟩) := by
            intro h
            injection h with h
            exact hne (by simpa using h)
          have HF := hid (HA2.out (by unfold hitD; rw [HWD.out, hw]; rfl))
          clear HA2 x0 x1
          go_wp2
          go_roundw
          case rel => exact ⟨4 + 1, by go_num, by omega, HF, HB3, by omega, HXR3⟩
          case measure => simp [intOf]
        | true =>
          have hwe : wordB 4 = word := by simpa using hw
          subst hwe
          clear hw
          have CT := hid (implDeedText_any 4 nn w3 (HTT.out _ HB3.out).D)
          cases ht : (deedB 4 nn == s) with
          | false =>
            have hne : ¬ deedB 4 nn = s := by simpa using ht
            have hne2 : ¬ ((⟨(deedB 4 nn).toArray⟩ : ByteArray) = ⟨s.toArray⟩) := by
              intro h
              injection h with h
              exact hne (by simpa using h)
            have HF := hid (HA2.out (by
              unfold hitD
              rw [HNM.out, show (((4 : Nat) : Int)) = 4 from rfl, ht, Bool.and_false]))
            clear HA2
            go_wp2_with fail
            with_reducible refine Calls.mono CT.out ?_
            rintro e w4 ⟨rfl, b4⟩
            have HB4 := hid (HB3.out.trans (b4.mono (by omega)))
            have HXR4 := hid ((b4.block w.heap.size (by omega)).trans HXR3.out)
            have hz4 := b4.size
            clear b4 x0 x1
            go_wp2
            go_roundw
            case rel => exact ⟨4 + 1, by go_num, by omega, HF, HB4, by omega, HXR4⟩
            case measure => simp [intOf]
          | true =>
            have hte : deedB 4 nn = s := by simpa using ht
            have HV := hid (show readV (readOut s) = .tuple #[deedV (4, nn), .bool true] from by
              rw [read_hit (j := 4) (by decide) (by unfold hitD; rw [HWD.out, HNM.out, show (((4 : Nat) : Int)) = 4 from rfl, ht]; simp), HNM.out]
              rfl)
            rw [hte] at CT
            clear HA2 ht hte
            go_wp2_with fail
            with_reducible refine Calls.mono CT.out ?_
            rintro e w4 ⟨rfl, b4⟩
            have HB4 := hid (HB3.out.trans (b4.mono (by omega)))
            have XR4 := (b4.block w.heap.size (by omega)).trans HXR3.out
            have X4 := (b4.block wr.heap.size (by omega)).trans HX3.out
            have y0 : w4.cell? ⟨wr.heap.size, 0, none⟩ = some (.int .i64 4) := cell_of_row _ _ 0 _ _ _ X4
            have y1 : w4.cell? ⟨wr.heap.size, 1, none⟩ = some (.int .i64 nn) := cell_of_row _ _ 1 _ _ _ X4
            have r0 : w4.cell? ⟨w.heap.size, 0, none⟩ = some (.int .i64 0) := cell_of_row _ _ 0 _ _ _ XR4
            have r1 : w4.cell? ⟨w.heap.size, 1, none⟩ = some (.int .i64 0) := cell_of_row _ _ 1 _ _ _ XR4
            have rf0 := frozen_of_row w4 w.heap.size 0 _ _ XR4
            have rf1 := frozen_of_row w4 w.heap.size 1 _ _ XR4
            have XQ := hid (pair_set (.int .i64 4) (.int .i64 nn) XR4)
            clear b4 x0 x1 XR4 X4
            go_wp2
            (try simp only [Exit.inBlock, Exit.then])
            refine bodyPost_ret (results_kk rfl _ _ w.heap.size 39 _ (0, 0) _ (by simp [Act.put]) XQ.out Tryz.underlying39 rfl (by kernel_rfl)) rfl ?_
            exact ⟨by rw [HV.out]; rfl, (HB4.out.setCell (p := ⟨w.heap.size, 0, none⟩) (Nat.le_refl _) _).setCell (p := ⟨w.heap.size, 1, none⟩) (Nat.le_refl _) _⟩
      · have HA2 := hid (fun (hf : hitD s 5 = false) => show ∀ j, j < 5 + 1 → hitD s j = false from fun j hj => by
          by_cases h1 : j < 5
          · exact HA.out j h1
          · obtain rfl : j = 5 := by omega
            exact hf)
        have B3 := BB.out.alloc (by omega) (.cells #[.int .i64 5, .int .i64 nn] 39)
        have g3 := (Below.refl wr.heap.size wr).alloc (Nat.le_refl _) (.cells #[.int .i64 5, .int .i64 nn] 39)
        have X3 := heap_alloc_new wr (.cells #[.int .i64 5, .int .i64 nn] 39)
        have XR := (g3.block w.heap.size (by omega)).trans HX.out
        obtain ⟨w3, e3⟩ : ∃ W, wr.alloc (.cells #[.int .i64 5, .int .i64 nn] 39) = W := ⟨_, rfl⟩
        have hz3 : w3.heap.size = wr.heap.size + 1 := by rw [← e3]; simp
        rw [e3] at B3 X3 XR g3
        have x0 : w3.cell? ⟨wr.heap.size, 0, none⟩ = some (.int .i64 5) := cell_of_row _ _ 0 _ _ _ X3
        have x1 : w3.cell? ⟨wr.heap.size, 1, none⟩ = some (.int .i64 nn) := cell_of_row _ _ 1 _ _ _ X3
        have HB3 := hid B3
        have HX3 := hid X3
        have HXR3 := hid XR
        have xi : ∀ W : World, (Instr.index 77 (.agg #[encStr (wordB 0), encStr (wordB 1), encStr (wordB 2), encStr (wordB 3), encStr (wordB 4), encStr (wordB 5), encStr (wordB 6)]) (.int .i64 5)).run Tryz.prog W = .ok (encStr (wordB 5)) W := fun _ => by kernel_rfl
        (try simp only [show ((5 : Nat) : Int) = 5 from rfl])
        clear B3 g3 X3 XR
        cases hw : (wordB 5 == word) with
        | false =>
          have hne : ¬ wordB 5 = word := by simpa using hw
          have hne2 : ¬ ((⟨(wordB 5).toArray⟩ : ByteArray) = ⟨word.toArray⟩) := by
            intro h
            injection h with h
            exact hne (by simpa using h)
          have HF := hid (HA2.out (by unfold hitD; rw [HWD.out, hw]; rfl))
          clear HA2 x0 x1
          go_wp2
          go_roundw
          case rel => exact ⟨5 + 1, by go_num, by omega, HF, HB3, by omega, HXR3⟩
          case measure => simp [intOf]
        | true =>
          have hwe : wordB 5 = word := by simpa using hw
          subst hwe
          clear hw
          have CT := hid (implDeedText_any 5 nn w3 (HTT.out _ HB3.out).D)
          cases ht : (deedB 5 nn == s) with
          | false =>
            have hne : ¬ deedB 5 nn = s := by simpa using ht
            have hne2 : ¬ ((⟨(deedB 5 nn).toArray⟩ : ByteArray) = ⟨s.toArray⟩) := by
              intro h
              injection h with h
              exact hne (by simpa using h)
            have HF := hid (HA2.out (by
              unfold hitD
              rw [HNM.out, show (((5 : Nat) : Int)) = 5 from rfl, ht, Bool.and_false]))
            clear HA2
            go_wp2_with fail
            with_reducible refine Calls.mono CT.out ?_
            rintro e w4 ⟨rfl, b4⟩
            have HB4 := hid (HB3.out.trans (b4.mono (by omega)))
            have HXR4 := hid ((b4.block w.heap.size (by omega)).trans HXR3.out)
            have hz4 := b4.size
            clear b4 x0 x1
            go_wp2
            go_roundw
            case rel => exact ⟨5 + 1, by go_num, by omega, HF, HB4, by omega, HXR4⟩
            case measure => simp [intOf]
          | true =>
            have hte : deedB 5 nn = s := by simpa using ht
            have HV := hid (show readV (readOut s) = .tuple #[deedV (5, nn), .bool true] from by
              rw [read_hit (j := 5) (by decide) (by unfold hitD; rw [HWD.out, HNM.out, show (((5 : Nat) : Int)) = 5 from rfl, ht]; simp), HNM.out]
              rfl)
            rw [hte] at CT
            clear HA2 ht hte
            go_wp2_with fail
            with_reducible refine Calls.mono CT.out ?_
            rintro e w4 ⟨rfl, b4⟩
            have HB4 := hid (HB3.out.trans (b4.mono (by omega)))
            have XR4 := (b4.block w.heap.size (by omega)).trans HXR3.out
            have X4 := (b4.block wr.heap.size (by omega)).trans HX3.out
            have y0 : w4.cell? ⟨wr.heap.size, 0, none⟩ = some (.int .i64 5) := cell_of_row _ _ 0 _ _ _ X4
            have y1 : w4.cell? ⟨wr.heap.size, 1, none⟩ = some (.int .i64 nn) := cell_of_row _ _ 1 _ _ _ X4
            have r0 : w4.cell? ⟨w.heap.size, 0, none⟩ = some (.int .i64 0) := cell_of_row _ _ 0 _ _ _ XR4
            have r1 : w4.cell? ⟨w.heap.size, 1, none⟩ = some (.int .i64 0) := cell_of_row _ _ 1 _ _ _ XR4
            have rf0 := frozen_of_row w4 w.heap.size 0 _ _ XR4
            have rf1 := frozen_of_row w4 w.heap.size 1 _ _ XR4
            have XQ := hid (pair_set (.int .i64 5) (.int .i64 nn) XR4)
            clear b4 x0 x1 XR4 X4
            go_wp2
            (try simp only [Exit.inBlock, Exit.then])
            refine bodyPost_ret (results_kk rfl _ _ w.heap.size 39 _ (0, 0) _ (by simp [Act.put]) XQ.out Tryz.underlying39 rfl (by kernel_rfl)) rfl ?_
            exact ⟨by rw [HV.out]; rfl, (HB4.out.setCell (p := ⟨w.heap.size, 0, none⟩) (Nat.le_refl _) _).setCell (p := ⟨w.heap.size, 1, none⟩) (Nat.le_refl _) _⟩
      · have HA2 := hid (fun (hf : hitD s 6 = false) => show ∀ j, j < 6 + 1 → hitD s j = false from fun j hj => by
          by_cases h1 : j < 6
          · exact HA.out j h1
          · obtain rfl : j = 6 := by omega
            exact hf)
        have B3 := BB.out.alloc (by omega) (.cells #[.int .i64 6, .int .i64 nn] 39)
        have g3 := (Below.refl wr.heap.size wr).alloc (Nat.le_refl _) (.cells #[.int .i64 6, .int .i64 nn] 39)
        have X3 := heap_alloc_new wr (.cells #[.int .i64 6, .int .i64 nn] 39)
        have XR := (g3.block w.heap.size (by omega)).trans HX.out
        obtain ⟨w3, e3⟩ : ∃ W, wr.alloc (.cells #[.int .i64 6, .int .i64 nn] 39) = W := ⟨_, rfl⟩
        have hz3 : w3.heap.size = wr.heap.size + 1 := by rw [← e3]; simp
        rw [e3] at B3 X3 XR g3
        have x0 : w3.cell? ⟨wr.heap.size, 0, none⟩ = some (.int .i64 6) := cell_of_row _ _ 0 _ _ _ X3
        have x1 : w3.cell? ⟨wr.heap.size, 1, none⟩ = some (.int .i64 nn) := cell_of_row _ _ 1 _ _ _ X3
        have HB3 := hid B3
        have HX3 := hid X3
        have HXR3 := hid XR
        have xi : ∀ W : World, (Instr.index 77 (.agg #[encStr (wordB 0), encStr (wordB 1), encStr (wordB 2), encStr (wordB 3), encStr (wordB 4), encStr (wordB 5), encStr (wordB 6)]) (.int .i64 6)).run Tryz.prog W = .ok (encStr (wordB 6)) W := fun _ => by kernel_rfl
        (try simp only [show ((6 : Nat) : Int) = 6 from rfl])
        clear B3 g3 X3 XR
        cases hw : (wordB 6 == word) with
        | false =>
          have hne : ¬ wordB 6 = word := by simpa using hw
          have hne2 : ¬ ((⟨(wordB 6).toArray⟩ : ByteArray) = ⟨word.toArray⟩) := by
            intro h
            injection h with h
            exact hne (by simpa using h)
          have HF := hid (HA2.out (by unfold hitD; rw [HWD.out, hw]; rfl))
          clear HA2 x0 x1
          go_wp2
          go_roundw
          case rel => exact ⟨6 + 1, by go_num, by omega, HF, HB3, by omega, HXR3⟩
          case measure => simp [intOf]
        | true =>
          have hwe : wordB 6 = word := by simpa using hw
          subst hwe
          clear hw
          have CT := hid (implDeedText_any 6 nn w3 (HTT.out _ HB3.out).D)
          cases ht : (deedB 6 nn == s) with
          | false =>
            have hne : ¬ deedB 6 nn = s := by simpa using ht
            have hne2 : ¬ ((⟨(deedB 6 nn).toArray⟩ : ByteArray) = ⟨s.toArray⟩) := by
              intro h
              injection h with h
              exact hne (by simpa using h)
            have HF := hid (HA2.out (by
              unfold hitD
              rw [HNM.out, show (((6 : Nat) : Int)) = 6 from rfl, ht, Bool.and_false]))
            clear HA2
            go_wp2_with fail
            with_reducible refine Calls.mono CT.out ?_
            rintro e w4 ⟨rfl, b4⟩
            have HB4 := hid (HB3.out.trans (b4.mono (by omega)))
            have HXR4 := hid ((b4.block w.heap.size (by omega)).trans HXR3.out)
            have hz4 := b4.size
            clear b4 x0 x1
            go_wp2
            go_roundw
            case rel => exact ⟨6 + 1, by go_num, by omega, HF, HB4, by omega, HXR4⟩
            case measure => simp [intOf]
          | true =>
            have hte : deedB 6 nn = s := by simpa using ht
            have HV := hid (show readV (readOut s) = .tuple #[deedV (6, nn), .bool true] from by
              rw [read_hit (j := 6) (by decide) (by unfold hitD; rw [HWD.out, HNM.out, show (((6 : Nat) : Int)) = 6 from rfl, ht]; simp), HNM.out]
              rfl)
            rw [hte] at CT
            clear HA2 ht hte
            go_wp2_with fail
            with_reducible refine Calls.mono CT.out ?_
            rintro e w4 ⟨rfl, b4⟩
            have HB4 := hid (HB3.out.trans (b4.mono (by omega)))
            have XR4 := (b4.block w.heap.size (by omega)).trans HXR3.out
            have X4 := (b4.block wr.heap.size (by omega)).trans HX3.out
            have y0 : w4.cell? ⟨wr.heap.size, 0, none⟩ = some (.int .i64 6) := cell_of_row _ _ 0 _ _ _ X4
            have y1 : w4.cell? ⟨wr.heap.size, 1, none⟩ = some (.int .i64 nn) := cell_of_row _ _ 1 _ _ _ X4
            have r0 : w4.cell? ⟨w.heap.size, 0, none⟩ = some (.int .i64 0) := cell_of_row _ _ 0 _ _ _ XR4
            have r1 : w4.cell? ⟨w.heap.size, 1, none⟩ = some (.int .i64 0) := cell_of_row _ _ 1 _ _ _ XR4
            have rf0 := frozen_of_row w4 w.heap.size 0 _ _ XR4
            have rf1 := frozen_of_row w4 w.heap.size 1 _ _ XR4
            have XQ := hid (pair_set (.int .i64 6) (.int .i64 nn) XR4)
            clear b4 x0 x1 XR4 X4
            go_wp2
            (try simp only [Exit.inBlock, Exit.then])
            refine bodyPost_ret (results_kk rfl _ _ w.heap.size 39 _ (0, 0) _ (by simp [Act.put]) XQ.out Tryz.underlying39 rfl (by kernel_rfl)) rfl ?_
            exact ⟨by rw [HV.out]; rfl, (HB4.out.setCell (p := ⟨w.heap.size, 0, none⟩) (Nat.le_refl _) _).setCell (p := ⟨w.heap.size, 1, none⟩) (Nat.le_refl _) _⟩
    · obtain rfl : k = 7 := by omega
      have HV := hid (show readV (readOut s) = .tuple #[deedV (0, 0), .bool false] from by rw [read_miss HA.out]; rfl)
      have r0 : wr.cell? ⟨w.heap.size, 0, none⟩ = some (.int .i64 0) := cell_of_row _ _ 0 _ _ _ HX.out
      have r1 : wr.cell? ⟨w.heap.size, 1, none⟩ = some (.int .i64 0) := cell_of_row _ _ 1 _ _ _ HX.out
      have rf0 := frozen_of_row wr w.heap.size 0 _ _ HX.out
      have rf1 := frozen_of_row wr w.heap.size 1 _ _ HX.out
      have XQ := hid (pair_set (.int .i64 0) (.int .i64 0) HX.out)
      go_wp2
      (try simp only [Exit.inBlock, Exit.then])
      refine bodyPost_ret (results_kk rfl _ _ w.heap.size 39 _ (0, 0) _ (by simp [Act.put]) XQ.out Tryz.underlying39 rfl (by kernel_rfl)) rfl ?_
      exact ⟨by rw [HV.out]; rfl, (BB.out.setCell (p := ⟨w.heap.size, 0, none⟩) (Nat.le_refl _) _).setCell (p := ⟨w.heap.size, 1, none⟩) (Nat.le_refl _) _⟩
end Go.Proofs.YtkejcajboneniabGreatDoor
namespace Go.Proofs.YtkejcajboneniabGreatDoor
open Go.RowKit

abbrev IsB (b : Nat) (l : List UInt8) (w : World) : Prop := Lib.IsBuilder 83 5 b b (Lib.byteCells l) w
theorem at_on {b B : Nat} {p : Value} {bs : List Value} {w w' : World} (h : Lib.BuilderAt 83 5 B b p bs w) (hb : Below w.heap.size w w') : Lib.BuilderAt 83 5 B b p bs w' := by
  have hlt := h.lt
  obtain ⟨h1, v, h2, h3, h4⟩ := h
  exact ⟨h1, v, (hb.block b hlt).trans h2, own_on h3 hb, h4⟩
theorem isB_on {b : Nat} {l : List UInt8} {w w' : World} (h : IsB b l w) (hb : Below w.heap.size w w') : IsB b l w' := h.elim (fun k => .inl (at_on k hb)) (fun k => .inr (at_on k hb))
theorem isB_lt {b : Nat} {l : List UInt8} {w : World} (h : IsB b l w) : b < w.heap.size := h.elim (fun k => k.lt) (fun k => k.lt)

set_option maxRecDepth 100000 in
set_option maxHeartbeats 1600000 in
theorem copyCheck_any (b : Nat) (bs : List Value) (w : World) (h : Lib.IsBuilder 83 5 b b bs w) :
    Calls Tryz.prog 105 #[.pointer (some ⟨b, 0, none⟩)] w fun e w' => e = .returned (.tuple #[]) ∧ Lib.BuilderAt 83 5 b b (.pointer (some ⟨b, 0, none⟩)) bs w' ∧ Below b w w' := by
  have hsize : (Tryz.prog.info? 83).map (·.size) = some 2 := by kernel_rfl
  have hlies : liesAt Tryz.prog Tryz.prog.depth 83 (2 / Tryz.prog.cellsOf 83) 0 83 1 = true := by kernel_rfl
  obtain ⟨j, hj, hjs⟩ := Option.map_eq_some_iff.1 hsize
  rcases h with h | h
  · have c0 := h.cell0
    have hsh := h.shape
    have hfz := h.frozen0
    have HU := hid (h.used (.pointer (some ⟨b, 0, none⟩)))
    have HB := hid ((Below.refl b w).setCell (p := ⟨b, 0, none⟩) (Nat.le_refl _) (.pointer (some ⟨b, 0, none⟩)))
    clear h
    go_enter Tryz.func105, Tryz.ntmps105
    go_wp2
    rw [Lib.run_to_unsafe w ⟨b, 0, none⟩ Tryz.underlying81 Tryz.underlying134 hj (by rw [hjs]; decide) hsh (Nat.zero_lt_succ 1)]
    simp only [Result.andThen]
    rw [Oper.upon_value]
    go_wp2
    rw [run_callFunc_extern Tryz.func126 (by kernel_rfl) (by kernel_rfl) (by kernel_rfl) (e := Extern.AbiNoEscape.same) (by kernel_rfl)]
    rw [Lib.run_noEscape]
    simp only [Result.andThen]
    rw [Oper.upon_value]
    go_wp2
    rw [Lib.run_from_unsafe w ⟨b, 0, none⟩ Tryz.underlying134 Tryz.underlying81 hj hsh hlies]
    simp only [Result.andThen]
    rw [Oper.upon_value]
    go_wp2
    go_end0
    exact ⟨rfl, HU.out, HB.out⟩
  · have c0 := h.cell0
    have HU := hid h
    clear h
    go_enter Tryz.func105, Tryz.ntmps105
    go_wp2
    rw [Lib.run_neq_ptr_same w _ Tryz.underlying81 hj]
    go_wp2
    go_end0
    exact ⟨rfl, HU.out, Below.refl _ _⟩

set_option maxRecDepth 100000 in
set_option maxHeartbeats 1600000 in
/-- What is written stands behind what there was. -/
theorem writeString_any (b : Nat) (l s : List UInt8) (w : World) (h : IsB b l w) (hl : l.length + s.length ≤ 100000000000) :
    Calls Tryz.prog 56 #[.pointer (some ⟨b, 0, none⟩), encStr s] w fun e w' => (∃ v, e = .returned v) ∧ IsB b (l ++ s) w' ∧ Below b w w' := by
  have infoByte : (Tryz.prog.info? 5).map (fun i => (i.zero, i.size, i.bytes)) = some (some (.int .u8 0), 1, 1) := by kernel_rfl
  obtain ⟨i0, hi, hz0, hz1, hz2⟩ := info_parts infoByte
  have hlt0 := isB_lt h
  have CK := hid (copyCheck_any b _ w h)
  have hll : (Lib.byteCells l).length = l.length := by simp [Lib.byteCells]
  have hss : (⟨s.toArray⟩ : ByteArray).size = s.length := by show s.toArray.size = _; simp
  clear h
  go_enter Tryz.func56, Tryz.ntmps56
  go_wp2_with fail
  with_reducible refine Calls.mono CK.out ?_
  rintro e w1 ⟨rfl, h1, hb1⟩
  have hlt := h1.lt
  obtain ⟨hB, v, hbk, hown, hne⟩ := h1
  have c0 : w1.cell? ⟨b, 0, none⟩ = some (.pointer (some ⟨b, 0, none⟩)) := by rw [Lib.cell_of_heap hbk]; rfl
  have c1 : w1.cell? ⟨b, 1, none⟩ = some v := by rw [Lib.cell_of_heap hbk]; rfl
  go_wp2_with (at_builtin; refine Lib.wpList_append_own_string _ rfl _ _ 22 9 rfl b 5 i0 Tryz.underlying22 Tryz.underlying9 hi hz0 hz1 hz2 _ _ _ rfl hown ⟨s.toArray⟩ rfl ?c3 ?c4 ?c5 ?_)
  case c3 => simp only [maxLen]; omega
  case c4 => omega
  case c5 => have := hb1.size; omega
  intro v' w2 hown' hgrow _
  have hb2 : w2.heap[b]? = some (.cells #[.pointer (some ⟨b, 0, none⟩), v] 83 (0, 0)) := by
    rw [hgrow.block b hlt (fun e => hne e.symm)]
    exact hbk
  have d0 : w2.cell? ⟨b, 0, none⟩ = some (.pointer (some ⟨b, 0, none⟩)) := by rw [Lib.cell_of_heap hb2]; rfl
  have d1 : w2.cell? ⟨b, 1, none⟩ = some v := by rw [Lib.cell_of_heap hb2]; rfl
  have f1 : w2.frozen? ⟨b, 1, none⟩ = false := Lib.frozen_of_heap hb2 1
  obtain ⟨ao, n', cap, rfl⟩ : ∃ ao n' cap, v' = .slice ao n' cap := by
    rcases hown'.2 with ⟨hv, _⟩ | ⟨g, cap, cur, hv, _⟩
    · exact ⟨_, _, _, hv⟩
    · exact ⟨_, _, _, hv⟩
  have HO := hid hown'
  have HB1 := hid ((hb1.grown hgrow (by have := hb1.size; omega) (fun k hk => (hown.lt k hk).1)).setCell (p := ⟨b, 1, none⟩) (Nat.le_refl _) (.slice ao n' cap))
  have HB2 := hid hb2
  clear hown' hgrow hb1 hown hbk hne
  go_wp2
  go_ret2
  refine ⟨⟨_, rfl⟩, .inr ?_, HB1.out⟩
  have e : Lib.byteCells (l ++ s) = Lib.byteCells l ++ Lib.strCells ⟨s.toArray⟩ := by simp [Lib.byteCells, Lib.strCells]
  rw [e]
  exact Lib.BuilderAt.put hB HB2.out (by rw [List.length_append, Lib.strCells_length, hll, hss]; exact HO.out) (by decide)
end Go.Proofs.YtkejcajboneniabGreatDoor
namespace Go.Proofs.YtkejcajboneniabGreatDoor
open Go.RowKit

set_option maxRecDepth 100000 in
set_option maxHeartbeats 3200000 in
theorem implJournalText_any (A : Option Addr) (n c : Nat) (l : List (Int × Int)) (w : World) (hs : SlD w w.heap.size A n l) (hn : n ≤ 10000000) (hT : TabsD w) :
    Calls Tryz.prog 17 #[.slice A n c] w fun e w' => e = .returned (encStr (journalOut l)) ∧ Below w.heap.size w w' := by
  have HL := hid hs.len
  have F0 : IsB w.heap.size [] (w.alloc (.cells #[.pointer none, .slice none 0 0] 83)) := Lib.fresh_isBuilder 83 5 w
  have B0 := (Below.refl w.heap.size w).alloc (Nat.le_refl _) (.cells #[.pointer none, .slice none 0 0] 83)
  have HF0 := hid F0
  have HB0 := hid B0
  clear F0 B0
  go_enter Tryz.func17, Tryz.ntmps17
  go_wp2
  go_loopw [9] (fun i wr => ∃ k : Nat, k ≤ n ∧ i = .int .i64 k ∧ Hid ((l.take k).all hasText = true) ∧ Hid (IsB w.heap.size (linesB (l.take k)) wr) ∧ Hid (Below w.heap.size w wr)) (fun i _ => n - (intOf i).toNat)
  case atStart => exact ⟨0, Nat.zero_le _, rfl, hid rfl, HF0, HB0⟩
  case round =>
    clear HF0 HB0
    obtain ⟨k, hk, rfl, HA, HI, HB⟩ := hrel
    have hwz := HB.out.size
    have hbl := isB_lt HI.out
    by_cases hlt : k < n
    · obtain ⟨b, off, rfl, hbS, hc⟩ := (hs.below HB.out).2.2 (by omega)
      have hc0 := hc (k * 2) (by omega)
      have hc1 := hc (k * 2 + 1) (by omega)
      rw [nth_flat0] at hc0
      rw [nth_flat1, ← Nat.add_assoc] at hc1
      obtain ⟨a, ha⟩ : ∃ a, l.getD k (0, 0) = a := ⟨_, rfl⟩
      rw [ha] at hc0 hc1
      have HT := hid (show l.take (k + 1) = l.take k ++ [a] from by rw [List.take_succ_eq_append_getElem (by rw [HL.out]; exact hlt), ← ha]; simp [List.getD, show k < l.length from by rw [HL.out]; exact hlt])
      have hlti : (k : Int) < (n : Int) := by omega
      have hk0 : (0 : Int) ≤ (k : Int) := by omega
      clear hc
      have g3 := (Below.refl wr.heap.size wr).alloc (Nat.le_refl _) (.cells #[.int .i64 a.1, .int .i64 a.2] 39)
      have X3 := heap_alloc_new wr (.cells #[.int .i64 a.1, .int .i64 a.2] 39)
      obtain ⟨w3, e3⟩ : ∃ W, wr.alloc (.cells #[.int .i64 a.1, .int .i64 a.2] 39) = W := ⟨_, rfl⟩
      have hz3 : w3.heap.size = wr.heap.size + 1 := by rw [← e3]; simp
      rw [e3] at g3 X3
      have x0 : w3.cell? ⟨wr.heap.size, 0, none⟩ = some (.int .i64 a.1) := cell_of_row _ _ 0 _ _ _ X3
      have x1 : w3.cell? ⟨wr.heap.size, 1, none⟩ = some (.int .i64 a.2) := cell_of_row _ _ 1 _ _ _ X3
      have HB3 := hid (HB.out.trans (g3.mono hwz))
      have HI3 := hid (isB_on HI.out g3)
      have CD := hid (implDeedText_any a.1 a.2 w3 (hT.below HB3.out))
      have hdl := deedB_len a.1 a.2
      obtain ⟨s, hsd⟩ : ∃ s, deedB a.1 a.2 = s := ⟨_, rfl⟩
      rw [hsd] at CD hdl
      have hll := linesB_len (l.take k)
      rw [List.length_take, Nat.min_eq_left (by rw [HL.out]; exact hk)] at hll
      have HSD := hid hsd
      clear hsd g3 X3 HI HB
      cases s with
      | nil =>
        have HV := hid (show journalOut l = [] from by
          unfold journalOut
          rw [if_neg]
          intro h
          rw [List.all_eq_true] at h
          have := h a (by rw [← ha]; simp [List.getD, show k < l.length from by rw [HL.out]; exact hlt])
          simp [hasText, deedP, HSD.out] at this)
        clear ha
        go_wp2_with fail
        with_reducible refine Calls.mono CD.out ?_
        rintro e w5 ⟨rfl, b5⟩
        have HB5 := hid (HB3.out.trans (b5.mono (by omega)))
        clear b5
        go_wp2
        go_ret
        exact ⟨by rw [HV.out]; rfl, HB5.out⟩
      | cons s0 s =>
        have HA2 := hid (show (l.take (k + 1)).all hasText = true from by rw [HT.out, List.all_append, HA.out]; simp [hasText, deedP, HSD.out])
        have HL2 := hid (show linesB (l.take (k + 1)) = linesB (l.take k) ++ (s0 :: (s ++ [10])) from by rw [HT.out, linesB_append]; simp [linesB, deedP, HSD.out])
        have c2 := fun W => cat_any (s0 :: s) [10] (by simp at hdl ⊢; omega) W
        clear ha
        go_wp2_with fail
        with_reducible refine Calls.mono CD.out ?_
        rintro e w5 ⟨rfl, b5⟩
        have hz5 := b5.size
        have HB5 := hid (HB3.out.trans (b5.mono (by omega)))
        have CW := hid (writeString_any w.heap.size (linesB (l.take k)) (s0 :: (s ++ [10])) w5 (isB_on HI3.out b5) (by simp at hdl ⊢; omega))
        clear b5 x0 x1 HI3
        go_wp2_with fail
        with_reducible refine Calls.mono CW.out ?_
        rintro e w6 ⟨⟨v, rfl⟩, h6, b6⟩
        have HI6 := hid h6
        rw [← HL2.out] at HI6
        have HB6 := hid (HB5.out.trans b6)
        clear h6 b6
        go_wp2
        go_roundw
        case rel => exact ⟨k + 1, by omega, by go_num, HA2, HI6, HB6⟩
        case measure => simp [intOf]; omega
    · obtain rfl : k = n := by omega
      have HT := hid (show l.take k = l from List.take_of_length_le (by rw [HL.out]; omega))
      have HV := hid (show journalOut l = linesB (l.take k) from by unfold journalOut; have h := HA.out; rw [HT.out] at h; rw [if_pos h, HT.out])
      have CS := hid (sh_Builder_String_any w.heap.size w.heap.size (linesB (l.take k)) wr HI.out hwz)
      go_wp2_with fail
      with_reducible refine Calls.mono CS.out ?_
      rintro e w5 ⟨rfl, b5⟩
      have HB5 := hid (HB.out.trans b5)
      clear b5
      go_wp2
      go_ret
      exact ⟨by rw [HV.out]; rfl, HB5.out⟩

theorem readV_formK (o : Option (Int × Int)) : ∃ (a : Int × Int) (b : Bool), readV o = .tuple #[deed a.1 a.2, .bool b] := by
  cases o with
  | none => exact ⟨(0, 0), false, rfl⟩
  | some a => exact ⟨a, true, rfl⟩
theorem ib_yes : ∀ (l : List UInt8) (c : UInt8) (i : Nat), Lib.indexByte l c = (i : Int) → i < l.length ∧ bat l i = c ∧ ∀ j, j < i → bat l j ≠ c
  | [], c, i, h => by simp [Lib.indexByte] at h
  | b :: l, c, i, h => by
    simp only [Lib.indexByte] at h
    split at h
    · rename_i hb
      obtain rfl : i = 0 := by omega
      exact ⟨by simp, by simpa [bat] using hb, fun j hj => absurd hj (by omega)⟩
    · rename_i hb
      split at h
      · omega
      · have hge := Lib.indexByte_ge l c
        have hne1 : Lib.indexByte l c ≠ -1 := by rename_i h2; simpa using h2
        obtain ⟨i', rfl⟩ : ∃ i', i = i' + 1 := ⟨i - 1, by omega⟩
        obtain ⟨h1, h2, h3⟩ := ib_yes l c i' (by omega)
        refine ⟨by simp; omega, by simpa [bat] using h2, fun j hj => ?_⟩
        rcases j with _ | j
        · simpa [bat] using hb
        · have := h3 j (by omega)
          simpa [bat] using this
theorem ib_no : ∀ (l : List UInt8) (c : UInt8), Lib.indexByte l c < 0 → ∀ j, j < l.length → bat l j ≠ c
  | [], c, h, j, hj => by simp at hj
  | b :: l, c, h, j, hj => by
    simp only [Lib.indexByte] at h
    split at h
    · omega
    · rename_i hb
      split at h
      · rename_i h2
        rcases j with _ | j
        · simpa [bat] using hb
        · have h3 : Lib.indexByte l c < 0 := by have : Lib.indexByte l c = -1 := by simpa using h2
                                                omega
          have := ib_no l c h3 j (by simpa using hj)
          simpa [bat] using this
      · rename_i h2
        have hge := Lib.indexByte_ge l c
        have : Lib.indexByte l c ≠ -1 := by simpa using h2
        omega
theorem bat_drop (s : List UInt8) (r j : Nat) : bat (s.drop r) j = bat s (r + j) := by simp [bat, List.getD]
/-- Where no line ends, nothing is read. -/
theorem jgo_still {s : List UInt8} {r : Nat} {L : List (Int × Int)} (h : jgo s r = (L, r, false)) : ∀ d, (∀ j, j < d → bat s (r + j) ≠ 10) → jgo s (r + d) = (L, r, false)
  | 0, _ => h
  | d + 1, hd => by
    have ih := jgo_still h d (fun j hj => hd j (by omega))
    rw [← Nat.add_assoc, jgo, ih, if_neg (by simp), if_neg (hd d (by omega))]
theorem jgo_lineP {s : List UInt8} {r i : Nat} {L : List (Int × Int)} (h : jgo s r = (L, r, false)) (hi : Lib.indexByte (s.drop r) 10 = (i : Int)) :
    jgo s (r + i + 1) = match readOut ((s.drop r).take i) with | none => (L, r, true) | some a => (L ++ [a], r + i + 1, false) := by
  obtain ⟨h1, h2, h3⟩ := ib_yes _ _ _ hi
  have ih := jgo_still h i (fun j hj => by have := h3 j hj; rwa [bat_drop] at this)
  rw [bat_drop] at h2
  rw [jgo, ih, if_neg (by simp), if_pos h2]
  have e : sub s r (r + i) = (s.drop r).take i := by
    unfold sub
    rw [List.drop_take, show r + i - r = i by omega]
  rw [e]
  cases readOut ((s.drop r).take i) <;> rfl
theorem jOut_end {s : List UInt8} {r : Nat} {L : List (Int × Int)} (h : jgo s r = (L, r, false)) (hr : r ≤ s.length) (hi : Lib.indexByte (s.drop r) 10 < 0) : jOut s = (L, r) := by
  have ih := jgo_still h (s.length - r) (fun j hj => by
    have := ib_no _ _ hi j (by rw [List.length_drop]; omega)
    rwa [bat_drop] at this)
  rw [show r + (s.length - r) = s.length by omega] at ih
  unfold jOut
  rw [ih]
theorem jOut_stop {s : List UInt8} {r i : Nat} {L : List (Int × Int)} (h : jgo s r = (L, r, false)) (hr : r ≤ s.length) (hi : Lib.indexByte (s.drop r) 10 = (i : Int)) (hn : readOut ((s.drop r).take i) = none) : jOut s = (L, r) := by
  have h1 := jgo_lineP h hi
  rw [hn] at h1
  obtain ⟨h2, _, _⟩ := ib_yes _ _ _ hi
  rw [List.length_drop] at h2
  have h3 := jgo_stop (s := s) (k := r + i + 1) (by rw [h1]) (s.length - (r + i + 1))
  rw [show r + i + 1 + (s.length - (r + i + 1)) = s.length by omega] at h3
  unfold jOut
  rw [h3, h1]

set_option maxRecDepth 100000 in
set_option maxHeartbeats 3200000 in
theorem implReadJournal_any (s : List UInt8) (hn : s.length ≤ 10000000) (w : World) (hT : TabsL w) :
    Calls Tryz.prog 9 #[encStr s] w fun e w' => ∃ A m c, e = .returned (.tuple #[.slice A m c, .int .i64 (jOut s).2]) ∧ w'.ownsRow w.heap.size 39 2 (.slice A m c) m (ints (flat (jOut s).1)) ∧ Below w.heap.size w w' := by
  obtain ⟨i0, hi, hz0, hz1, hz2⟩ := info_parts info_deed
  have hsz : (⟨s.toArray⟩ : ByteArray).size = s.length := by show s.toArray.size = _; simp
  have ho0 : w.ownsRow w.heap.size 39 2 (.slice none 0 0) 0 (ints (flat [])) := World.ownsRow_nil _ _ _ _
  go_enter Tryz.func9, Tryz.ntmps9
  go_wp2
  go_loopw [4, 5] (fun v f wr => ∃ (A1 : Option Addr) (m c1 r : Nat) (L : List (Int × Int)), v = .slice A1 m c1 ∧ f = .int .i64 r ∧ r ≤ s.length ∧ m ≤ r ∧ Hid (jgo s r = (L, r, false)) ∧ Hid (wr.ownsRow w.heap.size 39 2 (.slice A1 m c1) m (ints (flat L))) ∧ Hid (Below w.heap.size w wr)) (fun _ f _ => s.length - (intOf f).toNat)
  case atStart => exact ⟨_, 0, _, 0, [], rfl, rfl, Nat.zero_le _, Nat.le_refl _, hid rfl, hid ho0, hid (Below.refl _ _)⟩
  case round =>
    clear ho0
    obtain ⟨A1, m, c1, r, L, rfl, rfl, hr, hm, HJ, HO, HB⟩ := hrel
    have hwz := HB.out.size
    have hri : (r : Int) ≤ (s.length : Int) := by omega
    have hr0 : (0 : Int) ≤ (r : Int) := by omega
    have hss : (s.length : Int) ≤ (s.length : Int) := by omega
    obtain ⟨t, ht⟩ : ∃ t, sub s r s.length = t := ⟨_, rfl⟩
    have hsub := sub_str s r s.length
    rw [ht] at hsub
    have hts : t = s.drop r := by rw [← ht]; simp [sub]
    have htl : t.length ≤ 10000000 := by rw [hts, List.length_drop]; omega
    have HTS := hid hts
    have CC := hid (strCut_any t 10 wr (by omega))
    clear ht hts
    by_cases h0 : Lib.indexByte t 10 < 0
    · have hc : cutW t 10 = (t, [], false) := by unfold cutW; rw [if_neg (by omega)]
      rw [hc] at CC
      have HV := hid (show jOut s = (L, r) from jOut_end HJ.out hr (by rw [← HTS.out]; exact h0))
      obtain ⟨a, bb, hf⟩ := readV_formK (readOut t)
      have CR := hid (fun (W : World) (hW : Below w.heap.size w W) => implReadDeed_any t htl W (hT.below hW))
      rw [hf] at CR
      clear hf hc h0
      go_wp2_with fail
      with_reducible refine Calls.mono CC.out ?_
      rintro e w4 ⟨rfl, b4⟩
      have HB4 := hid (HB.out.trans (b4.mono hwz))
      go_wp2_with fail
      with_reducible refine Calls.mono (CR.out _ HB4.out) ?_
      rintro e w5 ⟨rfl, b5⟩
      have b45 := below_tr b4 b5
      have g6 := (Below.refl w5.heap.size w5).alloc (Nat.le_refl _) (.cells #[.int .i64 a.1, .int .i64 a.2] 39)
      have b46 := below_tr b45 g6
      have HO6 := hid (own_on2 HO.out b46)
      have HB6 := hid (HB.out.trans (b46.mono hwz))
      clear b4 b5 b45 g6 b46
      go_wp2
      go_ret2
      exact ⟨A1, m, c1, by rw [HV.out]; rfl, by rw [HV.out]; exact HO6.out, HB6.out⟩
    · obtain ⟨i, hi2⟩ : ∃ i : Nat, Lib.indexByte t 10 = i := Int.eq_ofNat_of_zero_le (by omega)
      have hc : cutW t 10 = (t.take i, t.drop (i + 1), true) := by unfold cutW; rw [if_pos (by omega), hi2]; rfl
      rw [hc] at CC
      obtain ⟨hil, _, _⟩ := ib_yes _ _ _ hi2
      have htl2 : t.length = s.length - r := by rw [HTS.out, List.length_drop]
      obtain ⟨line, hln⟩ : ∃ x, t.take i = x := ⟨_, rfl⟩
      have hll : line.length = i := by rw [← hln, List.length_take]; omega
      rw [hln] at CC
      have CR := hid (fun (W : World) (hW : Below w.heap.size w W) => implReadDeed_any line (by omega) W (hT.below hW))
      rw [HTS.out] at hi2 hln
      have hlsz : (⟨line.toArray⟩ : ByteArray).size = i := by show line.toArray.size = _; simp [hll]
      cases hro : readOut line with
      | none =>
        have HV := hid (show jOut s = (L, r) from jOut_stop HJ.out hr hi2 (by rw [hln]; exact hro))
        rw [hro] at CR
        have CR2 : Hid (∀ W, Below w.heap.size w W → Calls Tryz.prog 45 #[encStr line] W fun e w' => e = .returned (.tuple #[.agg #[.int .i64 0, .int .i64 0], .bool false]) ∧ Below W.heap.size W w') := CR
        clear CR hro hi2 hc hln
        go_wp2_with fail
        with_reducible refine Calls.mono CC.out ?_
        rintro e w4 ⟨rfl, b4⟩
        have HB4 := hid (HB.out.trans (b4.mono hwz))
        go_wp2_with fail
        with_reducible refine Calls.mono (CR2.out _ HB4.out) ?_
        rintro e w5 ⟨rfl, b5⟩
        have b45 := below_tr b4 b5
        have g6 := (Below.refl w5.heap.size w5).alloc (Nat.le_refl _) (.cells #[.int .i64 0, .int .i64 0] 39)
        have b46 := below_tr b45 g6
        have HO6 := hid (own_on2 HO.out b46)
        have HB6 := hid (HB.out.trans (b46.mono hwz))
        clear b4 b5 b45 g6 b46
        go_wp2
        go_ret2
        exact ⟨A1, m, c1, by rw [HV.out]; rfl, by rw [HV.out]; exact HO6.out, HB6.out⟩
      | some a =>
        have HJ2 := hid (show jgo s (r + i + 1) = (L ++ [a], r + i + 1, false) from by rw [jgo_lineP HJ.out hi2, hln, hro])
        rw [hro] at CR
        have CR2 : Hid (∀ W, Below w.heap.size w W → Calls Tryz.prog 45 #[encStr line] W fun e w' => e = .returned (.tuple #[.agg #[.int .i64 a.1, .int .i64 a.2], .bool true]) ∧ Below W.heap.size W w') := CR
        have wi : IntKind.i64.wrap ((i : Int) + 1) = (i : Int) + 1 := IntWalk.i64_in _ (by omega)
        have wr2 : IntKind.i64.wrap ((r : Int) + ((i : Int) + 1)) = (r : Int) + ((i : Int) + 1) := IntWalk.i64_in _ (by omega)
        clear CR hro hi2 hc hln
        go_wp2_with fail
        with_reducible refine Calls.mono CC.out ?_
        rintro e w4 ⟨rfl, b4⟩
        have HB4 := hid (HB.out.trans (b4.mono hwz))
        go_wp2_with fail
        with_reducible refine Calls.mono (CR2.out _ HB4.out) ?_
        rintro e w5 ⟨rfl, b5⟩
        obtain ⟨W6, hW6⟩ : ∃ W6, (w5.alloc (.cells #[.int .i64 a.1, .int .i64 a.2] 39)) = W6 := ⟨_, rfl⟩
        have c60 : W6.cell? ⟨w5.heap.size, 0, none⟩ = some (.int .i64 a.1) := by rw [← hW6]; simp
        have c61 : W6.cell? ⟨w5.heap.size, 1, none⟩ = some (.int .i64 a.2) := by rw [← hW6]; simp
        have g6 : Below w5.heap.size w5 W6 := by rw [← hW6]; exact (Below.refl _ _).alloc (Nat.le_refl _) _
        have b46 := below_tr (below_tr b4 b5) g6
        have o6 := own_on2 HO.out b46
        have hv := own_blk2 o6
        have HB6 := hid (HB.out.trans (b46.mono hwz))
        have hz6 := HB6.out.size
        clear b4 b5 g6 b46
        go_wp2_with (at_builtin; refine wpList_append_own _ rfl _ _ 24 rfl w.heap.size 39 i0 (deedV (0, 0)) 2 16 Tryz.underlying24 hi hz0 hz1 hz2 rfl (by decide) (.slice A1 m c1) _ _ rfl (o6.alloc _) ⟨W6.heap.size, 0, none⟩ 1 1 [.int .i64 a.1, .int .i64 a.2] rfl rfl (cells_new _ [.int .i64 a.1, .int .i64 a.2] _) (by simp [Value.oneCell']) (by simp only [maxLen]; omega) (by omega) (by simp; omega) ?_; intro v2 w2 o2 g2 _; obtain ⟨g, c2, rfl, hbg, hlt2⟩ := own_shape1 o2 (by omega); have B2 := hid (grew HB6.out (Nat.le_refl _) hv g2); have O2 := hid (show w2.ownsRow w.heap.size 39 2 (.slice (some ⟨g, 0, none⟩) (m + 1) c2) (m + 1) (ints (flat (L ++ [a]))) from by rw [← ints_flat_snoc]; exact o2); clear o2 g2)
        go_roundw
        case rel => exact ⟨_, m + 1, c2, r + i + 1, L ++ [a], rfl, by go_num, by omega, by omega, HJ2, O2, B2⟩
        case measure => simp [intOf]; omega
end Go.Proofs.YtkejcajboneniabGreatDoor
namespace Go.Proofs.YtkejcajboneniabGreatDoor
end Go.Proofs.YtkejcajboneniabGreatDoor
