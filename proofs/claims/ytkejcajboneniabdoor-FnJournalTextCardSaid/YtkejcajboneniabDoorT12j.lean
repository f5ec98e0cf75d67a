/-
  The walk of the program's ReadDeed. No statement is proved here.
-/
import Derived.Test.YtkejcajboneniabDoorT12h
namespace Go.Proofs.YtkejcajboneniabDoor
open Go.RowKit
set_option linter.unusedVariables false
set_option linter.unusedSimpArgs false

theorem pair_set {W : World} {g : Nat} {u v : Value} {t : TypeId} (x y : Value) (h : W.heap[g]? = some (.cells #[u, v] t (0, 0))) : ((W.setCell ⟨g, 0, none⟩ x).setCell ⟨g, 1, none⟩ y).heap[g]? = some (.cells #[x, y] t (0, 0)) :=
  heap_setCell_same _ g 1 _ t y (heap_setCell_same W g 0 _ t x h)
/-- The word and the number of a text, and whether its word is that of a kind, and its deed's text the text. -/
def wordOf (s : List UInt8) : List UInt8 := (cutW s 32).1
def numOf (s : List UInt8) : Int := (numOut (cutW s 32).2.1 99).1
def hitD (s : List UInt8) (j : Nat) : Bool := (wordB j == wordOf s) && (deedB (j : Int) (numOf s) == s)
theorem read_hit {s : List UInt8} {j : Nat} (hj : j < 7) (h : hitD s j = true) : readOut s = some ((j : Int), numOf s) := by
  unfold hitD at h
  rw [Bool.and_eq_true] at h
  have h1 : wordB j = wordOf s := by simpa using h.1
  have h2 : deedP ((j : Int), numOf s) = s := by unfold deedP; simpa using h.2
  have hne : s ≠ [] := by
    intro e
    rw [e] at h1
    have h3 : wordOf [] = [] := by decide
    rw [h3] at h1
    have : ∀ j : Fin 7, wordB j.val ≠ [] := by decide
    exact this ⟨j, hj⟩ h1
  have := read_deed ((j : Int), numOf s) (by rw [h2]; exact hne)
  rw [h2] at this
  exact this
theorem cut_flipW : ∀ n : Fin 100, cutW (flipB ++ num2 n.val) 32 = ([102, 108, 105, 112], num2 n.val, true) := by decide +kernel
theorem cut_roundW : ∀ n : Fin 100, cutW (roundB ++ num2 n.val) 32 = ([114, 111, 117, 110, 100], num2 n.val, true) := by decide +kernel
theorem num_of {s w : List UInt8} {q : Nat} (hq : q < 100) (h : cutW s 32 = (w, num2 q, true)) : numOf s = (q : Int) := by
  unfold numOf
  rw [h, ← numB_two hq, numOut_yes (by omega) (by omega)]
theorem num_zero {s w : List UInt8} (h : cutW s 32 = (w, [], false)) : numOf s = 0 := by
  unfold numOf
  rw [h]
  rfl
theorem read_miss {s : List UInt8} (h : ∀ j, j < 7 → hitD s j = false) : readOut s = none := by
  cases hr : readOut s with
  | none => rfl
  | some a =>
    exfalso
    obtain ⟨h1, hne⟩ := read_text hr
    obtain ⟨k, n⟩ := a
    unfold deedP at h1
    simp only at h1
    have hit : ∀ (j : Nat) (x : Int), j < 7 → k = (j : Int) → wordOf s = wordB j → numOf s = x → n = x → False := by
      intro j x hj hk hw hn hx
      have hf := h j hj
      unfold hitD at hf
      rw [hw, hn, ← hx, ← hk, h1] at hf
      simp at hf
    rcases deedB_form k n with ⟨q, hq, e1, e2, e3⟩ | ⟨q, hq, e1, e2, e3⟩ | ⟨e1, e2⟩ | e
    · have hc : cutW s 32 = ([102, 108, 105, 112], num2 q, true) := by rw [← h1, e3]; exact cut_flipW ⟨q, hq⟩
      exact hit 3 q (by decide) e2 (by unfold wordOf; rw [hc]; rfl) (num_of hq hc) e1
    · have hc : cutW s 32 = ([114, 111, 117, 110, 100], num2 q, true) := by rw [← h1, e3]; exact cut_roundW ⟨q, hq⟩
      exact hit 4 q (by decide) e2 (by unfold wordOf; rw [hc]; rfl) (num_of hq hc) e1
    · rcases e2 with ⟨e2, e3⟩ | ⟨e2, e3⟩ | ⟨e2, e3⟩ | ⟨e2, e3⟩ | ⟨e2, e3⟩
      · have hc : cutW s 32 = (sumsB, [], false) := by rw [← h1, e3]; decide
        exact hit 0 0 (by decide) e2 (by unfold wordOf; rw [hc]; rfl) (num_zero hc) e1
      · have hc : cutW s 32 = (carsB, [], false) := by rw [← h1, e3]; decide
        exact hit 1 0 (by decide) e2 (by unfold wordOf; rw [hc]; rfl) (num_zero hc) e1
      · have hc : cutW s 32 = (votesB, [], false) := by rw [← h1, e3]; decide
        exact hit 2 0 (by decide) e2 (by unfold wordOf; rw [hc]; rfl) (num_zero hc) e1
      · have hc : cutW s 32 = (freeB, [], false) := by rw [← h1, e3]; decide
        exact hit 5 0 (by decide) e2 (by unfold wordOf; rw [hc]; rfl) (num_zero hc) e1
      · have hc : cutW s 32 = (backB, [], false) := by rw [← h1, e3]; decide
        exact hit 6 0 (by decide) e2 (by unfold wordOf; rw [hc]; rfl) (num_zero hc) e1
    · exact hne (by rw [← h1]; exact e)

set_option maxRecDepth 100000 in
set_option maxHeartbeats 6400000 in
theorem implReadDeed_any (s : List UInt8) (hn : s.length ≤ 10000000) (w : World) (hT : TabsL w) :
    Calls Tryd.prog 27 #[encStr s] w fun e w' => e = .returned (readV (readOut s)) ∧ Below w.heap.size w w' := by
  have XA := heap_alloc_new w (.cells #[.int .i64 0, .int .i64 0] 42)
  have B0 := (Below.refl w.heap.size w).alloc (Nat.le_refl _) (.cells #[.int .i64 0, .int .i64 0] 42)
  obtain ⟨w0, e0⟩ : ∃ W, w.alloc (.cells #[.int .i64 0, .int .i64 0] 42) = W := ⟨_, rfl⟩
  have hz0 : w0.heap.size = w.heap.size + 1 := by rw [← e0]; simp
  rw [e0] at XA B0
  have CC := hid (strCut_any s 32 w0 (by omega))
  have hc2 : (cutW s 32).2.1.length ≤ 10000000 := by
    unfold cutW
    split
    · show (s.drop _).length ≤ _; rw [List.length_drop]; omega
    · show ([] : List UInt8).length ≤ _; simp
  have CN := hid (fun (W : World) (hW : Below w.heap.size w W) => numberOf_any (cutW s 32).2.1 99 W (by omega) (by omega) (hT.below hW))
  have HWD := hid (show wordOf s = (cutW s 32).1 from rfl)
  have HNM := hid (show numOf s = (numOut (cutW s 32).2.1 99).1 from rfl)
  have HXA := hid XA
  have HB0 := hid B0
  have HTT := hid (fun (W : World) (hW : Below w.heap.size w W) => hT.below hW)
  clear XA B0 hc2
  obtain ⟨word, hword⟩ : ∃ x, (cutW s 32).1 = x := ⟨_, rfl⟩
  obtain ⟨rest, hrest⟩ : ∃ x, (cutW s 32).2.1 = x := ⟨_, rfl⟩
  obtain ⟨spaced, hspaced⟩ : ∃ x, (cutW s 32).2.2 = x := ⟨_, rfl⟩
  rw [hword, hrest, hspaced] at CC
  rw [hrest] at CN HNM
  rw [hword] at HWD
  obtain ⟨nn, hnn⟩ : ∃ x, (numOut rest 99).1 = x := ⟨_, rfl⟩
  obtain ⟨tt, htt⟩ : ∃ x, (numOut rest 99).2 = x := ⟨_, rfl⟩
  rw [hnn, htt] at CN
  rw [hnn] at HNM
  clear hword hrest hspaced hnn htt
  go_enter Tryd.func27, Tryd.ntmps27
  go_wp2_with fail
  with_reducible refine Calls.mono CC.out ?_
  rintro e w1 ⟨rfl, b1⟩
  have HB1 := hid (HB0.out.trans (b1.mono (by omega)))
  have HX1 := hid ((b1.block w.heap.size (by omega)).trans HXA.out)
  have hz1 := b1.size
  clear b1 e0
  go_wp2_with fail
  with_reducible refine Calls.mono (CN.out _ HB1.out) ?_
  rintro e w2 ⟨rfl, b2⟩
  have HB2 := hid (HB1.out.trans (b2.mono (by omega)))
  have HX2 := hid ((b2.block w.heap.size (by omega)).trans HX1.out)
  have hz2 := b2.size
  have T2 := HTT.out _ HB2.out
  have d0 := T2.d 0 (by decide)
  have d1 := T2.d 1 (by decide)
  have d2 := T2.d 2 (by decide)
  have d3 := T2.d 3 (by decide)
  have d4 := T2.d 4 (by decide)
  have d5 := T2.d 5 (by decide)
  have d6 := T2.d 6 (by decide)
  clear b2 T2
  go_wp2
  clear d0 d1 d2 d3 d4 d5 d6
  go_loopw [24] (fun i wr => ∃ k : Nat, i = .int .i64 k ∧ k ≤ 7 ∧ Hid (∀ j, j < k → hitD s j = false) ∧ Hid (Below w.heap.size w wr) ∧ w.heap.size + 1 ≤ wr.heap.size ∧ Hid (wr.heap[w.heap.size]? = some (.cells #[.int .i64 0, .int .i64 0] 42 (0, 0)))) (fun i _ => 7 - (intOf i).toNat)
  case atStart => exact ⟨0, rfl, by omega, hid (fun j hj => absurd hj (by omega)), HB2, by omega, HX2⟩
  case round =>
    clear HB1 HX1 hz1 HB2 HX2 hz2
    obtain ⟨k, rfl, hk, HA, BB, hwz, HX⟩ := hrel
    by_cases hlt : k < 7
    · have hk7 : k = 0 ∨ k = 1 ∨ k = 2 ∨ k = 3 ∨ k = 4 ∨ k = 5 ∨ k = 6 := by omega
      rcases hk7 with rfl | rfl | rfl | rfl | rfl | rfl | rfl
      · have HA2 := hid (fun (hf : hitD s 0 = false) => show ∀ j, j < 0 + 1 → hitD s j = false from fun j hj => by
          by_cases h1 : j < 0
          · exact HA.out j h1
          · obtain rfl : j = 0 := by omega
            exact hf)
        have B3 := BB.out.alloc (by omega) (.cells #[.int .i64 0, .int .i64 nn] 42)
        have g3 := (Below.refl wr.heap.size wr).alloc (Nat.le_refl _) (.cells #[.int .i64 0, .int .i64 nn] 42)
        have X3 := heap_alloc_new wr (.cells #[.int .i64 0, .int .i64 nn] 42)
        have XR := (g3.block w.heap.size (by omega)).trans HX.out
        obtain ⟨w3, e3⟩ : ∃ W, wr.alloc (.cells #[.int .i64 0, .int .i64 nn] 42) = W := ⟨_, rfl⟩
        have hz3 : w3.heap.size = wr.heap.size + 1 := by rw [← e3]; simp
        rw [e3] at B3 X3 XR g3
        have x0 : w3.cell? ⟨wr.heap.size, 0, none⟩ = some (.int .i64 0) := cell_of_row _ _ 0 _ _ _ X3
        have x1 : w3.cell? ⟨wr.heap.size, 1, none⟩ = some (.int .i64 nn) := cell_of_row _ _ 1 _ _ _ X3
        have HB3 := hid B3
        have HX3 := hid X3
        have HXR3 := hid XR
        have xi : ∀ W : World, (Instr.index 66 (.agg #[encStr (wordB 0), encStr (wordB 1), encStr (wordB 2), encStr (wordB 3), encStr (wordB 4), encStr (wordB 5), encStr (wordB 6)]) (.int .i64 0)).run Tryd.prog W = .ok (encStr (wordB 0)) W := fun _ => by kernel_rfl
        (try simp only [show ((0 : Nat) : Int) = 0 from rfl])
        clear B3 g3 X3 XR
        cases hw : (wordB 0 == word) with
        | false =>
          have hne : ¬ wordB 0 = word := by simpa using hw
          have hne2 : ¬ ((⟨(wordB 0).toArray⟩ : ByteArray) = ⟨word.toArray⟩) := by
            intro h
            injection h with h
            exact hne (by simpa using h)
          have HF := hid (HA2.out (by unfold hitD; rw [HWD.out, hw]; rfl))
          clear HA2 x0 x1
          go_wp2
          go_roundw
          case rel => exact ⟨0 + 1, by go_num, by omega, HF, HB3, by omega, HXR3⟩
          case measure => simp [intOf]
        | true =>
          have hwe : wordB 0 = word := by simpa using hw
          subst hwe
          clear hw
          have CT := hid (implDeedText_any 0 nn w3 (HTT.out _ HB3.out).D)
          cases ht : (deedB 0 nn == s) with
          | false =>
            have hne : ¬ deedB 0 nn = s := by simpa using ht
            have hne2 : ¬ ((⟨(deedB 0 nn).toArray⟩ : ByteArray) = ⟨s.toArray⟩) := by
              intro h
              injection h with h
              exact hne (by simpa using h)
            have HF := hid (HA2.out (by
              unfold hitD
              rw [HNM.out, show (((0 : Nat) : Int)) = 0 from rfl, ht, Bool.and_false]))
            clear HA2
            go_wp2_with fail
            with_reducible refine Calls.mono CT.out ?_
            rintro e w4 ⟨rfl, b4⟩
            have HB4 := hid (HB3.out.trans (b4.mono (by omega)))
            have HXR4 := hid ((b4.block w.heap.size (by omega)).trans HXR3.out)
            have hz4 := b4.size
            clear b4 x0 x1
            go_wp2
            go_roundw
            case rel => exact ⟨0 + 1, by go_num, by omega, HF, HB4, by omega, HXR4⟩
            case measure => simp [intOf]
          | true =>
            have hte : deedB 0 nn = s := by simpa using ht
            have HV := hid (show readV (readOut s) = .tuple #[deedV (0, nn), .bool true] from by
              rw [read_hit (j := 0) (by decide) (by unfold hitD; rw [HWD.out, HNM.out, show (((0 : Nat) : Int)) = 0 from rfl, ht]; simp), HNM.out]
              rfl)
            rw [hte] at CT
            clear HA2 ht hte
            go_wp2_with fail
            with_reducible refine Calls.mono CT.out ?_
            rintro e w4 ⟨rfl, b4⟩
            have HB4 := hid (HB3.out.trans (b4.mono (by omega)))
            have XR4 := (b4.block w.heap.size (by omega)).trans HXR3.out
            have X4 := (b4.block wr.heap.size (by omega)).trans HX3.out
            have y0 : w4.cell? ⟨wr.heap.size, 0, none⟩ = some (.int .i64 0) := cell_of_row _ _ 0 _ _ _ X4
            have y1 : w4.cell? ⟨wr.heap.size, 1, none⟩ = some (.int .i64 nn) := cell_of_row _ _ 1 _ _ _ X4
            have r0 : w4.cell? ⟨w.heap.size, 0, none⟩ = some (.int .i64 0) := cell_of_row _ _ 0 _ _ _ XR4
            have r1 : w4.cell? ⟨w.heap.size, 1, none⟩ = some (.int .i64 0) := cell_of_row _ _ 1 _ _ _ XR4
            have rf0 := frozen_of_row w4 w.heap.size 0 _ _ XR4
            have rf1 := frozen_of_row w4 w.heap.size 1 _ _ XR4
            have XQ := hid (pair_set (.int .i64 0) (.int .i64 nn) XR4)
            clear b4 x0 x1 XR4 X4
            go_wp2
            (try simp only [Exit.inBlock, Exit.then])
            refine bodyPost_ret (results_kk rfl _ _ w.heap.size 42 _ (0, 0) _ (by simp [Act.put]) XQ.out Tryd.underlying42 rfl (by kernel_rfl)) rfl ?_
            exact ⟨by rw [HV.out]; rfl, (HB4.out.setCell (p := ⟨w.heap.size, 0, none⟩) (Nat.le_refl _) _).setCell (p := ⟨w.heap.size, 1, none⟩) (Nat.le_refl _) _⟩
      · have HA2 := hid (fun (hf : hitD s 1 = false) => show ∀ j, j < 1 + 1 → hitD s j = false from fun j hj => by
          by_cases h1 : j < 1
          · exact HA.out j h1
          · obtain rfl : j = 1 := by omega
            exact hf)
        have B3 := BB.out.alloc (by omega) (.cells #[.int .i64 1, .int .i64 nn] 42)
        have g3 := (Below.refl wr.heap.size wr).alloc (Nat.le_refl _) (.cells #[.int .i64 1, .int .i64 nn] 42)
        have X3 := heap_alloc_new wr (.cells #[.int .i64 1, .int .i64 nn] 42)
        have XR := (g3.block w.heap.size (by omega)).trans HX.out
        obtain ⟨w3, e3⟩ : ∃ W, wr.alloc (.cells #[.int .i64 1, .int .i64 nn] 42) = W := ⟨_, rfl⟩
        have hz3 : w3.heap.size = wr.heap.size + 1 := by rw [← e3]; simp
        rw [e3] at B3 X3 XR g3
        have x0 : w3.cell? ⟨wr.heap.size, 0, none⟩ = some (.int .i64 1) := cell_of_row _ _ 0 _ _ _ X3
        have x1 : w3.cell? ⟨wr.heap.size, 1, none⟩ = some (.int .i64 nn) := cell_of_row _ _ 1 _ _ _ X3
        have HB3 := hid B3
        have HX3 := hid X3
        have HXR3 := hid XR
        have xi : ∀ W : World, (Instr.index 66 (.agg #[encStr (wordB 0), encStr (wordB 1), encStr (wordB 2), encStr (wordB 3), encStr (wordB 4), encStr (wordB 5), encStr (wordB 6)]) (.int .i64 1)).run Tryd.prog W = .ok (encStr (wordB 1)) W := fun _ => by kernel_rfl
        (try simp only [show ((1 : Nat) : Int) = 1 from rfl])
        clear B3 g3 X3 XR
        cases hw : (wordB 1 == word) with
        | false =>
          have hne : ¬ wordB 1 = word := by simpa using hw
          have hne2 : ¬ ((⟨(wordB 1).toArray⟩ : ByteArray) = ⟨word.toArray⟩) := by
            intro h
            injection h with h
            exact hne (by simpa using h)
          have HF := hid (HA2.out (by unfold hitD; rw [HWD.out, hw]; rfl))
          clear HA2 x0 x1
          go_wp2
          go_roundw
          case rel => exact ⟨1 + 1, by go_num, by omega, HF, HB3, by omega, HXR3⟩
          case measure => simp [intOf]
        | true =>
          have hwe : wordB 1 = word := by simpa using hw
          subst hwe
          clear hw
          have CT := hid (implDeedText_any 1 nn w3 (HTT.out _ HB3.out).D)
          cases ht : (deedB 1 nn == s) with
          | false =>
            have hne : ¬ deedB 1 nn = s := by simpa using ht
            have hne2 : ¬ ((⟨(deedB 1 nn).toArray⟩ : ByteArray) = ⟨s.toArray⟩) := by
              intro h
              injection h with h
              exact hne (by simpa using h)
            have HF := hid (HA2.out (by
              unfold hitD
              rw [HNM.out, show (((1 : Nat) : Int)) = 1 from rfl, ht, Bool.and_false]))
            clear HA2
            go_wp2_with fail
            with_reducible refine Calls.mono CT.out ?_
            rintro e w4 ⟨rfl, b4⟩
            have HB4 := hid (HB3.out.trans (b4.mono (by omega)))
            have HXR4 := hid ((b4.block w.heap.size (by omega)).trans HXR3.out)
            have hz4 := b4.size
            clear b4 x0 x1
            go_wp2
            go_roundw
            case rel => exact ⟨1 + 1, by go_num, by omega, HF, HB4, by omega, HXR4⟩
            case measure => simp [intOf]
          | true =>
            have hte : deedB 1 nn = s := by simpa using ht
            have HV := hid (show readV (readOut s) = .tuple #[deedV (1, nn), .bool true] from by
              rw [read_hit (j := 1) (by decide) (by unfold hitD; rw [HWD.out, HNM.out, show (((1 : Nat) : Int)) = 1 from rfl, ht]; simp), HNM.out]
              rfl)
            rw [hte] at CT
            clear HA2 ht hte
            go_wp2_with fail
            with_reducible refine Calls.mono CT.out ?_
            rintro e w4 ⟨rfl, b4⟩
            have HB4 := hid (HB3.out.trans (b4.mono (by omega)))
            have XR4 := (b4.block w.heap.size (by omega)).trans HXR3.out
            have X4 := (b4.block wr.heap.size (by omega)).trans HX3.out
            have y0 : w4.cell? ⟨wr.heap.size, 0, none⟩ = some (.int .i64 1) := cell_of_row _ _ 0 _ _ _ X4
            have y1 : w4.cell? ⟨wr.heap.size, 1, none⟩ = some (.int .i64 nn) := cell_of_row _ _ 1 _ _ _ X4
            have r0 : w4.cell? ⟨w.heap.size, 0, none⟩ = some (.int .i64 0) := cell_of_row _ _ 0 _ _ _ XR4
            have r1 : w4.cell? ⟨w.heap.size, 1, none⟩ = some (.int .i64 0) := cell_of_row _ _ 1 _ _ _ XR4
            have rf0 := frozen_of_row w4 w.heap.size 0 _ _ XR4
            have rf1 := frozen_of_row w4 w.heap.size 1 _ _ XR4
            have XQ := hid (pair_set (.int .i64 1) (.int .i64 nn) XR4)
            clear b4 x0 x1 XR4 X4
            go_wp2
            (try simp only [Exit.inBlock, Exit.then])
            refine bodyPost_ret (results_kk rfl _ _ w.heap.size 42 _ (0, 0) _ (by simp [Act.put]) XQ.out Tryd.underlying42 rfl (by kernel_rfl)) rfl ?_
            exact ⟨by rw [HV.out]; rfl, (HB4.out.setCell (p := ⟨w.heap.size, 0, none⟩) (Nat.le_refl _) _).setCell (p := ⟨w.heap.size, 1, none⟩) (Nat.le_refl _) _⟩
      · have HA2 := hid (fun (hf : hitD s 2 = false) => show ∀ j, j < 2 + 1 → hitD s j = false from fun j hj => by
          by_cases h1 : j < 2
          · exact HA.out j h1
          · obtain rfl : j = 2 := by omega
            exact hf)
        have B3 := BB.out.alloc (by omega) (.cells #[.int .i64 2, .int .i64 nn] 42)
        have g3 := (Below.refl wr.heap.size wr).alloc (Nat.le_refl _) (.cells #[.int .i64 2, .int .i64 nn] 42)
        have X3 := heap_alloc_new wr (.cells #[.int .i64 2, .int .i64 nn] 42)
        have XR := (g3.block w.heap.size (by omega)).trans HX.out
        obtain ⟨w3, e3⟩ : ∃ W, wr.alloc (.cells #[.int .i64 2, .int .i64 nn] 42) = W := ⟨_, rfl⟩
        have hz3 : w3.heap.size = wr.heap.size + 1 := by rw [← e3]; simp
        rw [e3] at B3 X3 XR g3
        have x0 : w3.cell? ⟨wr.heap.size, 0, none⟩ = some (.int .i64 2) := cell_of_row _ _ 0 _ _ _ X3
        have x1 : w3.cell? ⟨wr.heap.size, 1, none⟩ = some (.int .i64 nn) := cell_of_row _ _ 1 _ _ _ X3
        have HB3 := hid B3
        have HX3 := hid X3
        have HXR3 := hid XR
        have xi : ∀ W : World, (Instr.index 66 (.agg #[encStr (wordB 0), encStr (wordB 1), encStr (wordB 2), encStr (wordB 3), encStr (wordB 4), encStr (wordB 5), encStr (wordB 6)]) (.int .i64 2)).run Tryd.prog W = .ok (encStr (wordB 2)) W := fun _ => by kernel_rfl
        (try simp only [show ((2 : Nat) : Int) = 2 from rfl])
        clear B3 g3 X3 XR
        cases hw : (wordB 2 == word) with
        | false =>
          have hne : ¬ wordB 2 = word := by simpa using hw
          have hne2 : ¬ ((⟨(wordB 2).toArray⟩ : ByteArray) = ⟨word.toArray⟩) := by
            intro h
            injection h with h
            exact hne (by simpa using h)
          have HF := hid (HA2.out (by unfold hitD; rw [HWD.out, hw]; rfl))
          clear HA2 x0 x1
          go_wp2
          go_roundw
          case rel => exact ⟨2 + 1, by go_num, by omega, HF, HB3, by omega, HXR3⟩
          case measure => simp [intOf]
        | true =>
          have hwe : wordB 2 = word := by simpa using hw
          subst hwe
          clear hw
          have CT := hid (implDeedText_any 2 nn w3 (HTT.out _ HB3.out).D)
          cases ht : (deedB 2 nn == s) with
          | false =>
            have hne : ¬ deedB 2 nn = s := by simpa using ht
            have hne2 : ¬ ((⟨(deedB 2 nn).toArray⟩ : ByteArray) = ⟨s.toArray⟩) := by
              intro h
              injection h with h
              exact hne (by simpa using h)
            have HF := hid (HA2.out (by
              unfold hitD
              rw [HNM.out, show (((2 : Nat) : Int)) = 2 from rfl, ht, Bool.and_false]))
            clear HA2
            go_wp2_with fail
            with_reducible refine Calls.mono CT.out ?_
            rintro e w4 ⟨rfl, b4⟩
            have HB4 := hid (HB3.out.trans (b4.mono (by omega)))
            have HXR4 := hid ((b4.block w.heap.size (by omega)).trans HXR3.out)
            have hz4 := b4.size
            clear b4 x0 x1
            go_wp2
            go_roundw
            case rel => exact ⟨2 + 1, by go_num, by omega, HF, HB4, by omega, HXR4⟩
            case measure => simp [intOf]
          | true =>
            have hte : deedB 2 nn = s := by simpa using ht
            have HV := hid (show readV (readOut s) = .tuple #[deedV (2, nn), .bool true] from by
              rw [read_hit (j := 2) (by decide) (by unfold hitD; rw [HWD.out, HNM.out, show (((2 : Nat) : Int)) = 2 from rfl, ht]; simp), HNM.out]
              rfl)
            rw [hte] at CT
            clear HA2 ht hte
            go_wp2_with fail
            with_reducible refine Calls.mono CT.out ?_
            rintro e w4 ⟨rfl, b4⟩
            have HB4 := hid (HB3.out.trans (b4.mono (by omega)))
            have XR4 := (b4.block w.heap.size (by omega)).trans HXR3.out
            have X4 := (b4.block wr.heap.size (by omega)).trans HX3.out
            have y0 : w4.cell? ⟨wr.heap.size, 0, none⟩ = some (.int .i64 2) := cell_of_row _ _ 0 _ _ _ X4
            have y1 : w4.cell? ⟨wr.heap.size, 1, none⟩ = some (.int .i64 nn) := cell_of_row _ _ 1 _ _ _ X4
            have r0 : w4.cell? ⟨w.heap.size, 0, none⟩ = some (.int .i64 0) := cell_of_row _ _ 0 _ _ _ XR4
            have r1 : w4.cell? ⟨w.heap.size, 1, none⟩ = some (.int .i64 0) := cell_of_row _ _ 1 _ _ _ XR4
            have rf0 := frozen_of_row w4 w.heap.size 0 _ _ XR4
            have rf1 := frozen_of_row w4 w.heap.size 1 _ _ XR4
            have XQ := hid (pair_set (.int .i64 2) (.int .i64 nn) XR4)
            clear b4 x0 x1 XR4 X4
            go_wp2
            (try simp only [Exit.inBlock, Exit.then])
            refine bodyPost_ret (results_kk rfl _ _ w.heap.size 42 _ (0, 0) _ (by simp [Act.put]) XQ.out Tryd.underlying42 rfl (by kernel_rfl)) rfl ?_
            exact ⟨by rw [HV.out]; rfl, (HB4.out.setCell (p := ⟨w.heap.size, 0, none⟩) (Nat.le_refl _) _).setCell (p := ⟨w.heap.size, 1, none⟩) (Nat.le_refl _) _⟩
      · have HA2 := hid (fun (hf : hitD s 3 = false) => show ∀ j, j < 3 + 1 → hitD s j = false from fun j hj => by
          by_cases h1 : j < 3
          · exact HA.out j h1
          · obtain rfl : j = 3 := by omega
            exact hf)
        have B3 := BB.out.alloc (by omega) (.cells #[.int .i64 3, .int .i64 nn] 42)
        have g3 := (Below.refl wr.heap.size wr).alloc (Nat.le_refl _) (.cells #[.int .i64 3, .int .i64 nn] 42)
        have X3 := heap_alloc_new wr (.cells #[.int .i64 3, .int .i64 nn] 42)
        have XR := (g3.block w.heap.size (by omega)).trans HX.out
        obtain ⟨w3, e3⟩ : ∃ W, wr.alloc (.cells #[.int .i64 3, .int .i64 nn] 42) = W := ⟨_, rfl⟩
        have hz3 : w3.heap.size = wr.heap.size + 1 := by rw [← e3]; simp
        rw [e3] at B3 X3 XR g3
        have x0 : w3.cell? ⟨wr.heap.size, 0, none⟩ = some (.int .i64 3) := cell_of_row _ _ 0 _ _ _ X3
        have x1 : w3.cell? ⟨wr.heap.size, 1, none⟩ = some (.int .i64 nn) := cell_of_row _ _ 1 _ _ _ X3
        have HB3 := hid B3
        have HX3 := hid X3
        have HXR3 := hid XR
        have xi : ∀ W : World, (Instr.index 66 (.agg #[encStr (wordB 0), encStr (wordB 1), encStr (wordB 2), encStr (wordB 3), encStr (wordB 4), encStr (wordB 5), encStr (wordB 6)]) (.int .i64 3)).run Tryd.prog W = .ok (encStr (wordB 3)) W := fun _ => by kernel_rfl
        (try simp only [show ((3 : Nat) : Int) = 3 from rfl])
        clear B3 g3 X3 XR
        cases hw : (wordB 3 == word) with
        | false =>
          have hne : ¬ wordB 3 = word := by simpa using hw
          have hne2 : ¬ ((⟨(wordB 3).toArray⟩ : ByteArray) = ⟨word.toArray⟩) := by
            intro h
            injection h with h
            exact hne (by simpa using h)
          have HF := hid (HA2.out (by unfold hitD; rw [HWD.out, hw]; rfl))
          clear HA2 x0 x1
          go_wp2
          go_roundw
          case rel => exact ⟨3 + 1, by go_num, by omega, HF, HB3, by omega, HXR3⟩
          case measure => simp [intOf]
        | true =>
          have hwe : wordB 3 = word := by simpa using hw
          subst hwe
          clear hw
          have CT := hid (implDeedText_any 3 nn w3 (HTT.out _ HB3.out).D)
          cases ht : (deedB 3 nn == s) with
          | false =>
            have hne : ¬ deedB 3 nn = s := by simpa using ht
            have hne2 : ¬ ((⟨(deedB 3 nn).toArray⟩ : ByteArray) = ⟨s.toArray⟩) := by
              intro h
              injection h with h
              exact hne (by simpa using h)
            have HF := hid (HA2.out (by
              unfold hitD
              rw [HNM.out, show (((3 : Nat) : Int)) = 3 from rfl, ht, Bool.and_false]))
            clear HA2
            go_wp2_with fail
            with_reducible refine Calls.mono CT.out ?_
            rintro e w4 ⟨rfl, b4⟩
            have HB4 := hid (HB3.out.trans (b4.mono (by omega)))
            have HXR4 := hid ((b4.block w.heap.size (by omega)).trans HXR3.out)
            have hz4 := b4.size
            clear b4 x0 x1
            go_wp2
            go_roundw
            case rel => exact ⟨3 + 1, by go_num, by omega, HF, HB4, by omega, HXR4⟩
            case measure => simp [intOf]
          | true =>
            have hte : deedB 3 nn = s := by simpa using ht
            have HV := hid (show readV (readOut s) = .tuple #[deedV (3, nn), .bool true] from by
              rw [read_hit (j := 3) (by decide) (by unfold hitD; rw [HWD.out, HNM.out, show (((3 : Nat) : Int)) = 3 from rfl, ht]; simp), HNM.out]
              rfl)
            rw [hte] at CT
            clear HA2 ht hte
            go_wp2_with fail
            with_reducible refine Calls.mono CT.out ?_
            rintro e w4 ⟨rfl, b4⟩
            have HB4 := hid (HB3.out.trans (b4.mono (by omega)))
            have XR4 := (b4.block w.heap.size (by omega)).trans HXR3.out
            have X4 := (b4.block wr.heap.size (by omega)).trans HX3.out
            have y0 : w4.cell? ⟨wr.heap.size, 0, none⟩ = some (.int .i64 3) := cell_of_row _ _ 0 _ _ _ X4
            have y1 : w4.cell? ⟨wr.heap.size, 1, none⟩ = some (.int .i64 nn) := cell_of_row _ _ 1 _ _ _ X4
            have r0 : w4.cell? ⟨w.heap.size, 0, none⟩ = some (.int .i64 0) := cell_of_row _ _ 0 _ _ _ XR4
            have r1 : w4.cell? ⟨w.heap.size, 1, none⟩ = some (.int .i64 0) := cell_of_row _ _ 1 _ _ _ XR4
            have rf0 := frozen_of_row w4 w.heap.size 0 _ _ XR4
            have rf1 := frozen_of_row w4 w.heap.size 1 _ _ XR4
            have XQ := hid (pair_set (.int .i64 3) (.int .i64 nn) XR4)
            clear b4 x0 x1 XR4 X4
            go_wp2
            (try simp only [Exit.inBlock, Exit.then])
            refine bodyPost_ret (results_kk rfl _ _ w.heap.size 42 _ (0, 0) _ (by simp [Act.put]) XQ.out Tryd.underlying42 rfl (by kernel_rfl)) rfl ?_
            exact ⟨by rw [HV.out]; rfl, (HB4.out.setCell (p := ⟨w.heap.size, 0, none⟩) (Nat.le_refl _) _).setCell (p := ⟨w.heap.size, 1, none⟩) (Nat.le_refl _) _⟩
      · have HA2 := hid (fun (hf : hitD s 4 = false) => show ∀ j, j < 4 + 1 → hitD s j = false from fun j hj => by
          by_cases h1 : j < 4
          · exact HA.out j h1
          · obtain rfl : j = 4 := by omega
            exact hf)
        have B3 := BB.out.alloc (by omega) (.cells #[.int .i64 4, .int .i64 nn] 42)
        have g3 := (Below.refl wr.heap.size wr).alloc (Nat.le_refl _) (.cells #[.int .i64 4, .int .i64 nn] 42)
        have X3 := heap_alloc_new wr (.cells #[.int .i64 4, .int .i64 nn] 42)
        have XR := (g3.block w.heap.size (by omega)).trans HX.out
        obtain ⟨w3, e3⟩ : ∃ W, wr.alloc (.cells #[.int .i64 4, .int .i64 nn] 42) = W := ⟨_, rfl⟩
        have hz3 : w3.heap.size = wr.heap.size + 1 := by rw [← e3]; simp
        rw [e3] at B3 X3 XR g3
        have x0 : w3.cell? ⟨wr.heap.size, 0, none⟩ = some (.int .i64 4) := cell_of_row _ _ 0 _ _ _ X3
        have x1 : w3.cell? ⟨wr.heap.size, 1, none⟩ = some (.int .i64 nn) := cell_of_row _ _ 1 _ _ _ X3
        have HB3 := hid B3
        have HX3 := hid X3
        have HXR3 := hid XR
        have xi : ∀ W : World, (Instr.index 66 (.agg #[encStr (wordB 0), encStr (wordB 1), encStr (wordB 2), encStr (wordB 3), encStr (wordB 4), encStr (wordB 5), encStr (wordB 6)]) (.int .i64 4)).run Tryd.prog W = .ok (encStr (wordB 4)) W := fun _ => by kernel_rfl
        (try simp only [show ((4 : Nat) : Int) = 4 from rfl])
        clear B3 g3 X3 XR
        cases hw : (wordB 4 == word) with
        | false =>
          have hne : ¬ wordB 4 = word := by simpa using hw
          have hne2 : ¬ ((⟨(wordB 4).toArray⟩ : ByteArray) = ⟨word.toArray⟩) := by
            intro h
            injection h with h
            exact hne (by simpa using h)
          have HF := hid (HA2.out (by unfold hitD; rw [HWD.out, hw]; rfl))
          clear HA2 x0 x1
          go_wp2
          go_roundw
          case rel => exact ⟨4 + 1, by go_num, by omega, HF, HB3, by omega, HXR3⟩
          case measure => simp [intOf]
        | true =>
          have hwe : wordB 4 = word := by simpa using hw
          subst hwe
          clear hw
          have CT := hid (implDeedText_any 4 nn w3 (HTT.out _ HB3.out).D)
          cases ht : (deedB 4 nn == s) with
          | false =>
            have hne : ¬ deedB 4 nn = s := by simpa using ht
            have hne2 : ¬ ((⟨(deedB 4 nn).toArray⟩ : ByteArray) = ⟨s.toArray⟩) := by
              intro h
              injection h with h
              exact hne (by simpa using h)
            have HF := hid (HA2.out (by
              unfold hitD
              rw [HNM.out, show (((4 : Nat) : Int)) = 4 from rfl, ht, Bool.and_false]))
            clear HA2
            go_wp2_with fail
            with_reducible refine Calls.mono CT.out ?_
            rintro e w4 ⟨rfl, b4⟩
            have HB4 := hid (HB3.out.trans (b4.mono (by omega)))
            have HXR4 := hid ((b4.block w.heap.size (by omega)).trans HXR3.out)
            have hz4 := b4.size
            clear b4 x0 x1
            go_wp2
            go_roundw
            case rel => exact ⟨4 + 1, by go_num, by omega, HF, HB4, by omega, HXR4⟩
            case measure => simp [intOf]
          | true =>
            have hte : deedB 4 nn = s := by simpa using ht
            have HV := hid (show readV (readOut s) = .tuple #[deedV (4, nn), .bool true] from by
              rw [read_hit (j := 4) (by decide) (by unfold hitD; rw [HWD.out, HNM.out, show (((4 : Nat) : Int)) = 4 from rfl, ht]; simp), HNM.out]
              rfl)
            rw [hte] at CT
            clear HA2 ht hte
            go_wp2_with fail
            with_reducible refine Calls.mono CT.out ?_
            rintro e w4 ⟨rfl, b4⟩
            have HB4 := hid (HB3.out.trans (b4.mono (by omega)))
            have XR4 := (b4.block w.heap.size (by omega)).trans HXR3.out
            have X4 := (b4.block wr.heap.size (by omega)).trans HX3.out
            have y0 : w4.cell? ⟨wr.heap.size, 0, none⟩ = some (.int .i64 4) := cell_of_row _ _ 0 _ _ _ X4
            have y1 : w4.cell? ⟨wr.heap.size, 1, none⟩ = some (.int .i64 nn) := cell_of_row _ _ 1 _ _ _ X4
            have r0 : w4.cell? ⟨w.heap.size, 0, none⟩ = some (.int .i64 0) := cell_of_row _ _ 0 _ _ _ XR4
            have r1 : w4.cell? ⟨w.heap.size, 1, none⟩ = some (.int .i64 0) := cell_of_row _ _ 1 _ _ _ XR4
            have rf0 := frozen_of_row w4 w.heap.size 0 _ _ XR4
            have rf1 := frozen_of_row w4 w.heap.size 1 _ _ XR4
            have XQ := hid (pair_set (.int .i64 4) (.int .i64 nn) XR4)
            clear b4 x0 x1 XR4 X4
            go_wp2
            (try simp only [Exit.inBlock, Exit.then])
            refine bodyPost_ret (results_kk rfl _ _ w.heap.size 42 _ (0, 0) _ (by simp [Act.put]) XQ.out Tryd.underlying42 rfl (by kernel_rfl)) rfl ?_
            exact ⟨by rw [HV.out]; rfl, (HB4.out.setCell (p := ⟨w.heap.size, 0, none⟩) (Nat.le_refl _) _).setCell (p := ⟨w.heap.size, 1, none⟩) (Nat.le_refl _) _⟩
      · have HA2 := hid (fun (hf : hitD s 5 = false) => show ∀ j, j < 5 + 1 → hitD s j = false from fun j hj => by
          by_cases h1 : j < 5
          · exact HA.out j h1
          · obtain rfl : j = 5 := by omega
            exact hf)
        have B3 := BB.out.alloc (by omega) (.cells #[.int .i64 5, .int .i64 nn] 42)
        have g3 := (Below.refl wr.heap.size wr).alloc (Nat.le_refl _) (.cells #[.int .i64 5, .int .i64 nn] 42)
        have X3 := heap_alloc_new wr (.cells #[.int .i64 5, .int .i64 nn] 42)
        have XR := (g3.block w.heap.size (by omega)).trans HX.out
        obtain ⟨w3, e3⟩ : ∃ W, wr.alloc (.cells #[.int .i64 5, .int .i64 nn] 42) = W := ⟨_, rfl⟩
        have hz3 : w3.heap.size = wr.heap.size + 1 := by rw [← e3]; simp
        rw [e3] at B3 X3 XR g3
        have x0 : w3.cell? ⟨wr.heap.size, 0, none⟩ = some (.int .i64 5) := cell_of_row _ _ 0 _ _ _ X3
        have x1 : w3.cell? ⟨wr.heap.size, 1, none⟩ = some (.int .i64 nn) := cell_of_row _ _ 1 _ _ _ X3
        have HB3 := hid B3
        have HX3 := hid X3
        have HXR3 := hid XR
        have xi : ∀ W : World, (Instr.index 66 (.agg #[encStr (wordB 0), encStr (wordB 1), encStr (wordB 2), encStr (wordB 3), encStr (wordB 4), encStr (wordB 5), encStr (wordB 6)]) (.int .i64 5)).run Tryd.prog W = .ok (encStr (wordB 5)) W := fun _ => by kernel_rfl
        (try simp only [show ((5 : Nat) : Int) = 5 from rfl])
        clear B3 g3 X3 XR
        cases hw : (wordB 5 == word) with
        | false =>
          have hne : ¬ wordB 5 = word := by simpa using hw
          have hne2 : ¬ ((⟨(wordB 5).toArray⟩ : ByteArray) = ⟨word.toArray⟩) := by
            intro h
            injection h with h
            exact hne (by simpa using h)
          have HF := hid (HA2.out (by unfold hitD; rw [HWD.out, hw]; rfl))
          clear HA2 x0 x1
          go_wp2
          go_roundw
          case rel => exact ⟨5 + 1, by go_num, by omega, HF, HB3, by omega, HXR3⟩
          case measure => simp [intOf]
        | true =>
          have hwe : wordB 5 = word := by simpa using hw
          subst hwe
          clear hw
          have CT := hid (implDeedText_any 5 nn w3 (HTT.out _ HB3.out).D)
          cases ht : (deedB 5 nn == s) with
          | false =>
            have hne : ¬ deedB 5 nn = s := by simpa using ht
            have hne2 : ¬ ((⟨(deedB 5 nn).toArray⟩ : ByteArray) = ⟨s.toArray⟩) := by
              intro h
              injection h with h
              exact hne (by simpa using h)
            have HF := hid (HA2.out (by
              unfold hitD
              rw [HNM.out, show (((5 : Nat) : Int)) = 5 from rfl, ht, Bool.and_false]))
            clear HA2
            go_wp2_with fail
            with_reducible refine Calls.mono CT.out ?_
            rintro e w4 ⟨rfl, b4⟩
            have HB4 := hid (HB3.out.trans (b4.mono (by omega)))
            have HXR4 := hid ((b4.block w.heap.size (by omega)).trans HXR3.out)
            have hz4 := b4.size
            clear b4 x0 x1
            go_wp2
            go_roundw
            case rel => exact ⟨5 + 1, by go_num, by omega, HF, HB4, by omega, HXR4⟩
            case measure => simp [intOf]
          | true =>
            have hte : deedB 5 nn = s := by simpa using ht
            have HV := hid (show readV (readOut s) = .tuple #[deedV (5, nn), .bool true] from by
              rw [read_hit (j := 5) (by decide) (by unfold hitD; rw [HWD.out, HNM.out, show (((5 : Nat) : Int)) = 5 from rfl, ht]; simp), HNM.out]
              rfl)
            rw [hte] at CT
            clear HA2 ht hte
            go_wp2_with fail
            with_reducible refine Calls.mono CT.out ?_
            rintro e w4 ⟨rfl, b4⟩
            have HB4 := hid (HB3.out.trans (b4.mono (by omega)))
            have XR4 := (b4.block w.heap.size (by omega)).trans HXR3.out
            have X4 := (b4.block wr.heap.size (by omega)).trans HX3.out
            have y0 : w4.cell? ⟨wr.heap.size, 0, none⟩ = some (.int .i64 5) := cell_of_row _ _ 0 _ _ _ X4
            have y1 : w4.cell? ⟨wr.heap.size, 1, none⟩ = some (.int .i64 nn) := cell_of_row _ _ 1 _ _ _ X4
            have r0 : w4.cell? ⟨w.heap.size, 0, none⟩ = some (.int .i64 0) := cell_of_row _ _ 0 _ _ _ XR4
            have r1 : w4.cell? ⟨w.heap.size, 1, none⟩ = some (.int .i64 0) := cell_of_row _ _ 1 _ _ _ XR4
            have rf0 := frozen_of_row w4 w.heap.size 0 _ _ XR4
            have rf1 := frozen_of_row w4 w.heap.size 1 _ _ XR4
            have XQ := hid (pair_set (.int .i64 5) (.int .i64 nn) XR4)
            clear b4 x0 x1 XR4 X4
            go_wp2
            (try simp only [Exit.inBlock, Exit.then])
            refine bodyPost_ret (results_kk rfl _ _ w.heap.size 42 _ (0, 0) _ (by simp [Act.put]) XQ.out Tryd.underlying42 rfl (by kernel_rfl)) rfl ?_
            exact ⟨by rw [HV.out]; rfl, (HB4.out.setCell (p := ⟨w.heap.size, 0, none⟩) (Nat.le_refl _) _).setCell (p := ⟨w.heap.size, 1, none⟩) (Nat.le_refl _) _⟩
      · have HA2 := hid (fun (hf : hitD s 6 = false) => show ∀ j, j < 6 + 1 → hitD s j = false from fun j hj => by
          by_cases h1 : j < 6
          · exact HA.out j h1
          · obtain rfl : j = 6 := by omega
            exact hf)
        have B3 := BB.out.alloc (by omega) (.cells #[.int .i64 6, .int .i64 nn] 42)
        have g3 := (Below.refl wr.heap.size wr).alloc (Nat.le_refl _) (.cells #[.int .i64 6, .int .i64 nn] 42)
        have X3 := heap_alloc_new wr (.cells #[.int .i64 6, .int .i64 nn] 42)
        have XR := (g3.block w.heap.size (by omega)).trans HX.out
        obtain ⟨w3, e3⟩ : ∃ W, wr.alloc (.cells #[.int .i64 6, .int .i64 nn] 42) = W := ⟨_, rfl⟩
        have hz3 : w3.heap.size = wr.heap.size + 1 := by rw [← e3]; simp
        rw [e3] at B3 X3 XR g3
        have x0 : w3.cell? ⟨wr.heap.size, 0, none⟩ = some (.int .i64 6) := cell_of_row _ _ 0 _ _ _ X3
        have x1 : w3.cell? ⟨wr.heap.size, 1, none⟩ = some (.int .i64 nn) := cell_of_row _ _ 1 _ _ _ X3
        have HB3 := hid B3
        have HX3 := hid X3
        have HXR3 := hid XR
        have xi : ∀ W : World, (Instr.index 66 (.agg #[encStr (wordB 0), encStr (wordB 1), encStr (wordB 2), encStr (wordB 3), encStr (wordB 4), encStr (wordB 5), encStr (wordB 6)]) (.int .i64 6)).run Tryd.prog W = .ok (encStr (wordB 6)) W := fun _ => by kernel_rfl
        (try simp only [show ((6 : Nat) : Int) = 6 from rfl])
        clear B3 g3 X3 XR
        cases hw : (wordB 6 == word) with
        | false =>
          have hne : ¬ wordB 6 = word := by simpa using hw
          have hne2 : ¬ ((⟨(wordB 6).toArray⟩ : ByteArray) = ⟨word.toArray⟩) := by
            intro h
            injection h with h
            exact hne (by simpa using h)
          have HF := hid (HA2.out (by unfold hitD; rw [HWD.out, hw]; rfl))
          clear HA2 x0 x1
          go_wp2
          go_roundw
          case rel => exact ⟨6 + 1, by go_num, by omega, HF, HB3, by omega, HXR3⟩
          case measure => simp [intOf]
        | true =>
          have hwe : wordB 6 = word := by simpa using hw
          subst hwe
          clear hw
          have CT := hid (implDeedText_any 6 nn w3 (HTT.out _ HB3.out).D)
          cases ht : (deedB 6 nn == s) with
          | false =>
            have hne : ¬ deedB 6 nn = s := by simpa using ht
            have hne2 : ¬ ((⟨(deedB 6 nn).toArray⟩ : ByteArray) = ⟨s.toArray⟩) := by
              intro h
              injection h with h
              exact hne (by simpa using h)
            have HF := hid (HA2.out (by
              unfold hitD
              rw [HNM.out, show (((6 : Nat) : Int)) = 6 from rfl, ht, Bool.and_false]))
            clear HA2
            go_wp2_with fail
            with_reducible refine Calls.mono CT.out ?_
            rintro e w4 ⟨rfl, b4⟩
            have HB4 := hid (HB3.out.trans (b4.mono (by omega)))
            have HXR4 := hid ((b4.block w.heap.size (by omega)).trans HXR3.out)
            have hz4 := b4.size
            clear b4 x0 x1
            go_wp2
            go_roundw
            case rel => exact ⟨6 + 1, by go_num, by omega, HF, HB4, by omega, HXR4⟩
            case measure => simp [intOf]
          | true =>
            have hte : deedB 6 nn = s := by simpa using ht
            have HV := hid (show readV (readOut s) = .tuple #[deedV (6, nn), .bool true] from by
              rw [read_hit (j := 6) (by decide) (by unfold hitD; rw [HWD.out, HNM.out, show (((6 : Nat) : Int)) = 6 from rfl, ht]; simp), HNM.out]
              rfl)
            rw [hte] at CT
            clear HA2 ht hte
            go_wp2_with fail
            with_reducible refine Calls.mono CT.out ?_
            rintro e w4 ⟨rfl, b4⟩
            have HB4 := hid (HB3.out.trans (b4.mono (by omega)))
            have XR4 := (b4.block w.heap.size (by omega)).trans HXR3.out
            have X4 := (b4.block wr.heap.size (by omega)).trans HX3.out
            have y0 : w4.cell? ⟨wr.heap.size, 0, none⟩ = some (.int .i64 6) := cell_of_row _ _ 0 _ _ _ X4
            have y1 : w4.cell? ⟨wr.heap.size, 1, none⟩ = some (.int .i64 nn) := cell_of_row _ _ 1 _ _ _ X4
            have r0 : w4.cell? ⟨w.heap.size, 0, none⟩ = some (.int .i64 0) := cell_of_row _ _ 0 _ _ _ XR4
            have r1 : w4.cell? ⟨w.heap.size, 1, none⟩ = some (.int .i64 0) := cell_of_row _ _ 1 _ _ _ XR4
            have rf0 := frozen_of_row w4 w.heap.size 0 _ _ XR4
            have rf1 := frozen_of_row w4 w.heap.size 1 _ _ XR4
            have XQ := hid (pair_set (.int .i64 6) (.int .i64 nn) XR4)
            clear b4 x0 x1 XR4 X4
            go_wp2
            (try simp only [Exit.inBlock, Exit.then])
            refine bodyPost_ret (results_kk rfl _ _ w.heap.size 42 _ (0, 0) _ (by simp [Act.put]) XQ.out Tryd.underlying42 rfl (by kernel_rfl)) rfl ?_
            exact ⟨by rw [HV.out]; rfl, (HB4.out.setCell (p := ⟨w.heap.size, 0, none⟩) (Nat.le_refl _) _).setCell (p := ⟨w.heap.size, 1, none⟩) (Nat.le_refl _) _⟩
    · obtain rfl : k = 7 := by omega
      have HV := hid (show readV (readOut s) = .tuple #[deedV (0, 0), .bool false] from by rw [read_miss HA.out]; rfl)
      have r0 : wr.cell? ⟨w.heap.size, 0, none⟩ = some (.int .i64 0) := cell_of_row _ _ 0 _ _ _ HX.out
      have r1 : wr.cell? ⟨w.heap.size, 1, none⟩ = some (.int .i64 0) := cell_of_row _ _ 1 _ _ _ HX.out
      have rf0 := frozen_of_row wr w.heap.size 0 _ _ HX.out
      have rf1 := frozen_of_row wr w.heap.size 1 _ _ HX.out
      have XQ := hid (pair_set (.int .i64 0) (.int .i64 0) HX.out)
      go_wp2
      (try simp only [Exit.inBlock, Exit.then])
      refine bodyPost_ret (results_kk rfl _ _ w.heap.size 42 _ (0, 0) _ (by simp [Act.put]) XQ.out Tryd.underlying42 rfl (by kernel_rfl)) rfl ?_
      exact ⟨by rw [HV.out]; rfl, (BB.out.setCell (p := ⟨w.heap.size, 0, none⟩) (Nat.le_refl _) _).setCell (p := ⟨w.heap.size, 1, none⟩) (Nat.le_refl _) _⟩
end Go.Proofs.YtkejcajboneniabDoor
