/-
  Texts put together: T12h. No statement is proved here.
-/
import Derived.Test.YtkejcajboneniabGreatDoorQMs
import Derived.Test.YtkejcajboneniabGreatDoorQMd
import Derived.Test.YtkejcajboneniabGreatDoorQT12b
import Derived.Test.YtkejcajboneniabGreatDoorQMf
import Derived.Test.YtkejcajboneniabGreatDoorQMq
import Derived.Deep.RegionHeld3
set_option linter.unusedVariables false
set_option linter.unusedSimpArgs false
namespace Go.Proofs.YtkejcajboneniabGreatDoor
open Go.RowKit

theorem join_nil : ∀ xs : List (List UInt8), Lib.join xs [] = xs.flatten
  | [] => rfl
  | [x] => by simp [Lib.join, List.intercalate]
  | x :: y :: r => by
    have h := join_nil (y :: r)
    simp only [Lib.join, List.intercalate, List.intersperse_cons_cons, List.flatten_cons, List.nil_append] at h ⊢
    rw [h]
theorem join_row {l : List Int} (h : ∀ x ∈ l, x = 0 ∨ x = 1) : joinB l [] = rowB l := by
  unfold joinB
  rw [join_nil]
  induction l with
  | nil => rfl
  | cons a l ih =>
    have h1 := h a (by simp)
    have h2 := ih (fun x hx => h x (by simp [hx]))
    unfold numT rowB at h2 ⊢
    rw [List.map_cons, List.map_cons, List.flatten_cons, h2, numB_lt (show a.toNat < 10 by omega)]
    rfl

set_option maxHeartbeats 1600000 in
theorem implRowText_any (A : Option Addr) (n c : Nat) (l : List Int) (w : World) (hs : Sl w w.heap.size A n l) (hT : TabsP w) :
    Calls Tryz.prog 33 #[.slice A n c] w fun e w' => e = .returned (encStr (rowTextOut l)) ∧ Below w.heap.size w w' := by
  have HL := hid hs.len
  have CK := hid (bitsI_any A n c l w w.heap.size hs)
  cases hok : bitsOk l with
  | false =>
    have HV := hid (show rowTextOut l = [] from by unfold rowTextOut; rw [hok]; rfl)
    rw [hok] at CK
    clear hok
    go_enter Tryz.func33, Tryz.ntmps33
    go_wp2_with fail
    with_reducible refine Calls.mono CK.out ?_
    rintro e w' ⟨rfl, rfl⟩
    go_wp2
    go_ret
    exact ⟨by rw [HV.out]; rfl, Below.refl _ _⟩
  | true =>
    obtain ⟨hb, h1, h2⟩ := bitsOk_iff.1 hok
    rw [HL.out] at h1 h2
    have HV := hid (show rowTextOut l = joinB l [] from by unfold rowTextOut; rw [if_pos hok, join_row hb])
    have CJ := hid (joined_any A n c l [] w hs (fun x hx => by rcases hb x hx with e | e <;> omega) (by omega) (by simp) hT)
    rw [hok] at CK
    clear hok hb
    go_enter Tryz.func33, Tryz.ntmps33
    go_wp2_with fail
    with_reducible refine Calls.mono CK.out ?_
    rintro e w' ⟨rfl, rfl⟩
    go_wp2_with fail
    with_reducible refine Calls.mono CJ.out ?_
    rintro e w1 ⟨rfl, b1⟩
    go_wp2
    go_ret
    exact ⟨by rw [HV.out]; rfl, b1⟩

theorem deed_text : ∀ j, j < 7 → wordB j = [sumsB, carsB, votesB, [102, 108, 105, 112], [114, 111, 117, 110, 100], freeB, backB].getD j [] := by decide
set_option maxRecDepth 100000 in
set_option maxHeartbeats 3200000 in
theorem implDeedText_any (k n : Int) (w : World) (hT : TabsD w) :
    Calls Tryz.prog 15 #[deed k n] w fun e w' => e = .returned (encStr (deedB k n)) ∧ Below w.heap.size w w' := by
  have XA := heap_alloc_new w (.cells #[.int .i64 k, .int .i64 n] 39)
  have B0 := (Below.refl w.heap.size w).alloc (Nat.le_refl _) (.cells #[.int .i64 k, .int .i64 n] 39)
  have T0 := hT.below B0
  obtain ⟨w0, e0⟩ : ∃ W, w.alloc (.cells #[.int .i64 k, .int .i64 n] 39) = W := ⟨_, rfl⟩
  have hz0 : w0.heap.size = w.heap.size + 1 := by rw [← e0]; simp
  rw [e0] at XA B0 T0
  have a0 : w0.cell? ⟨w.heap.size, 0, none⟩ = some (.int .i64 k) := cell_of_row _ _ 0 _ _ _ XA
  have a1 : w0.cell? ⟨w.heap.size, 1, none⟩ = some (.int .i64 n) := cell_of_row _ _ 1 _ _ _ XA
  have HXA := hid XA
  have HB0 := hid B0
  have HT := hid T0
  have CN := hid (fun (W : World) => namesPlace_any k n W)
  clear XA B0 T0
  by_cases hlo : k < 0
  · have HV := hid (show deedB k n = [] from by unfold deedB; rw [if_neg (by omega), if_neg (by omega), if_neg (by omega), if_neg (by omega), if_neg (by omega), if_neg (by omega), if_neg (by omega)])
    go_enter Tryz.func15, Tryz.ntmps15
    go_wp2
    go_ret
    exact ⟨by rw [HV.out]; rfl, HB0.out⟩
  by_cases hhi : 6 < k
  · have HV := hid (show deedB k n = [] from by unfold deedB; rw [if_neg (by omega), if_neg (by omega), if_neg (by omega), if_neg (by omega), if_neg (by omega), if_neg (by omega), if_neg (by omega)])
    go_enter Tryz.func15, Tryz.ntmps15
    go_wp2
    go_ret
    exact ⟨by rw [HV.out]; rfl, HB0.out⟩
  by_cases hk0 : k = 0
  · subst hk0
    rw [show placed 0 = false from by decide] at CN
    by_cases hn : n = 0
    · subst hn
      have HV := hid (show deedB 0 0 = wordB 0 from by rw [deed_text 0 (by decide)]; unfold deedB; simp)
      go_enter Tryz.func15, Tryz.ntmps15
      go_wp2_with fail
      with_reducible refine Calls.mono (CN.out _) ?_
      rintro e w1 ⟨rfl, b1⟩
      have XB := (b1.block w.heap.size (by omega)).trans HXA.out
      have a0 : w1.cell? ⟨w.heap.size, 0, none⟩ = some (.int .i64 0) := cell_of_row _ _ 0 _ _ _ XB
      have a1 : w1.cell? ⟨w.heap.size, 1, none⟩ = some (.int .i64 0) := cell_of_row _ _ 1 _ _ _ XB
      have HB1 := hid (HB0.out.trans (b1.mono (by omega)))
      have HT1 := hid (HT.out.below b1)
      have hzw1 := b1.size
      have HX1 := hid XB
      clear b1 XB
      have d0 := HT1.out.d 0 (by decide)
      go_wp2
      go_ret
      exact ⟨by rw [HV.out]; rfl, HB1.out⟩
    · have hn' : (n == 0) = false := by simpa using hn
      have HV := hid (show deedB 0 n = [] from by unfold deedB; simp [hn])
      go_enter Tryz.func15, Tryz.ntmps15
      go_wp2_with fail
      with_reducible refine Calls.mono (CN.out _) ?_
      rintro e w1 ⟨rfl, b1⟩
      have XB := (b1.block w.heap.size (by omega)).trans HXA.out
      have a0 : w1.cell? ⟨w.heap.size, 0, none⟩ = some (.int .i64 0) := cell_of_row _ _ 0 _ _ _ XB
      have a1 : w1.cell? ⟨w.heap.size, 1, none⟩ = some (.int .i64 n) := cell_of_row _ _ 1 _ _ _ XB
      have HB1 := hid (HB0.out.trans (b1.mono (by omega)))
      have HT1 := hid (HT.out.below b1)
      have hzw1 := b1.size
      have HX1 := hid XB
      clear b1 XB
      go_wp2_with fail
      with_reducible refine Calls.mono (CN.out _) ?_
      rintro e w2 ⟨rfl, b2⟩
      have XB := (b2.block w.heap.size (by omega)).trans HX1.out
      have a0 : w2.cell? ⟨w.heap.size, 0, none⟩ = some (.int .i64 0) := cell_of_row _ _ 0 _ _ _ XB
      have a1 : w2.cell? ⟨w.heap.size, 1, none⟩ = some (.int .i64 n) := cell_of_row _ _ 1 _ _ _ XB
      have HB2 := hid (HB1.out.trans (b2.mono (by omega)))
      have HT2 := hid (HT1.out.below b2)
      have hzw2 := b2.size
      have HX2 := hid XB
      clear b2 XB
      go_wp2
      go_ret
      exact ⟨by rw [HV.out]; rfl, HB2.out⟩
  by_cases hk1 : k = 1
  · subst hk1
    rw [show placed 1 = false from by decide] at CN
    by_cases hn : n = 0
    · subst hn
      have HV := hid (show deedB 1 0 = wordB 1 from by rw [deed_text 1 (by decide)]; unfold deedB; simp)
      go_enter Tryz.func15, Tryz.ntmps15
      go_wp2_with fail
      with_reducible refine Calls.mono (CN.out _) ?_
      rintro e w1 ⟨rfl, b1⟩
      have XB := (b1.block w.heap.size (by omega)).trans HXA.out
      have a0 : w1.cell? ⟨w.heap.size, 0, none⟩ = some (.int .i64 1) := cell_of_row _ _ 0 _ _ _ XB
      have a1 : w1.cell? ⟨w.heap.size, 1, none⟩ = some (.int .i64 0) := cell_of_row _ _ 1 _ _ _ XB
      have HB1 := hid (HB0.out.trans (b1.mono (by omega)))
      have HT1 := hid (HT.out.below b1)
      have hzw1 := b1.size
      have HX1 := hid XB
      clear b1 XB
      have d0 := HT1.out.d 1 (by decide)
      go_wp2
      go_ret
      exact ⟨by rw [HV.out]; rfl, HB1.out⟩
    · have hn' : (n == 0) = false := by simpa using hn
      have HV := hid (show deedB 1 n = [] from by unfold deedB; simp [hn])
      go_enter Tryz.func15, Tryz.ntmps15
      go_wp2_with fail
      with_reducible refine Calls.mono (CN.out _) ?_
      rintro e w1 ⟨rfl, b1⟩
      have XB := (b1.block w.heap.size (by omega)).trans HXA.out
      have a0 : w1.cell? ⟨w.heap.size, 0, none⟩ = some (.int .i64 1) := cell_of_row _ _ 0 _ _ _ XB
      have a1 : w1.cell? ⟨w.heap.size, 1, none⟩ = some (.int .i64 n) := cell_of_row _ _ 1 _ _ _ XB
      have HB1 := hid (HB0.out.trans (b1.mono (by omega)))
      have HT1 := hid (HT.out.below b1)
      have hzw1 := b1.size
      have HX1 := hid XB
      clear b1 XB
      go_wp2_with fail
      with_reducible refine Calls.mono (CN.out _) ?_
      rintro e w2 ⟨rfl, b2⟩
      have XB := (b2.block w.heap.size (by omega)).trans HX1.out
      have a0 : w2.cell? ⟨w.heap.size, 0, none⟩ = some (.int .i64 1) := cell_of_row _ _ 0 _ _ _ XB
      have a1 : w2.cell? ⟨w.heap.size, 1, none⟩ = some (.int .i64 n) := cell_of_row _ _ 1 _ _ _ XB
      have HB2 := hid (HB1.out.trans (b2.mono (by omega)))
      have HT2 := hid (HT1.out.below b2)
      have hzw2 := b2.size
      have HX2 := hid XB
      clear b2 XB
      go_wp2
      go_ret
      exact ⟨by rw [HV.out]; rfl, HB2.out⟩
  by_cases hk2 : k = 2
  · subst hk2
    rw [show placed 2 = false from by decide] at CN
    by_cases hn : n = 0
    · subst hn
      have HV := hid (show deedB 2 0 = wordB 2 from by rw [deed_text 2 (by decide)]; unfold deedB; simp)
      go_enter Tryz.func15, Tryz.ntmps15
      go_wp2_with fail
      with_reducible refine Calls.mono (CN.out _) ?_
      rintro e w1 ⟨rfl, b1⟩
      have XB := (b1.block w.heap.size (by omega)).trans HXA.out
      have a0 : w1.cell? ⟨w.heap.size, 0, none⟩ = some (.int .i64 2) := cell_of_row _ _ 0 _ _ _ XB
      have a1 : w1.cell? ⟨w.heap.size, 1, none⟩ = some (.int .i64 0) := cell_of_row _ _ 1 _ _ _ XB
      have HB1 := hid (HB0.out.trans (b1.mono (by omega)))
      have HT1 := hid (HT.out.below b1)
      have hzw1 := b1.size
      have HX1 := hid XB
      clear b1 XB
      have d0 := HT1.out.d 2 (by decide)
      go_wp2
      go_ret
      exact ⟨by rw [HV.out]; rfl, HB1.out⟩
    · have hn' : (n == 0) = false := by simpa using hn
      have HV := hid (show deedB 2 n = [] from by unfold deedB; simp [hn])
      go_enter Tryz.func15, Tryz.ntmps15
      go_wp2_with fail
      with_reducible refine Calls.mono (CN.out _) ?_
      rintro e w1 ⟨rfl, b1⟩
      have XB := (b1.block w.heap.size (by omega)).trans HXA.out
      have a0 : w1.cell? ⟨w.heap.size, 0, none⟩ = some (.int .i64 2) := cell_of_row _ _ 0 _ _ _ XB
      have a1 : w1.cell? ⟨w.heap.size, 1, none⟩ = some (.int .i64 n) := cell_of_row _ _ 1 _ _ _ XB
      have HB1 := hid (HB0.out.trans (b1.mono (by omega)))
      have HT1 := hid (HT.out.below b1)
      have hzw1 := b1.size
      have HX1 := hid XB
      clear b1 XB
      go_wp2_with fail
      with_reducible refine Calls.mono (CN.out _) ?_
      rintro e w2 ⟨rfl, b2⟩
      have XB := (b2.block w.heap.size (by omega)).trans HX1.out
      have a0 : w2.cell? ⟨w.heap.size, 0, none⟩ = some (.int .i64 2) := cell_of_row _ _ 0 _ _ _ XB
      have a1 : w2.cell? ⟨w.heap.size, 1, none⟩ = some (.int .i64 n) := cell_of_row _ _ 1 _ _ _ XB
      have HB2 := hid (HB1.out.trans (b2.mono (by omega)))
      have HT2 := hid (HT1.out.below b2)
      have hzw2 := b2.size
      have HX2 := hid XB
      clear b2 XB
      go_wp2
      go_ret
      exact ⟨by rw [HV.out]; rfl, HB2.out⟩
  by_cases hk5 : k = 5
  · subst hk5
    rw [show placed 5 = false from by decide] at CN
    by_cases hn : n = 0
    · subst hn
      have HV := hid (show deedB 5 0 = wordB 5 from by rw [deed_text 5 (by decide)]; unfold deedB; simp)
      go_enter Tryz.func15, Tryz.ntmps15
      go_wp2_with fail
      with_reducible refine Calls.mono (CN.out _) ?_
      rintro e w1 ⟨rfl, b1⟩
      have XB := (b1.block w.heap.size (by omega)).trans HXA.out
      have a0 : w1.cell? ⟨w.heap.size, 0, none⟩ = some (.int .i64 5) := cell_of_row _ _ 0 _ _ _ XB
      have a1 : w1.cell? ⟨w.heap.size, 1, none⟩ = some (.int .i64 0) := cell_of_row _ _ 1 _ _ _ XB
      have HB1 := hid (HB0.out.trans (b1.mono (by omega)))
      have HT1 := hid (HT.out.below b1)
      have hzw1 := b1.size
      have HX1 := hid XB
      clear b1 XB
      have d0 := HT1.out.d 5 (by decide)
      go_wp2
      go_ret
      exact ⟨by rw [HV.out]; rfl, HB1.out⟩
    · have hn' : (n == 0) = false := by simpa using hn
      have HV := hid (show deedB 5 n = [] from by unfold deedB; simp [hn])
      go_enter Tryz.func15, Tryz.ntmps15
      go_wp2_with fail
      with_reducible refine Calls.mono (CN.out _) ?_
      rintro e w1 ⟨rfl, b1⟩
      have XB := (b1.block w.heap.size (by omega)).trans HXA.out
      have a0 : w1.cell? ⟨w.heap.size, 0, none⟩ = some (.int .i64 5) := cell_of_row _ _ 0 _ _ _ XB
      have a1 : w1.cell? ⟨w.heap.size, 1, none⟩ = some (.int .i64 n) := cell_of_row _ _ 1 _ _ _ XB
      have HB1 := hid (HB0.out.trans (b1.mono (by omega)))
      have HT1 := hid (HT.out.below b1)
      have hzw1 := b1.size
      have HX1 := hid XB
      clear b1 XB
      go_wp2_with fail
      with_reducible refine Calls.mono (CN.out _) ?_
      rintro e w2 ⟨rfl, b2⟩
      have XB := (b2.block w.heap.size (by omega)).trans HX1.out
      have a0 : w2.cell? ⟨w.heap.size, 0, none⟩ = some (.int .i64 5) := cell_of_row _ _ 0 _ _ _ XB
      have a1 : w2.cell? ⟨w.heap.size, 1, none⟩ = some (.int .i64 n) := cell_of_row _ _ 1 _ _ _ XB
      have HB2 := hid (HB1.out.trans (b2.mono (by omega)))
      have HT2 := hid (HT1.out.below b2)
      have hzw2 := b2.size
      have HX2 := hid XB
      clear b2 XB
      go_wp2
      go_ret
      exact ⟨by rw [HV.out]; rfl, HB2.out⟩
  by_cases hk6 : k = 6
  · subst hk6
    rw [show placed 6 = false from by decide] at CN
    by_cases hn : n = 0
    · subst hn
      have HV := hid (show deedB 6 0 = wordB 6 from by rw [deed_text 6 (by decide)]; unfold deedB; simp)
      go_enter Tryz.func15, Tryz.ntmps15
      go_wp2_with fail
      with_reducible refine Calls.mono (CN.out _) ?_
      rintro e w1 ⟨rfl, b1⟩
      have XB := (b1.block w.heap.size (by omega)).trans HXA.out
      have a0 : w1.cell? ⟨w.heap.size, 0, none⟩ = some (.int .i64 6) := cell_of_row _ _ 0 _ _ _ XB
      have a1 : w1.cell? ⟨w.heap.size, 1, none⟩ = some (.int .i64 0) := cell_of_row _ _ 1 _ _ _ XB
      have HB1 := hid (HB0.out.trans (b1.mono (by omega)))
      have HT1 := hid (HT.out.below b1)
      have hzw1 := b1.size
      have HX1 := hid XB
      clear b1 XB
      have d0 := HT1.out.d 6 (by decide)
      go_wp2
      go_ret
      exact ⟨by rw [HV.out]; rfl, HB1.out⟩
    · have hn' : (n == 0) = false := by simpa using hn
      have HV := hid (show deedB 6 n = [] from by unfold deedB; simp [hn])
      go_enter Tryz.func15, Tryz.ntmps15
      go_wp2_with fail
      with_reducible refine Calls.mono (CN.out _) ?_
      rintro e w1 ⟨rfl, b1⟩
      have XB := (b1.block w.heap.size (by omega)).trans HXA.out
      have a0 : w1.cell? ⟨w.heap.size, 0, none⟩ = some (.int .i64 6) := cell_of_row _ _ 0 _ _ _ XB
      have a1 : w1.cell? ⟨w.heap.size, 1, none⟩ = some (.int .i64 n) := cell_of_row _ _ 1 _ _ _ XB
      have HB1 := hid (HB0.out.trans (b1.mono (by omega)))
      have HT1 := hid (HT.out.below b1)
      have hzw1 := b1.size
      have HX1 := hid XB
      clear b1 XB
      go_wp2_with fail
      with_reducible refine Calls.mono (CN.out _) ?_
      rintro e w2 ⟨rfl, b2⟩
      have XB := (b2.block w.heap.size (by omega)).trans HX1.out
      have a0 : w2.cell? ⟨w.heap.size, 0, none⟩ = some (.int .i64 6) := cell_of_row _ _ 0 _ _ _ XB
      have a1 : w2.cell? ⟨w.heap.size, 1, none⟩ = some (.int .i64 n) := cell_of_row _ _ 1 _ _ _ XB
      have HB2 := hid (HB1.out.trans (b2.mono (by omega)))
      have HT2 := hid (HT1.out.below b2)
      have hzw2 := b2.size
      have HX2 := hid XB
      clear b2 XB
      go_wp2
      go_ret
      exact ⟨by rw [HV.out]; rfl, HB2.out⟩
  by_cases hk3 : k = 3
  · subst hk3
    rw [show placed 3 = true from by decide] at CN
    by_cases hneg : n < 0
    · have HV := hid (show deedB 3 n = [] from by
        have hw : within n 0 99 = false := by rw [Bool.eq_false_iff]; intro h; have := within_iff.1 h; omega
        unfold deedB; simp [hw])
      have hneg' : ¬ (0 ≤ n) := by omega
      go_enter Tryz.func15, Tryz.ntmps15
      go_wp2_with fail
      with_reducible refine Calls.mono (CN.out _) ?_
      rintro e w1 ⟨rfl, b1⟩
      have XB := (b1.block w.heap.size (by omega)).trans HXA.out
      have a0 : w1.cell? ⟨w.heap.size, 0, none⟩ = some (.int .i64 3) := cell_of_row _ _ 0 _ _ _ XB
      have a1 : w1.cell? ⟨w.heap.size, 1, none⟩ = some (.int .i64 n) := cell_of_row _ _ 1 _ _ _ XB
      have HB1 := hid (HB0.out.trans (b1.mono (by omega)))
      have HT1 := hid (HT.out.below b1)
      have hzw1 := b1.size
      have HX1 := hid XB
      clear b1 XB
      go_wp2_with fail
      with_reducible refine Calls.mono (CN.out _) ?_
      rintro e w2 ⟨rfl, b2⟩
      have XB := (b2.block w.heap.size (by omega)).trans HX1.out
      have a0 : w2.cell? ⟨w.heap.size, 0, none⟩ = some (.int .i64 3) := cell_of_row _ _ 0 _ _ _ XB
      have a1 : w2.cell? ⟨w.heap.size, 1, none⟩ = some (.int .i64 n) := cell_of_row _ _ 1 _ _ _ XB
      have HB2 := hid (HB1.out.trans (b2.mono (by omega)))
      have HT2 := hid (HT1.out.below b2)
      have hzw2 := b2.size
      have HX2 := hid XB
      clear b2 XB
      go_wp2
      go_ret
      exact ⟨by rw [HV.out]; rfl, HB2.out⟩
    · obtain ⟨q, rfl⟩ : ∃ q : Nat, n = q := Int.eq_ofNat_of_zero_le (by omega)
      have hneg' : (0 : Int) ≤ (q : Int) := by omega
      by_cases hbig : (99 : Int) < (q : Int)
      · have HV := hid (show deedB 3 q = [] from by
          have hw : within (q : Int) 0 99 = false := by rw [Bool.eq_false_iff]; intro h; have := within_iff.1 h; omega
          unfold deedB; simp [hw])
        have hbig' : ¬ ((q : Int) ≤ 99) := by omega
        go_enter Tryz.func15, Tryz.ntmps15
        go_wp2_with fail
        with_reducible refine Calls.mono (CN.out _) ?_
        rintro e w1 ⟨rfl, b1⟩
        have XB := (b1.block w.heap.size (by omega)).trans HXA.out
        have a0 : w1.cell? ⟨w.heap.size, 0, none⟩ = some (.int .i64 3) := cell_of_row _ _ 0 _ _ _ XB
        have a1 : w1.cell? ⟨w.heap.size, 1, none⟩ = some (.int .i64 q) := cell_of_row _ _ 1 _ _ _ XB
        have HB1 := hid (HB0.out.trans (b1.mono (by omega)))
        have HT1 := hid (HT.out.below b1)
        have hzw1 := b1.size
        have HX1 := hid XB
        clear b1 XB
        go_wp2_with fail
        with_reducible refine Calls.mono (CN.out _) ?_
        rintro e w2 ⟨rfl, b2⟩
        have XB := (b2.block w.heap.size (by omega)).trans HX1.out
        have a0 : w2.cell? ⟨w.heap.size, 0, none⟩ = some (.int .i64 3) := cell_of_row _ _ 0 _ _ _ XB
        have a1 : w2.cell? ⟨w.heap.size, 1, none⟩ = some (.int .i64 q) := cell_of_row _ _ 1 _ _ _ XB
        have HB2 := hid (HB1.out.trans (b2.mono (by omega)))
        have HT2 := hid (HT1.out.below b2)
        have hzw2 := b2.size
        have HX2 := hid XB
        clear b2 XB
        go_wp2
        go_ret
        exact ⟨by rw [HV.out]; rfl, HB2.out⟩
      · have hq : q < 100 := by omega
        have HV := hid (show deedB 3 q = (wordB 3 ++ [32]) ++ numB q from by
          have hw : within (q : Int) 0 99 = true := within_iff.2 (by omega)
          rw [deed_text 3 (by decide)]; unfold deedB; simp [hw]; rfl)
        have hbig' : (q : Int) ≤ 99 := by omega
        have hct1 := fun W => cat_any (wordB 3) [32] (by rw [deed_text 3 (by decide)]; decide) W
        have hct2 := fun W => cat_any (wordB 3 ++ [32]) (numB q) (by have := numB_len q; rw [deed_text 3 (by decide)]; simp; omega) W
        have CI := hid (fun W => itoaS_any q W hq)
        go_enter Tryz.func15, Tryz.ntmps15
        go_wp2_with fail
        with_reducible refine Calls.mono (CN.out _) ?_
        rintro e w1 ⟨rfl, b1⟩
        have XB := (b1.block w.heap.size (by omega)).trans HXA.out
        have a0 : w1.cell? ⟨w.heap.size, 0, none⟩ = some (.int .i64 3) := cell_of_row _ _ 0 _ _ _ XB
        have a1 : w1.cell? ⟨w.heap.size, 1, none⟩ = some (.int .i64 q) := cell_of_row _ _ 1 _ _ _ XB
        have HB1 := hid (HB0.out.trans (b1.mono (by omega)))
        have HT1 := hid (HT.out.below b1)
        have hzw1 := b1.size
        have HX1 := hid XB
        clear b1 XB
        go_wp2_with fail
        with_reducible refine Calls.mono (CN.out _) ?_
        rintro e w2 ⟨rfl, b2⟩
        have XB := (b2.block w.heap.size (by omega)).trans HX1.out
        have a0 : w2.cell? ⟨w.heap.size, 0, none⟩ = some (.int .i64 3) := cell_of_row _ _ 0 _ _ _ XB
        have a1 : w2.cell? ⟨w.heap.size, 1, none⟩ = some (.int .i64 q) := cell_of_row _ _ 1 _ _ _ XB
        have HB2 := hid (HB1.out.trans (b2.mono (by omega)))
        have HT2 := hid (HT1.out.below b2)
        have hzw2 := b2.size
        have HX2 := hid XB
        clear b2 XB
        have d0 := HT2.out.d 3 (by decide)
        go_wp2
        go_region_held3 (fun w' => (w'.cell? ⟨w.heap.size, 0, none⟩ = some (.int .i64 3) ∧ w'.cell? ⟨w.heap.size, 1, none⟩ = some (.int .i64 q)) ∧ w'.cell? ⟨0, 3, none⟩ = some (encStr (wordB 3)))
          (first
            | go_keep
            | assumption)
          (first
            | (go_at_call 54; (with_reducible refine Calls.mono (CI.out _) ?_); rintro e w5 ⟨rfl, rfl⟩))
        all_goals
          go_wp2
          go_ret
          exact ⟨by rw [HV.out]; rfl, below_tr HB2.out (below_drewN (Below.refl _ _) _)⟩
  by_cases hk4 : k = 4
  · subst hk4
    rw [show placed 4 = true from by decide] at CN
    by_cases hneg : n < 0
    · have HV := hid (show deedB 4 n = [] from by
        have hw : within n 0 99 = false := by rw [Bool.eq_false_iff]; intro h; have := within_iff.1 h; omega
        unfold deedB; simp [hw])
      have hneg' : ¬ (0 ≤ n) := by omega
      go_enter Tryz.func15, Tryz.ntmps15
      go_wp2_with fail
      with_reducible refine Calls.mono (CN.out _) ?_
      rintro e w1 ⟨rfl, b1⟩
      have XB := (b1.block w.heap.size (by omega)).trans HXA.out
      have a0 : w1.cell? ⟨w.heap.size, 0, none⟩ = some (.int .i64 4) := cell_of_row _ _ 0 _ _ _ XB
      have a1 : w1.cell? ⟨w.heap.size, 1, none⟩ = some (.int .i64 n) := cell_of_row _ _ 1 _ _ _ XB
      have HB1 := hid (HB0.out.trans (b1.mono (by omega)))
      have HT1 := hid (HT.out.below b1)
      have hzw1 := b1.size
      have HX1 := hid XB
      clear b1 XB
      go_wp2_with fail
      with_reducible refine Calls.mono (CN.out _) ?_
      rintro e w2 ⟨rfl, b2⟩
      have XB := (b2.block w.heap.size (by omega)).trans HX1.out
      have a0 : w2.cell? ⟨w.heap.size, 0, none⟩ = some (.int .i64 4) := cell_of_row _ _ 0 _ _ _ XB
      have a1 : w2.cell? ⟨w.heap.size, 1, none⟩ = some (.int .i64 n) := cell_of_row _ _ 1 _ _ _ XB
      have HB2 := hid (HB1.out.trans (b2.mono (by omega)))
      have HT2 := hid (HT1.out.below b2)
      have hzw2 := b2.size
      have HX2 := hid XB
      clear b2 XB
      go_wp2
      go_ret
      exact ⟨by rw [HV.out]; rfl, HB2.out⟩
    · obtain ⟨q, rfl⟩ : ∃ q : Nat, n = q := Int.eq_ofNat_of_zero_le (by omega)
      have hneg' : (0 : Int) ≤ (q : Int) := by omega
      by_cases hbig : (99 : Int) < (q : Int)
      · have HV := hid (show deedB 4 q = [] from by
          have hw : within (q : Int) 0 99 = false := by rw [Bool.eq_false_iff]; intro h; have := within_iff.1 h; omega
          unfold deedB; simp [hw])
        have hbig' : ¬ ((q : Int) ≤ 99) := by omega
        go_enter Tryz.func15, Tryz.ntmps15
        go_wp2_with fail
        with_reducible refine Calls.mono (CN.out _) ?_
        rintro e w1 ⟨rfl, b1⟩
        have XB := (b1.block w.heap.size (by omega)).trans HXA.out
        have a0 : w1.cell? ⟨w.heap.size, 0, none⟩ = some (.int .i64 4) := cell_of_row _ _ 0 _ _ _ XB
        have a1 : w1.cell? ⟨w.heap.size, 1, none⟩ = some (.int .i64 q) := cell_of_row _ _ 1 _ _ _ XB
        have HB1 := hid (HB0.out.trans (b1.mono (by omega)))
        have HT1 := hid (HT.out.below b1)
        have hzw1 := b1.size
        have HX1 := hid XB
        clear b1 XB
        go_wp2_with fail
        with_reducible refine Calls.mono (CN.out _) ?_
        rintro e w2 ⟨rfl, b2⟩
        have XB := (b2.block w.heap.size (by omega)).trans HX1.out
        have a0 : w2.cell? ⟨w.heap.size, 0, none⟩ = some (.int .i64 4) := cell_of_row _ _ 0 _ _ _ XB
        have a1 : w2.cell? ⟨w.heap.size, 1, none⟩ = some (.int .i64 q) := cell_of_row _ _ 1 _ _ _ XB
        have HB2 := hid (HB1.out.trans (b2.mono (by omega)))
        have HT2 := hid (HT1.out.below b2)
        have hzw2 := b2.size
        have HX2 := hid XB
        clear b2 XB
        go_wp2
        go_ret
        exact ⟨by rw [HV.out]; rfl, HB2.out⟩
      · have hq : q < 100 := by omega
        have HV := hid (show deedB 4 q = (wordB 4 ++ [32]) ++ numB q from by
          have hw : within (q : Int) 0 99 = true := within_iff.2 (by omega)
          rw [deed_text 4 (by decide)]; unfold deedB; simp [hw]; rfl)
        have hbig' : (q : Int) ≤ 99 := by omega
        have hct1 := fun W => cat_any (wordB 4) [32] (by rw [deed_text 4 (by decide)]; decide) W
        have hct2 := fun W => cat_any (wordB 4 ++ [32]) (numB q) (by have := numB_len q; rw [deed_text 4 (by decide)]; simp; omega) W
        have CI := hid (fun W => itoaS_any q W hq)
        go_enter Tryz.func15, Tryz.ntmps15
        go_wp2_with fail
        with_reducible refine Calls.mono (CN.out _) ?_
        rintro e w1 ⟨rfl, b1⟩
        have XB := (b1.block w.heap.size (by omega)).trans HXA.out
        have a0 : w1.cell? ⟨w.heap.size, 0, none⟩ = some (.int .i64 4) := cell_of_row _ _ 0 _ _ _ XB
        have a1 : w1.cell? ⟨w.heap.size, 1, none⟩ = some (.int .i64 q) := cell_of_row _ _ 1 _ _ _ XB
        have HB1 := hid (HB0.out.trans (b1.mono (by omega)))
        have HT1 := hid (HT.out.below b1)
        have hzw1 := b1.size
        have HX1 := hid XB
        clear b1 XB
        go_wp2_with fail
        with_reducible refine Calls.mono (CN.out _) ?_
        rintro e w2 ⟨rfl, b2⟩
        have XB := (b2.block w.heap.size (by omega)).trans HX1.out
        have a0 : w2.cell? ⟨w.heap.size, 0, none⟩ = some (.int .i64 4) := cell_of_row _ _ 0 _ _ _ XB
        have a1 : w2.cell? ⟨w.heap.size, 1, none⟩ = some (.int .i64 q) := cell_of_row _ _ 1 _ _ _ XB
        have HB2 := hid (HB1.out.trans (b2.mono (by omega)))
        have HT2 := hid (HT1.out.below b2)
        have hzw2 := b2.size
        have HX2 := hid XB
        clear b2 XB
        have d0 := HT2.out.d 4 (by decide)
        go_wp2
        go_region_held3 (fun w' => (w'.cell? ⟨w.heap.size, 0, none⟩ = some (.int .i64 4) ∧ w'.cell? ⟨w.heap.size, 1, none⟩ = some (.int .i64 q)) ∧ w'.cell? ⟨0, 4, none⟩ = some (encStr (wordB 4)))
          (first
            | go_keep
            | assumption)
          (first
            | (go_at_call 54; (with_reducible refine Calls.mono (CI.out _) ?_); rintro e w5 ⟨rfl, rfl⟩))
        all_goals
          go_wp2
          go_ret
          exact ⟨by rw [HV.out]; rfl, below_tr HB2.out (below_drewN (Below.refl _ _) _)⟩
  omega
end Go.Proofs.YtkejcajboneniabGreatDoor
