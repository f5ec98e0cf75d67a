/-
  Walks of chapter 1's WidenedOf, of the program and of the model. No statement is proved here.
-/
import Derived.Test.YtnegbebfofcakaaC1
import Derived.Test.YtnegbebfofcakaaZer
import Derived.Laws.CopyOwn
namespace Go.Proofs.Ytnegbebfofcakaa
open Go.RowKit
set_option linter.unusedVariables false
set_option linter.unusedSimpArgs false

def wideOk (l : List Int) (s b : Int) : Bool := cellsOk l s && (decide (0 ≤ b) && decide ((l.length : Int) + 2 * b ≤ 40))
def wideL (l : List Int) (k : Nat) : List Int := List.replicate k 0 ++ l ++ List.replicate k 0
def wideOut (l : List Int) (s b : Int) : List Int := if wideOk l s b = true then wideL l b.toNat else []

theorem wideOk_nat {l : List Int} {s b : Int} (h : wideOk l s b = true) : ∃ k : Nat, b = k ∧ cellsOk l s = true ∧ 1 ≤ l.length ∧ l.length ≤ 40 ∧ l.length + 2 * k ≤ 40 := by
  simp only [wideOk, Bool.and_eq_true, decide_eq_true_eq] at h
  obtain ⟨h1, h2, h3⟩ := h
  obtain ⟨k, rfl⟩ := Int.eq_ofNat_of_zero_le h2
  have h4 := h1
  simp only [cellsOk, Bool.and_eq_true, decide_eq_true_eq] at h4
  exact ⟨k, rfl, h1, h4.2.1, h4.2.2.1, by omega⟩

set_option maxHeartbeats 1600000 in
theorem specWidenedOf_any (A : Option Addr) (n c : Nat) (l : List Int) (s b : Int) (w : World) (hs : Sl w w.heap.size A n l) (hws : (Lit.int .i64 s).wf = true) (hwb : (Lit.int .i64 b).wf = true) :
    Calls Try.prog 36 #[.slice A n c, .int .i64 s, .int .i64 b] w fun e w' => ∃ A2 m c2, e = .returned (.slice A2 m c2) ∧ w'.ownsRow w.heap.size 3 1 (.slice A2 m c2) m (ints (wideOut l s b)) ∧ m ≤ 64 ∧ Below w.heap.size w w' := by
  obtain ⟨i0, hi, hz0, hz1, hz2⟩ := info_parts info_int
  have ho0 : (w.alloc (.cells #[] 3)).ownsRow w.heap.size 3 1 (.slice (some ⟨w.heap.size, 0, none⟩) 0 0) 0 (ints []) := World.ownsRow_lit w #[] 0 (Nat.le_refl _) (by simp [maxLen]) rfl
  have hb0 : Below w.heap.size w (w.alloc (.cells #[] 3)) := (Below.refl _ _).alloc (Nat.le_refl _) _
  have hm := hs.max
  have hl := hs.len
  have hsb := (bounds_i64 hws).2
  by_cases hok : wideOk l s b = true
  · obtain ⟨k, rfl, hc1, h1, h4, hn⟩ := wideOk_nat hok
    have ht : wideOut l s k = wideL l k := by rw [wideOut, if_pos hok]; rfl
    have HT := hid ht; clear ht
    rw [hl] at h1 h4 hn
    have HL := hid hl; clear hl
    obtain ⟨bl, off, rfl, hbl, hc⟩ := hs.2.2 (by omega)
    go_enter Try.func36, Try.ntmps36
    go_wp2_with (first | (go_at_call 17; refine (specCellsOk_any _ _ _ l _ _ _ hs hsb).mono ?_; rintro e w' ⟨rfl, rfl⟩) | (refine wpList_make_full _ rfl (.tmp 28) (.tmp 28) 23 rfl w.heap.size 3 i0 _ 1 Try.underlying23 hi hz0 hz1 .i64 .i64 k k k rfl rfl rfl rfl (by rw [hz2]; omega) (by simp only [maxLen]; omega) (Nat.le_refl _) ?_; intro w1 o1 g1; rw [madeInts] at o1; have b1 := below_grown g1; have s1 := hs.on b1) | (at_builtin; refine wpList_append_own _ rfl (.tmp 29) (.tmp 30) 23 rfl w.heap.size 3 i0 (.int .i64 0) 1 8 Try.underlying23 hi hz0 hz1 hz2 rfl (by decide) (.slice (some ⟨w.heap.size, 0, none⟩) k k) _ _ rfl o1 ⟨bl, off, none⟩ n c (ints l) rfl (by rw [List.length_map, HL.out, Nat.mul_one]) s1.cellsAt (ints_one l) (by simp only [maxLen]; omega) (by omega) b1.size ?_; intro v2 w2 o2 g2 _; obtain ⟨g3, c3, rfl, hb3, hlt3⟩ := own_shape1 o2 (by omega); rw [← List.map_append] at o2; obtain ⟨v4, w4, hr4, o4, g4⟩ := run_append_zeros_own (P := Try.prog) w2 w.heap.size 23 3 23 3 i0 .i64 Try.underlying23 Try.underlying3 hi hz0 hz1 hz2 g3 (k + n) c3 k _ o2 (by omega) (by have h1 := b1.size; have h2 := g2.size; omega)) | (at_builtin; refine Go.Lib.wpList_append_run _ rfl (.tmp 31) (.tmp 32) 23 3 rfl (.slice (some ⟨g3, 0, none⟩) (k + n) c3) (.int .i64 k) rfl rfl v4 w4 hr4 ?_))
    obtain ⟨g5, c5, rfl, hb5, hlt5⟩ := own_shape1 o4 (by omega)
    go_wp2
    go_ret
    refine ⟨_, _, _, rfl, by rw [HT.out]; exact o4, by omega, (b1.grown g2 b1.size ?_).grown g4 ?_ ?_⟩
    · intro j hj; simp [Value.ownBlock] at hj; omega
    · have h1 := b1.size; have h2 := g2.size; omega
    · intro j hj; cases hj; exact hb3
  · have hno0 := hok
    clear hno0
    have hno : wideOut l s b = [] := by rw [wideOut, if_neg hok]
    have HT := hid hno; clear hno
    by_cases hc1 : cellsOk l s = true
    · have hn4 : n ≤ 40 ∧ 1 ≤ n := by
        have h4 := hc1
        simp only [cellsOk, Bool.and_eq_true, decide_eq_true_eq] at h4
        omega
      obtain ⟨hn4, hn1⟩ := hn4
      have hbb : b < 0 ∨ 40 < (n : Int) + 2 * b := by
        simp only [wideOk, hc1, Bool.true_and, Bool.and_eq_true, decide_eq_true_eq, hl] at hok
        omega
      clear hok hl
      by_cases hb1 : b < 0
      · go_enter Try.func36, Try.ntmps36
        go_wp2_with (go_at_call 17; refine (specCellsOk_any _ _ _ l _ _ _ hs hsb).mono ?_; rintro e w' ⟨rfl, rfl⟩)
        go_ret
        exact ⟨_, 0, 0, rfl, by rw [HT.out]; exact ho0, by omega, hb0⟩
      · by_cases hb2 : 40 < b
        · have hb1' : decide (b < 0) = false := by simp; omega
          go_enter Try.func36, Try.ntmps36
          go_wp2_with (go_at_call 17; refine (specCellsOk_any _ _ _ l _ _ _ hs hsb).mono ?_; rintro e w' ⟨rfl, rfl⟩)
          go_ret
          exact ⟨_, 0, 0, rfl, by rw [HT.out]; exact ho0, by omega, hb0⟩
        · have hb1' : decide (b < 0) = false := by simp; omega
          have hb2' : decide (40 < b) = false := by simp; omega
          have hb3 : 40 < (n : Int) + 2 * b := by omega
          go_enter Try.func36, Try.ntmps36
          go_wp2_with (go_at_call 17; refine (specCellsOk_any _ _ _ l _ _ _ hs hsb).mono ?_; rintro e w' ⟨rfl, rfl⟩)
          go_ret
          exact ⟨_, 0, 0, rfl, by rw [HT.out]; exact ho0, by omega, hb0⟩
    · have hc1' : cellsOk l s = false := by simpa using hc1
      clear hok hl hc1
      go_enter Try.func36, Try.ntmps36
      go_wp2_with (go_at_call 17; refine (specCellsOk_any _ _ _ l _ _ _ hs hsb).mono ?_; rintro e w' ⟨rfl, rfl⟩)
      go_ret
      exact ⟨_, 0, 0, rfl, by rw [HT.out]; exact ho0, by omega, hb0⟩

theorem own_full {w : World} {B g n : Nat} {e : TypeId} {xs : List Value} (h : w.ownsRow B e 1 (.slice (some ⟨g, 0, none⟩) n n) n xs) : w.heap[g]? = some (.cells xs.toArray e (0, 0)) := by
  rcases h.2 with ⟨h1, _⟩ | ⟨g', cap', cur, hv, hbg, hg, hnc, hcm, hcs, htake⟩
  · cases h1
  · injection hv with e1 e2 e3
    injection e1 with e1
    injection e1 with e1
    subst e1
    subst e3
    rw [hg, ← htake, List.take_of_length_le (by simp; omega)]
theorem own_of_full {w : World} {B g n : Nat} {e : TypeId} {xs : List Value} (h : w.heap[g]? = some (.cells xs.toArray e (0, 0))) (hl : xs.length = n) (hB : B ≤ g) (hm : n ≤ 1000000) : w.ownsRow B e 1 (.slice (some ⟨g, 0, none⟩) n n) n xs :=
  ⟨by omega, .inr ⟨g, n, xs.toArray, rfl, hB, h, Nat.le_refl _, by simp only [maxLen]; omega, by simp [hl], List.take_of_length_le (by simp [hl])⟩⟩
theorem splice_wide (l : List Int) (k n : Nat) (h : l.length = n) : splice (ints (List.replicate (n + 2 * k) 0)) k (ints l) = ints (wideL l k) := by
  simp only [splice, ints, wideL, List.map_append, List.map_replicate, List.take_replicate, List.drop_replicate, List.length_map, h, List.append_assoc]
  congr 2
  · omega
  · congr 2; omega
theorem size_int : (Try.prog.info? 3).map (·.size) = some 1 := by kernel_rfl

set_option maxHeartbeats 1600000 in
theorem widenedOf_any (A : Option Addr) (n c : Nat) (l : List Int) (s b : Int) (w : World) (hs : Sl w w.heap.size A n l) (hws : (Lit.int .i64 s).wf = true) (hwb : (Lit.int .i64 b).wf = true) :
    Calls Try.prog 35 #[.slice A n c, .int .i64 s, .int .i64 b] w fun e w' => ∃ A2 m c2, e = .returned (.slice A2 m c2) ∧ w'.ownsRow w.heap.size 3 1 (.slice A2 m c2) m (ints (wideOut l s b)) ∧ m ≤ 64 ∧ Below w.heap.size w w' := by
  obtain ⟨i0, hi, hz0, hz1, hz2⟩ := info_parts info_int
  have hm := hs.max
  have hl := hs.len
  by_cases hok : wideOk l s b = true
  · obtain ⟨k, rfl, hc1, h1, h4, hn⟩ := wideOk_nat hok
    have ht : wideOut l s k = wideL l k := by rw [wideOut, if_pos hok]; rfl
    have HT := hid ht; clear ht
    rw [hl] at h1 h4 hn
    have HL := hid hl; clear hl
    obtain ⟨bl, off, rfl, hbl, hc⟩ := hs.2.2 (by omega)
    have hk1 : ¬ ((40 - (n : Int)) / 2 < (k : Int)) := by omega
    have hk2 : decide ((40 - (n : Int)) / 2 < (k : Int)) = false := by simp; omega
    clear hc
    go_enter Try.func35, Try.ntmps35
    go_wp2_with (first | (go_at_call 16; refine (cellsOk_any _ _ _ l _ _ _ hs).mono ?_; rintro e w' ⟨rfl, rfl⟩) | (refine wpList_make_full _ rfl (.tmp 28) (.tmp 28) 23 rfl w.heap.size 3 i0 _ 1 Try.underlying23 hi hz0 hz1 .i64 .i64 ((n : Int) + 2 * (k : Int)) ((n : Int) + 2 * (k : Int)) (n + 2 * k) rfl rfl (by omega) (by omega) (by rw [hz2]; omega) (by simp only [maxLen]; omega) (Nat.le_refl _) ?_; intro w1 o1 g1; rw [madeInts] at o1; have b1 := below_grown g1; have s1 := hs.on b1; have F1 := own_full o1) | (with_reducible refine wpList_copy_splice rfl (.tmp 32) (.tmp 33) 23 23 rfl 3 Try.underlying23 size_int _ _ _ _ _ _ rfl rfl w.heap.size k (ints (List.replicate (n + 2 * k) 0)) 3 F1 (ints l) ?_ ?_ ?_ (ints_one l) w.heap.size w b1 (Nat.le_refl _) ?_))
    · rw [List.length_map, HL.out]
      exact (Nat.min_eq_left (by omega)).symm
    · first | exact fun _ => ⟨rfl, _, rfl, s1.cellsAt⟩ | exact s1.atSome | exact fun _ => s1.atSome
    · rw [List.length_map, List.length_map, List.length_replicate, HL.out]
      omega
    · intro w2 HG2 hB2
      go_wp2
      go_ret
      have ho := HG2.out
      rw [show (List.replicate (n + 2 * k) (Value.int .i64 0)) = ints (List.replicate (n + 2 * k) 0) from by simp [ints], splice_wide l k n HL.out] at ho
      exact ⟨_, _, _, rfl, by rw [HT.out]; exact own_of_full ho (by rw [List.length_map]; simp [wideL, HL.out]; omega) (Nat.le_refl _) (by omega), by omega, hB2⟩
  · have hno0 := hok
    clear hno0
    have hno : wideOut l s b = [] := by rw [wideOut, if_neg hok]
    have HT := hid hno; clear hno
    by_cases hc1 : cellsOk l s = true
    · have hn4 : n ≤ 40 ∧ 1 ≤ n := by
        have h4 := hc1
        simp only [cellsOk, Bool.and_eq_true, decide_eq_true_eq] at h4
        omega
      obtain ⟨hn4, hn1⟩ := hn4
      have hbb : b < 0 ∨ 40 < (n : Int) + 2 * b := by
        simp only [wideOk, hc1, Bool.true_and, Bool.and_eq_true, decide_eq_true_eq, hl] at hok
        omega
      clear hok hl
      by_cases hb1 : b < 0
      · go_enter Try.func35, Try.ntmps35
        go_wp2_with (go_at_call 16; refine (cellsOk_any _ _ _ l _ _ _ hs).mono ?_; rintro e w' ⟨rfl, rfl⟩)
        go_ret
        exact ⟨_, 0, 0, rfl, by rw [HT.out]; exact World.ownsRow_nil _ _ _ _, by omega, Below.refl _ _⟩
      · have hb1' : decide (b < 0) = false := by simp; omega
        have hb3 : (40 - (n : Int)) / 2 < b := by omega
        go_enter Try.func35, Try.ntmps35
        go_wp2_with (go_at_call 16; refine (cellsOk_any _ _ _ l _ _ _ hs).mono ?_; rintro e w' ⟨rfl, rfl⟩)
        go_ret
        exact ⟨_, 0, 0, rfl, by rw [HT.out]; exact World.ownsRow_nil _ _ _ _, by omega, Below.refl _ _⟩
    · have hc1' : cellsOk l s = false := by simpa using hc1
      clear hok hl hc1
      go_enter Try.func35, Try.ntmps35
      go_wp2_with (go_at_call 16; refine (cellsOk_any _ _ _ l _ _ _ hs).mono ?_; rintro e w' ⟨rfl, rfl⟩)
      go_ret
      exact ⟨_, 0, 0, rfl, by rw [HT.out]; exact World.ownsRow_nil _ _ _ _, by omega, Below.refl _ _⟩
end Go.Proofs.Ytnegbebfofcakaa
