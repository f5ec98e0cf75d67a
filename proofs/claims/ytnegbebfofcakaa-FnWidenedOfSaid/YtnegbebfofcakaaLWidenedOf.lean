/-
  The walk of laws.FnWidenedOf. No statement is proved here.
-/
import Derived.Test.YtnegbebfofcakaaC1r
import Derived.Test.YtnegbebfofcakaaC1w
import Derived.Test.YtnegbebfofcakaaLRunOf
namespace Go.Proofs.Ytnegbebfofcakaa
open Go.RowKit
set_option linter.unusedVariables false
set_option linter.unusedSimpArgs false

theorem nth_snoc0 (l : List Int) (k : Nat) : nth (l ++ [0]) k = nth l k := by
  rcases Nat.lt_trichotomy k l.length with h | h | h
  · exact nth_append h
  · subst h
    rw [nth_ge (Nat.le_refl _)]
    simp [nth, List.getD]
  · rw [nth_ge (by simp; omega), nth_ge (by omega)]

/-- j machines at both ends are at rest. -/
def Rest (l : List Int) (j : Nat) : Prop := ∀ i, i < j → nth l i = 0 ∧ nth l (l.length - 1 - i) = 0
theorem rest_zero {r : List Int} {S : Nat} {l : List Int} {k : Nat} (h0 : nth r 0 = 0) (e1 : nth (0 :: l) k = 0) (e2 : nth l k = 0) (e3 : nth l (k + 1) = 0) : nth r (placeL l S k) = 0 := by
  have : placeL l S k = 0 := by unfold placeL; rw [e1, e2, e3]; simp
  rw [this, h0]
theorem rest_step {l r : List Int} {S j : Nat} (h0 : nth r 0 = 0) (hr : Rest l (j + 1)) (hl : j + 1 ≤ l.length) : Rest (stepL l r S) j := by
  intro i hi
  constructor
  · rw [nth_stepL (by omega)]
    refine rest_zero h0 ?_ (hr i (by omega)).1 (hr (i + 1) (by omega)).1
    cases i with
    | zero => rfl
    | succ i => rw [nth_cons_succ]; exact (hr i (by omega)).1
  · rw [stepL_len, nth_stepL (by omega)]
    refine rest_zero h0 ?_ (hr i (by omega)).2 ?_
    · rcases Nat.eq_zero_or_pos (l.length - 1 - i) with h | h
      · rw [h]; rfl
      · obtain ⟨q, hq⟩ : ∃ q, l.length - 1 - i = q + 1 := ⟨l.length - 1 - i - 1, by omega⟩
        rw [hq, nth_cons_succ, show q = l.length - 1 - (i + 1) from by omega]
        exact (hr (i + 1) (by omega)).2
    · cases i with
      | zero => exact nth_ge (by omega)
      | succ i => rw [show l.length - 1 - (i + 1) + 1 = l.length - 1 - i from by omega]; exact (hr i (by omega)).2
theorem wide_step {l r : List Int} {S : Nat} (h0 : nth r 0 = 0) (hr : Rest l 1) (hl : 1 ≤ l.length) : stepL (0 :: (l ++ [0])) r S = 0 :: (stepL l r S ++ [0]) := by
  apply nth_ext
  · simp [stepL_len]
  · intro k hk
    rw [stepL_len] at hk
    simp at hk
    rw [nth_stepL (by simp; omega)]
    cases k with
    | zero =>
      rw [nth_cons_zero]
      refine rest_zero h0 rfl rfl ?_
      rw [nth_cons_succ, nth_snoc0]
      exact (hr 0 (by omega)).1
    | succ k =>
      rw [nth_cons_succ, nth_snoc0]
      have f2 : nth (0 :: (l ++ [0])) (k + 1) = nth l k := by rw [nth_cons_succ, nth_snoc0]
      have f3 : nth (0 :: (l ++ [0])) (k + 1 + 1) = nth l (k + 1) := by rw [nth_cons_succ, nth_snoc0]
      have f1 : nth (0 :: 0 :: (l ++ [0])) (k + 1) = nth (0 :: l) k := by
        rw [nth_cons_succ]
        cases k with
        | zero => rfl
        | succ k => rw [nth_cons_succ, nth_cons_succ, nth_snoc0]
      by_cases hkl : k < l.length
      · rw [nth_stepL hkl]
        have f4 : placeL (0 :: (l ++ [0])) S (k + 1) = placeL l S k := by unfold placeL; rw [f1, f2, f3]
        rw [f4]
      · obtain rfl : k = l.length := by omega
        rw [nth_ge (l := stepL l r S) (by rw [stepL_len]; exact Nat.le_refl _)]
        refine rest_zero h0 ?_ ?_ ?_
        · rw [f1]
          obtain ⟨q, hq⟩ : ∃ q, l.length = q + 1 := ⟨l.length - 1, by omega⟩
          rw [hq, nth_cons_succ, show q = l.length - 1 - 0 from by omega]
          exact (hr 0 (by omega)).2
        · rw [f2, nth_ge (Nat.le_refl _)]
        · rw [f3, nth_ge (by omega)]
theorem rest_run {l r : List Int} {S : Nat} (h0 : nth r 0 = 0) (t j : Nat) (hr : Rest l (t + j)) (hl : t + j ≤ l.length) : Rest (runL l r S t) j := by
  induction t generalizing j with
  | zero => rw [Nat.zero_add] at hr; exact hr
  | succ t ih => exact rest_step h0 (ih (j + 1) (by rwa [show t + (j + 1) = t + 1 + j from by omega]) (by omega)) (by rw [runL_len]; omega)
theorem wide_run {l r : List Int} {S : Nat} (h0 : nth r 0 = 0) (t k : Nat) (htk : t ≤ k) (hr : Rest l k) (hl : 1 ≤ l.length) (hlk : k ≤ l.length) : runL (0 :: (l ++ [0])) r S t = 0 :: (runL l r S t ++ [0]) := by
  induction t with
  | zero => rfl
  | succ t ih =>
    rw [runL, ih (by omega), runL]
    refine wide_step h0 (rest_run h0 t 1 ?_ (by omega)) (by rw [runL_len]; exact hl)
    intro i hi
    exact hr i (by omega)
theorem wideL_len (l : List Int) (k : Nat) : (wideL l k).length = l.length + 2 * k := by simp [wideL]; omega
theorem wideL_succ (l : List Int) (k : Nat) : wideL l (k + 1) = 0 :: (wideL l k ++ [0]) := by
  have e1 : List.replicate (k + 1) (0 : Int) = 0 :: List.replicate k 0 := rfl
  have e2 : List.replicate (k + 1) (0 : Int) = List.replicate k 0 ++ [0] := List.replicate_succ'
  have e3 : List.replicate (k + 1) (0 : Int) ++ l ++ List.replicate (k + 1) 0 = (0 :: List.replicate k 0) ++ l ++ (List.replicate k 0 ++ [0]) := by rw [← e1, ← e2]
  unfold wideL
  rw [e3]
  simp
theorem rest_wide (l : List Int) (k : Nat) : Rest (wideL l k) k := by
  intro i hi
  constructor
  · unfold wideL
    rw [List.append_assoc, nth_append (by simpa using hi), nth_lt (by simpa using hi)]
    simp
  · rw [wideL_len]
    have h1 : (List.replicate k (0 : Int) ++ l).length = k + l.length := by simp
    have h2 : nth (wideL l k) (l.length + 2 * k - 1 - i) = nth (List.replicate k 0) (l.length + 2 * k - 1 - i - (k + l.length)) := by
      unfold wideL nth
      simp only [List.getD]
      rw [List.getElem?_append_right (by rw [h1]; omega), h1]
    rw [h2, nth_lt (by simp; omega)]
    simp
theorem cells_wide {l : List Int} {S : Nat} (h : Cells l S) (h1 : 1 ≤ S) (k : Nat) : Cells (wideL l k) S := by
  induction k with
  | zero => simpa [wideL] using h
  | succ k ih =>
    rw [wideL_succ]
    refine Cells.cons ?_ h1
    intro j
    rw [nth_snoc0]
    exact ih j
theorem mid_wide (l : List Int) : ((0 :: (l ++ [0])).take (l.length + 1)).drop 1 = l := by
  rw [List.take_succ_cons, List.drop_succ_cons, List.drop_zero, List.take_left' rfl]
theorem inner_wide (l : List Int) (k : Nat) : ((wideL l k).take (k + l.length)).drop k = l := by
  unfold wideL
  rw [List.take_left' (by simp), List.drop_left' (by simp)]

theorem Sl.sub {w : World} {B n g off lo hi : Nat} {l : List Int} (h : Sl w B (some ⟨g, off, none⟩) n l) (h1 : lo ≤ hi) (h2 : hi ≤ n) : Sl w B (some ⟨g, off + lo, none⟩) (hi - lo) ((l.take hi).drop lo) := by
  refine ⟨by simp [h.len]; omega, by have := h.2.1; simp only [maxLen] at *; omega, fun hp => ?_⟩
  obtain ⟨b, o, e, hb, hc⟩ := h.2.2 (by omega)
  injection e with e
  injection e with e1 e2
  subst e1
  subst e2
  refine ⟨_, _, rfl, hb, fun j hj => ?_⟩
  rw [Nat.add_assoc, hc (lo + j) (by omega)]
  have hl := h.len
  simp [nth, List.getD, List.getElem?_drop, List.getElem?_take, show lo + j < hi from by omega]
theorem own_capLe {w : World} {B g n c : Nat} {e : TypeId} {xs : List Value} (h : w.ownsRow B e 1 (.slice (some ⟨g, 0, none⟩) n c) n xs) : n ≤ c := by
  rcases h.2 with ⟨h1, _⟩ | ⟨g', cap', cur, hv, hbg, hg, hnc, _⟩
  · cases h1
  · injection hv with e1 e2 e3
    subst e3
    exact hnc
theorem wideOut_yes {l : List Int} {s b : Int} (h : 0 < (wideOut l s b).length) : ∃ S k : Nat, s = S ∧ b = k ∧ 1 ≤ S ∧ S ≤ 4 ∧ 1 ≤ l.length ∧ l.length + 2 * k ≤ 40 ∧ Cells l S ∧ wideOut l s b = wideL l k := by
  by_cases hok : wideOk l s b = true
  · obtain ⟨k, rfl, hc1, h1, h4, hn⟩ := wideOk_nat hok
    obtain ⟨S, rfl, g1, g4, _, _, hcl⟩ := cellsOk_nat hc1
    exact ⟨S, k, rfl, rfl, g1, g4, h1, hn, hcl, by rw [wideOut, if_pos hok]; rfl⟩
  · rw [wideOut, if_neg hok] at h
    simp at h

set_option maxRecDepth 20000 in
set_option maxHeartbeats 3200000 in
theorem fnWidenedOf_walk (A : Option Addr) (n c : Nat) (A0 : Option Addr) (n0 c0 : Nat) (w : World) (hs : By w w.heap.size A n) (hc : n ≤ c) (hs0 : By w w.heap.size A0 n0) (hc0 : n0 ≤ c0) :
    Calls Try.prog 11 #[.slice A n c, .slice A0 n0 c0] w fun e w' => e = .returned (.bool true) ∧ Below w.heap.size w w' := by
  have hm : n ≤ 9223372036854775807 := hs.1
  have hm0 : n0 ≤ 9223372036854775807 := hs0.1
  by_cases hbig : 1048576 < n
  · go_enter Try.func11, Try.ntmps11
    go_wp2
    go_ret
    exact ⟨rfl, Below.refl _ _⟩
  by_cases hbig0 : 1048576 < n0
  · have hb' : decide (1048576 < (n : Int)) = false := by simp; omega
    go_enter Try.func11, Try.ntmps11
    go_wp2
    go_ret
    exact ⟨rfl, Below.refl _ _⟩
  · have hb' : decide (1048576 < (n : Int)) = false := by simp; omega
    go_enter Try.func11, Try.ntmps11
    go_wp2_with fail
    refine (drawWidenedOf_any A n c _ hs hc).mono ?_
    rintro e w1 ⟨A1, n1, c1, l, s, t, rfl, o1, hn1, hs1, hs2, ht1, ht2, b1⟩
    have hws : (Lit.int .i64 s).wf = true := WalkArith.wf_i64 (by omega)
    have hwt : (Lit.int .i64 t).wf = true := WalkArith.wf_i64 (by omega)
    have hwt1 : (Lit.int .i64 (t + 1)).wf = true := WalkArith.wf_i64 (by omega)
    go_wp2_with fail
    refine (widenedOf_any _ _ _ l s t _ (Sl.of_own o1) hws hwt).mono ?_
    rintro e w2 ⟨A3, n3, c3, rfl, o3, hn3, b2⟩
    have o1 := own_on o1 b2
    have b2 := below_tr b1 b2
    go_wp2_with fail
    refine (specWidenedOf_any _ _ _ l s t _ (Sl.of_own o1) hws hwt).mono ?_
    rintro e w3 ⟨A4, n4, c4, rfl, o4, hn4, b3⟩
    have o1 := own_on o1 b3
    have o3 := own_on o3 b3
    have b3 := below_tr b2 b3
    go_wp2_with fail
    refine (sameInts_b _ _ _ _ _ _ _ _ _ _ _ (Sl.of_own o3) (Sl.of_own o4)).mono ?_
    rintro e w4 ⟨rfl, b4⟩
    rw [decide_eq_true rfl]
    have o1 := own_on o1 b4
    have o3 := own_on o3 b4
    have b4 := below_tr b3 b4
    clear o4
    have hl3 : (wideOut l s t).length = n3 := by have := o3.1; simpa using this
    have hl1 : l.length = n1 := by have := o1.1; simpa using this
    by_cases h0 : n3 = 0
    · subst h0
      clear hl3 hl1
      go_wp2_with fail
      refine (alive_any _).mono ?_
      rintro e w5 ⟨rfl, b5⟩
      go_wp2
      go_ret
      exact ⟨rfl, below_tr b4 b5⟩
    · have hne : ((n3 : Int) == 0) = false := by simp; omega
      obtain ⟨S, k, rfl, rfl, h1, h4, g1, g2, hcl, e5⟩ := wideOut_yes (l := l) (s := s) (b := t) (by omega)
      rw [e5] at o3 hl3
      rw [wideL_len, hl1] at hl3
      rw [hl1] at g1 g2
      have HL := hid hl1
      have HL3 := hid hl3
      clear e5 hl1 hl3
      go_wp2_with fail
      refine (widenedOf_any _ _ _ l S ((k : Int) + 1) _ (Sl.of_own o1) hws hwt1).mono ?_
      rintro e w5 ⟨A5, n5, c5, rfl, o5, hn5, b5⟩
      have o1 := own_on o1 b5
      have o3 := own_on o3 b5
      have b5 := below_tr b4 b5
      go_wp2_with fail
      refine (drawStepOf_any A0 n0 c0 _ (hs0.on b5) hc0).mono ?_
      rintro e w6 ⟨A7, n7, c7, l7, A8, n8, c8, r, s8, rfl, o7, hn7, o8, hn8, _, _, b6⟩
      have o1 := own_on o1 b6
      have o3 := own_on o3 b6
      have o5 := own_on o5 b6
      have b6 := below_tr b5 b6
      clear o7
      go_wp2_with fail
      refine (runOf_any _ _ _ _ _ _ (wideL l k) r S k _ (Sl.of_own o3) (Sl.of_own o8)).mono ?_
      rintro e w7 ⟨A9, n9, c9, rfl, o9, hn9, b7⟩
      have o1 := own_on o1 b7
      have o3 := own_on o3 b7
      have o5 := own_on o5 b7
      have o8 := own_on o8 b7
      have b7 := below_tr b6 b7
      go_wp2_with fail
      refine (runOf_any _ _ _ _ _ _ _ r S k _ (Sl.of_own o5) (Sl.of_own o8)).mono ?_
      rintro e w8 ⟨A10, n10, c10, rfl, o10, hn10, b8⟩
      have o1 := own_on o1 b8
      have o3 := own_on o3 b8
      have o9 := own_on o9 b8
      have b8 := below_tr b7 b8
      have hl5 : (wideOut l S ((k : Int) + 1)).length = n5 := by have := o5.1; simpa using this
      have hl9 : (runOut (wideL l k) r S k).length = n9 := by have := o9.1; simpa using this
      have hl10 : (runOut (wideOut l S ((k : Int) + 1)) r S k).length = n10 := by have := o10.1; simpa using this
      clear o5 o8
      obtain ⟨g3, d3, hv3, _, _⟩ := own_shape1 o3 (by omega)
      injection hv3 with q1 q2 q3
      subst q1
      subst q3
      clear q2
      have hcap3 := own_capLe o3
      have E3 := HL3.out
      have e1 : ((n3 : Int) == (n1 : Int) + 2 * (k : Int)) = true := by simp; omega
      have y1 : k < c3 := by omega
      have y2 : (k : Int) + (n1 : Int) ≤ (c3 : Int) := by omega
      clear E3
      by_cases z5 : n5 = 0
      · subst z5
        clear hl5 hl9 hl10 o9 o10
        have hsub : Sl w8 w8.heap.size (some ⟨g3, k, none⟩) n1 l := by
          have h := (Sl.of_own o3).sub (lo := k) (hi := k + n1) (by omega) (by rw [← HL3.out]; omega)
          rw [Nat.zero_add, Nat.add_sub_cancel_left, ← HL.out, inner_wide, HL.out] at h
          exact h
        go_wp2_with fail
        refine (sameInts_b _ _ _ _ _ _ _ _ _ _ _ hsub (Sl.of_own o1)).mono ?_
        rintro e x1 ⟨rfl, bx1⟩
        rw [decide_eq_true rfl]
        go_wp2_with fail
        refine (alive_any _).mono ?_
        rintro e x2 ⟨rfl, bx2⟩
        go_wp2
        go_ret
        exact ⟨rfl, below_tr (below_tr b8 bx1) bx2⟩
      · obtain ⟨S', k', f1, f2, _, _, _, f4, _, f3⟩ := wideOut_yes (l := l) (s := S) (b := (k : Int) + 1) (by omega)
        obtain rfl : k' = k + 1 := by omega
        rw [f3] at o10 hl5 hl10
        rw [wideL_len, HL.out] at hl5
        rw [HL.out] at f4
        have z6 : (0 : Int) < (n5 : Int) := by omega
        have z7 : 0 < n5 := by omega
        clear f1 f2 f3
        by_cases hok : ruleOk r S = true
        · have hcr := cells_rule hok rfl h1
          have ka : cellsOk (wideL l k) S = true := cellsOk_of h1 h4 (by rw [wideL_len, HL.out]; omega) (by rw [wideL_len, HL.out]; omega) (cells_wide hcl h1 k)
          have kb : cellsOk (wideL l (k + 1)) S = true := cellsOk_of h1 h4 (by rw [wideL_len, HL.out]; omega) (by rw [wideL_len, HL.out]; omega) (cells_wide hcl h1 (k + 1))
          have hr0 : nth r 0 = 0 := by
            have := hok
            simp only [ruleOk, Bool.and_eq_true, decide_eq_true_eq] at this
            exact this.2.2.2
          rw [runOut_far (by omega) ka hok] at o9 hl9
          rw [runOut_far (by omega) kb hok, wideL_succ, wide_run hr0 k k (Nat.le_refl _) (rest_wide l k) (by rw [wideL_len, HL.out]; omega) (by rw [wideL_len]; omega)] at o10 hl10
          obtain ⟨a, ha⟩ : ∃ a, runL (wideL l k) r S k = a := ⟨_, rfl⟩
          have hla : a.length = n3 := by rw [← ha, runL_len, wideL_len, HL.out, HL3.out]
          rw [ha] at o9 o10 hl9 hl10
          obtain rfl : n9 = n3 := by omega
          obtain rfl : n10 = n5 := by simp at hl10; have := HL3.out; omega
          obtain ⟨g10, d10, hv10, _, _⟩ := own_shape1 o10 (by omega)
          injection hv10 with q1 q2 q3
          subst q1
          subst q3
          clear q2
          have hcap10 := own_capLe o10
          have E3 := HL3.out
          have y3 : 3 ≤ n10 := by omega
          have y4 : 1 < c10 := by omega
          have y5 : (n10 : Int) - 1 ≤ (c10 : Int) := by omega
          have HLA := hid hla
          have H5 := hid (show n10 = n9 + 2 from by omega)
          have e2 : ((n9 : Int) == (n9 : Int)) = true := by simp
          have e3 : ((n10 : Int) == (n10 : Int)) = true := by simp
          clear E3 hla hl9 hl10 hl5 ha
          have hsb : Sl w8 w8.heap.size (some ⟨g10, 1, none⟩) (n10 - 1 - 1) a := by
            have h := (Sl.of_own o10).sub (lo := 1) (hi := n10 - 1) (by omega) (by omega)
            rw [show n10 - 1 = a.length + 1 from by rw [H5.out, HLA.out]; omega, mid_wide] at h
            rw [show n10 - 1 - 1 = a.length + 1 - 1 from by rw [H5.out, HLA.out]; omega]
            simpa using h
          go_wp2_with fail
          refine (sameInts_b _ _ _ _ _ _ _ _ _ _ _ hsb (Sl.of_own o9)).mono ?_
          rintro e w9 ⟨rfl, b9⟩
          rw [decide_eq_true rfl]
          have o1 := own_on o1 b9
          have o3 := own_on o3 b9
          have b9 := below_tr b8 b9
          clear o9 o10
          have hsub : Sl w9 w9.heap.size (some ⟨g3, k, none⟩) n1 l := by
            have h := (Sl.of_own o3).sub (lo := k) (hi := k + n1) (by omega) (by rw [← HL3.out]; omega)
            rw [Nat.zero_add, Nat.add_sub_cancel_left, ← HL.out, inner_wide, HL.out] at h
            exact h
          go_wp2_with fail
          refine (sameInts_b _ _ _ _ _ _ _ _ _ _ _ hsub (Sl.of_own o1)).mono ?_
          rintro e x1 ⟨rfl, bx1⟩
          rw [decide_eq_true rfl]
          go_wp2_with fail
          refine (alive_any _).mono ?_
          rintro e x2 ⟨rfl, bx2⟩
          go_wp2
          go_ret
          exact ⟨rfl, below_tr (below_tr b9 bx1) bx2⟩
        · have hno : ruleOk r S = false := by simpa using hok
          have h9 : n9 = 0 := by rw [← hl9, runOut, hno]; simp
          subst h9
          have e2 : (((0 : Nat) : Int) == (n3 : Int)) = false := by simp; omega
          have e2' : ((0 : Int) == (n3 : Int)) = false := by simp; omega
          clear hl9 hl10 hl5 o9 o10 hok
          have hsub : Sl w8 w8.heap.size (some ⟨g3, k, none⟩) n1 l := by
            have h := (Sl.of_own o3).sub (lo := k) (hi := k + n1) (by omega) (by rw [← HL3.out]; omega)
            rw [Nat.zero_add, Nat.add_sub_cancel_left, ← HL.out, inner_wide, HL.out] at h
            exact h
          go_wp2_with fail
          refine (sameInts_b _ _ _ _ _ _ _ _ _ _ _ hsub (Sl.of_own o1)).mono ?_
          rintro e x1 ⟨rfl, bx1⟩
          rw [decide_eq_true rfl]
          go_wp2_with fail
          refine (alive_any _).mono ?_
          rintro e x2 ⟨rfl, bx2⟩
          go_wp2
          go_ret
          exact ⟨rfl, below_tr (below_tr b8 bx1) bx2⟩
end Go.Proofs.Ytnegbebfofcakaa
