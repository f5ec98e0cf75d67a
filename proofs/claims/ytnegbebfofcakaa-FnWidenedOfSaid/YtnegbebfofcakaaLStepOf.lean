/-
  The walk of laws.FnStepOf. No statement is proved here.
-/
import Derived.Test.YtnegbebfofcakaaC1r
import Derived.Test.YtnegbebfofcakaaLRuleOk
namespace Go.Proofs.Ytnegbebfofcakaa
open Go.RowKit
set_option linter.unusedVariables false
set_option linter.unusedSimpArgs false

theorem drop_rev_snoc {l : List Int} {j : Nat} (h : j < l.length) : (l.drop (j + 1)).reverse ++ [nth l j] = (l.drop j).reverse := by
  rw [List.drop_eq_getElem_cons h, List.reverse_cons, nth_lt h]
theorem nth_reverse {l : List Int} {k : Nat} (h : k < l.length) : nth l.reverse k = nth l (l.length - 1 - k) := by
  rw [nth_lt (by simpa using h), nth_lt (by omega), List.getElem_reverse]

theorem step_reverse {l r : List Int} {S : Nat} (h1 : 1 ≤ S) (h4 : S ≤ 4) (hcl : Cells l S) : stepL l.reverse (turnedL r S) S = (stepL l r S).reverse := by
  apply nth_ext
  · simp [stepL_len]
  · intro k hk
    rw [stepL_len, List.length_reverse] at hk
    have hj : l.length - 1 - k < l.length := by omega
    rw [nth_reverse (by rw [stepL_len]; exact hk), stepL_len, nth_stepL hj, nth_stepL (by rw [List.length_reverse]; exact hk)]
    obtain ⟨a, b, c, e1, e2, e3, ha, hb, hc, e4, e5⟩ := placed (l := l) (k := l.length - 1 - k) h1 h4 hcl
    have f1 : nth (0 :: l.reverse) k = c := by
      rw [← e3]
      cases k with
      | zero => rw [nth_cons_zero, nth_ge (by omega)]
      | succ k => rw [nth_cons_succ, nth_reverse (by omega)]; congr 1; omega
    have f2 : nth l.reverse k = b := by rw [nth_reverse hk, e2]
    have f3 : nth l.reverse (k + 1) = a := by
      rw [← e1]
      by_cases hl : k + 1 < l.length
      · rw [nth_reverse hl, show l.length - 1 - k = (l.length - 1 - (k + 1)) + 1 from by omega, nth_cons_succ]
      · rw [nth_ge (by rw [List.length_reverse]; omega), show l.length - 1 - k = 0 from by omega, nth_cons_zero]
    have f4 : placeL l.reverse S k = (c * S + b) * S + a := by unfold placeL; rw [f1, f2, f3]; simp
    rw [f4, nth_turnedL3 h1 h4 hc hb ha, e4]
theorem cells_allIn {l : List Int} {S : Nat} (h : Cells l S) : allIn l 0 ((S : Int) - 1) = true := by
  rw [allIn_iff]
  intro x hx
  obtain ⟨k, hk, rfl⟩ := List.getElem_of_mem hx
  have := h k
  rw [nth_lt hk] at this
  omega
theorem cellsOk_of {l : List Int} {S : Nat} (h1 : 1 ≤ S) (h4 : S ≤ 4) (hl1 : 1 ≤ l.length) (hl2 : l.length ≤ 40) (h : Cells l S) : cellsOk l S = true := by
  simp only [cellsOk, Bool.and_eq_true, decide_eq_true_eq, within]
  exact ⟨by omega, hl1, hl2, cells_allIn h⟩
theorem cellsOk_rev (l : List Int) (s : Int) : cellsOk l.reverse s = cellsOk l s := by simp [cellsOk, allIn]

/-- All that the law asks of a step that may be done. -/
theorem stepOut_yes {l r : List Int} {s : Int} (h : 0 < (stepOut l r s).length) : cellsOk l s = true ∧ ruleOk r s = true ∧ (stepOut l r s).length = l.length ∧ cellsOk (stepOut l r s) s = true ∧
    stepOut l.reverse (turnedOut r s) s = (stepOut l r s).reverse := by
  by_cases k1 : cellsOk l s = true
  · by_cases k2 : ruleOk r s = true
    · obtain ⟨S, rfl, h1, h4, hl1, hl2, hcl⟩ := cellsOk_nat k1
      have hcr := cells_rule k2 rfl h1
      have e : stepOut l r S = stepL l r S := by rw [stepOut, k1, k2]; rfl
      refine ⟨k1, k2, by rw [e, stepL_len], ?_, ?_⟩
      · rw [e]
        exact cellsOk_of h1 h4 (by rw [stepL_len]; exact hl1) (by rw [stepL_len]; exact hl2) (cells_step hcr h1)
      · rw [e, turnedOut_nat k2, stepOut, cellsOk_rev, k1, ruleOk_turned k2]
        exact step_reverse h1 h4 hcl
    · rw [stepOut, k1, show ruleOk r s = false from by simpa using k2] at h
      simp at h
  · rw [stepOut, show cellsOk l s = false from by simpa using k1] at h
    simp at h

/-- A row to which an element is appended, and another row of the call's own beside it. -/
theorem pushed2 {w w1 w2 : World} {B B2 i i2 : Nat} {l : List Int} {x : Int} {v v2 u : Value} {xs : List Value} (hg : Below B w w1) (hB1 : B ≤ w1.heap.size)
    (hv : v.ownBlock = none ∨ ∃ k, v.ownBlock = some k ∧ B ≤ k) (hu : w1.ownsRow B2 3 1 u i2 xs) (hap : ∀ k, v.ownBlock = some k → u.ownBlock ≠ some k)
    (h2 : w2.ownsRow B 3 1 v2 (i + 1) (ints l ++ [.int .i64 x])) (hg2 : (w1.alloc (.cells #[.int .i64 x] 3)).grownBy w2 v.ownBlock)
    (hat : v2.ownBlock = v.ownBlock ∨ v2.ownBlock = some (w1.alloc (.cells #[.int .i64 x] 3)).heap.size) :
    ∃ A c, v2 = .slice A (i + 1) c ∧ w2.ownsRow B 3 1 (.slice A (i + 1) c) (i + 1) (ints (l ++ [x])) ∧ Below B w w2 ∧ w2.ownsRow B2 3 1 u i2 xs ∧ (∀ k, (Value.slice A (i + 1) c).ownBlock = some k → u.ownBlock ≠ some k) := by
  obtain ⟨A, c, rfl, h3, h4⟩ := pushedC hg hB1 hv h2 hg2
  refine ⟨A, c, rfl, h3, h4, ?_, ?_⟩
  · refine (hu.alloc _).kept hg2 ?_
    rcases hub : u.ownBlock with _ | k
    · exact .inl rfl
    · right
      intro e
      exact hap k e.symm hub
  · intro k hk hub
    rcases hat with e | e
    · exact hap k (e ▸ hk) hub
    · rw [e] at hk
      have := (hu.lt k hub).2
      simp at hk
      omega

set_option maxHeartbeats 3200000 in
theorem fnStepOf_walk (A : Option Addr) (n c : Nat) (w : World) (hs : By w w.heap.size A n) (hc : n ≤ c) :
    Calls Try.prog 7 #[.slice A n c] w fun e w' => e = .returned (.bool true) ∧ Below w.heap.size w w' := by
  obtain ⟨i0, hi, hz0, hz1, hz2⟩ := info_parts info_int
  have hm : n ≤ 9223372036854775807 := hs.1
  by_cases hbig : 1048576 < n
  · go_enter Try.func7, Try.ntmps7
    go_wp2
    go_ret
    exact ⟨rfl, Below.refl _ _⟩
  · go_enter Try.func7, Try.ntmps7
    go_wp2_with fail
    refine (drawStepOf_any A n c _ hs hc).mono ?_
    rintro e w1 ⟨A1, n1, c1, l, A2, n2, c2, r, s, rfl, o1, hn1, o2, hn2, hs1, hs2, b1⟩
    have hws : (Lit.int .i64 s).wf = true := WalkArith.wf_i64 (by omega)
    go_wp2_with fail
    refine (stepOf_any _ _ _ _ _ _ l r s _ (Sl.of_own o1) (Sl.of_own o2)).mono ?_
    rintro e w2 ⟨A3, n3, c3, rfl, o3, hn3, b2⟩
    have o1 := own_on o1 b2
    have o2 := own_on o2 b2
    have b2 := below_tr b1 b2
    go_wp2_with fail
    refine (specStepOf_any _ _ _ _ _ _ l r s _ (Sl.of_own o1) (Sl.of_own o2) hws).mono ?_
    rintro e w3 ⟨A4, n4, c4, rfl, o4, hn4, b3⟩
    have o1 := own_on o1 b3
    have o2 := own_on o2 b3
    have o3 := own_on o3 b3
    have b3 := below_tr b2 b3
    go_wp2_with fail
    refine (sameInts_b _ _ _ _ _ _ _ _ _ _ _ (Sl.of_own o3) (Sl.of_own o4)).mono ?_
    rintro e w4 ⟨rfl, b4⟩
    rw [decide_eq_true rfl]
    have o1 := own_on o1 b4
    have o2 := own_on o2 b4
    have o3 := own_on o3 b4
    have b4 := below_tr b3 b4
    clear o4
    have hl3 : (stepOut l r s).length = n3 := by have := o3.1; simpa using this
    have hl1 : l.length = n1 := by have := o1.1; simpa using this
    by_cases h0 : n3 = 0
    · subst h0
      clear hl3 hl1
      go_wp2_with fail
      refine (alive_any _).mono ?_
      rintro e w5 ⟨rfl, b5⟩
      go_wp2
      go_ret
      exact ⟨rfl, below_tr b4 b5⟩
    · have hne : ((n3 : Int) == 0) = false := by simp; omega
      obtain ⟨k1, k2, e3, k4, k5⟩ := stepOut_yes (l := l) (r := r) (s := s) (by omega)
      obtain rfl : n3 = n1 := by omega
      have HL := hid hl1
      have HL3 := hid hl3
      have K5 := hid k5
      clear hl1 hl3 k5 e3
      have p0 : (w4.alloc (.cells #[] 3)).ownsRow w4.heap.size 3 1 (.slice (some ⟨w4.heap.size, 0, none⟩) 0 0) 0 (ints []) := World.ownsRow_lit w4 #[] 0 (Nat.le_refl _) (by simp [maxLen]) rfl
      have p1 := p0.alloc (.cells #[] 3)
      have p2 : ((w4.alloc (.cells #[] 3)).alloc (.cells #[] 3)).ownsRow w4.heap.size 3 1 (.slice (some ⟨w4.heap.size + 1, 0, none⟩) 0 0) 0 (ints []) := by
        have h := World.ownsRow_lit (base := w4.heap.size) (e := 3) (size := 1) (w4.alloc (.cells #[] 3)) #[] 0 (by simp) (by simp [maxLen]) rfl
        simpa [ints] using h
      have hb0 : Below w4.heap.size w4 ((w4.alloc (.cells #[] 3)).alloc (.cells #[] 3)) := ((Below.refl _ _).alloc (Nat.le_refl _) _).alloc (by simp) _
      have s1 := Sl.of_own o1
      have s3 := Sl.of_own o3
      go_wp2
      go_loopw [7, 8, 9] (fun v u kk wr => ∃ (A5 A6 : Option Addr) (i c5 c6 j : Nat), v = .slice A5 i c5 ∧ u = .slice A6 i c6 ∧ kk = .int .i64 ((j : Int) - 1) ∧ i + j = n3 ∧ wr.ownsRow w4.heap.size 3 1 (.slice A5 i c5) i (ints (l.drop j).reverse) ∧ wr.ownsRow w4.heap.size 3 1 (.slice A6 i c6) i (ints ((stepOut l r s).drop j).reverse) ∧ (∀ k, (Value.slice A5 i c5).ownBlock = some k → (Value.slice A6 i c6).ownBlock ≠ some k) ∧ Below w4.heap.size w4 wr) (fun _ _ kk _ => (intOf kk + 1).toNat)
      case atStart => exact ⟨_, _, 0, 0, 0, n3, rfl, rfl, by go_num, by omega, by rw [List.drop_of_length_le (by rw [HL.out]; omega)]; exact p1, by rw [List.drop_of_length_le (by rw [HL3.out]; omega)]; exact p2, by intro k hk hk2; simp [Value.ownBlock] at hk hk2; omega, hb0⟩
      case round =>
        obtain ⟨A5, A6, i, c5, c6, j, rfl, rfl, rfl, hij, q1, q2, hap, hbb⟩ := hrel
        clear p0 p1 p2 hb0
        by_cases hj : 0 < j
        · obtain ⟨j, rfl⟩ : ∃ j', j = j' + 1 := ⟨j - 1, by omega⟩
          obtain ⟨b, off, rfl, hbl, hcc⟩ := s1.2.2 (by omega)
          obtain ⟨bb, off2, rfl, hbl2, hcc2⟩ := s3.2.2 (by omega)
          have hck : wr.cell? ⟨b, off + j, none⟩ = some (.int .i64 (nth l j)) := (hbb.cell (p := ⟨b, off + j, none⟩) hbl).trans (hcc j (by omega))
          have hck2 : wr.cell? ⟨bb, off2 + j, none⟩ = some (.int .i64 (nth (stepOut l r s) j)) := (hbb.cell (p := ⟨bb, off2 + j, none⟩) hbl2).trans (hcc2 j (by omega))
          obtain ⟨x, hx⟩ : ∃ x, nth l j = x := ⟨_, rfl⟩
          obtain ⟨y, hy⟩ : ∃ y, nth (stepOut l r s) j = y := ⟨_, rfl⟩
          rw [hx] at hck
          rw [hy] at hck2
          have HX := hid hx
          have HY := hid hy
          have hbsz := hbb.size
          clear hx hy
          have hv := own_blk q1
          have hv2 := own_blk q2
          have ej : ((j + 1 : Nat) : Int) - 1 = (j : Int) := by omega
          rw [ej]
          clear hcc hcc2 ej
          go_wp2_with (first | (at_builtin; refine wpList_append_own_at _ rfl (.tmp 43) (.tmp 48) 23 rfl w4.heap.size 3 i0 (.int .i64 0) 1 8 Try.underlying23 hi hz0 hz1 hz2 rfl (by decide) (.slice A5 i c5) _ _ rfl (q1.alloc _) ⟨wr.heap.size, 0, none⟩ 1 1 [.int .i64 x] rfl rfl (cell_one_new _ _ _) (by simp [Value.oneCell']) (by simp only [maxLen]; omega) (by omega) (by simp; omega) ?_; intro v2 w5 q5 gr5 _ hat5; obtain ⟨A7, c7, rfl, q7, hbb7, q8, hap7⟩ := pushed2 hbb hbb.size hv q2 hap q5 gr5 hat5; have hck3 : w5.cell? ⟨bb, off2 + j, none⟩ = some (.int .i64 y) := ((((Below.refl wr.heap.size wr).alloc (Nat.le_refl _) _).mono hbsz).grown gr5 (by simp; omega) (by intro k hk; rcases hv with h | ⟨k', h, hk'⟩ <;> rw [h] at hk <;> cases hk; exact hk') |>.cell (p := ⟨bb, off2 + j, none⟩) hbl2).trans hck2; have hsz5 := hbb7.size) | (at_builtin; refine wpList_append_own_at _ rfl (.tmp 50) (.tmp 55) 23 rfl w4.heap.size 3 i0 (.int .i64 0) 1 8 Try.underlying23 hi hz0 hz1 hz2 rfl (by decide) (.slice A6 i c6) _ _ rfl (q8.alloc _) ⟨w5.heap.size, 0, none⟩ 1 1 [.int .i64 y] rfl rfl (cell_one_new _ _ _) (by simp [Value.oneCell']) (by simp only [maxLen]; omega) (by omega) (by simp; omega) ?_; intro v6 w6 q9 gr6 _ hat6))
          obtain ⟨A9, c9, rfl, q10, hbb8, q11, hap8⟩ := pushed2 hbb7 hbb7.size hv2 q7 (fun k hk hk2 => hap7 k hk2 hk) q9 gr6 hat6
          rw [← HX.out, drop_rev_snoc (by rw [HL.out]; omega)] at q11
          rw [← HY.out, drop_rev_snoc (by rw [HL3.out]; omega)] at q10
          have Q1 := hid q11
          have Q2 := hid q10
          have HA := hid (show ∀ k, (Value.slice A7 (i + 1) c7).ownBlock = some k → (Value.slice A9 (i + 1) c9).ownBlock ≠ some k from fun k hk hk2 => hap8 k hk2 hk)
          clear q11 q10 hap8 hap7 q9 gr6 hat6 q8 q7 q5 gr5 hat5 hck3 hap q1 q2 hv hv2 hbb7 hbb
          go_wp2
          go_roundw
          case rel => exact ⟨A7, A9, i + 1, c7, c9, j, rfl, rfl, rfl, by omega, Q1.out, Q2.out, HA.out, hbb8⟩
          case measure => simp [intOf]
        · obtain rfl : j = 0 := by omega
          obtain rfl : i = n3 := by omega
          rw [List.drop_zero] at q1 q2
          have o2 := own_on o2 hbb
          have o3 := own_on o3 hbb
          have b5 := below_tr b4 hbb
          have e1 : ((i : Int) == (i : Int)) = true := by simp
          clear s1 s3 hap
          go_wp2_with fail
          refine (cellsOk_any _ _ _ (stepOut l r s) s _ _ (Sl.of_own o3)).mono ?_
          rintro e w6 ⟨rfl, rfl⟩
          go_wp2_with fail
          refine (turnedRule_any _ _ _ r s _ (Sl.of_own o2)).mono ?_
          rintro e w7 ⟨A7, n7, c7, rfl, o7, hn7, b7⟩
          have q1 := own_on q1 b7
          have q2 := own_on q2 b7
          have b7 := below_tr b5 b7
          go_wp2_with fail
          refine (stepOf_any _ _ _ _ _ _ l.reverse (turnedOut r s) s _ (Sl.of_own q1) (Sl.of_own o7)).mono ?_
          rintro e w8 ⟨A8, n8, c8, rfl, o8, hn8, b8⟩
          have q2 := own_on q2 b8
          have b8 := below_tr b7 b8
          rw [K5.out] at o8
          go_wp2_with fail
          refine (sameInts_b _ _ _ _ _ _ _ _ _ _ _ (Sl.of_own o8) (Sl.of_own q2)).mono ?_
          rintro e w9 ⟨rfl, b9⟩
          rw [decide_eq_true rfl]
          have b9 := below_tr b8 b9
          go_wp2_with fail
          refine (alive_any _).mono ?_
          rintro e w10 ⟨rfl, b10⟩
          go_wp2
          go_ret
          exact ⟨rfl, below_tr b9 b10⟩
end Go.Proofs.Ytnegbebfofcakaa
