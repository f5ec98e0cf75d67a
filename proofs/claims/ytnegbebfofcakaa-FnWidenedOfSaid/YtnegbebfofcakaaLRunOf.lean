/-
  The walk of laws.FnRunOf. No statement is proved here.
-/
import Derived.Test.YtnegbebfofcakaaC1r
import Derived.Test.YtnegbebfofcakaaLStepOf
namespace Go.Proofs.Ytnegbebfofcakaa
open Go.RowKit
set_option linter.unusedVariables false
set_option linter.unusedSimpArgs false

/-- Nothing is faster than one place a step. -/
theorem cone_step {a b r : List Int} {S p : Nat} (hl : a.length = b.length) (h : ∀ k, k < p → nth a k = nth b k) : ∀ k, k + 1 < p → nth (stepL a r S) k = nth (stepL b r S) k := by
  intro k hk
  by_cases hka : k < a.length
  · rw [nth_stepL hka, nth_stepL (by omega)]
    have f : placeL a S k = placeL b S k := by
      unfold placeL
      have f1 : nth (0 :: a) k = nth (0 :: b) k := by
        cases k with
        | zero => rfl
        | succ k => rw [nth_cons_succ, nth_cons_succ]; exact h k (by omega)
      rw [f1, h k (by omega), h (k + 1) (by omega)]
    rw [f]
  · rw [nth_ge (by rw [stepL_len]; omega), nth_ge (by rw [stepL_len]; omega)]
theorem cone_run {a b r : List Int} {S p : Nat} (hl : a.length = b.length) (h : ∀ k, k < p → nth a k = nth b k) (t : Nat) : ∀ k, k + t < p → nth (runL a r S t) k = nth (runL b r S t) k := by
  induction t with
  | zero => intro k hk; exact h k (by omega)
  | succ t ih =>
    intro k hk
    exact cone_step (p := p - t) (by rw [runL_len, runL_len]; exact hl) (fun j hj => ih j (by omega)) k (by omega)

theorem runOut_yes {l r : List Int} {s t : Int} (h : 0 < (runOut l r s t).length) :
    ∃ S T : Nat, s = S ∧ t = T ∧ T ≤ 60 ∧ 1 ≤ S ∧ S ≤ 4 ∧ 1 ≤ l.length ∧ l.length ≤ 40 ∧ Cells l S ∧ Cells r S ∧ cellsOk l s = true ∧ ruleOk r s = true ∧ runOut l r s t = runL l r S T := by
  by_cases k1 : cellsOk l s = true
  · by_cases k2 : ruleOk r s = true
    · by_cases k3 : within t 0 60 = true
      · obtain ⟨S, rfl, h1, h4, hl1, hl2, hcl⟩ := cellsOk_nat k1
        obtain ⟨t0, t1⟩ := within_iff.1 k3
        obtain ⟨T, rfl⟩ := Int.eq_ofNat_of_zero_le t0
        exact ⟨S, T, rfl, rfl, by omega, h1, h4, hl1, hl2, hcl, cells_rule k2 rfl h1, k1, k2, by rw [runOut, k1, k2, k3]; rfl⟩
      · rw [runOut, k1, k2, show within t 0 60 = false from by simpa using k3] at h
        simp at h
    · rw [runOut, k1, show ruleOk r s = false from by simpa using k2] at h
      simp at h
  · rw [runOut, show cellsOk l s = false from by simpa using k1] at h
    simp at h
theorem runOut_more {l r : List Int} {S T : Nat} (h1 : 1 ≤ S) (h4 : S ≤ 4) (hl1 : 1 ≤ l.length) (hl2 : l.length ≤ 40) (hcl : Cells l S) (hcr : Cells r S) (k1 : cellsOk l S = true) (k2 : ruleOk r S = true) (hT : T + 1 ≤ 60) :
    runOut l r S ((T : Int) + 1) = stepOut (runL l r S T) r S := by
  have k3 : within ((T : Int) + 1) 0 60 = true := by simp [within]; omega
  have k4 : cellsOk (runL l r S T) S = true := cellsOk_of h1 h4 (by rw [runL_len]; exact hl1) (by rw [runL_len]; exact hl2) (cells_run hcl hcr h1 T)
  rw [runOut, stepOut, k1, k2, k3, k4]
  show runL l r S ((T : Int) + 1).toNat = _
  rw [show ((T : Int) + 1).toNat = T + 1 from by omega]
  rfl
theorem runOut_far {l r : List Int} {S T : Nat} (hT : T ≤ 60) (k1 : cellsOk l S = true) (k2 : ruleOk r S = true) : runOut l r S T = runL l r S T := by
  have k3 : within (T : Int) 0 60 = true := by simp [within]; omega
  rw [runOut, k1, k2, k3]
  rfl
theorem nth_set (l : List Int) (i k : Nat) (x : Int) : nth (l.set i x) k = if i = k ∧ k < l.length then x else nth l k := by
  unfold nth
  simp only [List.getD, List.getElem?_set]
  by_cases h : i = k
  · subst h
    by_cases h2 : i < l.length <;> simp [h2]
  · simp [h]
theorem other_ok {l : List Int} {S : Nat} {x : Int} (h1 : 1 ≤ S) (h4 : S ≤ 4) (hl1 : 1 ≤ l.length) (hl2 : l.length ≤ 40) (hcl : Cells l S) (hx : 0 ≤ x ∧ x < S) (i : Nat) : Cells (l.set i x) S ∧ cellsOk (l.set i x) S = true := by
  have hc : Cells (l.set i x) S := by
    intro k
    rw [nth_set]
    split
    · exact hx
    · exact hcl k
  exact ⟨hc, cellsOk_of h1 h4 (by simpa using hl1) (by simpa using hl2) hc⟩

set_option maxHeartbeats 3200000 in
theorem fnRunOf_walk (A : Option Addr) (n c : Nat) (w : World) (hs : By w w.heap.size A n) (hc : n ≤ c) :
    Calls Try.prog 9 #[.slice A n c] w fun e w' => e = .returned (.bool true) ∧ Below w.heap.size w w' := by
  obtain ⟨i0, hi, hz0, hz1, hz2⟩ := info_parts info_int
  have hm : n ≤ 9223372036854775807 := hs.1
  by_cases hbig : 1048576 < n
  · go_enter Try.func9, Try.ntmps9
    go_wp2
    go_ret
    exact ⟨rfl, Below.refl _ _⟩
  · go_enter Try.func9, Try.ntmps9
    go_wp2_with fail
    refine (drawRunOf_any A n c _ hs hc).mono ?_
    rintro e w1 ⟨A1, n1, c1, l, A2, n2, c2, r, s, t, rfl, o1, hn1, o2, hn2, hs1, hs2, ht1, ht2, b1⟩
    have hws : (Lit.int .i64 s).wf = true := WalkArith.wf_i64 (by omega)
    have hwt : (Lit.int .i64 t).wf = true := WalkArith.wf_i64 (by omega)
    go_wp2_with fail
    refine (runOf_any _ _ _ _ _ _ l r s t _ (Sl.of_own o1) (Sl.of_own o2)).mono ?_
    rintro e w2 ⟨A3, n3, c3, rfl, o3, hn3, b2⟩
    have o1 := own_on o1 b2
    have o2 := own_on o2 b2
    have b2 := below_tr b1 b2
    go_wp2_with fail
    refine (specRunOf_any _ _ _ _ _ _ l r s t _ (Sl.of_own o1) (Sl.of_own o2) hws hwt).mono ?_
    rintro e w3 ⟨A4, n4, c4, rfl, o4, hn4, b3⟩
    have o1 := own_on o1 b3
    have o2 := own_on o2 b3
    have o3 := own_on o3 b3
    have b3 := below_tr b2 b3
    go_wp2_with fail
    refine (sameInts_b _ _ _ _ _ _ _ _ _ _ _ (Sl.of_own o3) (Sl.of_own o4)).mono ?_
    rintro e w4 ⟨rfl, b4⟩
    rw [decide_eq_true rfl]
    have o1 := own_on o1 b4
    have o2 := own_on o2 b4
    have o3 := own_on o3 b4
    have b4 := below_tr b3 b4
    clear o4
    have hl3 : (runOut l r s t).length = n3 := by have := o3.1; simpa using this
    have hl1 : l.length = n1 := by have := o1.1; simpa using this
    by_cases h0 : n3 = 0
    · subst h0
      clear hl3 hl1
      go_wp2_with fail
      refine (alive_any _).mono ?_
      rintro e w5 ⟨rfl, b5⟩
      go_wp2
      go_ret
      exact ⟨rfl, below_tr b4 b5⟩
    · have hne : ((n3 : Int) == 0) = false := by simp; omega
      obtain ⟨S, T, rfl, rfl, hT, h1, h4, g1, g2, hcl, hcr, k1, k2, e5⟩ := runOut_yes (l := l) (r := r) (s := s) (t := t) (by omega)
      rw [e5] at o3 hl3
      have E5 := hid e5
      rw [runL_len] at hl3
      obtain rfl : n3 = n1 := by omega
      have HL := hid hl1
      rw [hl1] at g1 g2
      clear hl1 hl3 e5
      go_wp2_with fail
      refine (runOf_any _ _ _ _ _ _ l r S ((T : Int) + 1) _ (Sl.of_own o1) (Sl.of_own o2)).mono ?_
      rintro e w5 ⟨A5, n5, c5, rfl, o5, hn5, b5⟩
      have o1 := own_on o1 b5
      have o2 := own_on o2 b5
      have o3 := own_on o3 b5
      have b5 := below_tr b4 b5
      have hl5 : (runOut l r S ((T : Int) + 1)).length = n5 := by have := o5.1; simpa using this
      have HL5 := hid hl5; clear hl5
      have p0 : (w5.alloc (.cells #[] 3)).ownsRow w5.heap.size 3 1 (.slice (some ⟨w5.heap.size, 0, none⟩) 0 0) 0 (ints []) := World.ownsRow_lit w5 #[] 0 (Nat.le_refl _) (by simp [maxLen]) rfl
      have pb : Below w5.heap.size w5 (w5.alloc (.cells #[] 3)) := (Below.refl _ _).alloc (Nat.le_refl _) _
      obtain ⟨b, c9, hv1, _, _⟩ := own_shape1 o1 g1
      injection hv1 with q1 q2 q3
      subst q1
      subst q3
      clear q2
      have s1 := Sl.of_own (own_on o1 pb)
      have hcell := hcl (n3 - 1)
      obtain ⟨hx0, hx1⟩ := hcell
      obtain ⟨x, hx⟩ : ∃ x, nth l (n3 - 1) = x := ⟨_, rfl⟩
      rw [hx] at hx0 hx1
      have HX := hid hx; clear hx
      have hS1 : (1 : Int) ≤ (S : Int) := by omega
      have hS4 : (S : Int) ≤ 4 := by omega
      go_wp2_with (at_builtin; refine wpList_append_own _ rfl (.tmp 46) (.tmp 47) 23 rfl w5.heap.size 3 i0 (.int .i64 0) 1 8 Try.underlying23 hi hz0 hz1 hz2 rfl (by decide) (.slice (some ⟨w5.heap.size, 0, none⟩) 0 0) _ _ rfl p0 ⟨b, 0, none⟩ n3 c1 (ints l) rfl (by rw [List.length_map, HL.out, Nat.mul_one]) s1.cellsAt (ints_one l) (by simp only [maxLen]; omega) (by omega) pb.size ?_; intro v6 w6 o6 gr6 _; rw [Nat.zero_add] at o6; have b6 := (pb.grown gr6 pb.size (by intro j hj; simp [Value.ownBlock] at hj; omega)); obtain ⟨g6, c6, rfl, hb6, hlt6⟩ := own_shape1 o6 (by omega); have o6 : World.ownsRow w6 w5.heap.size 3 1 (.slice (some ⟨g6, 0, none⟩) n3 c6) n3 (ints l) := o6; have hfz6 := o6.frozenAt (n3 - 1); have hcx6 : w6.cell? ⟨g6, n3 - 1, none⟩ = some (.int .i64 x) := by { have h := own_cell (j := n3 - 1) o6 HL.out (by omega); rw [HX.out] at h; exact h }; have hli : (((n3 : Nat) : Int) - 1).toNat = n3 - 1 := by { omega })
      obtain ⟨y, hy⟩ : ∃ y, (x + 1) % (S : Int) = y := ⟨_, rfl⟩
      have hy0 : 0 ≤ y ∧ y < (S : Int) := by rw [← hy]; exact ⟨Int.emod_nonneg _ (by omega), Int.emod_lt_of_pos _ (by omega)⟩
      rw [hy]
      have o7 := (o6.stored (n3 - 1) (.int .i64 y)).1
      rw [ints_set] at o7
      have b7 : Below w5.heap.size w5 (w6.setCell ⟨g6, n3 - 1, none⟩ (.int .i64 y)) := b6.setCell hb6 _
      obtain ⟨w7, hw7⟩ : ∃ w7, w6.setCell ⟨g6, n3 - 1, none⟩ (.int .i64 y) = w7 := ⟨_, rfl⟩
      rw [hw7] at o7 b7
      rw [hw7]
      clear hy hw7 o6 gr6 hfz6 hcx6 hli p0 pb b6
      have o1 := own_on o1 b7
      have o2 := own_on o2 b7
      have o3 := own_on o3 b7
      have o5 := own_on o5 b7
      have b7 := below_tr b5 b7
      obtain ⟨hco, k3⟩ := other_ok h1 h4 (by rw [HL.out]; exact g1) (by rw [HL.out]; exact g2) hcl hy0 (n3 - 1)
      obtain ⟨oth, hoth⟩ : ∃ oth, l.set (n3 - 1) y = oth := ⟨_, rfl⟩
      have hol : oth.length = l.length := by rw [← hoth]; simp
      have hag : ∀ k, k < n3 - 1 → nth oth k = nth l k := fun k hk => by rw [← hoth, nth_set, if_neg (by omega)]
      rw [hoth] at o7 hco k3
      clear hoth hy0
      refine (runOf_any _ _ _ _ _ _ oth r S T _ (Sl.of_own o7) (Sl.of_own o2)).mono ?_
      rintro e w8 ⟨A8, n8, c8, rfl, o8, hn8, b8⟩
      have o1 := own_on o1 b8
      have o2 := own_on o2 b8
      have o3 := own_on o3 b8
      have o5 := own_on o5 b8
      have b8 := below_tr b7 b8
      rw [runOut_far hT k3 k2] at o8
      have hl8 : (runL oth r S T).length = n8 := by have := o8.1; simpa using this
      rw [runL_len, hol, HL.out] at hl8
      subst hl8
      have HC := hid (cone_run (r := r) (S := S) hol hag T)
      have HO := hid hol
      clear hag hol o7
      have e8 : ((n3 : Int) != (n3 : Int)) = false := by simp
      have s3 := Sl.of_own o3
      have s8 := Sl.of_own o8
      go_wp2
      go_loopw [12] (fun i wr => ∃ k m : Nat, i = .int .i64 k ∧ k ≤ n3 ∧ wr = w8.drewN m) (fun i _ => n3 - (intOf i).toNat)
      case atStart => exact ⟨0, 0, rfl, Nat.zero_le _, rfl⟩
      case round =>
        obtain ⟨k, m, rfl, hk, rfl⟩ := hrel
        by_cases hlt : (k : Int) < (n3 : Int) - 1 - (T : Int)
        · have hkn : k < n3 := by omega
          obtain ⟨b3', off3, rfl, _, hc3⟩ := s3.2.2 (by omega)
          obtain ⟨b8', off8, rfl, _, hc8⟩ := s8.2.2 (by omega)
          have hck3 := hc3 k hkn
          have hck8 := hc8 k hkn
          rw [HC.out k (by omega)] at hck8
          obtain ⟨z, hz⟩ : ∃ z, nth (runL l r S T) k = z := ⟨_, rfl⟩
          rw [hz] at hck3 hck8
          have hzz : (z != z) = false := by simp
          have hki : (k : Int) < (n3 : Int) := by omega
          clear hz hc3 hc8
          go_wp2
          go_quiet (fail)
          go_wp2
          go_roundw
          case rel => exact ⟨k + 1, _, by go_num, by omega, rfl⟩
          case measure => simp [intOf]; omega
        · obtain ⟨w9, hw9⟩ : ∃ w9, w8.drewN m = w9 := ⟨_, rfl⟩
          have b9 : Below w8.heap.size w8 w9 := by rw [← hw9]; exact below_drewN (Below.refl _ _) _
          rw [hw9]
          clear hw9 s3 s8
          have o2 := own_on o2 b9
          have o3 := own_on o3 b9
          have o5 := own_on o5 b9
          have b9 := below_tr b8 b9
          by_cases hn0 : n5 = 0
          · subst hn0
            go_wp2_with fail
            refine (alive_any _).mono ?_
            rintro e w10 ⟨rfl, b10⟩
            go_wp2
            go_ret
            exact ⟨rfl, below_tr b9 b10⟩
          · have hne5 : ((n5 : Int) == 0) = false := by simp; omega
            have hT1 : T + 1 ≤ 60 := by
              rcases Nat.lt_or_ge T 60 with h | h
              · omega
              · have e : runOut l r S ((T : Int) + 1) = [] := by
                  rw [runOut, show within ((T : Int) + 1) 0 60 = false from by simp [within]; omega]
                  simp
                have := HL5.out
                rw [e] at this
                simp at this
                omega
            rw [runOut_more h1 h4 (by rw [HL.out]; exact g1) (by rw [HL.out]; exact g2) hcl hcr k1 k2 hT1] at o5
            go_wp2_with fail
            refine (stepOf_any _ _ _ _ _ _ (runL l r S T) r S _ (Sl.of_own o3) (Sl.of_own o2)).mono ?_
            rintro e w10 ⟨A10, n10, c10, rfl, o10, hn10, b10⟩
            have o5 := own_on o5 b10
            have b10 := below_tr b9 b10
            go_wp2_with fail
            refine (sameInts_b _ _ _ _ _ _ _ _ _ _ _ (Sl.of_own o5) (Sl.of_own o10)).mono ?_
            rintro e w11 ⟨rfl, b11⟩
            rw [decide_eq_true rfl]
            have b11 := below_tr b10 b11
            go_wp2_with fail
            refine (alive_any _).mono ?_
            rintro e w12 ⟨rfl, b12⟩
            go_wp2
            go_ret
            exact ⟨rfl, below_tr b11 b12⟩
end Go.Proofs.Ytnegbebfofcakaa
