/-
  The walks of laws.FnRuleOk and laws.FnTurnedRule. No statement is proved here.
-/
import Derived.Test.YtnegbebfofcakaaDr2
namespace Go.Proofs.Ytnegbebfofcakaa
open Go.RowKit
set_option linter.unusedVariables false
set_option linter.unusedSimpArgs false

theorem nth_mem {l : List Int} {k : Nat} (h : k < l.length) : nth l k ∈ l := by rw [nth_lt h]; exact List.getElem_mem _
theorem nth_ext {a b : List Int} (h : a.length = b.length) (hk : ∀ k, k < a.length → nth a k = nth b k) : a = b := by
  apply List.ext_getElem h
  intro k h1 h2
  have := hk k h1
  rwa [nth_lt h1, nth_lt h2] at this
theorem allIn_iff {l : List Int} {lo hi : Int} : allIn l lo hi = true ↔ ∀ x ∈ l, lo ≤ x ∧ x ≤ hi := by simp [allIn]

theorem ruleOk_turned {l : List Int} {S : Nat} (h : ruleOk l S = true) : ruleOk (turnedL l S) S = true := by
  obtain ⟨S', e, h1, h4, hn, _⟩ := ruleOk_nat h
  obtain rfl : S = S' := by omega
  simp only [ruleOk, Bool.and_eq_true, decide_eq_true_eq] at h ⊢
  obtain ⟨hw, hl, ha, h0⟩ := h
  refine ⟨hw, ?_, ?_, ?_⟩
  · rw [turnedL_len]; simp
  · rw [allIn_iff] at ha ⊢
    intro x hx
    simp only [turnedL, List.mem_map, List.mem_range] at hx
    obtain ⟨k, hk, rfl⟩ := hx
    obtain ⟨r, q, m, t, i, e1, e2, e3, e4, e5, hi, _⟩ := parts3 h1 h4 hk
    rw [e1, e2, e3, e4, e5]
    exact ha _ (nth_mem (by rw [hn]; exact hi))
  · rw [nth_turnedL (by rw [← hn]; have : S = 1 ∨ S = 2 ∨ S = 3 ∨ S = 4 := by omega
                        rw [hn]; rcases this with rfl | rfl | rfl | rfl <;> decide)]
    simpa using h0
theorem turned_turned {l : List Int} {S : Nat} (h : ruleOk l S = true) : turnedL (turnedL l S) S = l := by
  obtain ⟨S', e, h1, h4, hn, _⟩ := ruleOk_nat h
  obtain rfl : S = S' := by omega
  apply nth_ext
  · rw [turnedL_len, hn]
  · intro k hk
    rw [turnedL_len] at hk
    have h3 : ∃ a b c, a < S ∧ b < S ∧ c < S ∧ k = (a * S + b) * S + c := by
      refine ⟨k / S / S, k / S % S, k % S, ?_, Nat.mod_lt _ (by omega), Nat.mod_lt _ (by omega), ?_⟩
      · have : S = 1 ∨ S = 2 ∨ S = 3 ∨ S = 4 := by omega
        rcases this with rfl | rfl | rfl | rfl <;> omega
      · have : S = 1 ∨ S = 2 ∨ S = 3 ∨ S = 4 := by omega
        rcases this with rfl | rfl | rfl | rfl <;> omega
    obtain ⟨a, b, c, ha, hb, hc, rfl⟩ := h3
    rw [nth_turnedL3 h1 h4 ha hb hc, nth_turnedL3 h1 h4 hc hb ha]
theorem turnedOut_nat {l : List Int} {S : Nat} (h : ruleOk l S = true) : turnedOut l S = turnedL l S := by rw [turnedOut, if_pos h]; rfl

set_option maxHeartbeats 1600000 in
theorem fnTurnedRule_walk (A : Option Addr) (n c : Nat) (w : World) (hs : By w w.heap.size A n) (hc : n ≤ c) :
    Calls Try.prog 13 #[.slice A n c] w fun e w' => e = .returned (.bool true) ∧ Below w.heap.size w w' := by
  have hm : n ≤ 9223372036854775807 := hs.1
  by_cases hbig : 1048576 < n
  · go_enter Try.func13, Try.ntmps13
    go_wp2
    go_ret
    exact ⟨rfl, Below.refl _ _⟩
  · go_enter Try.func13, Try.ntmps13
    go_wp2_with fail
    refine (drawTurnedRule_any A n c _ hs hc).mono ?_
    rintro e w1 ⟨A1, n1, c1, l, s, rfl, o1, hn1, hs1, hs2, b1⟩
    go_wp2_with fail
    refine (turnedRule_any _ _ _ l s _ (Sl.of_own o1)).mono ?_
    rintro e w2 ⟨A2, n2, c2, rfl, o2, hn2, b2⟩
    have o1 := own_on o1 b2
    have b2 := below_tr b1 b2
    go_wp2_with fail
    refine (specTurnedRule_any _ _ _ l s _ (Sl.of_own o1)).mono ?_
    rintro e w3 ⟨A3, n3, c3, rfl, o3, hn3, b3⟩
    have o1 := own_on o1 b3
    have o2 := own_on o2 b3
    have b3 := below_tr b2 b3
    go_wp2_with fail
    refine (sameInts_b _ _ _ _ _ _ _ _ _ _ _ (Sl.of_own o2) (Sl.of_own o3)).mono ?_
    rintro e w4 ⟨rfl, b4⟩
    rw [decide_eq_true rfl]
    have o1 := own_on o1 b4
    have o2 := own_on o2 b4
    have b4 := below_tr b3 b4
    clear o3
    have hl2 : (turnedOut l s).length = n2 := by have := o2.1; simpa using this
    by_cases hok : ruleOk l s = true
    · obtain ⟨S, rfl, h1, h4, hn, _⟩ := ruleOk_nat hok
      have hpos : 0 < n2 := by
        rw [← hl2, turnedOut_nat hok, turnedL_len]
        have : S = 1 ∨ S = 2 ∨ S = 3 ∨ S = 4 := by omega
        rcases this with rfl | rfl | rfl | rfl <;> decide
      have hne : ((n2 : Int) == 0) = false := by simp; omega
      have HL := hid hl2; clear hl2 hn
      go_wp2_with fail
      refine (turnedRule_any _ _ _ _ S _ (Sl.of_own o2)).mono ?_
      rintro e w5 ⟨A5, n5, c5, rfl, o5, hn5, b5⟩
      have o1 := own_on o1 b5
      have b5 := below_tr b4 b5
      rw [turnedOut_nat hok, turnedOut_nat (ruleOk_turned hok), turned_turned hok] at o5
      go_wp2_with fail
      refine (sameInts_b _ _ _ _ _ _ _ _ _ _ _ (Sl.of_own o5) (Sl.of_own o1)).mono ?_
      rintro e w6 ⟨rfl, b6⟩
      rw [decide_eq_true rfl]
      go_wp2
      go_ret
      exact ⟨rfl, below_tr b5 b6⟩
    · have hno : ruleOk l s = false := by simpa using hok
      have h0 : n2 = 0 := by rw [← hl2, turnedOut, if_neg hok]; rfl
      subst h0
      clear hl2 hok
      go_wp2_with fail
      refine (ruleOk_any _ _ _ l s _ _ (Sl.of_own o1)).mono ?_
      rintro e w5 ⟨rfl, rfl⟩
      go_wp2_with fail
      refine (alive_any _).mono ?_
      rintro e w6 ⟨rfl, b6⟩
      go_wp2
      go_ret
      exact ⟨rfl, below_tr b4 b6⟩

set_option maxHeartbeats 1600000 in
theorem fnRuleOk_walk (A : Option Addr) (n c : Nat) (w : World) (hs : By w w.heap.size A n) (hc : n ≤ c) :
    Calls Try.prog 5 #[.slice A n c] w fun e w' => e = .returned (.bool true) ∧ Below w.heap.size w w' := by
  obtain ⟨i0, hi, hz0, hz1, hz2⟩ := info_parts info_int
  have hm : n ≤ 9223372036854775807 := hs.1
  have r8 : ruleOk (List.replicate 8 0) 2 = true := by decide
  have r1 : ruleOk [1] 1 = false := by decide
  by_cases hbig : 1048576 < n
  · go_enter Try.func5, Try.ntmps5
    go_wp2
    go_ret
    exact ⟨rfl, Below.refl _ _⟩
  · go_enter Try.func5, Try.ntmps5
    go_wp2_with fail
    refine (drawRuleOk_any A n c _ hs hc).mono ?_
    rintro e w1 ⟨A1, n1, c1, l, s, rfl, o1, hn1, hs1, hs2, b1⟩
    go_wp2_with fail
    refine (ruleOk_any _ _ _ l s _ _ (Sl.of_own o1)).mono ?_
    rintro e w2 ⟨rfl, rfl⟩
    go_wp2_with fail
    refine (specRuleOk_any _ _ _ l s _ _ (Sl.of_own o1)).mono ?_
    rintro e w2 ⟨rfl, rfl⟩
    have en : (ruleOk l s != ruleOk l s) = false := by simp
    have R8 := hid r8; clear r8
    by_cases hok : ruleOk l s = true
    · obtain ⟨S, rfl, h1, h4, hn, _⟩ := ruleOk_nat hok
      have HN := hid hn; clear hn
      go_wp2_with (refine wpList_make_full _ rfl (.const (.int .i64 8)) (.const (.int .i64 8)) 23 rfl w1.heap.size 3 i0 _ 1 Try.underlying23 hi hz0 hz1 .i64 .i64 8 8 8 rfl rfl rfl rfl (by rw [hz2]; omega) (by simp [maxLen]) (Nat.le_refl _) ?_; intro w3 o3 g3)
      rw [madeInts] at o3
      have b3 := below_tr b1 (below_grown g3)
      have o1 := own_on o1 (below_grown g3)
      refine (ruleOk_any _ _ _ _ 2 _ _ (Sl.of_own o3)).mono ?_
      rintro e w4 ⟨rfl, rfl⟩
      rw [R8.out]
      clear o3 g3
      go_wp2_with fail
      refine (turnedRule_any _ _ _ l S _ (Sl.of_own o1)).mono ?_
      rintro e w5 ⟨A5, n5, c5, rfl, o5, hn5, b5⟩
      have b5 := below_tr b3 b5
      have ht : ruleOk (turnedOut l S) S = true := by rw [turnedOut_nat hok]; exact ruleOk_turned hok
      go_wp2_with fail
      refine (ruleOk_any _ _ _ _ S _ _ (Sl.of_own o5)).mono ?_
      rintro e w6 ⟨rfl, rfl⟩
      have hL1 : Sl (w5.alloc (.cells #[.int .i64 1] 3)) (w5.heap.size + 1) (some ⟨w5.heap.size, 0, none⟩) 1 [1] := by simpa using Sl.lit w5 3 [1] (by decide)
      have b6 : Below w5.heap.size w5 (w5.alloc (.cells #[.int .i64 1] 3)) := (Below.refl _ _).alloc (Nat.le_refl _) _
      go_wp2_with fail
      refine (ruleOk_any _ _ _ [1] 1 _ _ hL1).mono ?_
      rintro e w6 ⟨rfl, rfl⟩
      go_wp2_with fail
      refine (alive_any _).mono ?_
      rintro e w7 ⟨rfl, b7⟩
      go_wp2
      go_ret
      exact ⟨rfl, below_tr (below_tr b5 b6) b7⟩
    · have hno : ruleOk l s = false := by simpa using hok
      clear hok
      go_wp2_with (refine wpList_make_full _ rfl (.const (.int .i64 8)) (.const (.int .i64 8)) 23 rfl w1.heap.size 3 i0 _ 1 Try.underlying23 hi hz0 hz1 .i64 .i64 8 8 8 rfl rfl rfl rfl (by rw [hz2]; omega) (by simp [maxLen]) (Nat.le_refl _) ?_; intro w3 o3 g3)
      rw [madeInts] at o3
      have b3 := below_tr b1 (below_grown g3)
      have o1 := own_on o1 (below_grown g3)
      refine (ruleOk_any _ _ _ _ 2 _ _ (Sl.of_own o3)).mono ?_
      rintro e w4 ⟨rfl, rfl⟩
      rw [R8.out]
      clear o3 g3
      have hL1 : Sl (w3.alloc (.cells #[.int .i64 1] 3)) (w3.heap.size + 1) (some ⟨w3.heap.size, 0, none⟩) 1 [1] := by simpa using Sl.lit w3 3 [1] (by decide)
      have b6 : Below w3.heap.size w3 (w3.alloc (.cells #[.int .i64 1] 3)) := (Below.refl _ _).alloc (Nat.le_refl _) _
      go_wp2_with fail
      refine (ruleOk_any _ _ _ [1] 1 _ _ hL1).mono ?_
      rintro e w6 ⟨rfl, rfl⟩
      go_wp2_with fail
      refine (alive_any _).mono ?_
      rintro e w7 ⟨rfl, b7⟩
      go_wp2
      go_ret
      exact ⟨rfl, below_tr (below_tr b3 b6) b7⟩
end Go.Proofs.Ytnegbebfofcakaa
