/-
  Walks of the program's allDiffer, RingOk, begunAt, WentRound, machinesBeforeGreater and ReachOf. No statement is proved here.
-/
import Derived.Test.YtegmkacapldnoaaC9
import Derived.Test.YtegmkacapldnoaaC9w
import Derived.Test.YtegmkacapldnoaaC9r
import Derived.OwnWalk
import Derived.IntWalk
import Derived.BigQuiet
import Derived.Deep.QuietTactic
import Derived.Deep.RegionHeld3
import Derived.Lib.AppendZerosOnto
import Derived.Lib.AppendZeros
namespace Go.Proofs.Ytegmkacapldnoaa
open Go.RowKit
set_option linter.unusedVariables false
set_option linter.unusedSimpArgs false

/-- A number is among the first of a list. -/
def amongN (l : List Int) (x : Int) : Bool := (List.range l.length).any (fun k => nth l k == x)
theorem amongN_iff {l : List Int} {x : Int} : amongN l x = true ↔ ∃ k, k < l.length ∧ nth l k = x := by
  simp only [amongN, List.any_eq_true, List.mem_range, beq_iff_eq]

set_option maxHeartbeats 800000 in
theorem index9_any (A : Option Addr) (n c : Nat) (l : List Int) (x : Int) (w : World) (B : Nat) (hs : Sl w B A n l) :
    Calls Try.prog 61 #[.slice A n c, .int .i64 x] w fun e w' => (∃ i : Int, e = .returned (.int .i64 i) ∧ (amongN l x = decide (0 ≤ i))) ∧ w = w' := by
  have hm := hs.max
  have HL := hid hs.len
  have HC := hid hs.2.2
  clear hs
  go_enter Try.func61, Try.ntmps61
  go_wp2
  go_loop [8] (fun i => ∃ k : Nat, i = .int .i64 k ∧ k ≤ n ∧ Hid (∀ j, j < k → nth l j ≠ x)) (fun i => n - (intOf i).toNat)
  case atStart => exact ⟨0, rfl, Nat.zero_le _, hid (fun j hj => by omega)⟩
  case round =>
    obtain ⟨k, rfl, hk, HA⟩ := hrel
    by_cases hlt : k < n
    · obtain ⟨b, off, rfl, _, hc⟩ := HC.out (by omega)
      have hck := hc k hlt
      have hki : (k : Int) < (n : Int) := by omega
      clear hc
      by_cases he : nth l k = x
      · have HE := hid (show amongN l x = true from amongN_iff.2 ⟨k, by rw [HL.out]; exact hlt, he⟩)
        rw [he] at hck
        clear he
        go_wp2
        go_ret
        exact ⟨⟨_, rfl, by rw [HE.out]; simp⟩, rfl⟩
      · have HE := hid he
        obtain ⟨y, hy⟩ : ∃ y, nth l k = y := ⟨_, rfl⟩
        rw [hy] at hck he
        have he' : (x == y) = false := by simpa using fun h : x = y => he h.symm
        clear hy
        go_wp2
        go_round
        case rel => exact ⟨k + 1, by go_num, by omega, hid (fun j hj => by by_cases h : j = k; (subst h; exact HE.out); (exact HA.out j (by omega)))⟩
        case measure => simp [intOf]; omega
    · obtain rfl : k = n := by omega
      have HE := hid (show amongN l x = false from by
        rw [Bool.eq_false_iff]
        intro h
        obtain ⟨j, hj, he⟩ := amongN_iff.1 h
        exact HA.out j (by rw [HL.out] at hj; exact hj) he)
      go_wp2
      go_ret
      exact ⟨⟨_, rfl, by rw [HE.out]; rfl⟩, rfl⟩

set_option maxHeartbeats 800000 in
theorem contains9_any (A : Option Addr) (n c : Nat) (l : List Int) (x : Int) (w : World) (B : Nat) (hs : Sl w B A n l) :
    Calls Try.prog 53 #[.slice A n c, .int .i64 x] w fun e w' => e = .returned (.bool (amongN l x)) ∧ w = w' := by
  go_enter Try.func53, Try.ntmps53
  go_wp2_with (go_at_call 61; refine (index9_any _ _ _ l _ _ _ hs).mono ?_; rintro e w' ⟨⟨i, rfl, hi⟩, rfl⟩)
  go_ret
  exact ⟨ret_bool hi.symm, rfl⟩

/-- No two numbers are the same. -/
def differ (l : List Int) : Bool := decide (∀ b, b < l.length → ∀ a, a < b → nth l a ≠ nth l b)

set_option maxHeartbeats 800000 in
theorem allDiffer_any (A : Option Addr) (n c : Nat) (l : List Int) (w : World) (B : Nat) (hs : Sl w B A n l) (hc : n ≤ c) (hcm : c ≤ maxLen) :
    Calls Try.prog 43 #[.slice A n c] w fun e w' => e = .returned (.bool (differ l)) ∧ w = w' := by
  have hm := hs.max
  have HL := hid hs.len
  have HC := hid hs.2.2
  have HS := hid hs
  clear hs
  simp only [maxLen] at hcm
  go_enter Try.func43, Try.ntmps43
  go_wp2
  go_loop [7] (fun i => ∃ k : Nat, i = .int .i64 k ∧ k ≤ n ∧ Hid (∀ b, b < k → ∀ a, a < b → nth l a ≠ nth l b)) (fun i => n - (intOf i).toNat)
  case atStart => exact ⟨0, rfl, Nat.zero_le _, hid (fun j hj => by omega)⟩
  case round =>
    obtain ⟨k, rfl, hk, HA⟩ := hrel
    by_cases hlt : k < n
    · obtain ⟨b, off, rfl, _, hcc⟩ := HC.out (by omega)
      have hck := hcc k hlt
      have hki : (k : Int) < (n : Int) := by omega
      have hkc : (k : Int) ≤ (c : Int) := by omega
      have hkc' : k ≤ c := by omega
      have hk0 : (0 : Int) ≤ (k : Int) := by omega
      clear hcc
      have CC := hid (contains9_any (some ⟨b, off, none⟩) k c (l.take k) (nth l k) w B (HS.out.take (by omega)))
      have HT := hid (show amongN (l.take k) (nth l k) = true ↔ ∃ a, a < k ∧ nth l a = nth l k from by
        rw [amongN_iff, List.length_take, HL.out]
        constructor
        · rintro ⟨a, ha, e⟩
          refine ⟨a, by omega, ?_⟩
          rw [← e]
          simp [nth, List.getD, show a < k from by omega]
        · rintro ⟨a, ha, e⟩
          refine ⟨a, by omega, ?_⟩
          rw [← e]
          simp [nth, List.getD, ha])
      cases hd : amongN (l.take k) (nth l k) with
      | true =>
        rw [hd] at CC HT
        have HE := hid (show differ l = false from by
          obtain ⟨a, ha, e⟩ := HT.out.1 rfl
          unfold differ
          rw [decide_eq_false_iff_not]
          intro h
          exact h k (by rw [HL.out]; exact hlt) a ha e)
        obtain ⟨y, hy⟩ : ∃ y, nth l k = y := ⟨_, rfl⟩
        rw [hy] at hck CC
        clear hy hd
        go_wp2_with (go_at_call 53; refine CC.out.mono ?_; rintro e w' ⟨rfl, rfl⟩)
        go_ret
        exact ⟨ret_bool HE.out.symm, rfl⟩
      | false =>
        rw [hd] at CC HT
        have HE := hid (show ∀ a, a < k → nth l a ≠ nth l k from fun a ha e => by
          have := HT.out.2 ⟨a, ha, e⟩
          cases this)
        obtain ⟨y, hy⟩ : ∃ y, nth l k = y := ⟨_, rfl⟩
        rw [hy] at hck CC
        clear hy hd
        go_wp2_with (go_at_call 53; refine CC.out.mono ?_; rintro e w' ⟨rfl, rfl⟩)
        go_round
        case rel => exact ⟨k + 1, by go_num, by omega, hid (fun b' hb' => by by_cases h : b' = k; (subst h; exact HE.out); (exact HA.out b' (by omega)))⟩
        case measure => simp [intOf]; omega
    · obtain rfl : k = n := by omega
      have HE := hid (show differ l = true from by
        unfold differ
        rw [decide_eq_true_iff, HL.out]
        exact HA.out)
      go_wp2
      go_ret
      exact ⟨ret_bool HE.out.symm, rfl⟩

theorem ringOk_eq (l : List Int) : ringOk l = (allIn l 1 99 && differ l && within (l.length : Int) 1 12) := rfl

set_option maxHeartbeats 800000 in
theorem ringI_any (A : Option Addr) (n c : Nat) (l : List Int) (w : World) (B : Nat) (hs : Sl w B A n l) (hc : n ≤ c) (hcm : c ≤ maxLen) :
    Calls Try.prog 16 #[.slice A n c] w fun e w' => e = .returned (.bool (ringOk l)) ∧ w = w' := by
  have hm := hs.max
  have HL := hid hs.len
  by_cases h2 : 1 ≤ n
  · by_cases h3 : n ≤ 12
    · cases ha : allIn l 1 99 with
      | true =>
        go_enter Try.func16, Try.ntmps16
        go_wp2_with (first | (go_at_call 42; refine (allWithin_any _ _ _ l _ _ _ _ hs).mono ?_; rintro e w' ⟨rfl, rfl⟩; rw [ha]) | (go_at_call 43; refine (allDiffer_any _ _ _ l _ _ hs hc hcm).mono ?_; rintro e w' ⟨rfl, rfl⟩))
        go_ret
        exact ⟨ret_bool (by rw [ringOk_eq, ha, HL.out]; unfold within; simp; omega), rfl⟩
      | false =>
        go_enter Try.func16, Try.ntmps16
        go_wp2_with (first | (go_at_call 42; refine (allWithin_any _ _ _ l _ _ _ _ hs).mono ?_; rintro e w' ⟨rfl, rfl⟩; rw [ha]) | (go_at_call 43; refine (allDiffer_any _ _ _ l _ _ hs hc hcm).mono ?_; rintro e w' ⟨rfl, rfl⟩))
        go_ret
        exact ⟨ret_bool (by rw [ringOk_eq, ha]; simp), rfl⟩
    · have h3' : decide ((n : Int) ≤ 12) = false := by simp; omega
      go_enter Try.func16, Try.ntmps16
      go_wp2
      go_ret
      exact ⟨ret_bool (by rw [ringOk_eq, HL.out, show within (n : Int) 1 12 = false from by simp [within]; omega, Bool.and_false]), rfl⟩
  · have h2' : decide (1 ≤ (n : Int)) = false := by simp; omega
    go_enter Try.func16, Try.ntmps16
    go_wp2
    go_ret
    exact ⟨ret_bool (by rw [ringOk_eq, HL.out, show within (n : Int) 1 12 = false from by simp [within]; omega, Bool.and_false]), rfl⟩
end Go.Proofs.Ytegmkacapldnoaa
