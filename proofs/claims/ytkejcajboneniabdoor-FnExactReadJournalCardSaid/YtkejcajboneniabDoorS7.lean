/-
  Chapter 7's votes as plain lists. No walk, and no statement is proved here.
-/
import Derived.Test.YtkejcajboneniabDoorC1a
namespace Go.Proofs.YtkejcajboneniabDoor
open Go.RowKit
set_option linter.unusedVariables false
set_option linter.unusedSimpArgs false

/-- What a machine does as most of three do. -/
def voteAt (l : List Int) (k : Nat) : Int := (nth l k + nth l (k - 1) + nth l (min (k + 1) (l.length - 1))) / 2
def voteL (l : List Int) : List Int := (List.range l.length).map (voteAt l)
def bitsL (l : List Int) : Prop := ∀ x ∈ l, x = 0 ∨ x = 1
theorem voteL_len (l : List Int) : (voteL l).length = l.length := by simp [voteL]
theorem nth_vote {l : List Int} {k : Nat} (h : k < l.length) : nth (voteL l) k = voteAt l k := by simp [nth, voteL, List.getD, h]
theorem bits_nth {l : List Int} (h : bitsL l) (k : Nat) : nth l k = 0 ∨ nth l k = 1 := by
  unfold nth
  by_cases hk : k < l.length
  · rw [List.getD, List.getElem?_eq_getElem hk]; exact h _ (List.getElem_mem hk)
  · rw [List.getD, List.getElem?_eq_none (by omega)]; exact .inl rfl
theorem vote_bits {l : List Int} (h : bitsL l) : bitsL (voteL l) := by
  intro x hx
  simp only [voteL, List.mem_map] at hx
  obtain ⟨k, _, rfl⟩ := hx
  have h1 := bits_nth h k
  have h2 := bits_nth h (k - 1)
  have h3 := bits_nth h (min (k + 1) (l.length - 1))
  unfold voteAt
  omega
theorem list_ext7 {l m : List Int} (hl : l.length = m.length) (h : ∀ k, k < l.length → nth l k = nth m k) : l = m := by
  refine List.ext_getElem hl fun k h1 h2 => ?_
  have := h k h1
  simpa [nth, List.getD, h1, h2] using this
/-- A machine agrees with a neighbour, or is at an end. -/
def firmAt (l : List Int) (k : Nat) : Bool := decide (k = 0 ∨ k = l.length - 1 ∨ nth l (k - 1) = nth l k ∨ nth l (k + 1) = nth l k)
theorem firm_iff {l : List Int} {k : Nat} : firmAt l k = true ↔ (k = 0 ∨ k = l.length - 1 ∨ nth l (k - 1) = nth l k ∨ nth l (k + 1) = nth l k) := by simp [firmAt]
theorem vote_firm {l : List Int} (hb : bitsL l) {k : Nat} (hk : k < l.length) : (voteAt l k = nth l k) ↔ firmAt l k = true := by
  rw [firm_iff]
  have h1 := bits_nth hb k
  have h2 := bits_nth hb (k - 1)
  unfold voteAt
  by_cases h0 : k = 0
  · subst h0
    have h3 := bits_nth hb (min (0 + 1) (l.length - 1))
    simp only [Nat.zero_sub] at *
    constructor
    · intro _; exact .inl trivial
    · intro _; omega
  · by_cases hl : k = l.length - 1
    · rw [show min (k + 1) (l.length - 1) = k by omega]
      constructor
      · intro _; exact .inr (.inl hl)
      · intro _; omega
    · rw [show min (k + 1) (l.length - 1) = k + 1 by omega]
      have h3 := bits_nth hb (k + 1)
      omega
theorem firm_stays {l : List Int} (hb : bitsL l) {k : Nat} (hk : k < l.length) (hf : firmAt l k = true) : firmAt (voteL l) k = true := by
  have hv := (vote_firm hb hk).2 hf
  rw [firm_iff] at hf ⊢
  rw [voteL_len]
  by_cases h0 : k = 0
  · exact .inl h0
  by_cases hl : k = l.length - 1
  · exact .inr (.inl hl)
  rcases hf with h | h | h | h
  · exact .inl h
  · exact .inr (.inl h)
  · right; right; left
    have hp : firmAt l (k - 1) = true := by
      rw [firm_iff]; right; right; right
      rw [show k - 1 + 1 = k by omega]; exact h.symm
    have hvp := (vote_firm hb (show k - 1 < l.length by omega)).2 hp
    rw [nth_vote hk, nth_vote (by omega), hv, hvp]; exact h
  · right; right; right
    have hp : firmAt l (k + 1) = true := by
      rw [firm_iff]; right; right; left
      rw [Nat.add_sub_cancel]; exact h.symm
    have hvp := (vote_firm hb (show k + 1 < l.length by omega)).2 hp
    rw [nth_vote hk, nth_vote (by omega), hv, hvp]; exact h
theorem vote_next {l : List Int} (hb : bitsL l) {k : Nat} (hk : k + 1 < l.length) (hf : firmAt l k = true) : firmAt (voteL l) (k + 1) = true := by
  by_cases hg : firmAt l (k + 1) = true
  · exact firm_stays hb hk hg
  · have hv := (vote_firm hb (show k < l.length by omega)).2 hf
    have hw : ¬ voteAt l (k + 1) = nth l (k + 1) := fun h => hg ((vote_firm hb hk).1 h)
    have hbv := bits_nth (vote_bits hb) (k + 1)
    rw [nth_vote hk] at hbv
    have b1 := bits_nth hb (k + 1)
    have b2 := bits_nth hb k
    have hne : ¬ nth l k = nth l (k + 1) := fun h => hg (by rw [firm_iff]; right; right; left; rw [Nat.add_sub_cancel]; exact h)
    rw [firm_iff]; right; right; left
    rw [Nat.add_sub_cancel, nth_vote hk, nth_vote (by omega), hv]
    omega
theorem vote_prev {l : List Int} (hb : bitsL l) {k : Nat} (hk : k + 1 < l.length) (hf : firmAt l (k + 1) = true) : firmAt (voteL l) k = true := by
  by_cases hg : firmAt l k = true
  · exact firm_stays hb (by omega) hg
  · have hv := (vote_firm hb hk).2 hf
    have hw : ¬ voteAt l k = nth l k := fun h => hg ((vote_firm hb (by omega)).1 h)
    have hbv := bits_nth (vote_bits hb) k
    rw [nth_vote (by omega)] at hbv
    have b1 := bits_nth hb (k + 1)
    have b2 := bits_nth hb k
    have hne : ¬ nth l (k + 1) = nth l k := fun h => hg (by rw [firm_iff]; right; right; right; exact h)
    rw [firm_iff]; right; right; right
    rw [nth_vote hk, nth_vote (by omega), hv]
    omega
theorem vote_same {l : List Int} (hb : bitsL l) : voteL l = l ↔ ∀ k, k < l.length → firmAt l k = true := by
  constructor
  · intro h k hk
    refine (vote_firm hb hk).1 ?_
    rw [← nth_vote hk, h]
  · intro h
    refine list_ext7 (voteL_len l) fun k hk => ?_
    rw [voteL_len] at hk
    rw [nth_vote hk]
    exact (vote_firm hb hk).2 (h k hk)
def voteN : Nat → List Int → List Int
  | 0, l => l
  | s + 1, l => voteN s (voteL l)
theorem voteN_succ : ∀ (s : Nat) (l : List Int), voteN (s + 1) l = voteL (voteN s l)
  | 0, _ => rfl
  | s + 1, l => by rw [voteN, voteN_succ s (voteL l)]; rfl
theorem voteN_len : ∀ (s : Nat) (l : List Int), (voteN s l).length = l.length
  | 0, _ => rfl
  | s + 1, l => by rw [voteN, voteN_len s, voteL_len]
theorem voteN_bits {l : List Int} (h : bitsL l) (s : Nat) : bitsL (voteN s l) := by
  induction s with
  | zero => exact h
  | succ s ih => rw [voteN_succ]; exact vote_bits ih
theorem voteN_firm {l : List Int} (hb : bitsL l) (s : Nat) : ∀ k, k < l.length → (k ≤ s ∨ l.length - 1 - s ≤ k) → firmAt (voteN s l) k = true := by
  induction s with
  | zero =>
    intro k hk h
    rw [firm_iff, voteN]
    rcases h with h | h
    · exact .inl (by omega)
    · exact .inr (.inl (by omega))
  | succ s ih =>
    intro k hk h
    rw [voteN_succ]
    have hb' := voteN_bits hb s
    have hl := voteN_len s l
    by_cases h1 : k ≤ s ∨ l.length - 1 - s ≤ k
    · exact firm_stays hb' (by rw [hl]; exact hk) (ih k hk h1)
    · rcases h with h | h
      · have e : k = s + 1 := by omega
        subst e
        exact vote_next hb' (by rw [hl]; omega) (ih s (by omega) (.inl (by omega)))
      · exact vote_prev hb' (by rw [hl]; omega) (ih (k + 1) (by omega) (.inr (by omega)))
/-- After half as many steps as machines nothing changes any more. -/
theorem voteN_still {l : List Int} (hb : bitsL l) {s : Nat} (h : l.length ≤ 2 * s + 2) : voteL (voteN s l) = voteN s l := by
  rw [vote_same (voteN_bits hb s)]
  intro k hk
  rw [voteN_len] at hk
  exact voteN_firm hb s k hk (by omega)
def oppL (l : List Int) : List Int := l.map fun x => 1 - x
theorem opp_len (l : List Int) : (oppL l).length = l.length := by simp [oppL]
theorem nth_opp {l : List Int} {k : Nat} (h : k < l.length) : nth (oppL l) k = 1 - nth l k := by simp [nth, oppL, List.getD, h]
theorem opp_bits {l : List Int} (h : bitsL l) : bitsL (oppL l) := by
  intro x hx
  simp only [oppL, List.mem_map] at hx
  obtain ⟨y, hy, rfl⟩ := hx
  have := h y hy
  omega
theorem opp_opp (l : List Int) : oppL (oppL l) = l := by
  simp only [oppL, List.map_map]
  conv => rhs; rw [← List.map_id l]
  refine List.map_congr_left fun x _ => ?_
  simp only [Function.comp, id]; omega
theorem vote_opp {l : List Int} (hb : bitsL l) : voteL (oppL l) = oppL (voteL l) := by
  refine list_ext7 (by rw [voteL_len, opp_len, opp_len, voteL_len]) fun k hk => ?_
  rw [voteL_len, opp_len] at hk
  rw [nth_vote (by rw [opp_len]; exact hk), nth_opp (by rw [voteL_len]; exact hk), nth_vote hk]
  have h1 := bits_nth hb k
  have h2 := bits_nth hb (k - 1)
  have h3 := bits_nth hb (min (k + 1) (l.length - 1))
  unfold voteAt
  rw [opp_len, nth_opp hk, nth_opp (by omega), nth_opp (by omega)]
  omega
theorem voteN_opp {l : List Int} (hb : bitsL l) (s : Nat) : voteN s (oppL l) = oppL (voteN s l) := by
  induction s with
  | zero => rfl
  | succ s ih => rw [voteN_succ, voteN_succ, ih, vote_opp (voteN_bits hb s)]
/-- The least number of steps after which nothing changes. -/
def settled (l : List Int) (s : Nat) : Prop := voteL (voteN s l) = voteN s l ∧ ∀ j, j < s → voteL (voteN j l) ≠ voteN j l
theorem settled_one {l : List Int} {s t : Nat} (h : settled l s) (h' : settled l t) : s = t := by
  rcases Nat.lt_trichotomy s t with hlt | he | hlt
  · exact absurd h.1 (h'.2 s hlt)
  · exact he
  · exact absurd h'.1 (h.2 t hlt)
theorem settled_half {l : List Int} (hb : bitsL l) {s : Nat} (h : settled l s) : s = 0 ∨ 2 * s + 1 ≤ l.length := by
  rcases Nat.eq_zero_or_pos s with h0 | h0
  · exact .inl h0
  · right
    rcases Nat.lt_or_ge (2 * s) l.length with h1 | h1
    · omega
    · exact absurd (voteN_still hb (s := s - 1) (by omega)) (h.2 (s - 1) (by omega))
theorem settled_opp {l : List Int} (hb : bitsL l) {s : Nat} (h : settled l s) : settled (oppL l) s := by
  refine ⟨?_, fun j hj he => h.2 j hj ?_⟩
  · rw [voteN_opp hb, vote_opp (voteN_bits hb s), h.1]
  · rw [voteN_opp hb, vote_opp (voteN_bits hb j)] at he
    have := congrArg oppL he
    rwa [opp_opp, opp_opp] at this
def settleL (l : List Int) : Nat := ((List.range 64).find? fun s => decide (voteL (voteN s l) = voteN s l)).getD 0
theorem settle_eq {l : List Int} {s : Nat} (h : settled l s) (hs : s < 64) : settleL l = s := by
  have : (List.range 64).find? (fun s => decide (voteL (voteN s l) = voteN s l)) = some s := by
    rw [List.find?_range_eq_some]
    exact ⟨by simpa using h.1, by simpa using hs, fun j hj => by simpa using h.2 j hj⟩
  unfold settleL
  rw [this]
  rfl
end Go.Proofs.YtkejcajboneniabDoor
