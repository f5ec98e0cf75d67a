/-
  Walks of the model's steps of rows. No statement is proved here.
-/
import Derived.Test.YtnegbebfofcakaaC1t
import Derived.Test.YtnegbebfofcakaaZer
namespace Go.Proofs.Ytnegbebfofcakaa
open Go.RowKit
set_option linter.unusedVariables false
set_option linter.unusedSimpArgs false

/-- The place in a rule for machine k of a row: rest beyond both ends. -/
def placeL (l : List Int) (S k : Nat) : Nat := ((nth (0 :: l) k).toNat * S + (nth l k).toNat) * S + (nth l (k + 1)).toNat
/-- A row after one step. -/
def stepL (l r : List Int) (S : Nat) : List Int := (List.range l.length).map fun k => nth r (placeL l S k)
theorem stepL_len (l r : List Int) (S : Nat) : (stepL l r S).length = l.length := by simp [stepL]
theorem nth_stepL {l r : List Int} {S k : Nat} (h : k < l.length) : nth (stepL l r S) k = nth r (placeL l S k) := by simp [stepL, nth, List.getD, h]
theorem nth_cons_zero (x : Int) (l : List Int) : nth (x :: l) 0 = x := rfl
theorem nth_cons_succ (x : Int) (l : List Int) (k : Nat) : nth (x :: l) (k + 1) = nth l k := rfl

/-- Each of a row's states, and rest, is in 0..S-1. -/
def Cells (l : List Int) (S : Nat) : Prop := ∀ k, 0 ≤ nth l k ∧ nth l k < S
theorem cells_of {l : List Int} {S : Nat} (h : allIn l 0 ((S : Int) - 1) = true) (h1 : 1 ≤ S) : Cells l S := by
  intro k
  by_cases hk : k < l.length
  · have := (by simpa [allIn] using h : ∀ x ∈ l, 0 ≤ x ∧ x ≤ (S : Int) - 1) (nth l k) (by rw [nth_lt hk]; exact List.getElem_mem _)
    omega
  · rw [nth_ge (by omega)]; omega
theorem Cells.cons {l : List Int} {S : Nat} (h : Cells l S) (h1 : 1 ≤ S) : Cells (0 :: l) S := by
  intro k
  cases k with
  | zero => rw [nth_cons_zero]; omega
  | succ k => rw [nth_cons_succ]; exact h k
theorem cellsOk_nat {l : List Int} {s : Int} (h : cellsOk l s = true) : ∃ S : Nat, s = S ∧ 1 ≤ S ∧ S ≤ 4 ∧ 1 ≤ l.length ∧ l.length ≤ 40 ∧ Cells l S := by
  simp only [cellsOk, Bool.and_eq_true, decide_eq_true_eq, within] at h
  obtain ⟨⟨h1, h4⟩, h2, h3, ha⟩ := h
  obtain ⟨S, rfl⟩ := Int.eq_ofNat_of_zero_le (show 0 ≤ s by omega)
  exact ⟨S, rfl, by omega, by omega, h2, h3, cells_of ha (by omega)⟩

theorem place_lt {S a b c : Nat} (h1 : 1 ≤ S) (h4 : S ≤ 4) (ha : a < S) (hb : b < S) (hc : c < S) : (a * S + b) * S + c < S * S * S := (place3 h1 h4 ha hb hc).1

/-- Three states as numbers, and all that a walk asks of their place. -/
theorem placed {l : List Int} {S k : Nat} (h1 : 1 ≤ S) (h4 : S ≤ 4) (hc : Cells l S) :
    ∃ a b c : Nat, nth (0 :: l) k = a ∧ nth l k = b ∧ nth l (k + 1) = c ∧ a < S ∧ b < S ∧ c < S ∧ placeL l S k = (a * S + b) * S + c ∧ placeL l S k < S * S * S := by
  obtain ⟨p1, p2⟩ := hc.cons h1 k
  obtain ⟨q1, q2⟩ := hc k
  obtain ⟨r1, r2⟩ := hc (k + 1)
  obtain ⟨a, ha⟩ := Int.eq_ofNat_of_zero_le p1
  obtain ⟨b, hb⟩ := Int.eq_ofNat_of_zero_le q1
  obtain ⟨c, hcc⟩ := Int.eq_ofNat_of_zero_le r1
  have e : placeL l S k = (a * S + b) * S + c := by unfold placeL; rw [ha, hb, hcc]; simp
  refine ⟨a, b, c, ha, hb, hcc, by omega, by omega, by omega, e, ?_⟩
  rw [e]
  exact place_lt h1 h4 (by omega) (by omega) (by omega)

theorem prod3 {S a b c : Nat} (h4 : S ≤ 4) (ha : a < S) (hb : b < S) (hc : c < S) :
    0 ≤ (a : Int) * (S : Int) ∧ (a : Int) * (S : Int) ≤ 1000 ∧ 0 ≤ (a : Int) * (S : Int) * (S : Int) ∧ (a : Int) * (S : Int) * (S : Int) ≤ 1000 ∧ 0 ≤ (b : Int) * (S : Int) ∧ (b : Int) * (S : Int) ≤ 1000 ∧
      (a : Int) * (S : Int) * (S : Int) + (b : Int) * (S : Int) + (c : Int) = (((a * S + b) * S + c : Nat) : Int) ∧ a ≤ 1000 ∧ b ≤ 1000 ∧ c ≤ 1000 := by
  have : S = 1 ∨ S = 2 ∨ S = 3 ∨ S = 4 := by omega
  rcases this with rfl | rfl | rfl | rfl <;> omega

set_option maxHeartbeats 3200000 in
theorem specStep_any (A A2 : Option Addr) (n c n2 c2 : Nat) (l r : List Int) (S : Nat) (w : World) (hs : Sl w w.heap.size A n l) (hs2 : Sl w w.heap.size A2 n2 r)
    (h1 : 1 ≤ S) (h4 : S ≤ 4) (hcl : Cells l S) (hn : n ≤ 40) (hn2 : n2 = S * S * S) :
    Calls Try.prog 47 #[.slice A n c, .slice A2 n2 c2, .int .i64 S] w fun e w' => ∃ A3 c3, e = .returned (.slice A3 n c3) ∧ w'.ownsRow w.heap.size 3 1 (.slice A3 n c3) n (ints (stepL l r S)) ∧ Below w.heap.size w w' := by
  obtain ⟨i0, hi, hz0, hz1, hz2⟩ := info_parts info_int
  have ho0 : (w.alloc (.cells #[] 3)).ownsRow w.heap.size 3 1 (.slice (some ⟨w.heap.size, 0, none⟩) 0 0) 0 (ints []) := World.ownsRow_lit w #[] 0 (Nat.le_refl _) (by simp [maxLen]) rfl
  have hb0 : Below w.heap.size w (w.alloc (.cells #[] 3)) := (Below.refl _ _).alloc (Nat.le_refl _) _
  have hm2 := hs2.max
  have HL := hid hs.len
  have HN2 := hid hn2; clear hn2
  go_enter Try.func47, Try.ntmps47
  go_wp2
  go_loopw [7, 8] (fun v i wr => ∃ (A3 : Option Addr) (c3 k : Nat), v = .slice A3 k c3 ∧ i = .int .i64 k ∧ k ≤ n ∧ wr.ownsRow w.heap.size 3 1 (.slice A3 k c3) k (ints ((stepL l r S).take k)) ∧ Below w.heap.size w wr) (fun _ i _ => n - (intOf i).toNat)
  case atStart => exact ⟨_, _, 0, rfl, rfl, Nat.zero_le _, ho0, hb0⟩
  case round =>
    obtain ⟨A3, c3, k, rfl, rfl, hk, hown, hb⟩ := hrel
    clear ho0 hb0
    by_cases hlt : k < n
    · obtain ⟨a, b, d, e1, e2, e3, ha, hbb, hd, e4, e5⟩ := placed (k := k) h1 h4 hcl
      obtain ⟨i, hie⟩ : ∃ i : Nat, placeL l S k = i := ⟨_, rfl⟩
      rw [hie] at e4 e5
      have ht := take_nth (l := stepL l r S) (k := k) (by rw [stepL_len, HL.out]; exact hlt)
      rw [nth_stepL (by rw [HL.out]; exact hlt), hie] at ht
      obtain ⟨x, hx⟩ : ∃ x, nth r i = x := ⟨_, rfl⟩
      rw [hx] at ht
      have HT := hid ht; clear ht
      have hin : i < n2 := by rw [HN2.out]; exact e5
      have hin2 : (i : Int) < (n2 : Int) := by omega
      obtain ⟨bl, off, rfl, hbl, hc⟩ := (hs.on hb).2.2 (by omega)
      obtain ⟨bl2, off2, rfl, hbl2, hc2⟩ := (hs2.on hb).2.2 (by omega)
      have hck := hc k hlt
      have hci := hc2 i hin
      rw [e2] at hck
      rw [hx] at hci
      obtain ⟨m1, m2, m3, m4, m5, m6, m7, m8, m9, m10⟩ := prod3 h4 ha hbb hd
      rw [← e4] at m7
      have hv := own_blk hown
      clear e2 e4 hx hie hc2
      by_cases hk0 : 0 < k
      · obtain ⟨k, rfl⟩ : ∃ k', k = k' + 1 := ⟨k - 1, by omega⟩
        have hcp := hc k (by omega)
        rw [nth_cons_succ] at e1
        rw [e1] at hcp
        clear e1
        by_cases hkn : k + 1 + 1 < n
        · have hcr := hc (k + 1 + 1) hkn
          rw [e3] at hcr
          have hkn' : (k : Int) + 1 + 1 < (n : Int) := by omega
          clear hc e3
          go_wp2_with (at_builtin; refine wpList_append_own _ rfl (.tmp 35) (.tmp 53) 23 rfl w.heap.size 3 i0 (.int .i64 0) 1 8 Try.underlying23 hi hz0 hz1 hz2 rfl (by decide) (.slice A3 (k + 1) c3) _ _ rfl (hown.alloc _) ⟨wr.heap.size, 0, none⟩ 1 1 [.int .i64 x] rfl rfl (cell_one_new _ _ _) (by simp [Value.oneCell']) (by simp only [maxLen]; omega) (by omega) (by have := hb.size; simp; omega) ?_; intro v6 w6 hown6 hgrow6 _)
          obtain ⟨A7, c7, rfl, hown7, hb7⟩ := pushedC hb hb.size hv hown6 hgrow6
          rw [← HT.out] at hown7
          have HO := hid hown7
          clear hown7 hown6 hgrow6 hown hb hv
          go_wp2
          go_roundw
          case rel => exact ⟨A7, c7, k + 1 + 1, rfl, by go_num, by omega, HO.out, hb7⟩
          case measure => simp [intOf]; omega
        · have hd0 : d = 0 := by rw [nth_ge (by rw [HL.out]; omega)] at e3; omega
          subst hd0
          have hkn' : (n : Int) ≤ (k : Int) + 1 + 1 := by omega
          have m7 : (a : Int) * (S : Int) * (S : Int) + (b : Int) * (S : Int) = (i : Int) := by simpa using m7
          clear hc e3
          go_wp2_with (at_builtin; refine wpList_append_own _ rfl (.tmp 35) (.tmp 53) 23 rfl w.heap.size 3 i0 (.int .i64 0) 1 8 Try.underlying23 hi hz0 hz1 hz2 rfl (by decide) (.slice A3 (k + 1) c3) _ _ rfl (hown.alloc _) ⟨wr.heap.size, 0, none⟩ 1 1 [.int .i64 x] rfl rfl (cell_one_new _ _ _) (by simp [Value.oneCell']) (by simp only [maxLen]; omega) (by omega) (by have := hb.size; simp; omega) ?_; intro v6 w6 hown6 hgrow6 _)
          obtain ⟨A7, c7, rfl, hown7, hb7⟩ := pushedC hb hb.size hv hown6 hgrow6
          rw [← HT.out] at hown7
          have HO := hid hown7
          clear hown7 hown6 hgrow6 hown hb hv
          go_wp2
          go_roundw
          case rel => exact ⟨A7, c7, k + 1 + 1, rfl, by go_num, by omega, HO.out, hb7⟩
          case measure => simp [intOf]; omega
      · obtain rfl : k = 0 := by omega
        rw [nth_cons_zero] at e1
        obtain rfl : a = 0 := by omega
        clear e1
        by_cases hkn : 0 + 1 < n
        · have hcr := hc (0 + 1) hkn
          rw [e3] at hcr
          have hcr : wr.cell? ⟨bl, off + 1, none⟩ = some (.int .i64 d) := by simpa using hcr
          have hck : wr.cell? ⟨bl, off, none⟩ = some (.int .i64 b) := by simpa using hck
          have m7 : (b : Int) * (S : Int) + (d : Int) = (i : Int) := by simpa using m7
          clear hc e3
          go_wp2_with (at_builtin; refine wpList_append_own _ rfl (.tmp 35) (.tmp 53) 23 rfl w.heap.size 3 i0 (.int .i64 0) 1 8 Try.underlying23 hi hz0 hz1 hz2 rfl (by decide) (.slice A3 (0) c3) _ _ rfl (hown.alloc _) ⟨wr.heap.size, 0, none⟩ 1 1 [.int .i64 x] rfl rfl (cell_one_new _ _ _) (by simp [Value.oneCell']) (by simp only [maxLen]; omega) (by omega) (by have := hb.size; simp; omega) ?_; intro v6 w6 hown6 hgrow6 _)
          obtain ⟨A7, c7, rfl, hown7, hb7⟩ := pushedC hb hb.size hv hown6 hgrow6
          rw [← HT.out] at hown7
          have HO := hid hown7
          clear hown7 hown6 hgrow6 hown hb hv
          go_wp2
          go_roundw
          case rel => exact ⟨A7, c7, 0 + 1, rfl, by go_num, by omega, HO.out, hb7⟩
          case measure => simp [intOf]; omega
        · have hd0 : d = 0 := by rw [nth_ge (by rw [HL.out]; omega)] at e3; omega
          subst hd0
          have hck : wr.cell? ⟨bl, off, none⟩ = some (.int .i64 b) := by simpa using hck
          have m7 : (b : Int) * (S : Int) = (i : Int) := by simpa using m7
          clear hc e3
          go_wp2_with (at_builtin; refine wpList_append_own _ rfl (.tmp 35) (.tmp 53) 23 rfl w.heap.size 3 i0 (.int .i64 0) 1 8 Try.underlying23 hi hz0 hz1 hz2 rfl (by decide) (.slice A3 (0) c3) _ _ rfl (hown.alloc _) ⟨wr.heap.size, 0, none⟩ 1 1 [.int .i64 x] rfl rfl (cell_one_new _ _ _) (by simp [Value.oneCell']) (by simp only [maxLen]; omega) (by omega) (by have := hb.size; simp; omega) ?_; intro v6 w6 hown6 hgrow6 _)
          obtain ⟨A7, c7, rfl, hown7, hb7⟩ := pushedC hb hb.size hv hown6 hgrow6
          rw [← HT.out] at hown7
          have HO := hid hown7
          clear hown7 hown6 hgrow6 hown hb hv
          go_wp2
          go_roundw
          case rel => exact ⟨A7, c7, 0 + 1, rfl, by go_num, by omega, HO.out, hb7⟩
          case measure => simp [intOf]; omega
    · obtain rfl : k = n := by omega
      rw [List.take_of_length_le (by rw [stepL_len, HL.out]; exact Nat.le_refl _)] at hown
      have HO := hid hown; clear hown
      go_wp2
      go_ret
      exact ⟨A3, c3, rfl, HO.out, hb⟩

def stepOut (l r : List Int) (s : Int) : List Int := if (cellsOk l s && ruleOk r s) = true then stepL l r s.toNat else []
def runL (l r : List Int) (S : Nat) : Nat → List Int
  | 0 => l
  | t + 1 => stepL (runL l r S t) r S
theorem runL_len (l r : List Int) (S t : Nat) : (runL l r S t).length = l.length := by
  induction t with
  | zero => rfl
  | succ t ih => rw [runL, stepL_len, ih]
def runOut (l r : List Int) (s t : Int) : List Int := if (cellsOk l s && (ruleOk r s && within t 0 60)) = true then runL l r s.toNat t.toNat else []

theorem cells_rule {r : List Int} {s : Int} {S : Nat} (h : ruleOk r s = true) (e : s = S) (h1 : 1 ≤ S) : Cells r S := by
  subst e
  simp only [ruleOk, Bool.and_eq_true] at h
  exact cells_of h.2.2.1 h1
theorem cells_step {l r : List Int} {S : Nat} (h : Cells r S) (h1 : 1 ≤ S) : Cells (stepL l r S) S := by
  intro k
  by_cases hk : k < l.length
  · rw [nth_stepL hk]; exact h _
  · rw [nth_ge (by rw [stepL_len]; omega)]; omega
theorem cells_run {l r : List Int} {S : Nat} (hl : Cells l S) (h : Cells r S) (h1 : 1 ≤ S) (t : Nat) : Cells (runL l r S t) S := by
  cases t with
  | zero => exact hl
  | succ t => exact cells_step h h1

set_option maxHeartbeats 1600000 in
theorem specStepOf_any (A A2 : Option Addr) (n c n2 c2 : Nat) (l r : List Int) (s : Int) (w : World) (hs : Sl w w.heap.size A n l) (hs2 : Sl w w.heap.size A2 n2 r) (hws : (Lit.int .i64 s).wf = true) :
    Calls Try.prog 28 #[.slice A n c, .slice A2 n2 c2, .int .i64 s] w fun e w' => ∃ A3 m c3, e = .returned (.slice A3 m c3) ∧ w'.ownsRow w.heap.size 3 1 (.slice A3 m c3) m (ints (stepOut l r s)) ∧ m ≤ 64 ∧ Below w.heap.size w w' := by
  have ho0 : (w.alloc (.cells #[] 3)).ownsRow w.heap.size 3 1 (.slice (some ⟨w.heap.size, 0, none⟩) 0 0) 0 (ints []) := World.ownsRow_lit w #[] 0 (Nat.le_refl _) (by simp [maxLen]) rfl
  have hb0 : Below w.heap.size w (w.alloc (.cells #[] 3)) := (Below.refl _ _).alloc (Nat.le_refl _) _
  have hsb := (bounds_i64 hws).2
  by_cases k1 : cellsOk l s = true
  · by_cases k2 : ruleOk r s = true
    · obtain ⟨S, rfl, h1, h4, hl1, hl2, hcl⟩ := cellsOk_nat k1
      obtain ⟨S', e', _, _, hr, _⟩ := ruleOk_nat k2
      obtain rfl : S = S' := by omega
      rw [hs.len] at hl1 hl2
      have ht : stepOut l r S = stepL l r S := by rw [stepOut, k1, k2]; rfl
      have HT := hid ht; clear ht
      have HR := hid (show n2 = S * S * S from by rw [← hs2.len]; exact hr)
      clear hr e'
      go_enter Try.func28, Try.ntmps28
      go_wp2_with (first | (go_at_call 17; refine (specCellsOk_any _ _ _ l _ _ _ hs hsb).mono ?_; rintro e w' ⟨rfl, rfl⟩) | (go_at_call 23; refine (specRuleOk_any _ _ _ r _ _ _ hs2).mono ?_; rintro e w' ⟨rfl, rfl⟩) | (go_at_call 44; refine (l1In_any _ _ _ _).mono ?_; rintro e w' ⟨rfl, rfl⟩))
      refine (specStep_any _ _ _ _ _ _ l r S _ hs hs2 h1 h4 hcl hl2 HR.out).mono ?_
      rintro e w1 ⟨A3, c3, rfl, o3, b3⟩
      go_wp2
      go_ret
      exact ⟨A3, n, c3, rfl, by rw [HT.out]; exact o3, by omega, b3⟩
    · have k2' : ruleOk r s = false := by simpa using k2
      have ht : stepOut l r s = [] := by rw [stepOut, k1, k2']; rfl
      have HT := hid ht; clear ht k2
      go_enter Try.func28, Try.ntmps28
      go_wp2_with (first | (go_at_call 17; refine (specCellsOk_any _ _ _ l _ _ _ hs hsb).mono ?_; rintro e w' ⟨rfl, rfl⟩) | (go_at_call 23; refine (specRuleOk_any _ _ _ r _ _ _ hs2).mono ?_; rintro e w' ⟨rfl, rfl⟩) | (go_at_call 44; refine (l1In_any _ _ _ _).mono ?_; rintro e w' ⟨rfl, rfl⟩))
      go_ret
      exact ⟨_, 0, 0, rfl, by rw [HT.out]; exact ho0, by omega, hb0⟩
  · have k1' : cellsOk l s = false := by simpa using k1
    have ht : stepOut l r s = [] := by rw [stepOut, k1']; rfl
    have HT := hid ht; clear ht k1
    go_enter Try.func28, Try.ntmps28
    go_wp2_with (first | (go_at_call 17; refine (specCellsOk_any _ _ _ l _ _ _ hs hsb).mono ?_; rintro e w' ⟨rfl, rfl⟩) | (go_at_call 23; refine (specRuleOk_any _ _ _ r _ _ _ hs2).mono ?_; rintro e w' ⟨rfl, rfl⟩) | (go_at_call 44; refine (l1In_any _ _ _ _).mono ?_; rintro e w' ⟨rfl, rfl⟩))
    go_ret
    exact ⟨_, 0, 0, rfl, by rw [HT.out]; exact ho0, by omega, hb0⟩

set_option maxHeartbeats 1600000 in
theorem specRunOf_any (A A2 : Option Addr) (n c n2 c2 : Nat) (l r : List Int) (s t : Int) (w : World) (hs : Sl w w.heap.size A n l) (hs2 : Sl w w.heap.size A2 n2 r) (hws : (Lit.int .i64 s).wf = true) (hwt : (Lit.int .i64 t).wf = true) :
    Calls Try.prog 33 #[.slice A n c, .slice A2 n2 c2, .int .i64 s, .int .i64 t] w fun e w' => ∃ A3 m c3, e = .returned (.slice A3 m c3) ∧ w'.ownsRow w.heap.size 3 1 (.slice A3 m c3) m (ints (runOut l r s t)) ∧ m ≤ 64 ∧ Below w.heap.size w w' := by
  obtain ⟨i0, hi, hz0, hz1, hz2⟩ := info_parts info_int
  have ho0 : (w.alloc (.cells #[] 3)).ownsRow w.heap.size 3 1 (.slice (some ⟨w.heap.size, 0, none⟩) 0 0) 0 (ints []) := World.ownsRow_lit w #[] 0 (Nat.le_refl _) (by simp [maxLen]) rfl
  have hb0 : Below w.heap.size w (w.alloc (.cells #[] 3)) := (Below.refl _ _).alloc (Nat.le_refl _) _
  have hsb := (bounds_i64 hws).2
  by_cases k1 : cellsOk l s = true
  · by_cases k2 : ruleOk r s = true
    · by_cases k3 : within t 0 60 = true
      · obtain ⟨S, rfl, h1, h4, hl1, hl2, hcl⟩ := cellsOk_nat k1
        obtain ⟨S', e', _, _, hr, _⟩ := ruleOk_nat k2
        obtain rfl : S = S' := by omega
        have hcr := cells_rule k2 rfl h1
        obtain ⟨t0, t1⟩ := within_iff.1 k3
        obtain ⟨T, rfl⟩ := Int.eq_ofNat_of_zero_le t0
        have ht : runOut l r S T = runL l r S T := by rw [runOut, k1, k2, k3]; rfl
        have HT := hid ht; clear ht
        have HL := hid hs.len
        rw [hs.len] at hl1 hl2
        have HR := hid (show n2 = S * S * S from by rw [← hs2.len]; exact hr)
        clear hr e' t0
        obtain ⟨bl, off, rfl, hbl, hc⟩ := hs.2.2 (by omega)
        have s1 := hs.on hb0
        clear hc
        go_enter Try.func33, Try.ntmps33
        go_wp2_with (first | (go_at_call 17; refine (specCellsOk_any _ _ _ l _ _ _ hs hsb).mono ?_; rintro e w' ⟨rfl, rfl⟩) | (go_at_call 23; refine (specRuleOk_any _ _ _ r _ _ _ hs2).mono ?_; rintro e w' ⟨rfl, rfl⟩) | (go_at_call 44; refine (l1In_any _ _ _ _).mono ?_; rintro e w' ⟨rfl, rfl⟩) | (at_builtin; refine wpList_append_own _ rfl (.tmp 27) (.tmp 28) 23 rfl w.heap.size 3 i0 (.int .i64 0) 1 8 Try.underlying23 hi hz0 hz1 hz2 rfl (by decide) (.slice (some ⟨w.heap.size, 0, none⟩) 0 0) _ _ rfl ho0 ⟨bl, off, none⟩ n c (ints l) rfl (by rw [List.length_map, HL.out, Nat.mul_one]) s1.cellsAt (ints_one l) (by simp only [maxLen]; omega) (by omega) hb0.size ?_; intro v2 w2 o2 g2 _; rw [Nat.zero_add] at o2; obtain ⟨g3, c3, rfl, hb3, hlt3⟩ := own_shape1 o2 (by omega)))
        have o2 : w2.ownsRow w.heap.size 3 1 (.slice (some ⟨g3, 0, none⟩) n c3) n (ints (runL l r S 0)) := o2
        have b2 := hb0.grown g2 hb0.size (by intro j hj; simp [Value.ownBlock] at hj; omega)
        clear g2 ho0 hb0 s1
        go_loopw [9, 10] (fun v i wr => ∃ (A3 : Option Addr) (c3 k : Nat), v = .slice A3 n c3 ∧ i = .int .i64 k ∧ k ≤ T ∧ wr.ownsRow w.heap.size 3 1 (.slice A3 n c3) n (ints (runL l r S k)) ∧ Below w.heap.size w wr) (fun _ i _ => T - (intOf i).toNat)
        case atStart => exact ⟨_, _, 0, by simp, rfl, Nat.zero_le _, o2, b2⟩
        case round =>
          obtain ⟨A3, c3', k, rfl, rfl, hk, hown, hb⟩ := hrel
          clear o2 b2
          by_cases hlt : k < T
          · have hlt2 : (k : Int) < (T : Int) := by omega
            go_wp2_with fail
            refine (specStep_any _ _ _ _ _ _ (runL l r S k) r S _ (Sl.of_own hown) (hs2.on hb) h1 h4 (cells_run hcl hcr h1 k) hl2 HR.out).mono ?_
            rintro e w5 ⟨A5, c5, rfl, o5, b5⟩
            have o6 : w5.ownsRow w.heap.size 3 1 (.slice A5 n c5) n (ints (runL l r S (k + 1))) := own_mono o5 hb.size
            have HO := hid o6
            have b6 := below_tr hb b5
            clear o5 o6 b5 hown hb
            go_wp2
            go_roundw
            case rel => exact ⟨A5, c5, k + 1, rfl, by go_num, by omega, HO.out, b6⟩
            case measure => simp [intOf]; omega
          · obtain rfl : k = T := by omega
            have HO := hid hown; clear hown
            go_wp2
            go_ret
            exact ⟨A3, n, c3', rfl, by rw [HT.out]; exact HO.out, by omega, hb⟩
      · have k3' : within t 0 60 = false := by simpa using k3
        have ht : runOut l r s t = [] := by rw [runOut, k1, k2, k3']; rfl
        have HT := hid ht; clear ht k3
        go_enter Try.func33, Try.ntmps33
        go_wp2_with (first | (go_at_call 17; refine (specCellsOk_any _ _ _ l _ _ _ hs hsb).mono ?_; rintro e w' ⟨rfl, rfl⟩) | (go_at_call 23; refine (specRuleOk_any _ _ _ r _ _ _ hs2).mono ?_; rintro e w' ⟨rfl, rfl⟩) | (go_at_call 44; refine (l1In_any _ _ _ _).mono ?_; rintro e w' ⟨rfl, rfl⟩))
        go_ret
        exact ⟨_, 0, 0, rfl, by rw [HT.out]; exact ho0, by omega, hb0⟩
    · have k2' : ruleOk r s = false := by simpa using k2
      have ht : runOut l r s t = [] := by rw [runOut, k1, k2']; rfl
      have HT := hid ht; clear ht k2
      go_enter Try.func33, Try.ntmps33
      go_wp2_with (first | (go_at_call 17; refine (specCellsOk_any _ _ _ l _ _ _ hs hsb).mono ?_; rintro e w' ⟨rfl, rfl⟩) | (go_at_call 23; refine (specRuleOk_any _ _ _ r _ _ _ hs2).mono ?_; rintro e w' ⟨rfl, rfl⟩) | (go_at_call 44; refine (l1In_any _ _ _ _).mono ?_; rintro e w' ⟨rfl, rfl⟩))
      go_ret
      exact ⟨_, 0, 0, rfl, by rw [HT.out]; exact ho0, by omega, hb0⟩
  · have k1' : cellsOk l s = false := by simpa using k1
    have ht : runOut l r s t = [] := by rw [runOut, k1']; rfl
    have HT := hid ht; clear ht k1
    go_enter Try.func33, Try.ntmps33
    go_wp2_with (first | (go_at_call 17; refine (specCellsOk_any _ _ _ l _ _ _ hs hsb).mono ?_; rintro e w' ⟨rfl, rfl⟩) | (go_at_call 23; refine (specRuleOk_any _ _ _ r _ _ _ hs2).mono ?_; rintro e w' ⟨rfl, rfl⟩) | (go_at_call 44; refine (l1In_any _ _ _ _).mono ?_; rintro e w' ⟨rfl, rfl⟩))
    go_ret
    exact ⟨_, 0, 0, rfl, by rw [HT.out]; exact ho0, by omega, hb0⟩
end Go.Proofs.Ytnegbebfofcakaa
