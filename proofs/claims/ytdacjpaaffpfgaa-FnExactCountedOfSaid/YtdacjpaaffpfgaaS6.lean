/-
  Chapter 6's counters as plain lists of digits and carries. No walk, and no statement is proved here.
-/
import Derived.Test.YtdacjpaaffpfgaaC1a
namespace Go.Proofs.Ytdacjpaaffpfgaa
open Go.RowKit
set_option linter.unusedVariables false
set_option linter.unusedSimpArgs false

/-- A counter's machines, each by its digit and what it carries. -/
abbrev Cnt := List (Int × Int)
def tickL : Int → Cnt → Cnt
  | _, [] => []
  | i, (d, c) :: r => ((d + i) % 2, (d + i) / 2) :: tickL c r
def toldL : Cnt → Int
  | [] => 0
  | (d, c) :: r => d + 2 * c + 2 * toldL r
/-- What comes out at the end of so many machines, with what comes in. -/
def lastL : Int → Cnt → Int
  | i, [] => i
  | _, (_, c) :: r => lastL c r
def okP (p : Int × Int) : Prop := (p.1 = 0 ∨ p.1 = 1) ∧ (p.2 = 0 ∨ p.2 = 1) ∧ p.1 + p.2 ≠ 2
def okL (l : Cnt) : Prop := ∀ p ∈ l, okP p
theorem tickL_len : ∀ (i : Int) (l : Cnt), (tickL i l).length = l.length
  | _, [] => rfl
  | i, (d, c) :: r => by simp [tickL, tickL_len c r]
theorem tick_told : ∀ (i : Int) (l : Cnt), toldL (tickL i l) = toldL l + i - lastL i l * 2 ^ l.length
  | i, [] => by simp [tickL, toldL, lastL]
  | i, (d, c) :: r => by
    have h := tick_told c r
    have e : lastL i ((d, c) :: r) * 2 ^ ((d, c) :: r).length = 2 * (lastL c r * 2 ^ r.length) := by
      simp only [lastL, List.length_cons, Int.pow_succ]
      rw [Int.mul_comm (2 ^ r.length) 2, ← Int.mul_assoc, Int.mul_comm (lastL c r) 2, Int.mul_assoc]
    rw [e]
    simp only [tickL, toldL]
    rw [h]
    generalize lastL c r * 2 ^ r.length = m
    omega
theorem tick_ok : ∀ {i : Int} {l : Cnt}, okL l → (i = 0 ∨ i = 1) → okL (tickL i l)
  | _, [], _, _ => by intro p hp; simp [tickL] at hp
  | i, (d, c) :: r, h, hi => by
    have h0 := h (d, c) (by simp)
    simp only [okP] at h0
    have hr : okL r := fun p hp => h p (by simp [hp])
    have hn := tick_ok hr h0.2.1
    intro p hp
    simp only [tickL, List.mem_cons] at hp
    rcases hp with rfl | hp
    · simp only [okP]; omega
    · exact hn p hp
theorem told_bd : ∀ {l : Cnt}, okL l → 0 ≤ toldL l ∧ toldL l + 2 ≤ 2 * 2 ^ l.length
  | [], _ => by simp [toldL]
  | (d, c) :: r, h => by
    have h0 := h (d, c) (by simp)
    simp only [okP] at h0
    have hr := told_bd (l := r) (fun p hp => h p (by simp [hp]))
    simp only [toldL, List.length_cons, Int.pow_succ]
    omega
theorem told_none : ∀ {l : Cnt}, okL l → (toldL l = 0 ↔ ∀ p ∈ l, p.1 = 0 ∧ p.2 = 0)
  | [], _ => by simp [toldL]
  | (d, c) :: r, h => by
    have h0 := h (d, c) (by simp)
    simp only [okP] at h0
    have hr : okL r := fun p hp => h p (by simp [hp])
    have hb := told_bd hr
    have hn := told_none hr
    simp only [toldL, List.mem_cons, forall_eq_or_imp]
    rw [← hn]
    omega
theorem told_snoc : ∀ (l : Cnt) (d c : Int), toldL (l ++ [(d, c)]) = toldL l + (d * 2 ^ l.length + c * 2 ^ (l.length + 1))
  | [], d, c => by simp [toldL]; omega
  | (a, b) :: r, d, c => by
    have h := told_snoc r d c
    simp only [List.cons_append, toldL, List.length_cons]
    rw [h, Int.pow_succ 2 (r.length + 1), Int.pow_succ 2 r.length]
    generalize (2 : Int) ^ r.length = m
    have e1 : d * (m * 2) = 2 * (d * m) := by rw [Int.mul_comm m 2, ← Int.mul_assoc, Int.mul_comm d 2, Int.mul_assoc]
    have e2 : c * (m * 2 * 2) = 2 * (c * (m * 2)) := by rw [Int.mul_comm (m * 2) 2, ← Int.mul_assoc, Int.mul_comm c 2, Int.mul_assoc]
    rw [e1, e2]
    omega
theorem last_snoc : ∀ (i : Int) (l : Cnt) (d c : Int), lastL i (l ++ [(d, c)]) = c
  | _, [], _, _ => rfl
  | _, (_, b) :: r, d, c => last_snoc b r d c
theorem tick_snoc : ∀ (i : Int) (l : Cnt) (d c : Int), tickL i (l ++ [(d, c)]) = tickL i l ++ [((d + lastL i l) % 2, (d + lastL i l) / 2)]
  | _, [], _, _ => rfl
  | i, (a, b) :: r, d, c => by simp only [List.cons_append, tickL, lastL]; rw [tick_snoc b r d c]
theorem last_bit : ∀ {i : Int} {l : Cnt}, okL l → (i = 0 ∨ i = 1) → lastL i l = 0 ∨ lastL i l = 1
  | _, [], _, hi => hi
  | _, (d, c) :: r, h, _ => by
    have h0 := h (d, c) (by simp)
    exact last_bit (l := r) (fun p hp => h p (by simp [hp])) h0.2.1
def bitI (b : Bool) : Int := if b then 1 else 0
theorem bitI_01 (b : Bool) : bitI b = 0 ∨ bitI b = 1 := by cases b <;> simp [bitI]
/-- After a step for each of a list. -/
def countL (l : Cnt) (ts : List Bool) : Cnt := ts.foldl (fun l t => tickL (bitI t) l) l
theorem countL_len (l : Cnt) (ts : List Bool) : (countL l ts).length = l.length := by
  unfold countL
  induction ts generalizing l with
  | nil => rfl
  | cons t r ih => simp only [List.foldl_cons]; rw [ih, tickL_len]
theorem countL_snoc (l : Cnt) (ts : List Bool) (t : Bool) : countL l (ts ++ [t]) = tickL (bitI t) (countL l ts) := by simp [countL]
theorem count_ok {l : Cnt} (h : okL l) (ts : List Bool) : okL (countL l ts) := by
  unfold countL
  induction ts generalizing l with
  | nil => exact h
  | cons t r ih => simp only [List.foldl_cons]; exact ih (tick_ok h (bitI_01 t))
/-- How many ticks there are. -/
def many (ts : List Bool) : Nat := ts.countP id
theorem many_snoc (ts : List Bool) (t : Bool) : (many (ts ++ [t]) : Int) = many ts + bitI t := by
  cases t <;> simp [many, bitI]
theorem count_told {l : Cnt} (h : okL l) : ∀ ts : List Bool, ∃ o : Nat, toldL (countL l ts) + o * 2 ^ l.length = toldL l + many ts := by
  intro ts
  generalize hr : ts.reverse = rs
  induction rs generalizing ts with
  | nil =>
    have : ts = [] := by simpa using hr
    subst this
    exact ⟨0, by simp [countL, many]⟩
  | cons t r ih =>
    have e : ts = r.reverse ++ [t] := by rw [← List.reverse_cons, ← hr, List.reverse_reverse]
    obtain ⟨o, ho⟩ := ih r.reverse (by simp)
    rw [e, countL_snoc, many_snoc, tick_told, countL_len]
    rcases last_bit (count_ok h r.reverse) (bitI_01 t) with hl | hl
    · exact ⟨o, by rw [hl]; omega⟩
    · refine ⟨o + 1, ?_⟩
      rw [hl]
      have : ((o + 1 : Nat) : Int) * 2 ^ l.length = (o : Int) * 2 ^ l.length + 2 ^ l.length := by
        rw [Int.natCast_add, Int.add_mul]; simp
      rw [this]
      omega
/-- The first k machines carry nothing. -/
def still (l : Cnt) (k : Nat) : Prop := ∀ j, j < k → ∀ (h : j < l.length), (l[j]).2 = 0
theorem tick_still : ∀ {l : Cnt} {k : Nat}, okL l → still l k → still (tickL 0 l) (k + 1)
  | [], _, _, _ => by intro j _ h; simp [tickL] at h
  | (d, c) :: r, 0, h, _ => by
    have h0 := h (d, c) (by simp)
    simp only [okP] at h0
    intro j hj hlt
    obtain rfl : j = 0 := by omega
    simp only [tickL, List.getElem_cons_zero]
    omega
  | (d, c) :: r, k + 1, h, hs => by
    have h0 := h (d, c) (by simp)
    simp only [okP] at h0
    have hc : c = 0 := by have := hs 0 (by omega) (by simp); simpa using this
    subst hc
    have hr := tick_still (l := r) (k := k) (fun p hp => h p (by simp [hp])) (fun j hj hlt => by
      have := hs (j + 1) (by omega) (by simp; omega)
      simpa using this)
    intro j hj hlt
    cases j with
    | zero => simp only [tickL, List.getElem_cons_zero]; omega
    | succ j =>
      simp only [tickL, List.getElem_cons_succ]
      exact hr j (by omega) _
def restL (l : Cnt) (k : Nat) : Cnt := countL l (List.replicate k false)
theorem restL_succ (l : Cnt) (k : Nat) : restL l (k + 1) = tickL 0 (restL l k) := by
  unfold restL; rw [List.replicate_succ', countL_snoc]; rfl
theorem restL_len (l : Cnt) (k : Nat) : (restL l k).length = l.length := countL_len _ _
theorem rest_ok {l : Cnt} (h : okL l) (k : Nat) : okL (restL l k) := count_ok h _
theorem rest_still {l : Cnt} (h : okL l) (k : Nat) : still (restL l k) k := by
  induction k with
  | zero => intro j hj; omega
  | succ k ih => rw [restL_succ]; exact tick_still (rest_ok h k) ih
theorem told_still : ∀ {l : Cnt}, okL l → still l l.length → toldL l < 2 ^ l.length
  | [], _, _ => by simp [toldL]
  | (d, c) :: r, h, hs => by
    have h0 := h (d, c) (by simp)
    simp only [okP] at h0
    have hc : c = 0 := by have := hs 0 (by simp) (by simp); simpa using this
    have hr := told_still (l := r) (fun p hp => h p (by simp [hp])) (fun j hj hlt => by
      have := hs (j + 1) (by simp; omega) (by simp; omega)
      simpa using this)
    simp only [toldL, List.length_cons, Int.pow_succ]
    omega
theorem rest_told {l : Cnt} (h : okL l) : toldL (restL l l.length) = toldL l % 2 ^ l.length := by
  obtain ⟨o, ho⟩ := count_told h (List.replicate l.length false)
  have hm : many (List.replicate l.length false) = 0 := by simp [many, List.countP_replicate]
  rw [hm] at ho
  have h1 := (told_bd (rest_ok h l.length)).1
  have h2 := told_still (rest_ok h l.length) (by rw [restL_len]; exact rest_still h l.length)
  rw [restL_len] at h2
  change toldL (restL l l.length) + _ = _ at ho
  have e : toldL l = toldL (restL l l.length) + 2 ^ l.length * o := by rw [Int.mul_comm]; omega
  rw [e, Int.add_mul_emod_self_left, Int.emod_eq_of_lt h1 h2]
end Go.Proofs.Ytdacjpaaffpfgaa
