/-
  Walks of chapter 1's small functions: CellsOk of the program, the model's l1In, and the laws' alive. No statement is proved here.
-/
import Derived.Test.YtkejcajboneniabDoorProg
import Derived.Test.YtkejcajboneniabDoorMem
import Derived.Deep.QuietTactic
import Derived.BigQuiet
namespace Go.Proofs.YtkejcajboneniabDoor
open Go.RowKit
set_option linter.unusedVariables false
set_option linter.unusedSimpArgs false

/-- All numbers are in lo..hi. -/
def allIn (l : List Int) (lo hi : Int) : Bool := l.all fun x => decide (lo ≤ x ∧ x ≤ hi)
theorem allIn_snoc (l : List Int) (x lo hi : Int) : allIn (l ++ [x]) lo hi = (allIn l lo hi && decide (lo ≤ x ∧ x ≤ hi)) := by simp [allIn]
theorem allIn_take_false {l : List Int} {lo hi : Int} {k : Nat} (h : allIn (l.take k) lo hi = false) : allIn l lo hi = false := by
  rw [← List.take_append_drop k l]; unfold allIn at *; rw [List.all_append, h]; rfl

def within (n lo hi : Int) : Bool := decide (lo ≤ n ∧ n ≤ hi)

set_option maxHeartbeats 400000 in
theorem statesOk_any (s : Int) (w : World) :
    Calls Tryd.prog 39 #[.int .i64 s] w fun e w' => e = .returned (.bool (within s 1 4)) ∧ w = w' := by
  by_cases h1 : 1 ≤ s
  · go_enter Tryd.func39, Tryd.ntmps39
    go_wp2
    go_ret
    exact ⟨ret_bool (by simp [within, h1]), rfl⟩
  · have h1' : decide (1 ≤ s) = false := by simpa using h1
    go_enter Tryd.func39, Tryd.ntmps39
    go_wp2
    go_ret
    exact ⟨ret_bool (by simp [within]; omega), rfl⟩

set_option maxHeartbeats 400000 in
theorem l1In_any (n lo hi : Int) (w : World) :
    Calls Tryd.prog 37 #[.int .i64 n, .int .i64 lo, .int .i64 hi] w fun e w' => e = .returned (.bool (within n lo hi)) ∧ w = w' := by
  by_cases h1 : lo ≤ n
  · go_enter Tryd.func37, Tryd.ntmps37
    go_wp2
    go_ret
    exact ⟨ret_bool (by simp [within, h1]), rfl⟩
  · have h1' : decide (lo ≤ n) = false := by simpa using h1
    go_enter Tryd.func37, Tryd.ntmps37
    go_wp2
    go_ret
    exact ⟨ret_bool (by simp [within]; omega), rfl⟩

set_option maxHeartbeats 400000 in
theorem allWithin_any (A : Option Addr) (n c : Nat) (l : List Int) (lo hi : Int) (w : World) (B : Nat) (hs : Sl w B A n l) :
    Calls Tryd.prog 40 #[.slice A n c, .int .i64 lo, .int .i64 hi] w fun e w' => e = .returned (.bool (allIn l lo hi)) ∧ w = w' := by
  have hm := hs.max
  go_enter Tryd.func40, Tryd.ntmps40
  go_wp2
  go_loop [11] (fun i => ∃ k : Nat, k ≤ n ∧ i = .int .i64 k ∧ allIn (l.take k) lo hi = true) (fun i => n - (intOf i).toNat)
  case atStart => exact ⟨0, Nat.zero_le _, rfl, rfl⟩
  case round =>
    obtain ⟨k, hk, rfl, hall⟩ := hrel
    have HA := hid hall; clear hall
    have hlen := hs.len
    have HL := hid hlen; clear hlen
    by_cases hlt : k < n
    · obtain ⟨b, off, rfl, _, hc⟩ := hs.2.2 (by omega)
      have hck := hc k hlt
      clear hc
      by_cases h1 : nth l k < lo
      · go_wp2
        go_ret
        refine ⟨ret_bool ?_, rfl⟩
        symm
        apply allIn_take_false (k := k + 1)
        rw [take_nth (by rw [HL.out]; exact hlt), allIn_snoc]; simp; omega
      · by_cases h2 : hi < nth l k
        · have h1' : decide (nth l k < lo) = false := by simpa using h1
          go_wp2
          go_ret
          refine ⟨ret_bool ?_, rfl⟩
          symm
          apply allIn_take_false (k := k + 1)
          rw [take_nth (by rw [HL.out]; exact hlt), allIn_snoc]; simp; omega
        · have h1' : decide (nth l k < lo) = false := by simpa using h1
          have h2' : decide (hi < nth l k) = false := by simpa using h2
          go_wp2
          go_round
          case rel => exact ⟨k + 1, by omega, by go_num, by rw [take_nth (by rw [HL.out]; exact hlt), allIn_snoc, HA.out]; simp; omega⟩
          case measure => simp [intOf]; omega
    · go_wp2
      go_ret
      refine ⟨ret_bool ?_, rfl⟩
      have := HA.out
      rw [List.take_of_length_le (by rw [HL.out]; omega)] at this
      exact this.symm

/-- A row of 1..40 machines, each in 0..states less 1, for states in 1..4. -/
def cellsOk (l : List Int) (s : Int) : Bool := within s 1 4 && (decide (1 ≤ l.length) && (decide (l.length ≤ 40) && allIn l 0 (s - 1)))

theorem within_iff {n lo hi : Int} : within n lo hi = true ↔ lo ≤ n ∧ n ≤ hi := by simp [within]

set_option maxHeartbeats 800000 in
theorem cellsOk_any (A : Option Addr) (n c : Nat) (l : List Int) (s : Int) (w : World) (B : Nat) (hs : Sl w B A n l) :
    Calls Tryd.prog 25 #[.slice A n c, .int .i64 s] w fun e w' => e = .returned (.bool (cellsOk l s)) ∧ w = w' := by
  have hm := hs.max
  have hl := hs.len
  have HL := hid hl; clear hl
  by_cases h1 : within s 1 4 = true
  · have hb := within_iff.1 h1
    obtain ⟨hb1, hb2⟩ := hb
    by_cases h2 : 1 ≤ n
    · by_cases h3 : n ≤ 40
      · go_enter Tryd.func25, Tryd.ntmps25
        go_wp2_with (first | (go_at_call 39; refine (statesOk_any _ _).mono ?_; rintro e w' ⟨rfl, rfl⟩) | (go_at_call 40; refine (allWithin_any _ _ _ l _ _ _ _ hs).mono ?_; rintro e w' ⟨rfl, rfl⟩))
        go_ret
        exact ⟨ret_bool (by unfold cellsOk; rw [h1, HL.out]; simp [h2, h3]), rfl⟩
      · have h3' : decide ((n : Int) ≤ 40) = false := by simp; omega
        go_enter Tryd.func25, Tryd.ntmps25
        go_wp2_with (first | (go_at_call 39; refine (statesOk_any _ _).mono ?_; rintro e w' ⟨rfl, rfl⟩) | (go_at_call 40; refine (allWithin_any _ _ _ l _ _ _ _ hs).mono ?_; rintro e w' ⟨rfl, rfl⟩))
        go_ret
        exact ⟨ret_bool (by unfold cellsOk; rw [h1, HL.out]; simp [h3]), rfl⟩
    · have h2' : decide (1 ≤ (n : Int)) = false := by simp; omega
      go_enter Tryd.func25, Tryd.ntmps25
      go_wp2_with (first | (go_at_call 39; refine (statesOk_any _ _).mono ?_; rintro e w' ⟨rfl, rfl⟩) | (go_at_call 40; refine (allWithin_any _ _ _ l _ _ _ _ hs).mono ?_; rintro e w' ⟨rfl, rfl⟩))
      go_ret
      exact ⟨ret_bool (by unfold cellsOk; rw [h1, HL.out]; simp [show n = 0 from by omega]), rfl⟩
  · have h1' : within s 1 4 = false := by simpa using h1
    go_enter Tryd.func25, Tryd.ntmps25
    go_wp2_with (first | (go_at_call 39; refine (statesOk_any _ _).mono ?_; rintro e w' ⟨rfl, rfl⟩) | (go_at_call 40; refine (allWithin_any _ _ _ l _ _ _ _ hs).mono ?_; rintro e w' ⟨rfl, rfl⟩))
    go_ret
    exact ⟨ret_bool (by unfold cellsOk; rw [h1']; rfl), rfl⟩

/-- A literal slice of ints. -/
theorem Sl.lit (w : World) (e : TypeId) (l : List Int) (hl : l.length ≤ 1000000) : Sl (w.alloc (.cells (l.map (Value.int .i64)).toArray e)) (w.heap.size + 1) (some ⟨w.heap.size, 0, none⟩) l.length l := by
  have h := World.ownsRow_lit (base := w.heap.size) (e := e) (size := 1) w (l.map (Value.int .i64)).toArray l.length (Nat.le_refl _) (by simp only [maxLen]; omega) (by simp)
  have h2 := Sl.of_own (c := l.length) (l := l) (by simpa using h)
  simpa using h2

set_option maxHeartbeats 800000 in
theorem alive_any (w : World) :
    Calls Tryd.prog 9 #[] w fun e w' => e = .returned (.bool true) ∧ Below w.heap.size w w' := by
  have c1 : cellsOk [1] 2 = true := by decide
  have c2 : cellsOk [2] 2 = false := by decide
  have hL1 : Sl (w.alloc (.cells #[.int .i64 1] 3)) (w.heap.size + 1) (some ⟨w.heap.size, 0, none⟩) 1 [1] := by simpa using Sl.lit w 3 [1] (by decide)
  have hL2 : Sl ((w.alloc (.cells #[.int .i64 1] 3)).alloc (.cells #[.int .i64 2] 3)) (w.heap.size + 1 + 1) (some ⟨w.heap.size + 1, 0, none⟩) 1 [2] := by simpa using Sl.lit (w.alloc (.cells #[.int .i64 1] 3)) 3 [2] (by decide)
  go_enter Tryd.func9, Tryd.ntmps9
  go_wp2_with fail
  refine (cellsOk_any _ _ _ [1] 2 _ _ hL1).mono ?_
  rintro e w1 ⟨rfl, rfl⟩
  go_wp2_with fail
  refine (cellsOk_any _ _ _ [2] 2 _ _ hL2).mono ?_
  rintro e w1 ⟨rfl, rfl⟩
  go_wp2
  go_ret
  exact ⟨rfl, ((Below.refl _ _).alloc (Nat.le_refl _) _).alloc (by simp) _⟩
end Go.Proofs.YtkejcajboneniabDoor
