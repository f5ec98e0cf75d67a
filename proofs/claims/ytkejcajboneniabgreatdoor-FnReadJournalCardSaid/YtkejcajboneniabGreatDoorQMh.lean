/-
  Texts put together: S2 S3 S4 C2b C2l C3 C3m C4 C4f. No statement is proved here.
-/
import Derived.Test.YtkejcajboneniabGreatDoorQMa
import Derived.Deep.RegionHeld3
import Derived.IntWalk
import Derived.OwnWalk
set_option linter.unusedVariables false
set_option linter.unusedSimpArgs false
namespace Go.Proofs.YtkejcajboneniabGreatDoor
open Go.RowKit

/-- A way between two walls, folded. -/
def fold (last y : Int) : Int := if last < y % (2 * last) then 2 * last - y % (2 * last) else y % (2 * last)
theorem fold_small {last y : Int} (h : 1 ≤ last) (h0 : 0 ≤ y) (h1 : y ≤ last) : fold last y = y := by
  have e : y % (2 * last) = y := Int.emod_eq_of_lt h0 (by omega)
  unfold fold
  rw [e, if_neg (by omega)]
theorem fold_back {last f : Int} (h : 1 ≤ last) (h0 : 0 ≤ f) (h1 : f ≤ last) : fold last (2 * last - f) = f := by
  unfold fold
  by_cases hf : f = 0
  · subst hf
    simp
    omega
  · have e : (2 * last - f) % (2 * last) = 2 * last - f := Int.emod_eq_of_lt (by omega) (by omega)
    rw [e]
    split <;> omega
/-- A signal that begins between the walls, and takes 1..9 steps for a place, with either sign. -/
def sigOk (f e last : Int) : Bool := decide (1 ≤ last ∧ last ≤ 40) && (decide (0 ≤ f ∧ f ≤ last) && (decide (1 ≤ e ∧ e ≤ 9) || decide (-9 ≤ e ∧ e ≤ -1)))
theorem sigOk_iff {f e last : Int} : sigOk f e last = true ↔ (1 ≤ last ∧ last ≤ 40) ∧ (0 ≤ f ∧ f ≤ last) ∧ ((1 ≤ e ∧ e ≤ 9) ∨ (-9 ≤ e ∧ e ≤ -1)) := by simp [sigOk]
/-- How many steps for a place. -/
def slow (e : Int) : Int := if 0 ≤ e then e else -e
theorem slow_pos {e : Int} (h : 0 ≤ e) : slow e = e := by simp [slow, h]
theorem slow_neg {e : Int} (h : e < 0) : slow e = -e := by unfold slow; rw [if_neg (by omega)]
theorem slow_bd {f e last : Int} (h : sigOk f e last = true) : 1 ≤ slow e ∧ slow e ≤ 9 := by
  rw [sigOk_iff] at h
  unfold slow
  split <;> omega
/-- Where the folded way begins. -/
def starts (f e last : Int) : Int := if e < 0 then 2 * last - f else f
/-- Where a signal is after t steps. -/
def at2 (f e last t : Int) : Int := fold last (starts f e last + t / slow e)
end Go.Proofs.YtkejcajboneniabGreatDoor
namespace Go.Proofs.YtkejcajboneniabGreatDoor
open Go.RowKit

def partOk (last p : Int) : Bool := within last 1 40 && within p 2 5
theorem partOk_iff {last p : Int} : partOk last p = true ↔ (1 ≤ last ∧ last ≤ 40) ∧ (2 ≤ p ∧ p ≤ 5) := by simp [partOk, within]
/-- When the way back and the slow signal meet. -/
def partTime (last p : Int) : Int := 2 * last - last / p
theorem part_cases {p : Int} (h : 2 ≤ p ∧ p ≤ 5) : p = 2 ∨ p = 3 ∨ p = 4 ∨ p = 5 := by omega
theorem part_bd {last p : Int} (h : partOk last p = true) : 0 ≤ last / p ∧ last / p ≤ last ∧ last ≤ partTime last p ∧ partTime last p ≤ 2 * last := by
  obtain ⟨⟨l1, l2⟩, hp⟩ := partOk_iff.1 h
  unfold partTime
  rcases part_cases hp with rfl | rfl | rfl | rfl <;> omega
theorem fast_ok {last p : Int} (h : partOk last p = true) : sigOk 0 1 last = true := by
  rw [partOk_iff] at h; rw [sigOk_iff]; omega
theorem slow_ok {last p : Int} (h : partOk last p = true) : sigOk 0 (2 * p - 1) last = true := by
  rw [partOk_iff] at h; rw [sigOk_iff]; omega
theorem fast_at {last t : Int} (h : 1 ≤ last) (h0 : last ≤ t) (h1 : t ≤ 2 * last) : at2 0 1 last t = 2 * last - t := by
  have e := fold_back h (f := 2 * last - t) (by omega) (by omega)
  rw [show 2 * last - (2 * last - t) = t from by omega] at e
  unfold at2 starts
  rw [if_neg (by omega), slow_pos (by omega), Int.ediv_one, Int.zero_add, e]
theorem slow_at {last p t : Int} (h : partOk last p = true) (h0 : 0 ≤ t) (h1 : t ≤ 2 * last) : at2 0 (2 * p - 1) last t = t / (2 * p - 1) := by
  obtain ⟨⟨l1, l2⟩, hp⟩ := partOk_iff.1 h
  unfold at2 starts
  rw [if_neg (by omega), slow_pos (by omega), Int.zero_add]
  exact fold_small l1 (by rcases part_cases hp with rfl | rfl | rfl | rfl <;> omega) (by rcases part_cases hp with rfl | rfl | rfl | rfl <;> omega)
theorem part_meet {last p : Int} (h : partOk last p = true) : at2 0 1 last (partTime last p) = last / p ∧ at2 0 (2 * p - 1) last (partTime last p) = last / p := by
  have hb := part_bd h
  obtain ⟨⟨l1, l2⟩, hp⟩ := partOk_iff.1 h
  rw [fast_at l1 hb.2.2.1 hb.2.2.2, slow_at h (by omega) hb.2.2.2]
  unfold partTime
  rcases part_cases hp with rfl | rfl | rfl | rfl <;> omega
theorem part_not {last p t : Int} (h : partOk last p = true) (h0 : last ≤ t) (h1 : t < partTime last p) : at2 0 1 last t ≠ at2 0 (2 * p - 1) last t := by
  have hb := part_bd h
  obtain ⟨⟨l1, l2⟩, hp⟩ := partOk_iff.1 h
  rw [fast_at l1 h0 (by omega), slow_at h (by omega) (by omega)]
  unfold partTime at h1
  rcases part_cases hp with rfl | rfl | rfl | rfl <;> omega
/-- What PartAt answers. -/
def partVal (last p : Int) : Value := if partOk last p = true then .tuple #[.int .i64 (partTime last p), .int .i64 (last / p), .bool true] else .tuple #[.int .i64 (-1), .int .i64 (-1), .bool false]
theorem partVal_yes {last p : Int} (h : partOk last p = true) : partVal last p = .tuple #[.int .i64 (partTime last p), .int .i64 (last / p), .bool true] := by unfold partVal; rw [if_pos h]
theorem partVal_no {last p : Int} (h : partOk last p = false) : partVal last p = .tuple #[.int .i64 (-1), .int .i64 (-1), .bool false] := by unfold partVal; rw [h]; rfl
theorem partVal_form (last p : Int) : ∃ x y b, partVal last p = .tuple #[.int .i64 x, .int .i64 y, .bool b] := by
  unfold partVal
  split
  · exact ⟨_, _, _, rfl⟩
  · exact ⟨_, _, _, rfl⟩
def middles (last : Int) : List Int := if within last 1 40 = true then (if last % 2 = 0 then [last / 2] else [last / 2, last / 2 + 1]) else []
end Go.Proofs.YtkejcajboneniabGreatDoor
namespace Go.Proofs.YtkejcajboneniabGreatDoor
open Go.RowKit

def halves : Nat → Nat → List Int
  | 0, _ => []
  | f + 1, n => if 2 ≤ n then (n : Int) :: halves f ((n + 1) / 2) else []
def roundsN (n : Nat) : List Int := halves 6 n
theorem roundsN_step : ∀ n : Nat, n ≤ 40 → 2 ≤ n → roundsN n = (n : Int) :: roundsN ((n + 1) / 2) := by decide
theorem roundsN_none {n : Nat} (h : n < 2) : roundsN n = [] := by unfold roundsN halves; rw [if_neg (by omega)]
theorem roundsN_len : ∀ n : Nat, n ≤ 40 → (roundsN n).length ≤ 6 := by decide
theorem roundsN_mem : ∀ n : Nat, n ≤ 40 → ∀ x ∈ roundsN n, 2 ≤ x ∧ x ≤ 40 := by decide
def roundsOut (n : Int) : List Int := if 1 ≤ n ∧ n ≤ 40 then roundsN n.toNat else []
theorem roundsOut_yes {n : Int} (h : 1 ≤ n ∧ n ≤ 40) : roundsOut n = roundsN n.toNat := by unfold roundsOut; rw [if_pos h]
theorem roundsOut_no {n : Int} (h : ¬ (1 ≤ n ∧ n ≤ 40)) : roundsOut n = [] := by unfold roundsOut; rw [if_neg h]
theorem roundsOut_len (n : Int) : (roundsOut n).length ≤ 6 := by
  unfold roundsOut
  split
  · exact roundsN_len _ (by omega)
  · simp
theorem roundsOut_mem {n x : Int} (h : x ∈ roundsOut n) : 2 ≤ x ∧ x ≤ 40 := by
  unfold roundsOut at h
  split at h
  · exact roundsN_mem _ (by omega) x h
  · simp at h

/-- The steps of all rounds. -/
def fires (l : List Int) : Int := (l.map fun x => partTime (x - 1) 2).sum
theorem fires_snoc (l : List Int) (x : Int) : fires (l ++ [x]) = fires l + partTime (x - 1) 2 := by simp [fires]
theorem fires_bd (l : List Int) (h : ∀ x ∈ l, 2 ≤ x ∧ x ≤ 40) : 0 ≤ fires l ∧ fires l ≤ 100 * l.length := by
  induction l with
  | nil => simp [fires]
  | cons a l ih =>
    have ha := h a (by simp)
    have := ih (fun x hx => h x (by simp [hx]))
    have e : fires (a :: l) = partTime (a - 1) 2 + fires l := by simp [fires]
    rw [e]
    unfold partTime
    simp only [List.length_cons]
    omega
def fireOut (n : Int) : Int := if within n 1 40 = true then fires (roundsOut n) else -1
end Go.Proofs.YtkejcajboneniabGreatDoor
namespace Go.Proofs.YtkejcajboneniabGreatDoor
open Go.RowKit

/-- A signal as a value. -/
abbrev sig (f e : Int) : Value := .agg #[.int .i64 f, .int .i64 e]
/-- Two boxed signals in a later world. -/
structure Two (w wr : World) (f e g d : Int) : Prop where
  a0 : wr.cell? ⟨w.heap.size, 0, none⟩ = some (.int .i64 f)
  a1 : wr.cell? ⟨w.heap.size, 1, none⟩ = some (.int .i64 e)
  b0 : wr.cell? ⟨w.heap.size + 1, 0, none⟩ = some (.int .i64 g)
  b1 : wr.cell? ⟨w.heap.size + 1, 1, none⟩ = some (.int .i64 d)
  hg : w.grownBy wr none
theorem Two.on {w w1 w2 : World} {f e g d : Int} (h : Two w w1 f e g d) (hg : w1.grownBy w2 none) : Two w w2 f e g d :=
  ⟨hg.cell h.a0 (by simp), hg.cell h.a1 (by simp), hg.cell h.b0 (by simp), hg.cell h.b1 (by simp), h.hg.trans hg⟩
theorem drew_grown2 (w : World) : w.grownBy w.drew none := ⟨rfl, rfl, rfl, Nat.le_refl _, fun _ _ _ => rfl⟩

/-- A boxed signal in a later world. -/
structure One (w wr : World) (f e : Int) : Prop where
  a0 : wr.cell? ⟨w.heap.size, 0, none⟩ = some (.int .i64 f)
  a1 : wr.cell? ⟨w.heap.size, 1, none⟩ = some (.int .i64 e)
  hg : w.grownBy wr none
  hs : w.heap.size + 1 ≤ wr.heap.size
theorem One.on {w w1 w2 : World} {f e : Int} (h : One w w1 f e) (hg : w1.grownBy w2 none) : One w w2 f e :=
  ⟨hg.cell h.a0 (by simp), hg.cell h.a1 (by simp), h.hg.trans hg, Nat.le_trans h.hs hg.size⟩
end Go.Proofs.YtkejcajboneniabGreatDoor
namespace Go.Proofs.YtkejcajboneniabGreatDoor
open Go.RowKit

set_option maxHeartbeats 1600000 in
theorem l2At_any (f e last t : Int) (w : World) (h : sigOk f e last = true) (t0 : 0 ≤ t) (t1 : t ≤ 3000) :
    Calls Tryz.prog 163 #[sig f e, .int .i64 last, .int .i64 t] w fun r w' => r = .returned (.int .i64 (at2 f e last t)) ∧ w.grownBy w' none := by
  have h' := sigOk_iff.1 h
  obtain ⟨⟨l1, l2⟩, ⟨f1, f2⟩, he⟩ := h'
  have HA := hid (show at2 f e last t = fold last (starts f e last + t / slow e) from rfl)
  clear h
  by_cases hp : e < 0
  · obtain ⟨a, rfl⟩ : ∃ a, e = -a := ⟨-e, by omega⟩
    have a1 : 1 ≤ a := by omega
    have a9 : a ≤ 9 := by omega
    have HA := hid (show at2 f (-a) last t = fold last (2 * last - f + t / a) from by
      rw [HA.out, slow_neg hp, Int.neg_neg]
      unfold starts
      rw [if_pos hp])
    have q0 : 0 ≤ t / a := Int.ediv_nonneg t0 (by omega)
    have q1 : t / a ≤ 3000 := Int.le_trans (Int.ediv_le_self _ t0) t1
    have r0 := Int.emod_nonneg (2 * last - f + t / a) (show 2 * last ≠ 0 by omega)
    have r1 := Int.emod_lt_of_pos (2 * last - f + t / a) (show 0 < 2 * last by omega)
    by_cases hr : last < (2 * last - f + t / a) % (2 * last)
    · have hv : fold last (2 * last - f + t / a) = 2 * last - (2 * last - f + t / a) % (2 * last) := by unfold fold; rw [if_pos hr]
      have HV := hid hv; clear hv
      go_enter Tryz.func163, Tryz.ntmps163
      go_wp2
      go_ret
      exact ⟨ret_int (by rw [HA.out, HV.out]), grown_alloc _ _ _⟩
    · have hv : fold last (2 * last - f + t / a) = (2 * last - f + t / a) % (2 * last) := by unfold fold; rw [if_neg hr]
      have HV := hid hv; clear hv
      go_enter Tryz.func163, Tryz.ntmps163
      go_wp2
      go_ret
      exact ⟨ret_int (by rw [HA.out, HV.out]), grown_alloc _ _ _⟩
  · have a1 : 1 ≤ e := by omega
    have a9 : e ≤ 9 := by omega
    have HA := hid (show at2 f e last t = fold last (f + t / e) from by
      rw [HA.out, slow_pos (by omega)]
      unfold starts
      rw [if_neg hp])
    have q0 : 0 ≤ t / e := Int.ediv_nonneg t0 (by omega)
    have q1 : t / e ≤ 3000 := Int.le_trans (Int.ediv_le_self _ t0) t1
    have r0 := Int.emod_nonneg (f + t / e) (show 2 * last ≠ 0 by omega)
    have r1 := Int.emod_lt_of_pos (f + t / e) (show 0 < 2 * last by omega)
    by_cases hr : last < (f + t / e) % (2 * last)
    · have hv : fold last (f + t / e) = 2 * last - (f + t / e) % (2 * last) := by unfold fold; rw [if_pos hr]
      have HV := hid hv; clear hv
      go_enter Tryz.func163, Tryz.ntmps163
      go_wp2
      go_ret
      exact ⟨ret_int (by rw [HA.out, HV.out]), grown_alloc _ _ _⟩
    · have hv : fold last (f + t / e) = (f + t / e) % (2 * last) := by unfold fold; rw [if_neg hr]
      have HV := hid hv; clear hv
      go_enter Tryz.func163, Tryz.ntmps163
      go_wp2
      go_ret
      exact ⟨ret_int (by rw [HA.out, HV.out]), grown_alloc _ _ _⟩
end Go.Proofs.YtkejcajboneniabGreatDoor
namespace Go.Proofs.YtkejcajboneniabGreatDoor
open Go.RowKit

set_option maxRecDepth 100000 in
set_option maxHeartbeats 3200000 in
theorem specPartAt_any (last p : Int) (w : World) :
    Calls Tryz.prog 132 #[.int .i64 last, .int .i64 p] w fun r w' => r = .returned (partVal last p) ∧ w.grownBy w' none := by
  by_cases h1 : within last 1 40 = true
  · by_cases h2 : within p 2 5 = true
    · have hok : partOk last p = true := by unfold partOk; rw [h1, h2]; rfl
      have HV := hid (partVal_yes hok)
      have hb := part_bd hok
      have hm := part_meet hok
      have HN := hid (fun (t : Int) (h0 : last ≤ t) (h1 : t < partTime last p) => part_not hok h0 h1)
      have hr := partOk_iff.1 hok
      have CF := hid (fun (t : Int) (W : World) (h0 : 0 ≤ t) (h1 : t ≤ 3000) => l2At_any 0 1 last t W (fast_ok hok) h0 h1)
      have CG := hid (fun (t : Int) (W : World) (h0 : 0 ≤ t) (h1 : t ≤ 3000) => l2At_any 0 (2 * p - 1) last t W (slow_ok hok) h0 h1)
      go_enter Tryz.func132, Tryz.ntmps132
      go_wp2_with (go_at_call 97; refine (l1In_any _ _ _ _).mono ?_; rintro e w' ⟨rfl, rfl⟩)
      have hT0 : 0 ≤ last := by omega
      obtain ⟨N, hN⟩ : ∃ N : Nat, partTime last p = last + N := ⟨(partTime last p - last).toNat, by omega⟩
      rw [hN] at hm hb
      have HN2 := hid (fun (k : Nat) (hk : k < N) => HN.out (last + k) (by omega) (by rw [hN]; omega))
      have HNN := hid hN
      clear hN HN hok h1 h2
      have hN40 : N ≤ 40 := by omega
      go_loopw [9] (fun i wr => ∃ k : Nat, i = .int .i64 (last + k) ∧ k ≤ N ∧ Hid (Two w wr 0 1 0 (2 * p - 1))) (fun i _ => (last + N).toNat - (intOf i).toNat)
      case atStart => exact ⟨0, by simp, Nat.zero_le _, hid ⟨by simp, by simp, by simp, by simp, (grown_alloc _ _ _).trans (grown_alloc _ _ _)⟩⟩
      case round =>
        obtain ⟨k, rfl, hk, K⟩ := hrel
        obtain ⟨a0, a1, b0, b1, _⟩ := K.out
        have C1 := hid (fun W : World => CF.out (last + k) W (by omega) (by omega))
        have C2 := hid (fun W : World => CG.out (last + k) W (by omega) (by omega))
        by_cases hlt : k < N
        · have hne := HN2.out k hlt
          obtain ⟨x, hx⟩ : ∃ x, at2 0 1 last (last + k) = x := ⟨_, rfl⟩
          obtain ⟨y, hy⟩ : ∃ y, at2 0 (2 * p - 1) last (last + k) = y := ⟨_, rfl⟩
          rw [hx] at C1 hne
          rw [hy] at C2 hne
          clear hx hy hm
          have hb1' : (x != y) = true := by simpa using hne
          have hb2' : decide (x = y) = false := by simpa using hne
          go_wp2_with fail
          go_region_held3 (fun w' => w'.cell? ⟨w.heap.size, 0, none⟩ = some (.int .i64 0) ∧ w'.cell? ⟨w.heap.size, 1, none⟩ = some (.int .i64 1) ∧ w'.cell? ⟨w.heap.size + 1, 0, none⟩ = some (.int .i64 0) ∧ w'.cell? ⟨w.heap.size + 1, 1, none⟩ = some (.int .i64 (2 * p - 1)))
            (first
              | go_keep
              | (go_split_ands
                 refine ⟨?_, ?_, ?_, ?_⟩ <;> exact hg5.cell (by assumption) (by simp))
              | (go_split_ands
                 refine ⟨?_, ?_, ?_, ?_⟩ <;> exact hg4.cell (by assumption) (by simp)))
            (first
              | (go_at_call 163; with_reducible refine Calls.mono (C1.out _) ?_; rintro r w4 ⟨rfl, hg4⟩)
              | (go_at_call 163; with_reducible refine Calls.mono (C2.out _) ?_; rintro r w5 ⟨rfl, hg5⟩))
          replace K := hid (K.out.on (((drew_grown2 _).trans hg4).trans hg5))
          clear hg4 hg5 a0 a1 b0 b1
          go_wp2
          go_roundw
          case rel => exact ⟨k + 1, by go_num, by omega, K⟩
          case measure => simp [intOf]; omega
        · obtain rfl : k = N := by omega
          rw [hm.1] at C1
          rw [hm.2] at C2
          obtain ⟨q, hq⟩ : ∃ q, last / p = q := ⟨_, rfl⟩
          rw [hq] at C1 C2 HV
          rw [HNN.out] at HV
          clear hm hb hq HN2 HNN CF CG
          have hb1' : (q != q) = false := by simp
          go_wp2_with fail
          go_region_held3 (fun w' => w'.cell? ⟨w.heap.size, 0, none⟩ = some (.int .i64 0) ∧ w'.cell? ⟨w.heap.size, 1, none⟩ = some (.int .i64 1) ∧ w'.cell? ⟨w.heap.size + 1, 0, none⟩ = some (.int .i64 0) ∧ w'.cell? ⟨w.heap.size + 1, 1, none⟩ = some (.int .i64 (2 * p - 1)))
            (first
              | go_keep
              | (go_split_ands
                 refine ⟨?_, ?_, ?_, ?_⟩ <;> exact hg5.cell (by assumption) (by simp))
              | (go_split_ands
                 refine ⟨?_, ?_, ?_, ?_⟩ <;> exact hg4.cell (by assumption) (by simp)))
            (first
              | (go_at_call 163; with_reducible refine Calls.mono (C1.out _) ?_; rintro r w4 ⟨rfl, hg4⟩)
              | (go_at_call 163; with_reducible refine Calls.mono (C2.out _) ?_; rintro r w5 ⟨rfl, hg5⟩))
          replace K := hid (K.out.on (((drew_grown2 _).trans hg4).trans hg5))
          clear hg4 hg5 a0 a1 b0 b1
          obtain ⟨a0, a1, b0, b1, _⟩ := K.out
          go_wp2_with fail
          with_reducible refine Calls.mono (C2.out _) ?_
          rintro r w6 ⟨rfl, hg6⟩
          have HG := hid (K.out.hg.trans hg6)
          clear hg6
          go_wp2
          go_ret3
          exact ⟨congrArg Ending.returned HV.out.symm, HG.out⟩
    · have HV := hid (partVal_no (last := last) (p := p) (by unfold partOk; rw [h1]; simpa using h2))
      have h2' : within p 2 5 = false := by simpa using h2
      go_enter Tryz.func132, Tryz.ntmps132
      go_wp2_with (go_at_call 97; refine (l1In_any _ _ _ _).mono ?_; rintro e w' ⟨rfl, rfl⟩)
      go_ret3
      exact ⟨congrArg Ending.returned HV.out.symm, ⟨rfl, rfl, rfl, Nat.le_refl _, fun _ _ _ => rfl⟩⟩
  · have HV := hid (partVal_no (last := last) (p := p) (by unfold partOk; simp [h1]))
    have h1' : within last 1 40 = false := by simpa using h1
    go_enter Tryz.func132, Tryz.ntmps132
    go_wp2_with (go_at_call 97; refine (l1In_any _ _ _ _).mono ?_; rintro e w' ⟨rfl, rfl⟩)
    go_ret3
    exact ⟨congrArg Ending.returned HV.out.symm, ⟨rfl, rfl, rfl, Nat.le_refl _, fun _ _ _ => rfl⟩⟩

set_option maxHeartbeats 800000 in
theorem specMiddleAt_any (last : Int) (w : World) :
    Calls Tryz.prog 112 #[.int .i64 last] w fun r w' => r = .returned (partVal last 2) ∧ w.grownBy w' none := by
  have CP := hid (fun W : World => specPartAt_any last 2 W)
  obtain ⟨x, y, b, hv⟩ := partVal_form last 2
  rw [hv] at CP ⊢
  clear hv
  go_enter Tryz.func112, Tryz.ntmps112
  go_wp2_with fail
  with_reducible refine Calls.mono (CP.out _) ?_
  rintro r w1 ⟨rfl, hg⟩
  have HG := hid hg
  clear hg
  go_wp2
  go_ret3
  exact ⟨rfl, HG.out⟩
end Go.Proofs.YtkejcajboneniabGreatDoor
namespace Go.Proofs.YtkejcajboneniabGreatDoor
open Go.RowKit

set_option maxHeartbeats 1600000 in
theorem specMiddlesOf_any (last : Int) (w : World) :
    Calls Tryz.prog 75 #[.int .i64 last] w fun r w' => ∃ A2 m c2, r = .returned (.slice A2 m c2) ∧ w'.ownsRow w.heap.size 3 1 (.slice A2 m c2) m (ints (middles last)) ∧ m ≤ 2 ∧ Below w.heap.size w w' := by
  have CM := hid (fun W : World => specMiddleAt_any last W)
  by_cases h1 : within last 1 40 = true
  · have hl : 1 ≤ last ∧ last ≤ 40 := by simpa [within] using h1
    rw [partVal_yes (show partOk last 2 = true by unfold partOk; rw [h1]; rfl)] at CM
    have hd : last / 2 ≤ 20 := by omega
    have hd0 : 0 ≤ last / 2 := by omega
    by_cases h2 : last % 2 = 0
    · have HM := hid (show middles last = [last / 2] by unfold middles; rw [if_pos h1, if_pos h2])
      go_enter Tryz.func75, Tryz.ntmps75
      go_wp2_with fail
      with_reducible refine Calls.mono (CM.out _) ?_
      rintro r w1 ⟨rfl, hg⟩
      have HG := hid hg
      clear hg
      go_wp2
      go_ret
      exact ⟨_, 1, 1, rfl, by rw [HM.out]; exact World.ownsRow_lit w1 #[.int .i64 (last / 2)] 1 HG.out.size (by simp [maxLen]) rfl, by omega, (below_grown HG.out).trans ((Below.refl _ _).alloc HG.out.size _)⟩
    · have h2' : decide (last % 2 = 0) = false := by simpa using h2
      have HM := hid (show middles last = [last / 2, last / 2 + 1] by unfold middles; rw [if_pos h1, if_neg h2])
      go_enter Tryz.func75, Tryz.ntmps75
      go_wp2_with fail
      with_reducible refine Calls.mono (CM.out _) ?_
      rintro r w1 ⟨rfl, hg⟩
      have HG := hid hg
      clear hg
      go_wp2
      go_ret
      exact ⟨_, 2, 2, rfl, by rw [HM.out]; exact World.ownsRow_lit w1 #[.int .i64 (last / 2), .int .i64 (last / 2 + 1)] 2 HG.out.size (by simp [maxLen]) rfl, by omega, (below_grown HG.out).trans ((Below.refl _ _).alloc HG.out.size _)⟩
  · have h1' : within last 1 40 = false := by simpa using h1
    rw [partVal_no (show partOk last 2 = false by unfold partOk; rw [h1']; rfl)] at CM
    have HM := hid (show middles last = [] by unfold middles; rw [h1']; rfl)
    go_enter Tryz.func75, Tryz.ntmps75
    go_wp2_with fail
    with_reducible refine Calls.mono (CM.out _) ?_
    rintro r w1 ⟨rfl, hg⟩
    have HG := hid hg
    clear hg
    go_wp2
    go_ret
    exact ⟨_, 0, 0, rfl, by rw [HM.out]; exact World.ownsRow_lit w1 #[] 0 HG.out.size (by simp [maxLen]) rfl, by omega, (below_grown HG.out).trans ((Below.refl _ _).alloc HG.out.size _)⟩
end Go.Proofs.YtkejcajboneniabGreatDoor
namespace Go.Proofs.YtkejcajboneniabGreatDoor
open Go.RowKit

set_option maxRecDepth 100000 in
set_option maxHeartbeats 1600000 in
theorem specRoundsOf_any (n : Int) (w : World) (hw : (Lit.int .i64 n).wf = true) :
    Calls Tryz.prog 76 #[.int .i64 n] w fun r w' => ∃ A2 m c2, r = .returned (.slice A2 m c2) ∧ w'.ownsRow w.heap.size 3 1 (.slice A2 m c2) m (ints (roundsOut n)) ∧ m ≤ 6 ∧ Below w.heap.size w w' := by
  obtain ⟨i0, hi, hz0, hz1, hz2⟩ := info_parts info_int
  have ho0 : (w.alloc (.cells #[] 3)).ownsRow w.heap.size 3 1 (.slice (some ⟨w.heap.size, 0, none⟩) 0 0) 0 (ints []) := World.ownsRow_lit w #[] 0 (Nat.le_refl _) (by simp [maxLen]) rfl
  have hb0 : Below w.heap.size w (w.alloc (.cells #[] 3)) := (Below.refl _ _).alloc (Nat.le_refl _) _
  have hn := bounds_i64 hw
  by_cases hok : 1 ≤ n ∧ n ≤ 40
  · obtain ⟨N, rfl⟩ : ∃ N : Nat, n = N := Int.eq_ofNat_of_zero_le (by omega)
    have HR := hid (show roundsOut (N : Int) = roundsN N from roundsOut_yes hok)
    have hN : N ≤ 40 := by omega
    have hn40 : (N : Int) ≤ 40 := by omega
    go_enter Tryz.func76, Tryz.ntmps76
    go_wp2_with fail
    go_loopw [3, 4] (fun v kk wr => ∃ (A : Option Addr) (i c m : Nat) (l : List Int), v = .slice A i c ∧ kk = .int .i64 m ∧ 1 ≤ m ∧ m ≤ N ∧ Hid (l ++ roundsN m = roundsN N) ∧ i ≤ 6 ∧ wr.ownsRow w.heap.size 3 1 (.slice A i c) i (ints l) ∧ Below w.heap.size w wr) (fun _ kk _ => (intOf kk).toNat)
    case atStart => exact ⟨_, 0, 0, N, [], rfl, rfl, by omega, Nat.le_refl _, hid rfl, by omega, ho0, hb0⟩
    case round =>
      clear ho0 hb0
      obtain ⟨A, i, c, m, l, rfl, rfl, hm1, hm2, HL, hi6, hown, hb⟩ := hrel
      have hsz := hb.size
      by_cases hlt : 2 ≤ m
      · have hst := roundsN_step m (by omega) hlt
        have HS := hid (show (l ++ [(m : Int)]) ++ roundsN ((m + 1) / 2) = roundsN N from by rw [← HL.out, hst]; simp)
        have hil : i + 1 ≤ 6 := by
          have h1 := roundsN_len N hN
          have h2 := hown.1
          rw [← HL.out, hst] at h1
          simp at h1 h2
          omega
        clear hst
        have hlt1 : (1 : Int) < (m : Int) := by omega
        have hdiv : ((m : Int) + 1) / 2 = (((m + 1) / 2 : Nat) : Int) := by omega
        have HD := hid hdiv; clear hdiv
        go_wp2_with (at_builtin; refine wpList_append_own _ rfl (.tmp 16) (.tmp 18) 28 rfl w.heap.size 3 i0 (.int .i64 0) 1 8 Tryz.underlying28 hi hz0 hz1 hz2 rfl (by decide) (.slice A i c) _ _ rfl (hown.alloc _) ⟨wr.heap.size, 0, none⟩ 1 1 [.int .i64 m] rfl rfl (cell_one_new _ _ _) (by simp [Value.oneCell']) (by simp only [maxLen]; omega) (by omega) (by simp; omega) ?_; intro v2 w4 hown4 hgrow4 _)
        obtain ⟨g2, c2, rfl, _, _⟩ := own_shape hown4
        have hb4 := (hb.trans ((Below.refl wr.heap.size wr).alloc (Nat.le_refl _) (.cells #[.int .i64 m] 3) |>.mono hsz)).grown hgrow4 (by simp; omega) (own_lo hown)
        have HN := hid hown4
        clear hown4 hgrow4 hown
        go_wp2
        go_roundw
        case rel => exact ⟨_, i + 1, c2, (m + 1) / 2, l ++ [(m : Int)], rfl, by rw [HD.out], by omega, by omega, HS, hil, by rw [show ints (l ++ [(m : Int)]) = ints l ++ [.int .i64 m] from by simp [ints]]; exact HN.out, hb4⟩
        case measure => simp [intOf]; omega
      · obtain rfl : m = 1 := by omega
        have hl : l = roundsOut (N : Int) := by
          have h := HL.out
          rw [roundsN_none (by omega), List.append_nil] at h
          rw [HR.out, h]
        rw [hl] at hown
        have HN := hid hown
        clear hown hl
        go_wp2
        go_ret
        exact ⟨_, _, _, rfl, HN.out, hi6, hb⟩
  · have HR := hid (roundsOut_no hok)
    have H0 := hid ho0
    have B0 := hid hb0
    clear ho0 hb0
    rcases (show n < 1 ∨ 40 < n by omega) with h | h
    · have h1 : decide (1 < n) = false := by simp; omega
      go_enter Tryz.func76, Tryz.ntmps76
      go_wp2
      go_loopw [3, 4] (fun v kk wr => v = .slice (some ⟨w.heap.size, 0, none⟩) 0 0 ∧ kk = .int .i64 n ∧ wr = w.alloc (.cells #[] 3)) (fun _ _ _ => 0)
      case atStart => exact ⟨rfl, rfl, rfl⟩
      case round =>
        obtain ⟨rfl, rfl, rfl⟩ := hrel
        go_wp2
        go_ret
        exact ⟨_, _, _, rfl, by rw [HR.out]; exact H0.out, by omega, B0.out⟩
    · have h1 : decide (n ≤ 40) = false := by simp; omega
      go_enter Tryz.func76, Tryz.ntmps76
      go_wp2
      go_loopw [3, 4] (fun v kk wr => v = .slice (some ⟨w.heap.size, 0, none⟩) 0 0 ∧ kk = .int .i64 n ∧ wr = w.alloc (.cells #[] 3)) (fun _ _ _ => 0)
      case atStart => exact ⟨rfl, rfl, rfl⟩
      case round =>
        obtain ⟨rfl, rfl, rfl⟩ := hrel
        go_wp2
        go_ret
        exact ⟨_, _, _, rfl, by rw [HR.out]; exact H0.out, by omega, B0.out⟩
end Go.Proofs.YtkejcajboneniabGreatDoor
namespace Go.Proofs.YtkejcajboneniabGreatDoor
open Go.RowKit

theorem fires_take_bd {n : Int} (k : Nat) : 0 ≤ fires ((roundsOut n).take k) ∧ fires ((roundsOut n).take k) ≤ 600 := by
  have h := fires_bd ((roundsOut n).take k) (fun x hx => roundsOut_mem (List.mem_of_mem_take hx))
  have h2 := roundsOut_len n
  have h3 : ((roundsOut n).take k).length ≤ 6 := by simp; omega
  omega

set_option maxHeartbeats 1600000 in
theorem specFireAt_any (n : Int) (w : World) (hw : (Lit.int .i64 n).wf = true) :
    Calls Tryz.prog 77 #[.int .i64 n] w fun r w' => r = .returned (.int .i64 (fireOut n)) ∧ Below w.heap.size w w' := by
  by_cases hok : within n 1 40 = true
  · have HF := hid (show fireOut n = fires (roundsOut n) from by unfold fireOut; rw [if_pos hok])
    have hn : 1 ≤ n ∧ n ≤ 40 := by simpa [within] using hok
    have CR := hid (fun W : World => specRoundsOf_any n W hw)
    have HM := hid (fun (x : Int) (hx : x ∈ roundsOut n) => roundsOut_mem hx)
    have HB := hid (fun k : Nat => fires_take_bd (n := n) k)
    obtain ⟨l, hl⟩ : ∃ l, roundsOut n = l := ⟨_, rfl⟩
    rw [hl] at HF CR HM HB
    clear hl
    go_enter Tryz.func77, Tryz.ntmps77
    go_wp2_with (go_at_call 97; refine (l1In_any _ _ _ _).mono ?_; rintro e w' ⟨rfl, rfl⟩)
    with_reducible refine Calls.mono (CR.out _) ?_
    rintro r w1 ⟨A, m, c, rfl, o1, hm6, b1⟩
    have hlen : l.length = m := by have := o1.1; simpa using this
    have HL := hid hlen; clear hlen
    have o1 := own_mono (base' := 0) o1 (Nat.zero_le _)
    go_wp2_with fail
    go_loopw [3, 5] (fun v kk wr => ∃ k : Nat, v = .int .i64 (fires (l.take k)) ∧ kk = .int .i64 k ∧ k ≤ m ∧ wr.ownsRow 0 3 1 (.slice A m c) m (ints l) ∧ Hid (Below w.heap.size w wr)) (fun _ kk _ => m - (intOf kk).toNat)
    case atStart => exact ⟨0, by simp [fires], rfl, Nat.zero_le _, o1, hid b1⟩
    case round =>
      clear o1 b1
      obtain ⟨k, rfl, rfl, hk, o1, BB⟩ := hrel
      by_cases hlt : k < m
      · have hx := HM.out (nth l k) (by rw [nth_lt (by rw [HL.out]; exact hlt)]; exact List.getElem_mem _)
        have hs1 := HB.out k
        have hs2 := HB.out (k + 1)
        have ht : l.take (k + 1) = l.take k ++ [nth l k] := take_nth (by rw [HL.out]; exact hlt)
        rw [ht, fires_snoc] at hs2
        have HS := hid (show fires (l.take (k + 1)) = fires (l.take k) + partTime (nth l k - 1) 2 from by rw [ht, fires_snoc])
        clear ht
        have CM := hid (fun W : World => specMiddleAt_any (nth l k - 1) W)
        rw [partVal_yes (by rw [partOk_iff]; omega)] at CM
        obtain ⟨j, rfl⟩ : ∃ j, m = j + 1 := ⟨m - 1, by omega⟩
        obtain ⟨g, cg, hs0, _, _⟩ := own_shape o1
        injection hs0 with e1 e2 e3
        subst e1
        have hck := own_cell o1 HL.out hlt
        clear e3
        obtain ⟨x, hxe⟩ : ∃ x, nth l k = x := ⟨_, rfl⟩
        obtain ⟨s, hse⟩ : ∃ s, fires (l.take k) = s := ⟨_, rfl⟩
        obtain ⟨q, hqe⟩ : ∃ q, partTime (x - 1) 2 = q := ⟨_, rfl⟩
        rw [hxe] at hck CM hx HS hs2
        rw [hqe] at CM HS hs2
        rw [hse] at HS hs1 hs2
        rw [hse]
        clear hxe hse hqe
        go_wp2_with fail
        with_reducible refine Calls.mono (CM.out _) ?_
        rintro r w2 ⟨rfl, g2⟩
        replace o1 := own_kept_none o1 g2
        replace BB := hid (BB.out.trans ((below_grown g2).mono BB.out.size))
        clear g2 hck
        go_wp2
        go_roundw
        case rel => exact ⟨k + 1, by rw [HS.out], by go_num, by omega, o1, BB⟩
        case measure => simp [intOf]; omega
      · obtain rfl : k = m := by omega
        have hf : fires (l.take k) = fireOut n := by rw [HF.out, List.take_of_length_le (by rw [HL.out]; omega)]
        rw [hf]
        clear hf
        go_wp2
        go_ret
        exact ⟨rfl, BB.out⟩
  · have h1' : within n 1 40 = false := by simpa using hok
    have HF := hid (show fireOut n = -1 from by unfold fireOut; rw [if_neg hok])
    clear hok
    go_enter Tryz.func77, Tryz.ntmps77
    go_wp2_with (go_at_call 97; refine (l1In_any _ _ _ _).mono ?_; rintro e w' ⟨rfl, rfl⟩)
    go_ret
    exact ⟨ret_int HF.out.symm, Below.refl _ _⟩
end Go.Proofs.YtkejcajboneniabGreatDoor
