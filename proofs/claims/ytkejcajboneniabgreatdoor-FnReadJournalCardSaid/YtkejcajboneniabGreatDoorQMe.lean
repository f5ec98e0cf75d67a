/-
  Texts put together: T12d. No statement is proved here.
-/
import Derived.Test.YtkejcajboneniabGreatDoorQT12b
set_option linter.unusedVariables false
set_option linter.unusedSimpArgs false
namespace Go.Proofs.YtkejcajboneniabGreatDoor
open Go.RowKit

/-- The cells of a list of deeds. -/
def flat : List (Int × Int) → List Int
  | [] => []
  | a :: l => a.1 :: a.2 :: flat l
theorem flat_len : ∀ l, (flat l).length = 2 * l.length
  | [] => rfl
  | a :: l => by simp only [flat, List.length_cons, flat_len l]; omega
theorem flat_append : ∀ a b, flat (a ++ b) = flat a ++ flat b
  | [], b => rfl
  | x :: a, b => by simp only [List.cons_append, flat, flat_append a b]
theorem nth_cons_succ (a : Int) (l : List Int) (k : Nat) : nth (a :: l) (k + 1) = nth l k := by simp [nth]
theorem nth_flat0 : ∀ (l : List (Int × Int)) (k : Nat), nth (flat l) (k * 2) = (l.getD k (0, 0)).1
  | [], k => by simp [flat, nth]
  | a :: l, 0 => by simp [flat, nth]
  | a :: l, k + 1 => by
    rw [show (k + 1) * 2 = k * 2 + 1 + 1 by omega]
    simp only [flat, nth_cons_succ]
    rw [nth_flat0 l k]
    simp
theorem nth_flat1 : ∀ (l : List (Int × Int)) (k : Nat), nth (flat l) (k * 2 + 1) = (l.getD k (0, 0)).2
  | [], k => by simp [flat, nth]
  | a :: l, 0 => by simp [flat, nth]
  | a :: l, k + 1 => by
    rw [show (k + 1) * 2 + 1 = k * 2 + 1 + 1 + 1 by omega]
    simp only [flat, nth_cons_succ]
    rw [nth_flat1 l k]
    simp
/-- The slice value '.slice A n c' reads as the list of deeds l in the world w, below block B. -/
def SlD (w : World) (B : Nat) (A : Option Addr) (n : Nat) (l : List (Int × Int)) : Prop :=
  l.length = n ∧ n ≤ maxLen ∧ (0 < n → ∃ b off, A = some ⟨b, off, none⟩ ∧ b < B ∧ ∀ j, j < 2 * n → w.cell? ⟨b, off + j, none⟩ = some (.int .i64 (nth (flat l) j)))
section
variable {w w' : World} {B B' n : Nat} {A : Option Addr} {l : List (Int × Int)}
theorem SlD.len (h : SlD w B A n l) : l.length = n := h.1
theorem SlD.max (h : SlD w B A n l) : n ≤ 9223372036854775807 := h.2.1
theorem SlD.nil (w : World) (B : Nat) : SlD w B none 0 [] := ⟨rfl, by simp [maxLen], fun h => absurd h (by omega)⟩
theorem SlD.keep (h : SlD w B A n l) (hB : B ≤ B') (hk : ∀ p : Addr, p.block < B → w'.cell? p = w.cell? p) : SlD w' B' A n l :=
  ⟨h.1, h.2.1, fun hn => by
    obtain ⟨b, off, e, hb, hc⟩ := h.2.2 hn
    exact ⟨b, off, e, by omega, fun j hj => (hk _ hb).trans (hc j hj)⟩⟩
theorem SlD.more (h : SlD w B A n l) (hB : B ≤ B') : SlD w B' A n l := h.keep hB fun _ _ => rfl
theorem SlD.below (h : SlD w B A n l) (hb : Below B w w') : SlD w' B A n l := h.keep (Nat.le_refl _) fun _ hp => hb.cell hp
theorem SlD.on (h : SlD w w.heap.size A n l) (hb : Below w.heap.size w w') : SlD w' w'.heap.size A n l := (h.below hb).more hb.size
theorem SlD.of_own {base : Nat} {c : Nat} {e : TypeId} (h : w.ownsRow base e 2 (.slice A n c) n (ints (flat l))) : SlD w w.heap.size A n l := by
  have hl : l.length = n := by have := h.1; simp only [ints, List.length_map, flat_len] at this; omega
  rcases h.2 with ⟨h1, h2⟩ | ⟨g, cap, cur, hv, hb, hg, hnc, hcm, hs, ht⟩
  · injection h1 with h1 h3
    subst h1; subst h3
    obtain rfl := List.eq_nil_of_length_eq_zero hl
    exact SlD.nil _ _
  · injection hv with h1 h2 h3
    subst h1; subst h3
    refine ⟨hl, Nat.le_trans hnc hcm, fun hn => ⟨g, 0, rfl, ?_, fun j hj => ?_⟩⟩
    · rcases Nat.lt_or_ge g w.heap.size with hlt | hge
      · exact hlt
      · rw [Array.getElem?_eq_none hge] at hg; cases hg
    · have hj2 : j < (flat l).length := by rw [flat_len]; omega
      rw [World.ownsRow.cellAt h (0 + j) (by omega)]
      simp [nth, List.getD, hj2]
end

theorem deedB_len (k n : Int) : (deedB k n).length ≤ 200 := by
  unfold deedB
  split
  · rename_i h
    have hb := within_iff.1 h.2
    have := numB_len n.toNat
    simp only [flipB, List.length_append, List.length_cons, List.length_nil]
    omega
  split
  · rename_i h
    have hb := within_iff.1 h.2
    have := numB_len n.toNat
    simp only [roundB, List.length_append, List.length_cons, List.length_nil]
    omega
  (repeat' split) <;> decide
def deedP (a : Int × Int) : List UInt8 := deedB a.1 a.2
/-- The lines of deeds. -/
def linesB : List (Int × Int) → List UInt8
  | [] => []
  | a :: l => deedP a ++ [10] ++ linesB l
theorem linesB_append : ∀ a b, linesB (a ++ b) = linesB a ++ linesB b
  | [], b => rfl
  | x :: a, b => by simp only [List.cons_append, linesB, linesB_append a b, List.append_assoc]
theorem linesB_len : ∀ l, (linesB l).length ≤ 201 * l.length
  | [] => Nat.le_refl _
  | a :: l => by
    have := deedB_len a.1 a.2
    have := linesB_len l
    simp only [linesB, deedP, List.length_append, List.length_cons, List.length_nil]
    omega
/-- What JournalText gives. -/
def hasText (a : Int × Int) : Bool := deedP a != []
def journalOut (l : List (Int × Int)) : List UInt8 := if l.all hasText = true then linesB l else []

set_option maxRecDepth 100000 in
set_option maxHeartbeats 1600000 in
theorem specJournalText_any (A : Option Addr) (n c : Nat) (l : List (Int × Int)) (w : World) (hs : SlD w w.heap.size A n l) (hn : n ≤ 10000000) :
    Calls Tryz.prog 40 #[.slice A n c] w fun e w' => e = .returned (encStr (journalOut l)) ∧ Below w.heap.size w w' := by
  have HL := hid hs.len
  go_enter Tryz.func40, Tryz.ntmps40
  go_wp2
  go_loopw [3, 4] (fun v i wr => ∃ k : Nat, k ≤ n ∧ i = .int .i64 k ∧ v = encStr (linesB (l.take k)) ∧ (l.take k).all hasText = true ∧ Hid (Below w.heap.size w wr)) (fun _ i _ => n - (intOf i).toNat)
  case atStart => exact ⟨0, Nat.zero_le _, rfl, rfl, rfl, hid (Below.refl _ _)⟩
  case round =>
    obtain ⟨k, hk, rfl, rfl, hall, HB⟩ := hrel
    have HA := hid hall; clear hall
    by_cases hlt : k < n
    · obtain ⟨b, off, rfl, hbS, hc⟩ := (hs.below HB.out).2.2 (by omega)
      have hc0 := hc (k * 2) (by omega)
      have hc1 := hc (k * 2 + 1) (by omega)
      rw [nth_flat0] at hc0
      rw [nth_flat1, ← Nat.add_assoc] at hc1
      obtain ⟨a, ha⟩ : ∃ a, l.getD k (0, 0) = a := ⟨_, rfl⟩
      rw [ha] at hc0 hc1
      have HT := hid (show l.take (k + 1) = l.take k ++ [a] from by rw [List.take_succ_eq_append_getElem (by rw [HL.out]; exact hlt), ← ha]; simp [List.getD, show k < l.length from by rw [HL.out]; exact hlt])
      have hlti : (k : Int) < (n : Int) := by omega
      clear hc
      have CD := hid (fun W => specDeedText_any a.1 a.2 W)
      have hdl := deedB_len a.1 a.2
      obtain ⟨s, hsd⟩ : ∃ s, deedB a.1 a.2 = s := ⟨_, rfl⟩
      rw [hsd] at CD hdl
      have hll := linesB_len (l.take k)
      rw [List.length_take, Nat.min_eq_left (by rw [HL.out]; exact hk)] at hll
      cases s with
      | nil =>
        have HV := hid (show journalOut l = [] from by
          unfold journalOut
          rw [if_neg]
          intro h
          rw [List.all_eq_true] at h
          have := h a (by rw [← ha]; simp [List.getD, show k < l.length from by rw [HL.out]; exact hlt])
          simp [hasText, deedP, hsd] at this)
        go_wp2_with (first | (go_at_call 91; with_reducible refine Calls.mono (CD.out wr) ?_; rintro e w5 ⟨rfl, b5⟩; have hd0 := (b5.cell (p := ⟨b, off + k * 2, none⟩) (by have := HB.out.size; show b < wr.heap.size; omega)).trans hc0; have hd1 := (b5.cell (p := ⟨b, off + k * 2 + 1, none⟩) (by have := HB.out.size; show b < wr.heap.size; omega)).trans hc1) | (go_at_call 91; with_reducible refine Calls.mono (CD.out w5) ?_; rintro e w6 ⟨rfl, b6⟩))
        go_ret
        exact ⟨by rw [HV.out]; rfl, HB.out.trans (b5.mono HB.out.size)⟩
      | cons s0 s =>
        have HA2 := hid (show (l.take (k + 1)).all hasText = true from by rw [HT.out, List.all_append, HA.out]; simp [hasText, deedP, hsd])
        have HL2 := hid (show linesB (l.take (k + 1)) = linesB (l.take k) ++ (s0 :: s) ++ [10] from by rw [HT.out, linesB_append]; simp [linesB, deedP, hsd])
        have c1 := fun W => cat_any (linesB (l.take k)) (s0 :: s) (by omega) W
        have c2 := fun W => cat_any (linesB (l.take k) ++ (s0 :: s)) [10] (by rw [List.length_append]; simp at hdl ⊢; omega) W
        rw [← HL2.out] at c2
        go_wp2_with (first | (go_at_call 91; with_reducible refine Calls.mono (CD.out wr) ?_; rintro e w5 ⟨rfl, b5⟩; have hd0 := (b5.cell (p := ⟨b, off + k * 2, none⟩) (by have := HB.out.size; show b < wr.heap.size; omega)).trans hc0; have hd1 := (b5.cell (p := ⟨b, off + k * 2 + 1, none⟩) (by have := HB.out.size; show b < wr.heap.size; omega)).trans hc1) | (go_at_call 91; with_reducible refine Calls.mono (CD.out w5) ?_; rintro e w6 ⟨rfl, b6⟩))
        have B6 := hid (HB.out.trans ((b5.trans (b6.mono b5.size)).mono HB.out.size))
        go_roundw
        case rel => exact ⟨k + 1, by omega, by go_num, rfl, HA2.out, B6⟩
        case measure => simp [intOf]; omega
    · obtain rfl : k = n := by omega
      have HT := hid (show l.take k = l from List.take_of_length_le (by rw [HL.out]; omega))
      have HV := hid (show journalOut l = linesB (l.take k) from by unfold journalOut; have h := HA.out; rw [HT.out] at h; rw [if_pos h, HT.out])
      go_wp2
      go_ret
      exact ⟨by rw [HV.out]; rfl, HB.out⟩
end Go.Proofs.YtkejcajboneniabGreatDoor
