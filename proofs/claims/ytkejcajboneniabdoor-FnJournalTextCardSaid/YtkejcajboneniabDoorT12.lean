/-
  Numbers as texts: the model's l1Number. No statement is proved here.
-/
import Derived.Test.YtkejcajboneniabDoorC1a
import Derived.Test.YtkejcajboneniabDoorEx0
import Derived.IntWalk
import Derived.Lib.MinMax
import Derived.Deep.RegionWith
import Derived.Sort.EncStr
import Derived.Laws.IdiomStrings
import Derived.Laws.DeepStrings4
import Derived.Laws.Concat
namespace Go.Proofs.YtkejcajboneniabDoor
open Go.RowKit
set_option linter.unusedVariables false
set_option linter.unusedSimpArgs false

/-- A digit, as a byte. -/
def digB (n : Nat) : UInt8 := UInt8.ofNat (48 + n)
/-- A number's digits, as bytes. -/
def numB (n : Nat) : List UInt8 := if h : n < 10 then [digB n] else numB (n / 10) ++ [digB (n % 10)]
termination_by n
decreasing_by omega
theorem numB_lt {n : Nat} (h : n < 10) : numB n = [digB n] := by rw [numB, dif_pos h]
theorem numB_ge {n : Nat} (h : ¬ n < 10) : numB n = numB (n / 10) ++ [digB (n % 10)] := by rw [numB, dif_neg h]
theorem digit_nat {n : Nat} (h : n < 10) : (digB n).toNat = 48 + n := by
  unfold digB
  rw [UInt8.toNat_ofNat']
  omega
theorem numB_len : ∀ n : Nat, (numB n).length ≤ n + 1 := by
  intro n
  induction n using Nat.strongRecOn with
  | _ n ih =>
    by_cases h : n < 10
    · rw [numB_lt h]; simp
    · rw [numB_ge h, List.length_append]
      have := ih (n / 10) (by omega)
      simp
      omega
/-- '+' of two texts. -/
theorem cat_any (a b : List UInt8) (h : a.length + b.length ≤ 4000000000000000000) (W : World) : (Op.stringOp .add ⟨a.toArray⟩ ⟨b.toArray⟩).run Tryd.prog W = .ok (.string ⟨(a ++ b).toArray⟩) W := by
  have h1 := run_string_add_sum (P := Tryd.prog) (w := W) ⟨a.toArray⟩ ⟨b.toArray⟩ (by show a.toArray.size + b.toArray.size ≤ _; simp; omega)
  rw [show (⟨(a ++ b).toArray⟩ : ByteArray) = ⟨a.toArray⟩ ++ ⟨b.toArray⟩ from ByteArray.ext (by simp)]
  exact h1
/-- A slice of one byte that has just been made, as a string. -/
theorem conv_cell (W : World) (g n : Nat) (h : n < 10) (hc : W.cell? ⟨g, 0, none⟩ = some (.int .u8 (48 + (n : Int)))) :
    (convert 22 9 (.slice (some ⟨g, 0, none⟩) 1 1)).run Tryd.prog W = .ok (.string ⟨#[digB n]⟩) W := by
  have := run_convert_bytes_back (P := Tryd.prog) W 22 9 5 ⟨g, 0, none⟩ 1 [digB n] Tryd.underlying22 Tryd.underlying5 Tryd.underlying9
    (fun j hj => by
      obtain rfl : j = 0 := by simpa using hj
      rw [show (⟨g, 0, none⟩ : Addr).add 0 = ⟨g, 0, none⟩ from rfl, hc]
      have e := digit_nat h
      simp only [List.getElem_cons_zero, e]
      simp)
  simpa using this
theorem conv_digit (W : World) (n : Nat) (h : n < 10) :
    (convert 22 9 (.slice (some ⟨W.heap.size, 0, none⟩) 1 1)).run Tryd.prog (W.alloc (.cells #[.int .u8 (48 + (n : Int))] 5)) = .ok (.string ⟨#[digB n]⟩) (W.alloc (.cells #[.int .u8 (48 + (n : Int))] 5)) :=
  conv_cell _ _ n h (cell_of_row _ _ 0 _ _ _ (heap_alloc_new W _))

set_option maxRecDepth 100000 in
set_option maxHeartbeats 1600000 in
theorem number_small (n : Nat) (w : World) (h : n < 10) :
    Calls Tryd.prog 38 #[.int .i64 n] w fun e w' => e = .returned (encStr (numB n)) ∧ Below w.heap.size w w' := by
  have h1 : (n : Int) < 10 := by omega
  have h2 : max (n : Int) 0 = (n : Int) := by omega
  have hcv := fun W => conv_digit W n h
  rw [numB_lt h]
  go_enter Tryd.func38, Tryd.ntmps38
  go_wp2
  go_ret
  exact ⟨rfl, (Below.refl _ _).alloc (Nat.le_refl _) _⟩

set_option maxRecDepth 100000 in
set_option maxHeartbeats 1600000 in
theorem number_any (n : Nat) (hn : n ≤ 1000000000) (w : World) :
    Calls Tryd.prog 38 #[.int .i64 n] w fun e w' => e = .returned (encStr (numB n)) ∧ Below w.heap.size w w' := by
  by_cases h : n < 10
  · exact number_small n w h
  · have IH := hid (fun W : World => number_any (n / 10) (by omega) W)
    rw [numB_ge h]
    have hcv := fun W => conv_digit W (n % 10) (Nat.mod_lt _ (by omega))
    obtain ⟨q, hq⟩ : ∃ q, n / 10 = q := ⟨_, rfl⟩
    obtain ⟨r, hr⟩ : ∃ r, n % 10 = r := ⟨_, rfl⟩
    have m1 : (n : Int).tdiv 10 = (q : Int) := by rw [Int.tdiv_eq_ediv_of_nonneg (by omega), ← hq]; omega
    have m2 : (n : Int).tmod 10 = (r : Int) := by rw [Int.tmod_eq_emod_of_nonneg (by omega), ← hr]; omega
    have w1 : IntKind.i64.wrap (q : Int) = (q : Int) := IntWalk.i64_in _ (by omega)
    have w2 : IntKind.i64.wrap (r : Int) = (r : Int) := IntWalk.i64_in _ (by omega)
    have w3 : IntKind.i64.wrap (48 + (r : Int)) = 48 + (r : Int) := IntWalk.i64_in _ (by omega)
    have w8 : IntKind.u8.wrap (48 + (r : Int)) = 48 + (r : Int) := IntWalk.u8_in _ (by omega)
    have h1 : decide ((n : Int) < 10) = false := by simp; omega
    have h1' : ¬ (n : Int) < 10 := by omega
    have hct := fun W => cat_any (numB q) [digB r] (by have := numB_len q; simp; omega) W
    rw [hq] at IH
    rw [hr] at hcv
    rw [hq, hr]
    go_enter Tryd.func38, Tryd.ntmps38
    go_wp2
    have hr10 : r < 10 := by omega
    have HC5 := hid (fun (W : World) (hb : Below (w.alloc (.cells #[.int .u8 (48 + (r : Int))] 5)).drew.heap.size (w.alloc (.cells #[.int .u8 (48 + (r : Int))] 5)).drew W) => conv_cell W w.heap.size r hr10 (by
      have h5 : (w.alloc (.cells #[.int .u8 (48 + (r : Int))] 5)).drew.cell? ⟨w.heap.size, 0, none⟩ = some (.int .u8 (48 + (r : Int))) := cell_of_row _ _ 0 _ _ _ (heap_alloc_new w (.cells #[.int .u8 (48 + (r : Int))] 5))
      exact (hb.cell (p := ⟨w.heap.size, 0, none⟩) (by show w.heap.size < (w.alloc _).heap.size; simp)).trans h5))
    have hcv2 := HC5.out _ (Below.refl _ _)
    go_region_with (first
      | (go_at_call 38; with_reducible refine Calls.mono (IH.out (w.alloc (.cells #[.int .u8 (48 + (r : Int))] 5)).drew) ?_; rintro e w5 ⟨rfl, b5⟩; have hc5 := HC5.out _ b5)
      | (go_at_call 38; with_reducible refine Calls.mono (IH.out w.drew) ?_; rintro e w5 ⟨rfl, b5⟩))
    all_goals
      go_wp2
      go_ret
      first
        | exact ⟨rfl, ((Below.refl _ _).drew.trans (b5.mono (Nat.le_refl _))).alloc b5.size _⟩
        | exact ⟨rfl, ((Below.refl _ _).alloc (Nat.le_refl _) _).drew.trans (b5.mono (by show w.heap.size ≤ (w.alloc _).heap.size; simp))⟩
termination_by n
decreasing_by omega
end Go.Proofs.YtkejcajboneniabDoor
