/-
  The walk of the model's RowText. No statement is proved here.
-/
import Derived.Test.YtkejcajboneniaaDoorT12
import Derived.Test.YtkejcajboneniaaDoorC10
namespace Go.Proofs.YtkejcajboneniaaDoor
open Go.RowKit
set_option linter.unusedVariables false
set_option linter.unusedSimpArgs false

/-- A ring's digits. -/
def rowB (l : List Int) : List UInt8 := l.map fun x => digB x.toNat
def rowTextOut (l : List Int) : List UInt8 := if bitsOk l = true then rowB l else []
theorem rowB_len (l : List Int) : (rowB l).length = l.length := by simp [rowB]
theorem rowB_take {l : List Int} {k : Nat} (h : k < l.length) : rowB (l.take (k + 1)) = rowB (l.take k) ++ [digB (nth l k).toNat] := by rw [take_nth h]; simp [rowB]

set_option maxRecDepth 100000 in
set_option maxHeartbeats 1600000 in
theorem specRowText_any (A : Option Addr) (n c : Nat) (l : List Int) (w : World) (hs : Sl w w.heap.size A n l) :
    Calls Tryd.prog 11 #[.slice A n c] w fun e w' => e = .returned (encStr (rowTextOut l)) ∧ Below w.heap.size w w' := by
  have HL := hid hs.len
  have hm := hs.max
  have CK := hid (fun (W : World) (hW : Below w.heap.size w W) => specBitsOk_any A n c l W _ (hs.below hW))
  cases hok : bitsOk l with
  | false =>
    have HV := hid (show rowTextOut l = [] from by unfold rowTextOut; rw [hok]; rfl)
    rw [hok] at CK
    clear hok
    by_cases hn0 : 0 < n
    · have d1 : (0 : Int) < (n : Int) := by omega
      go_enter Tryd.func11, Tryd.ntmps11
      go_wp2
      go_loop [3, 4] (fun v i => v = .string ⟨#[]⟩ ∧ i = .int .i64 0) (fun _ _ => 0)
      case atStart => exact ⟨rfl, rfl⟩
      case round =>
        obtain ⟨rfl, rfl⟩ := hrel
        go_wp2_with (go_at_call 28; with_reducible refine Calls.mono (CK.out _ (Below.refl _ _)) ?_; rintro e w' ⟨rfl, rfl⟩)
        go_ret
        exact ⟨by rw [HV.out]; rfl, Below.refl _ _⟩
    · obtain rfl : n = 0 := by omega
      go_enter Tryd.func11, Tryd.ntmps11
      go_wp2
      go_loop [3, 4] (fun v i => v = .string ⟨#[]⟩ ∧ i = .int .i64 0) (fun _ _ => 0)
      case atStart => exact ⟨rfl, rfl⟩
      case round =>
        obtain ⟨rfl, rfl⟩ := hrel
        go_wp2
        go_ret
        exact ⟨by rw [HV.out]; rfl, Below.refl _ _⟩
  | true =>
    obtain ⟨hb, h1, h2⟩ := bitsOk_iff.1 hok
    have HV := hid (show rowTextOut l = rowB l from by unfold rowTextOut; rw [if_pos hok])
    have HX := hid (fun k => bit_nth hb k)
    rw [HL.out] at h1 h2
    rw [hok] at CK
    obtain ⟨b, off, rfl, hbS, hc⟩ := hs.2.2 (by omega)
    have HC := hid hc
    clear hok hb hc hs
    go_enter Tryd.func11, Tryd.ntmps11
    go_wp2
    go_loopw [3, 4] (fun v i wr => ∃ k : Nat, v = .string ⟨(rowB (l.take k)).toArray⟩ ∧ i = .int .i64 k ∧ k ≤ n ∧ Hid (Below w.heap.size w wr)) (fun _ i _ => n - (intOf i).toNat)
    case atStart => exact ⟨0, rfl, rfl, Nat.zero_le _, hid (Below.refl _ _)⟩
    case round =>
      obtain ⟨k, rfl, rfl, hk, HB⟩ := hrel
      by_cases hlt : k < n
      · have x0 := (HB.out.cell (p := ⟨b, off + k, none⟩) hbS).trans (HC.out k hlt)
        have b0 := HX.out k
        have HT := hid (rowB_take (l := l) (k := k) (by rw [HL.out]; exact hlt))
        obtain ⟨x, hx⟩ : ∃ x, nth l k = x := ⟨_, rfl⟩
        rw [hx] at x0 b0 HT
        obtain ⟨q, rfl⟩ : ∃ q : Nat, x = q := Int.eq_ofNat_of_zero_le (by omega)
        rw [Int.toNat_natCast] at HT
        have hlti : (k : Int) < (n : Int) := by omega
        have hct := fun W => cat_any (rowB (l.take k)) [digB q] (by rw [rowB_len, List.length_take]; simp; omega) W
        rw [← HT.out] at hct
        have CN := hid (number_any q (by omega) wr)
        rw [numB_lt (show q < 10 by omega)] at CN
        clear hx
        go_wp2_with (first | (go_at_call 28; with_reducible refine Calls.mono (CK.out _ HB.out) ?_; rintro e w' ⟨rfl, rfl⟩) | (go_at_call 29; with_reducible refine Calls.mono CN.out ?_; rintro e w5 ⟨rfl, b5⟩))
        have B5 := hid (HB.out.trans (b5.mono HB.out.size))
        go_roundw
        case rel => exact ⟨k + 1, rfl, by go_num, by omega, B5⟩
        case measure => simp [intOf]; omega
      · obtain rfl : k = n := by omega
        have HT := hid (show l.take k = l from List.take_of_length_le (by rw [HL.out]; omega))
        go_wp2
        go_ret
        exact ⟨by rw [HV.out, HT.out]; rfl, HB.out⟩
end Go.Proofs.YtkejcajboneniaaDoor
