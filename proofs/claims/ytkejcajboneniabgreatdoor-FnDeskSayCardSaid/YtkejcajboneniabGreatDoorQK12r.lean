/-
  Texts put together: K12r. No statement is proved here.
-/
import Derived.Test.YtkejcajboneniabGreatDoorQMg
set_option linter.unusedVariables false
set_option linter.unusedSimpArgs false
namespace Go.Proofs.YtkejcajboneniabGreatDoor
open Go.RowKit

set_option maxRecDepth 100000 in
set_option maxHeartbeats 1600000 in
theorem row_any (A : Option Addr) (n c : Nat) (l : List Int) (w : World) (hs : Sl w w.heap.size A n l) (hb : ∀ x ∈ l, 0 ≤ x ∧ x ≤ 1000) (hn : n ≤ 1000) :
    Calls Tryz.prog 71 #[.slice A n c] w fun e w' => e = .returned (encStr (rowsOut l)) ∧ Below w.heap.size w w' := by
  have hl := hs.len
  have HNB := hid (show ∀ k, 0 ≤ nth l k ∧ nth l k ≤ 1000 from fun k => by
    rcases Nat.lt_or_ge k l.length with h | h
    · have := hb l[k] (List.getElem_mem h)
      rw [show nth l k = l[k] by simp [nth, List.getD, h]]
      exact this
    · rw [show nth l k = 0 by simp [nth, List.getD, h]]; omega)
  have HLEN := hid (listB_len (l := l) (fun k => by have := HNB.out k; omega))
  have HL := hid hl
  by_cases h0 : n = 0
  · subst h0
    have HV := hid (show rowsOut l = wNone by unfold rowsOut; rw [if_pos hl])
    clear hl
    go_enter Tryz.func71, Tryz.ntmps71
    go_wp2
    go_loop [3, 4] (fun v i => v = .string ⟨#[]⟩ ∧ i = .int .i64 0) (fun _ _ => 0)
    case atStart => exact ⟨rfl, rfl⟩
    case round =>
      obtain ⟨rfl, rfl⟩ := hrel
      go_wp2
      go_ret
      exact ⟨by rw [HV.out]; rfl, Below.refl _ _⟩
  · have hpos : 0 < n := by omega
    have hpi : (0 : Int) < (n : Int) := by omega
    have hne : ((n : Int) == 0) = false := by simp; omega
    have hnei : ¬ (n : Int) = 0 := by omega
    have HV := hid (show rowsOut l = listB l n by unfold rowsOut; rw [if_neg (by omega), hl])
    obtain ⟨b, off, rfl, hbS, hc⟩ := hs.2.2 hpos
    have HC := hid hc
    clear hc hs hl hb
    go_enter Tryz.func71, Tryz.ntmps71
    go_wp2
    go_loopw [3, 4] (fun v i wr => ∃ k : Nat, v = .string ⟨(listB l k).toArray⟩ ∧ i = .int .i64 k ∧ k ≤ n ∧ Hid (Below w.heap.size w wr)) (fun _ i _ => n - (intOf i).toNat)
    case atStart => exact ⟨0, rfl, rfl, Nat.zero_le _, hid (Below.refl _ _)⟩
    case round =>
      obtain ⟨k, rfl, rfl, hk, HB⟩ := hrel
      by_cases hlt : k < n
      · have x0 := (HB.out.cell (p := ⟨b, off + k, none⟩) hbS).trans (HC.out k hlt)
        have hx := HNB.out k
        have hll := HLEN.out k
        have HT := hid (show listB l (k + 1) = (if k = 0 then listB l k else listB l k ++ [44]) ++ numB (nth l k).toNat from rfl)
        obtain ⟨x, hxe⟩ : ∃ x, nth l k = x := ⟨_, rfl⟩
        rw [hxe] at x0 hx HT
        obtain ⟨q, rfl⟩ : ∃ q : Nat, x = q := Int.eq_ofNat_of_zero_le hx.1
        rw [Int.toNat_natCast] at HT
        have hq : q ≤ 1000 := by omega
        have hql := numB_len q
        have hlti : (k : Int) < (n : Int) := by omega
        have hki : (0 : Int) ≤ (k : Int) := by omega
        have CN := hid (number_any q (by omega) wr)
        obtain ⟨S, hS⟩ : ∃ S, listB l k = S := ⟨_, rfl⟩
        obtain ⟨T, hT⟩ : ∃ T, numB q = T := ⟨_, rfl⟩
        rw [hS] at HT hll ⊢
        rw [hT] at HT CN hql
        clear hxe hx hS hT
        by_cases hk0 : k = 0
        · rw [if_pos hk0] at HT
          have HK0 := hid hk0
          have hkn : ¬ (0 : Int) < (k : Int) := by omega
          have hkd : decide ((0 : Int) < (k : Int)) = false := by simp; omega
          clear hk0
          have hct := fun W => cat_any S T (by omega) W
          go_wp2_with (go_at_call 65; with_reducible refine Calls.mono CN.out ?_; rintro e w5 ⟨rfl, b5⟩)
          have B5 := hid (HB.out.trans (b5.mono HB.out.size))
          go_roundw
          case rel => exact ⟨k + 1, by rw [HT.out], by go_num, by omega, B5⟩
          case measure => simp [intOf]; omega
        · rw [if_neg hk0] at HT
          have hkp : (0 : Int) < (k : Int) := by omega
          have hkd : decide ((0 : Int) < (k : Int)) = true := by simp; omega
          have hc1 := fun W => cat_any S [44] (by simp; omega) W
          have hct := fun W => cat_any (S ++ [44]) T (by simp; omega) W
          go_wp2_with (go_at_call 65; with_reducible refine Calls.mono CN.out ?_; rintro e w5 ⟨rfl, b5⟩)
          have B5 := hid (HB.out.trans (b5.mono HB.out.size))
          go_roundw
          case rel => exact ⟨k + 1, by rw [HT.out]; simp, by go_num, by omega, B5⟩
          case measure => simp [intOf]; omega
      · obtain rfl : k = n := by omega
        go_wp2
        go_ret
        exact ⟨by rw [HV.out]; rfl, HB.out⟩
end Go.Proofs.YtkejcajboneniabGreatDoor
