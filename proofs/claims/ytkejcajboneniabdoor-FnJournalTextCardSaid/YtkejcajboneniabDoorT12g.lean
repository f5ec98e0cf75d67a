/-
  The walk of the model's ReadJournal. No statement is proved here.
-/
import Derived.Test.YtkejcajboneniabDoorT12f
namespace Go.Proofs.YtkejcajboneniabDoor
open Go.RowKit
set_option linter.unusedVariables false
set_option linter.unusedSimpArgs false

/-- What ReadJournal has read of the first k bytes: the deeds, where it goes on, and whether it has stopped. -/
def jgo (s : List UInt8) : Nat → List (Int × Int) × Nat × Bool
  | 0 => ([], 0, false)
  | k + 1 =>
    if (jgo s k).2.2 = true then jgo s k
    else if bat s k = 10 then
      match readOut (sub s (jgo s k).2.1 k) with
      | none => ((jgo s k).1, (jgo s k).2.1, true)
      | some a => ((jgo s k).1 ++ [a], k + 1, false)
    else jgo s k
def jOut (s : List UInt8) : List (Int × Int) × Nat := ((jgo s s.length).1, (jgo s s.length).2.1)
theorem jgo_stop {s : List UInt8} {k : Nat} (h : (jgo s k).2.2 = true) : ∀ d, jgo s (k + d) = jgo s k
  | 0 => rfl
  | d + 1 => by
    have ih := jgo_stop h d
    rw [← Nat.add_assoc, jgo, ih, if_pos h]
theorem jgo_from (s : List UInt8) : ∀ k, (jgo s k).2.1 ≤ k
  | 0 => Nat.le_refl _
  | k + 1 => by
    have ih := jgo_from s k
    rw [jgo]
    split
    · omega
    split
    · split
      · show (jgo s k).2.1 ≤ k + 1; omega
      · exact Nat.le_refl _
    · omega
theorem jgo_len (s : List UInt8) : ∀ k, (jgo s k).1.length ≤ k
  | 0 => Nat.le_refl _
  | k + 1 => by
    have ih := jgo_len s k
    rw [jgo]
    split
    · omega
    split
    · split
      · show (jgo s k).1.length ≤ k + 1; omega
      · simp; omega
    · omega

theorem own_blk2 {w : World} {B n : Nat} {A : Option Addr} {c : Nat} {e : TypeId} {sz : Nat} {xs : List Value} (h : w.ownsRow B e sz (.slice A n c) n xs) :
    (Value.slice A n c).ownBlock = none ∨ ∃ k, (Value.slice A n c).ownBlock = some k ∧ B ≤ k := by
  rcases hb : (Value.slice A n c).ownBlock with _ | k
  · exact .inl rfl
  · exact .inr ⟨k, rfl, (h.lt k hb).1⟩

theorem own_on2 {w w' : World} {B n : Nat} {v : Value} {e : TypeId} {sz : Nat} {xs : List Value} (h : w.ownsRow B e sz v n xs) (hb : Below w.heap.size w w') : w'.ownsRow B e sz v n xs := by
  refine ⟨h.1, ?_⟩
  rcases h.2 with h2 | ⟨g, cap, cur, h1, h2, h3, h4⟩
  · exact .inl h2
  · refine .inr ⟨g, cap, cur, h1, h2, (hb.block g ?_).trans h3, h4⟩
    rcases Nat.lt_or_ge g w.heap.size with hlt | hge
    · exact hlt
    · rw [Array.getElem?_eq_none hge] at h3; cases h3
theorem ints_flat_snoc (l : List (Int × Int)) (a : Int × Int) : ints (flat l) ++ [.int .i64 a.1, .int .i64 a.2] = ints (flat (l ++ [a])) := by rw [flat_append]; simp [ints, flat]

set_option maxRecDepth 100000 in
set_option maxHeartbeats 1600000 in
theorem specReadJournal_any (s : List UInt8) (hn : s.length ≤ 10000000) (w : World) :
    Calls Tryd.prog 15 #[encStr s] w fun e w' => ∃ A m c, e = .returned (.tuple #[.slice A m c, .int .i64 (jOut s).2]) ∧ w'.ownsRow w.heap.size 42 2 (.slice A m c) m (ints (flat (jOut s).1)) ∧ Below w.heap.size w w' := by
  obtain ⟨i0, hi, hz0, hz1, hz2⟩ := info_parts info_deed
  have hsz : (⟨s.toArray⟩ : ByteArray).size = s.length := by show s.toArray.size = _; simp
  have ho0 : (w.alloc (.cells #[] 42)).ownsRow w.heap.size 42 2 (.slice (some ⟨w.heap.size, 0, none⟩) 0 0) 0 (ints (flat (jgo s 0).1)) := World.ownsRow_lit w #[] 0 (Nat.le_refl _) (by simp [maxLen]) rfl
  have hb0 : Below w.heap.size w (w.alloc (.cells #[] 42)) := (Below.refl _ _).alloc (Nat.le_refl _) _
  go_enter Tryd.func15, Tryd.ntmps15
  go_wp2
  go_loopw [4, 5, 6] (fun v f i wr => ∃ (A1 : Option Addr) (m c1 k : Nat), v = .slice A1 m c1 ∧ f = .int .i64 (jgo s k).2.1 ∧ i = .int .i64 k ∧ k ≤ s.length ∧ m ≤ k ∧ Hid ((jgo s k).2.2 = false) ∧ wr.ownsRow w.heap.size 42 2 (.slice A1 m c1) m (ints (flat (jgo s k).1)) ∧ Hid (Below w.heap.size w wr)) (fun _ _ i _ => s.length - (intOf i).toNat)
  case atStart => exact ⟨_, 0, _, 0, rfl, rfl, rfl, Nat.zero_le _, Nat.le_refl _, hid rfl, ho0, hid hb0⟩
  case round =>
    clear ho0 hb0
    obtain ⟨A1, m, c1, k, rfl, rfl, rfl, hk, hmk, HS, ho, HB⟩ := hrel
    have hf := jgo_from s k
    by_cases hlt : k < s.length
    · have hlti : (k : Int) < (s.length : Int) := by omega
      have hk0 : (0 : Int) ≤ (k : Int) := by omega
      have hxk : ∀ h : k < (⟨s.toArray⟩ : ByteArray).size, (⟨s.toArray⟩ : ByteArray)[k]'h = bat s k := fun _ => bat_lt hlt
      by_cases hp : bat s k = 10
      · have hq : (((bat s k).toNat : Int) == 10) = true := by rw [hp]; rfl
        obtain ⟨f, hf2⟩ : ∃ f, (jgo s k).2.1 = f := ⟨_, rfl⟩
        obtain ⟨l, hl⟩ : ∃ l, (jgo s k).1 = l := ⟨_, rfl⟩
        obtain ⟨t, ht⟩ : ∃ t, sub s f k = t := ⟨_, rfl⟩
        have hsub := sub_str s f k
        rw [ht] at hsub
        have HJ := hid (show jgo s (k + 1) = match readOut t with | none => (l, f, true) | some a => (l ++ [a], k + 1, false) from by rw [jgo, if_neg (by rw [HS.out]; decide), if_pos hp, hf2, hl, ht])
        rw [hf2] at hf ⊢
        rw [hl] at ho
        have hfi : (f : Int) ≤ (k : Int) := by omega
        have hf0 : (0 : Int) ≤ (f : Int) := by omega
        have hki : (k : Int) ≤ (s.length : Int) := by omega
        have CR := hid (specReadDeed_any t (by rw [← ht]; exact Nat.le_trans (sub_len _ _ _) hn) wr)
        have hv := own_blk2 ho
        clear hf2 hl ht
        cases hr : readOut t with
        | none =>
          rw [hr] at CR HJ
          have HJ2 := hid (show jOut s = (l, f) from by
            have h1 : (jgo s (k + 1)).2.2 = true := by rw [HJ.out]
            have h2 := jgo_stop h1 (s.length - (k + 1))
            rw [show k + 1 + (s.length - (k + 1)) = s.length by omega] at h2
            unfold jOut
            rw [h2, HJ.out])
          have CR2 : Hid (Calls Tryd.prog 30 #[encStr t] wr fun e w' => e = .returned (.tuple #[.agg #[.int .i64 0, .int .i64 0], .bool false]) ∧ Below wr.heap.size wr w') := CR
          clear CR
          have CR := CR2
          go_wp2_with (go_at_call 30; with_reducible refine Calls.mono CR.out ?_; rintro e w5 ⟨rfl, b5⟩)
          go_ret2
          exact ⟨A1, m, c1, by rw [HJ2.out]; rfl, by rw [HJ2.out]; exact (own_on2 ho b5).alloc _, (HB.out.trans (b5.mono HB.out.size)).alloc (Nat.le_trans HB.out.size b5.size) _⟩
        | some a =>
          rw [hr] at CR HJ
          have CR2 : Hid (Calls Tryd.prog 30 #[encStr t] wr fun e w' => e = .returned (.tuple #[.agg #[.int .i64 a.1, .int .i64 a.2], .bool true]) ∧ Below wr.heap.size wr w') := CR
          clear CR
          have CR := CR2
          go_wp2_with (first | (go_at_call 30; with_reducible refine Calls.mono CR.out ?_; rintro e w5 ⟨rfl, b5⟩; obtain ⟨W6, hW6⟩ : ∃ W6, (w5.alloc (.cells #[.int .i64 a.1, .int .i64 a.2] 42)) = W6 := ⟨_, rfl⟩; have hz6 : w5.heap.size ≤ W6.heap.size := (by rw [← hW6]; simp); have c60 : W6.cell? ⟨w5.heap.size, 0, none⟩ = some (.int .i64 a.1) := (by rw [← hW6]; simp); have c61 : W6.cell? ⟨w5.heap.size, 1, none⟩ = some (.int .i64 a.2) := (by rw [← hW6]; simp); have b6 : Below w.heap.size w W6 := (by rw [← hW6]; exact (HB.out.trans (b5.mono HB.out.size)).alloc (Nat.le_trans HB.out.size b5.size) _); have o6 : W6.ownsRow w.heap.size 42 2 (.slice A1 m c1) m (ints (flat l)) := (by rw [← hW6]; exact (own_on2 ho b5).alloc _)) | (at_builtin; refine wpList_append_own _ rfl _ _ 23 rfl w.heap.size 42 i0 (deedV (0, 0)) 2 16 Tryd.underlying23 hi hz0 hz1 hz2 rfl (by decide) (.slice A1 m c1) _ _ rfl (o6.alloc _) ⟨W6.heap.size, 0, none⟩ 1 1 [.int .i64 a.1, .int .i64 a.2] rfl rfl (cells_new _ [.int .i64 a.1, .int .i64 a.2] _) (by simp [Value.oneCell']) (by simp only [maxLen]; omega) (by omega) (by have := b6.size; simp; omega) ?_; intro v2 w2 o2 g2 _))
          obtain ⟨g, c2, rfl, hbg, hlt2⟩ := own_shape1 o2 (by omega)
          have B2 := hid (grew b6 (Nat.le_refl _) hv g2)
          have O2 := hid (show w2.ownsRow w.heap.size 42 2 (.slice (some ⟨g, 0, none⟩) (m + 1) c2) (m + 1) (ints (flat (l ++ [a]))) from by rw [← ints_flat_snoc]; exact o2)
          go_roundw
          case rel => exact ⟨_, m + 1, c2, k + 1, rfl, by rw [HJ.out]; go_num, by go_num, by omega, by omega, hid (by rw [HJ.out]), by rw [HJ.out]; exact O2.out, B2⟩
          case measure => simp [intOf]; omega
      · have hq : (((bat s k).toNat : Int) == 10) = false := by
          have : (bat s k).toNat ≠ 10 := fun h => hp (UInt8.toNat_inj.1 h)
          simp; omega
        have HJ := hid (show jgo s (k + 1) = jgo s k from by rw [jgo, if_neg (by rw [HS.out]; decide), if_neg hp])
        have HO := hid ho
        go_wp2
        go_roundw
        case rel => exact ⟨A1, m, c1, k + 1, rfl, by rw [HJ.out], by go_num, by omega, by omega, by rw [HJ.out]; exact HS, by rw [HJ.out]; exact HO.out, HB⟩
        case measure => simp [intOf]; omega
    · obtain rfl : k = s.length := by omega
      have HO := hid ho
      clear ho
      go_wp2
      go_ret2
      exact ⟨A1, m, c1, rfl, HO.out, HB.out⟩
end Go.Proofs.YtkejcajboneniabDoor
