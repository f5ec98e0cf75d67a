/-
  Walks of the program's set of places: with, ascending, and what they call of math/bits. No statement is proved here.
-/
import Derived.Test.YtfmlekcdjjkolaaDoorS4w
import Derived.Test.YtfmlekcdjjkolaaDoorTab
import Derived.Test.YtfmlekcdjjkolaaDoorEx0
import Derived.Shelf.Spec.TrailingZeros
import Derived.Laws.Bits64b
import Derived.OwnWalk
namespace Go.Proofs.YtfmlekcdjjkolaaDoor
open Go.RowKit
set_option linter.unusedVariables false
set_option linter.unusedSimpArgs false

theorem and127 (a : Int) : ∃ c : Nat, c ≤ 127 ∧ bits .and .i64 a 127 = (c : Int) := by
  have h1 : (BitVec.ofInt 64 (127 : Int)).toNat = 127 := by decide
  have hb : (BitVec.ofInt 64 a).toNat &&& 127 ≤ 127 := Nat.and_le_right
  refine ⟨(BitVec.ofInt 64 a).toNat &&& 127, hb, ?_⟩
  show IntKind.i64.wrap ((BitVec.ofInt 64 a &&& BitVec.ofInt 64 (127 : Int)).toNat : Int) = _
  rw [BitVec.toNat_and, h1]
  exact IntWalk.i64_in _ (by omega)

theorem ones_any (x : Int) (w : World) :
    Calls Tryd.prog 42 #[.int .u64 x] w fun e w' => (∃ c : Nat, c ≤ 127 ∧ e = .returned (.int .i64 c)) ∧ w = w' := by
  go_enter Tryd.func42, Tryd.ntmps42
  go_wp2
  go_ret
  refine ⟨?_, rfl⟩
  obtain ⟨c, hc, he⟩ := and127 _
  exact ⟨c, hc, by rw [← he]; rfl⟩

theorem tz_any (x : Nat) (w : World) (hx0 : x ≠ 0) (hx : x < 2 ^ 40) (hT : TabsZ w) :
    Calls Tryd.prog 43 #[.int .u64 x] w fun e w' => e = .returned (.int .i64 (Lib.ctz 64 x : Nat)) ∧ w = w' := by
  obtain ⟨hlow, hk⟩ := Lib.lowest_bit 64 x hx0 (by omega)
  obtain ⟨hi, htab⟩ := Lib.deBruijn64_at _ hk
  have key := tz64_key x _ (by omega) hx0 hlow
  have hcell := hT.z _ hi
  rw [htab] at hcell
  have hx0' : ((x : Int) == 0) = false := by simp; exact hx0
  obtain ⟨idx, hidx⟩ : ∃ idx, 2 ^ Lib.ctz 64 x * 285870213051353865 % 18446744073709551616 / 288230376151711744 = idx := ⟨_, rfl⟩
  rw [hidx] at hi hcell key
  obtain ⟨k, hkk⟩ : ∃ k, Lib.ctz 64 x = k := ⟨_, rfl⟩
  rw [hkk] at hk hcell ⊢
  clear hlow htab hidx hkk
  go_enter Tryd.func43, Tryd.ntmps43
  go_wp2_with (simp only [key])
  go_ret
  exact ⟨rfl, rfl⟩
theorem left_key (x : Nat) (hx0 : x ≠ 0) (hx : x < 2 ^ 40) : bits .and .u64 (x : Int) ((x : Int) - 1) = ((x &&& (x - 1) : Nat) : Int) := by
  have e : ((x : Int) - 1) = ((x - 1 : Nat) : Int) := by omega
  rw [e]
  exact bits_and_u64_nat x (x - 1) (by omega) (by omega)
theorem left_lt (x : Nat) (hx0 : x ≠ 0) : x &&& (x - 1) < x := by
  have : x &&& (x - 1) ≤ x - 1 := Nat.and_le_right
  omega

set_option maxHeartbeats 1600000 in
theorem ascending_any (t : Nat) (L : List Int) (w : World) (ht : t < 2 ^ 40) (hL : ascO 41 t = some L) (hlen : L.length ≤ 40) (hT : TabsZ w) :
    Calls Tryd.prog 30 #[.int .u64 t] w fun e w' => ∃ A m c, e = .returned (.slice A m c) ∧ w'.ownsRow w.heap.size 3 1 (.slice A m c) m (ints L) ∧ m ≤ 40 ∧ Below w.heap.size w w' := by
  obtain ⟨i0, hi, hz0, hz1, hz2⟩ := info_parts info_int
  have HT := hid hT; clear hT
  have HL := hid (show ∃ f r, ascO f t = some r ∧ ([] : List Int) ++ r = L from ⟨41, L, hL, rfl⟩)
  clear hL
  go_enter Tryd.func30, Tryd.ntmps30
  go_wp2_with (first | (go_at_call 42; refine (ones_any _ _).mono ?_; rintro e w' ⟨⟨c, hc, rfl⟩, rfl⟩) | (refine wpList_make_own _ rfl (.const (.int .i64 0)) (.tmp 6) 23 rfl w.heap.size 3 i0 _ 1 Tryd.underlying23 hi hz0 hz1 .i64 .i64 c c rfl rfl rfl (by rw [hz2]; omega) (by simp only [maxLen]; omega) (by simp) ?_; intro w1 o1 g1))
  have b1 := hid (below_grown g1)
  clear g1
  go_loopw [3, 4] (fun v y wr => ∃ (A : Option Addr) (i c x : Nat) (pre : List Int), v = .slice A i c ∧ y = .int .u64 x ∧ x < 2 ^ 40 ∧ Hid (∃ f r, ascO f x = some r ∧ pre ++ r = L) ∧ wr.ownsRow w.heap.size 3 1 (.slice A i c) i (ints pre) ∧ Hid (Below w.heap.size w wr)) (fun _ y _ => (intOf y).toNat)
  case atStart => exact ⟨_, 0, _, t, [], rfl, rfl, ht, HL, o1, b1⟩
  case round =>
    clear o1 b1 HL ht
    obtain ⟨A, i, c, x, pre, rfl, rfl, hx, HL, hown, BB⟩ := hrel
    have hbw := BB.out.size
    by_cases hx0 : x = 0
    · subst hx0
      have hl : pre = L := by
        obtain ⟨f, r, h1, h2⟩ := HL.out
        rw [ascO_zero h1, List.append_nil] at h2
        exact h2
      subst hl
      have hi40 : i ≤ 40 := by have := hown.1; simp at this; omega
      have HN := hid hown
      clear hown
      go_wp2
      go_ret
      exact ⟨_, _, _, rfl, HN.out, hi40, BB.out⟩
    · have hi40 : i + 1 ≤ 40 := by
        obtain ⟨f, r, h1, h2⟩ := HL.out
        obtain ⟨f', r', h3, h4⟩ := ascO_step h1 hx0
        rw [h3] at h2
        have h5 := hown.1
        rw [← h2] at hlen
        simp at hlen h5
        omega
      have HS := hid (show ∃ f r, ascO f (x &&& (x - 1)) = some r ∧ (pre ++ [((Lib.ctz 64 x : Nat) : Int)]) ++ r = L from by
        obtain ⟨f, r, h1, h2⟩ := HL.out
        obtain ⟨f', r', h3, h4⟩ := ascO_step h1 hx0
        exact ⟨f', r', h4, by rw [← h2, h3]; simp⟩)
      have HZ := hid (tz_any x wr hx0 hx (HT.out.below BB.out))
      have HK := hid (left_key x hx0 hx)
      have hlt := left_lt x hx0
      have hx0i : ((x : Int) != 0) = true := by simp; exact hx0
      obtain ⟨q, hq⟩ : ∃ q : Nat, Lib.ctz 64 x = q := ⟨_, rfl⟩
      obtain ⟨y, hy⟩ : ∃ y : Nat, x &&& (x - 1) = y := ⟨_, rfl⟩
      rw [hq] at HZ HS
      rw [hy] at HS HK hlt
      clear hq hy HL
      go_wp2_with (first | (go_at_call 43; refine HZ.out.mono ?_; rintro e w' ⟨rfl, rfl⟩) | (at_builtin; refine wpList_append_own _ rfl (.tmp 15) (.tmp 18) 23 rfl w.heap.size 3 i0 (.int .i64 0) 1 8 Tryd.underlying23 hi hz0 hz1 hz2 rfl (by decide) (.slice A i c) _ _ rfl (hown.alloc _) ⟨wr.heap.size, 0, none⟩ 1 1 [.int .i64 q] rfl rfl (cell_one_new _ _ _) (by simp [Value.oneCell']) (by simp only [maxLen]; omega) (by omega) (by simp; omega) ?_; intro v2 w4 hown4 hgrow4 _))
      obtain ⟨g2, c2, rfl, _, _⟩ := own_shape hown4
      have ga := grown_alloc wr (.cells #[.int .i64 q] 3) none
      have BB4 := hid ((BB.out.trans ((below_grown ga).mono hbw)).grown hgrow4 (by simp; omega) (own_lo hown))
      have HN := hid hown4
      clear hown4 hgrow4 hown ga BB
      go_wp2
      rw [HK.out]
      go_roundw
      case rel => exact ⟨_, i + 1, c2, y, pre ++ [(q : Int)], rfl, rfl, by omega, HS, by rw [show ints (pre ++ [(q : Int)]) = ints pre ++ [.int .i64 q] from by simp [ints]]; exact HN.out, BB4⟩
      case measure => simp [intOf]; omega
end Go.Proofs.YtfmlekcdjjkolaaDoor
