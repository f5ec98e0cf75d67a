/-
  Walks of the program's votes as a number of bits: votesOf, row, opposed. No statement is proved here.
-/
import Derived.Test.YtkejcajboneniaaDoorC7g
import Derived.BigRegion
import Derived.Deep.RegionWith
namespace Go.Proofs.YtkejcajboneniaaDoor
open Go.RowKit
set_option linter.unusedVariables false
set_option linter.unusedSimpArgs false

theorem pk_step {l : List Int} (hb : bitsL l) {k : Nat} (h40 : k < 40) : bits .or .u64 ((pk l k : Nat) : Int) (IntKind.u64.wrap (IntKind.u64.wrap (nth l k) * 2 ^ k)) = ((pk l (k + 1) : Nat) : Int) := by
  have hp := pow40 (show k ≤ 40 by omega)
  have hl := pk_lt l k
  rw [pk]
  rcases bits_nth hb k with e | e
  · rw [e, if_neg (by decide), Nat.or_zero, show IntKind.u64.wrap 0 = 0 from rfl, Int.zero_mul, show IntKind.u64.wrap 0 = ((0 : Nat) : Int) from rfl, bits_or_u64_nat _ _ (by omega) (by omega), Nat.or_zero]
  · rw [e, if_pos rfl, show IntKind.u64.wrap 1 = 1 from rfl, Int.one_mul, u64_pow (by omega), bits_or_u64_nat _ _ (by omega) (by omega)]

set_option maxRecDepth 100000 in
set_option maxHeartbeats 3200000 in
theorem votesOf_any (A : Option Addr) (n c : Nat) (l : List Int) (w : World) (hs : Sl w w.heap.size A n l) (hn : n ≤ 40) (hb : bitsL l) :
    Calls Tryd.prog 47 #[.slice A n c] w fun e w' => e = .returned (vot (pk l n) n) ∧ Below w.heap.size w w' := by
  have HL := hid hs.len
  have hz : (w.alloc (.cells #[.int .u64 0, .int .i64 0] 54)).heap.size = w.heap.size + 1 := by simp
  have X0 : Vb ((w.alloc (.cells #[.int .u64 0, .int .i64 0] 54)).alloc (.cells #[.int .u64 0, .int .i64 n] 54)) w.heap.size 0 0 := (show Vb (w.alloc (.cells #[.int .u64 0, .int .i64 0] 54)) w.heap.size 0 0 from Vb.new w 0 0).on (row := none) (grown_alloc _ _ none) (by simp)
  have X1 : Vb ((w.alloc (.cells #[.int .u64 0, .int .i64 0] 54)).alloc (.cells #[.int .u64 0, .int .i64 n] 54)) (w.heap.size + 1) (pk l 0) n := by rw [← hz]; exact Vb.new _ 0 n
  have B0 := ((Below.refl w.heap.size w).alloc (Nat.le_refl _) (.cells #[.int .u64 0, .int .i64 0] 54)).alloc (by simp) (.cells #[.int .u64 0, .int .i64 n] 54)
  have HX0 := hid X0
  have HX1 := hid X1
  have HB0 := hid B0
  have HS := hid hs
  have HP := hid (fun (k : Nat) (h : k < 40) => pk_step hb h)
  clear X0 X1 B0 hz hs hb
  go_enter Tryd.func47, Tryd.ntmps47
  go_wp2_with fail
  obtain ⟨w0, e0⟩ : ∃ W, (w.alloc (.cells #[.int .u64 0, .int .i64 0] 54)).alloc (.cells #[.int .u64 0, .int .i64 n] 54) = W := ⟨_, rfl⟩
  rw [e0] at HX0 HX1 HB0 ⊢
  clear e0
  go_loopw [11] (fun i wr => ∃ k : Nat, i = .int .i64 k ∧ k ≤ n ∧ Hid (Vb wr w.heap.size 0 0) ∧ Hid (Vb wr (w.heap.size + 1) (pk l k) n) ∧ Hid (Below w.heap.size w wr)) (fun i _ => n - (intOf i).toNat)
  case atStart => exact ⟨0, rfl, Nat.zero_le _, HX0, HX1, HB0⟩
  case round =>
    clear HX0 HX1 HB0
    obtain ⟨k, rfl, hk, HX0, HX1, HB0⟩ := hrel
    by_cases hlt : k < n
    · obtain ⟨b, off, rfl, hbl, hc⟩ := (HS.out.below HB0.out).2.2 (by omega)
      have hx := hc k hlt
      have HE := hid (HP.out k (by omega))
      obtain ⟨x, hxe⟩ : ∃ x, nth l k = x := ⟨_, rfl⟩
      rw [hxe] at hx HE
      clear hxe hc
      have d0 := HX1.out.c0
      have d1 := HX1.out.c1
      have g0 := HX1.out.fz 0
      have hlt' : (k : Int) < (n : Int) := by omega
      obtain ⟨y, hy⟩ : ∃ y, pk l k = y := ⟨_, rfl⟩
      rw [hy] at HE HX1 d0
      clear hy
      go_wp2_with fail
      go_region
      rw [HE.out]
      have QX : Hid (Vb (wr.setCell ⟨w.heap.size + 1, 0, none⟩ (.int .u64 (pk l (k + 1) : Nat))).drew (w.heap.size + 1) (pk l (k + 1)) n) := hid (HX1.out.set0 _)
      have QB := hid ((HB0.out.setCell (p := ⟨w.heap.size + 1, 0, none⟩) (by simp) (.int .u64 (pk l (k + 1) : Nat))).drew)
      have Q0 : Hid (Vb (wr.setCell ⟨w.heap.size + 1, 0, none⟩ (.int .u64 (pk l (k + 1) : Nat))).drew w.heap.size 0 0) := hid ((heap_setCell_other _ _ _ _ (by simp)).trans HX0.out)
      clear HX0 HX1 HB0 d0 d1 g0 hx HE
      go_wp2
      go_roundw
      case rel => exact ⟨k + 1, by go_num, by omega, Q0, QX, QB⟩
      case measure => simp [intOf]; omega
    · obtain rfl : k = n := by omega
      have d0 := HX1.out.c0
      have d1 := HX1.out.c1
      have k0 := HX0.out.c0
      have k1 := HX0.out.c1
      have g0 := HX0.out.fz 0
      have g1 := HX0.out.fz 1
      have QB := hid ((HB0.out.setCell (p := ⟨w.heap.size, 0, none⟩) (Nat.le_refl _) (.int .u64 (pk l k : Nat))).setCell (p := ⟨w.heap.size, 1, none⟩) (Nat.le_refl _) (.int .i64 k))
      go_wp2
      (try simp only [Exit.inBlock, Exit.then])
      refine bodyPost_ret (results_cell_row rfl _ _ w.heap.size 54 _ (0, 0) _ (by simp [Act.put]) (HX0.out.set (pk l k) k) Tryd.underlying54 rfl size_vot) rfl ?_
      exact ⟨rfl, QB.out⟩

theorem row_at {l : List Int} {n k : Nat} (hb : bitsL l) (h40 : n ≤ 40) (hk : k < n) : bits .and .u64 (((pk l n : Nat) : Int) / 2 ^ k) 1 = nth l k := by
  have hp := pow40 h40
  have hl := pk_lt l n
  have hd : pk l n / 2 ^ k ≤ pk l n := Nat.div_le_self _ _
  rw [← pk_at hb hk, show (((pk l n : Nat) : Int) / 2 ^ k) = ((pk l n / 2 ^ k : Nat) : Int) from by simp, show (1 : Int) = ((1 : Nat) : Int) from rfl, bits_and_u64_nat _ _ (by omega) (by omega)]
/-- The list in the midst of being filled. -/
def midL (l : List Int) (n k : Nat) : List Int := l.take k ++ List.replicate (n - k) 0
theorem midL_set {l : List Int} {n k : Nat} (hl : l.length = n) (hk : k < n) : (midL l n k).set k (nth l k) = midL l n (k + 1) := by
  have e : n - k = (n - (k + 1)) + 1 := by omega
  unfold midL
  rw [e, List.replicate_succ, List.set_append_right _ _ (by rw [List.length_take]; omega), take_nth (by omega), List.length_take, show k - min k l.length = 0 from by have := Nat.min_le_left k l.length; rw [Nat.min_eq_left (by omega)]; omega, List.set_cons_zero, List.append_assoc]
  rfl
theorem midL_zero (l : List Int) (n : Nat) : midL l n 0 = List.replicate n 0 := by simp [midL]
theorem midL_all {l : List Int} {n : Nat} (hl : l.length = n) : midL l n n = l := by unfold midL; rw [List.take_of_length_le (by omega)]; simp

end Go.Proofs.YtkejcajboneniaaDoor
