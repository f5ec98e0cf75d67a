/-
  Walks of the program's votes as a number of bits: votesOf, row, opposed. No statement is proved here.
-/
import Derived.Test.YtmjcefidhigppaaC7g
import Derived.BigRegion
import Derived.Deep.RegionWith
namespace Go.Proofs.Ytmjcefidhigppaa
open Go.RowKit
set_option linter.unusedVariables false
set_option linter.unusedSimpArgs false

theorem pk_step {l : List Int} (hb : bitsL l) {k : Nat} (h40 : k < 40) : bits .or .u64 ((pk l k : Nat) : Int) (IntKind.u64.wrap (IntKind.u64.wrap (nth l k) * 2 ^ k)) = ((pk l (k + 1) : Nat) : Int) := by
  have hp := pow40 (show k ≤ 40 by omega)
  have hl := pk_lt l k
  rw [pk]
  rcases bits_nth hb k with e | e
  · rw [e, if_neg (by decide), Nat.or_zero, show IntKind.u64.wrap 0 = 0 from rfl, Int.zero_mul, show IntKind.u64.wrap 0 = ((0 : Nat) : Int) from rfl, bits_or_u64_nat _ _ (by omega) (by omega), Nat.or_zero]
  · rw [e, if_pos rfl, show IntKind.u64.wrap 1 = 1 from rfl, Int.one_mul, u64_pow (by omega), bits_or_u64_nat _ _ (by omega) (by omega)]

set_option maxRecDepth 100000 in
set_option maxHeartbeats 3200000 in
theorem votesOf_any (A : Option Addr) (n c : Nat) (l : List Int) (w : World) (hs : Sl w w.heap.size A n l) (hn : n ≤ 40) (hb : bitsL l) :
    Calls Try.prog 60 #[.slice A n c] w fun e w' => e = .returned (vot (pk l n) n) ∧ Below w.heap.size w w' := by
  have HL := hid hs.len
  have hz : (w.alloc (.cells #[.int .u64 0, .int .i64 0] 43)).heap.size = w.heap.size + 1 := by simp
  have X0 : Vb ((w.alloc (.cells #[.int .u64 0, .int .i64 0] 43)).alloc (.cells #[.int .u64 0, .int .i64 n] 43)) w.heap.size 0 0 := (show Vb (w.alloc (.cells #[.int .u64 0, .int .i64 0] 43)) w.heap.size 0 0 from Vb.new w 0 0).on (row := none) (grown_alloc _ _ none) (by simp)
  have X1 : Vb ((w.alloc (.cells #[.int .u64 0, .int .i64 0] 43)).alloc (.cells #[.int .u64 0, .int .i64 n] 43)) (w.heap.size + 1) (pk l 0) n := by rw [← hz]; exact Vb.new _ 0 n
  have B0 := ((Below.refl w.heap.size w).alloc (Nat.le_refl _) (.cells #[.int .u64 0, .int .i64 0] 43)).alloc (by simp) (.cells #[.int .u64 0, .int .i64 n] 43)
  have HX0 := hid X0
  have HX1 := hid X1
  have HB0 := hid B0
  have HS := hid hs
  have HP := hid (fun (k : Nat) (h : k < 40) => pk_step hb h)
  clear X0 X1 B0 hz hs hb
  go_enter Try.func60, Try.ntmps60
  go_wp2_with fail
  obtain ⟨w0, e0⟩ : ∃ W, (w.alloc (.cells #[.int .u64 0, .int .i64 0] 43)).alloc (.cells #[.int .u64 0, .int .i64 n] 43) = W := ⟨_, rfl⟩
  rw [e0] at HX0 HX1 HB0 ⊢
  clear e0
  go_loopw [11] (fun i wr => ∃ k : Nat, i = .int .i64 k ∧ k ≤ n ∧ Hid (Vb wr w.heap.size 0 0) ∧ Hid (Vb wr (w.heap.size + 1) (pk l k) n) ∧ Hid (Below w.heap.size w wr)) (fun i _ => n - (intOf i).toNat)
  case atStart => exact ⟨0, rfl, Nat.zero_le _, HX0, HX1, HB0⟩
  case round =>
    clear HX0 HX1 HB0
    obtain ⟨k, rfl, hk, HX0, HX1, HB0⟩ := hrel
    by_cases hlt : k < n
    · obtain ⟨b, off, rfl, hbl, hc⟩ := (HS.out.below HB0.out).2.2 (by omega)
      have hx := hc k hlt
      have HE := hid (HP.out k (by omega))
      obtain ⟨x, hxe⟩ : ∃ x, nth l k = x := ⟨_, rfl⟩
      rw [hxe] at hx HE
      clear hxe hc
      have d0 := HX1.out.c0
      have d1 := HX1.out.c1
      have g0 := HX1.out.fz 0
      have hlt' : (k : Int) < (n : Int) := by omega
      obtain ⟨y, hy⟩ : ∃ y, pk l k = y := ⟨_, rfl⟩
      rw [hy] at HE HX1 d0
      clear hy
      go_wp2_with fail
      go_region
      rw [HE.out]
      have QX : Hid (Vb (wr.setCell ⟨w.heap.size + 1, 0, none⟩ (.int .u64 (pk l (k + 1) : Nat))).drew (w.heap.size + 1) (pk l (k + 1)) n) := hid (HX1.out.set0 _)
      have QB := hid ((HB0.out.setCell (p := ⟨w.heap.size + 1, 0, none⟩) (by simp) (.int .u64 (pk l (k + 1) : Nat))).drew)
      have Q0 : Hid (Vb (wr.setCell ⟨w.heap.size + 1, 0, none⟩ (.int .u64 (pk l (k + 1) : Nat))).drew w.heap.size 0 0) := hid ((heap_setCell_other _ _ _ _ (by simp)).trans HX0.out)
      clear HX0 HX1 HB0 d0 d1 g0 hx HE
      go_wp2
      go_roundw
      case rel => exact ⟨k + 1, by go_num, by omega, Q0, QX, QB⟩
      case measure => simp [intOf]; omega
    · obtain rfl : k = n := by omega
      have d0 := HX1.out.c0
      have d1 := HX1.out.c1
      have k0 := HX0.out.c0
      have k1 := HX0.out.c1
      have g0 := HX0.out.fz 0
      have g1 := HX0.out.fz 1
      have QB := hid ((HB0.out.setCell (p := ⟨w.heap.size, 0, none⟩) (Nat.le_refl _) (.int .u64 (pk l k : Nat))).setCell (p := ⟨w.heap.size, 1, none⟩) (Nat.le_refl _) (.int .i64 k))
      go_wp2
      (try simp only [Exit.inBlock, Exit.then])
      refine bodyPost_ret (results_cell_row rfl _ _ w.heap.size 43 _ (0, 0) _ (by simp [Act.put]) (HX0.out.set (pk l k) k) Try.underlying43 rfl size_vot) rfl ?_
      exact ⟨rfl, QB.out⟩

theorem row_at {l : List Int} {n k : Nat} (hb : bitsL l) (h40 : n ≤ 40) (hk : k < n) : bits .and .u64 (((pk l n : Nat) : Int) / 2 ^ k) 1 = nth l k := by
  have hp := pow40 h40
  have hl := pk_lt l n
  have hd : pk l n / 2 ^ k ≤ pk l n := Nat.div_le_self _ _
  rw [← pk_at hb hk, show (((pk l n : Nat) : Int) / 2 ^ k) = ((pk l n / 2 ^ k : Nat) : Int) from by simp, show (1 : Int) = ((1 : Nat) : Int) from rfl, bits_and_u64_nat _ _ (by omega) (by omega)]
/-- The list in the midst of being filled. -/
def midL (l : List Int) (n k : Nat) : List Int := l.take k ++ List.replicate (n - k) 0
theorem midL_set {l : List Int} {n k : Nat} (hl : l.length = n) (hk : k < n) : (midL l n k).set k (nth l k) = midL l n (k + 1) := by
  have e : n - k = (n - (k + 1)) + 1 := by omega
  unfold midL
  rw [e, List.replicate_succ, List.set_append_right _ _ (by rw [List.length_take]; omega), take_nth (by omega), List.length_take, show k - min k l.length = 0 from by have := Nat.min_le_left k l.length; rw [Nat.min_eq_left (by omega)]; omega, List.set_cons_zero, List.append_assoc]
  rfl
theorem midL_zero (l : List Int) (n : Nat) : midL l n 0 = List.replicate n 0 := by simp [midL]
theorem midL_all {l : List Int} {n : Nat} (hl : l.length = n) : midL l n n = l := by unfold midL; rw [List.take_of_length_le (by omega)]; simp

set_option maxRecDepth 100000 in
set_option maxHeartbeats 3200000 in
theorem voteRow_any (l : List Int) (n : Nat) (w : World) (hl : l.length = n) (hn : n ≤ 40) (hb : bitsL l) :
    Calls Try.prog 53 #[vot (pk l n) n] w fun e w' => ∃ A2 c2, e = .returned (.slice A2 n c2) ∧ w'.ownsRow w.heap.size 3 1 (.slice A2 n c2) n (ints l) ∧ Below w.heap.size w w' := by
  obtain ⟨i0, hi, hz0, hz1, hz2⟩ := info_parts info_int
  have X0 := Vb.new w (pk l n) n
  have c0 := X0.c0
  have c1 := X0.c1
  have HX0 := hid X0
  have HB0 := hid ((Below.refl w.heap.size w).alloc (Nat.le_refl _) (.cells #[.int .u64 (pk l n : Nat), .int .i64 n] 43))
  have HL := hid hl
  have HP := hid (fun (k : Nat) (h : k < n) => row_at hb hn h)
  have HI := hid (fun (k : Nat) => bits_nth hb k)
  clear X0 hl hb
  go_enter Try.func53, Try.ntmps53
  go_wp2_with (refine wpList_make_full _ rfl (.tmp 6) (.tmp 6) 23 rfl (w.heap.size + 1) 3 i0 _ 1 Try.underlying23 hi hz0 hz1 .i64 .i64 n n n rfl rfl rfl rfl (by rw [hz2]; omega) (by simp only [maxLen]; omega) (by simp) ?_; intro w1 o1 g1; rw [madeInts, show (w.alloc (.cells #[.int .u64 (pk l n : Nat), .int .i64 n] 43)).heap.size = w.heap.size + 1 from by simp] at o1)
  rw [← midL_zero l] at o1
  have B1 := hid (HB0.out.grown g1 (by simp) (by simp))
  have Y1 := hid (HX0.out.on (row := none) g1 (by simp))
  clear HB0 HX0 c0 c1 g1
  go_loopw [10] (fun i wr => ∃ k : Nat, i = .int .i64 k ∧ k ≤ n ∧ Hid (Vb wr w.heap.size (pk l n) n) ∧ wr.ownsRow (w.heap.size + 1) 3 1 (.slice (some ⟨w.heap.size + 1, 0, none⟩) n n) n (ints (midL l n k)) ∧ Hid (Below w.heap.size w wr)) (fun i _ => n - (intOf i).toNat)
  case atStart => exact ⟨0, rfl, Nat.zero_le _, Y1, o1, B1⟩
  case round =>
    clear o1 Y1 B1
    obtain ⟨k, rfl, hk, Y1, o1, B1⟩ := hrel
    by_cases hlt : k < n
    · have d0 := Y1.out.c0
      have hf := o1.frozenAt k
      obtain ⟨b', off', hb', _, hcs⟩ := (Sl.of_own o1).2.2 (by omega)
      obtain ⟨rfl, rfl⟩ : b' = w.heap.size + 1 ∧ off' = 0 := by injection hb' with hb'; injection hb' with q1 q2 q3; exact ⟨q1.symm, q2.symm⟩
      have hck := hcs k hlt
      rw [Nat.zero_add] at hck
      clear hcs hb'
      have HE := hid (HP.out k hlt)
      have hx := HI.out k
      have OO := hid (o1.stored k (.int .i64 (nth l k)))
      rw [ints_set, midL_set HL.out hlt] at OO
      obtain ⟨x, hxe⟩ : ∃ x, nth l k = x := ⟨_, rfl⟩
      rw [hxe] at HE OO hx
      have HV := hid hxe
      clear hxe
      have hw : IntKind.i64.wrap x = x := IntWalk.i64_in _ (by omega)
      have HW := hid (show IntKind.i64.wrap (bits .and .u64 (((pk l n : Nat) : Int) / 2 ^ k) 1) = x from by rw [HE.out, hw])
      have hlt' : (k : Int) < (n : Int) := by omega
      clear hw HE o1
      go_wp2
      have O1 := hid OO.out.1
      have Q1 := hid (Y1.out.on OO.out.2 (by simp))
      have QB := hid (B1.out.grown OO.out.2 B1.out.size (by intro j hj; cases hj; omega))
      clear OO Y1 B1
      go_roundw
      case rel => rw [show wrap64 (bits .and .u64 (((pk l n : Nat) : Int) / 2 ^ k) 1) = x from by rw [← IntWalk.i64_left]; exact HW.out]; exact ⟨k + 1, by go_num, by omega, Q1, O1.out, QB⟩
      case measure => simp [intOf]; omega
    · obtain rfl : k = n := by omega
      rw [midL_all HL.out] at o1
      have O1 := hid (own_mono (base' := w.heap.size) o1 (by simp))
      clear o1
      go_wp2
      go_ret
      exact ⟨_, _, rfl, O1.out, B1.out⟩

set_option maxRecDepth 100000 in
set_option maxHeartbeats 1600000 in
theorem opposed_any (l : List Int) (n : Nat) (w : World) (hl : l.length = n) (hn : n ≤ 40) (hb : bitsL l) :
    Calls Try.prog 64 #[vot (pk l n) n] w fun e w' => e = .returned (vot (pk (oppL l) n) n) ∧ Below w.heap.size w w' := by
  have X := (Vb.new w (pk l n) n).on (row := none) (grown_alloc _ (.cells #[.int .u64 0, .int .i64 0] 43) none) (by simp)
  have hz : (w.alloc (.cells #[.int .u64 (pk l n : Nat), .int .i64 n] 43)).heap.size = w.heap.size + 1 := by simp
  have X1 : Vb ((w.alloc (.cells #[.int .u64 (pk l n : Nat), .int .i64 n] 43)).alloc (.cells #[.int .u64 0, .int .i64 0] 43)) (w.heap.size + 1) 0 0 := by rw [← hz]; exact Vb.new _ 0 0
  have B0 := hid (((Below.refl w.heap.size w).alloc (Nat.le_refl _) (.cells #[.int .u64 (pk l n : Nat), .int .i64 n] 43)).alloc (by simp) (.cells #[.int .u64 0, .int .i64 0] 43))
  have c0 := X.c0
  have c1 := X.c1
  have HX1 := hid X1
  have HX := hid X
  have CA := hid (fun W : World => all_any (pk l n) n W hn)
  have hp := pow40 hn
  have hq := pk_lt l n
  have HW := hid (show bits .xor .u64 ((pk l n : Nat) : Int) ((2 ^ n - 1 : Nat) : Int) = (pk (oppL l) n : Nat) from by
    rw [← opposed_pk hl hb, bits_xor_u64_nat _ _ (by omega) (by omega)])
  clear hp hq X X1 hz hl hb
  obtain ⟨p, hpe⟩ : ∃ p, pk (oppL l) n = p := ⟨_, rfl⟩
  rw [hpe] at HW ⊢
  clear hpe
  go_enter Try.func64, Try.ntmps64
  go_wp2_with fail
  go_region_with (first
    | (go_at_call 68; with_reducible refine Calls.mono (CA.out _) ?_; rintro r w3 ⟨rfl, hg3⟩; have Z0 := HX.out.on ((drew_grown _).trans hg3) (by simp); have Z1 := HX1.out.on ((drew_grown _).trans hg3) (by simp); have e0 := Z0.c0; have e1 := Z0.c1; have r0 := Z1.c0; have r1 := Z1.c1; have s0 := Z1.fz 0; have s1 := Z1.fz 1))
  all_goals
    have BB := hid (((B0.out.grown ((drew_grown _).trans hg3) (by simp; omega) (by simp)).setCell (p := ⟨w.heap.size + 1, 0, none⟩) (by simp) (.int .u64 p)).setCell (p := ⟨w.heap.size + 1, 1, none⟩) (by simp) (.int .i64 n))
    rw [HW.out]
    go_wp2
    (try simp only [Exit.inBlock, Exit.then])
    refine bodyPost_ret (results_cell_row rfl _ _ (w.heap.size + 1) 43 _ (0, 0) _ (by simp [Act.put]) (Z1.set _ _) Try.underlying43 rfl size_vot) rfl ?_
    exact ⟨rfl, BB.out⟩
end Go.Proofs.Ytmjcefidhigppaa
