/-
  The walk of the program's FirmOf. No statement is proved here.
-/
import Derived.Test.YtfmlekcdjjkolaaDoorC7g
import Derived.Test.YtfmlekcdjjkolaaDoorC7h
import Derived.Test.YtfmlekcdjjkolaaDoorC7f
import Derived.Test.YtfmlekcdjjkolaaDoorS7f
import Derived.Test.YtfmlekcdjjkolaaDoorC4w
import Derived.Test.YtfmlekcdjjkolaaDoorTab
import Derived.Deep.RegionHeld3
namespace Go.Proofs.YtfmlekcdjjkolaaDoor
open Go.RowKit
set_option linter.unusedVariables false
set_option linter.unusedSimpArgs false

theorem bits_andNot_u64_nat (a b : Nat) (ha : a < 18446744073709551616) (hb : b < 18446744073709551616) :
    bits .andNot .u64 (a : Int) (b : Int) = ((a &&& ((2 ^ 64 - 1) ^^^ b) : Nat) : Int) := by
  have hx : a &&& ((2 ^ 64 - 1) ^^^ b) < 2 ^ 64 := Nat.lt_of_le_of_lt Nat.and_le_left (by omega)
  have h1 : (BitVec.ofInt 64 (a : Int)).toNat = a := by
    rw [BitVec.ofInt_natCast, BitVec.toNat_ofNat]; exact Nat.mod_eq_of_lt (by omega)
  have h2 : (BitVec.ofInt 64 (b : Int)).toNat = b := by
    rw [BitVec.ofInt_natCast, BitVec.toNat_ofNat]; exact Nat.mod_eq_of_lt (by omega)
  show IntKind.u64.wrap ((BitVec.ofInt 64 (a : Int) &&& ~~~ BitVec.ofInt 64 (b : Int)).toNat : Int) = _
  have h3 : (~~~ BitVec.ofInt 64 (b : Int)).toNat = (2 ^ 64 - 1) ^^^ b := by
    rw [BitVec.not_def, BitVec.toNat_xor, BitVec.toNat_allOnes, h2]
  rw [BitVec.toNat_and, h1, h3, IntKind.wrap_u64]
  omega

set_option maxRecDepth 100000 in
set_option maxHeartbeats 3200000 in
theorem firm_any (x n : Nat) (w : World) (h1 : 1 ≤ n) (hn : n ≤ 40) (hx : x < 2 ^ n) :
    Calls Tryd.prog 29 #[vot x n] w fun e w' => e = .returned (.int .u64 (firmB x n : Nat)) ∧ w.grownBy w' none := by
  have X := Vb.new w x n
  have B0 := hid (grown_alloc w (.cells #[.int .u64 x, .int .i64 n] 40) none)
  have c0 := X.c0
  have c1 := X.c1
  have CL := hid (fun W : World => fromLeft_any x n W hn hx)
  have CR := hid (fun W : World => fromRight_any x n W h1 hn hx)
  have CA := hid (fun W : World => all_any x n W hn)
  have hp := pow40 hn
  have hl := fromL_lt (x := x) (n := n) hx
  have hr := fromR_lt (x := x) (n := n) hx
  obtain ⟨L, hL⟩ : ∃ L, fromL x n = L := ⟨_, rfl⟩
  obtain ⟨R, hR⟩ : ∃ R, fromR x n = R := ⟨_, rfl⟩
  have HW := hid (show bits .andNot .u64 ((2 ^ n - 1 : Nat) : Int) (bits .and .u64 (bits .xor .u64 (x : Int) (L : Int)) (bits .xor .u64 (x : Int) (R : Int))) = (firmB x n : Nat) from by
    unfold firmB
    rw [hL] at hl ⊢; rw [hR] at hr ⊢
    have q1 : x ^^^ L < 2 ^ n := Nat.xor_lt_two_pow hx hl
    have q2 : x ^^^ R < 2 ^ n := Nat.xor_lt_two_pow hx hr
    have q3 : (x ^^^ L) &&& (x ^^^ R) ≤ x ^^^ L := Nat.and_le_left
    rw [bits_xor_u64_nat _ _ (by omega) (by omega), bits_xor_u64_nat _ _ (by omega) (by omega), bits_and_u64_nat _ _ (by omega) (by omega), bits_andNot_u64_nat _ _ (by omega) (by omega)])
  rw [hL] at CL; rw [hR] at CR
  clear hp hl hr hL hR X hx
  go_enter Tryd.func29, Tryd.ntmps29
  go_wp2_with fail
  go_region_held3 (fun w' => w'.cell? ⟨w.heap.size, 0, none⟩ = some (.int .u64 x) ∧ w'.cell? ⟨w.heap.size, 1, none⟩ = some (.int .i64 n))
    (first
      | go_keep
      | (go_split_ands
         refine ⟨?_, ?_⟩ <;> exact hg4.cell (by assumption) (by simp))
      | (go_split_ands
         refine ⟨?_, ?_⟩ <;> exact hg3.cell (by assumption) (by simp)))
    (first
      | (go_at_call 39; with_reducible refine Calls.mono (CL.out _) ?_; rintro r w3 ⟨rfl, hg3⟩)
      | (go_at_call 40; with_reducible refine Calls.mono (CR.out _) ?_; rintro r w4 ⟨rfl, hg4⟩))
  have HG := hid (((B0.out.trans (drew_grown _)).trans hg3).trans hg4)
  clear hg3 hg4
  go_wp2_with fail
  with_reducible refine Calls.mono (CA.out _) ?_
  rintro r w5 ⟨rfl, hg5⟩
  have HG5 := hid (HG.out.trans hg5)
  clear hg5
  go_wp2
  go_ret
  exact ⟨by rw [← HW.out]; rfl, HG5.out⟩

set_option maxRecDepth 100000 in
set_option maxHeartbeats 3200000 in
theorem implFirmOf_any (A : Option Addr) (n c : Nat) (l : List Int) (w : World) (hs : Sl w w.heap.size A n l) (hT : TabsZ w) :
    Calls Tryd.prog 12 #[.slice A n c] w fun e w' => ∃ A2 m c2, e = .returned (.slice A2 m c2) ∧ w'.ownsRow w.heap.size 3 1 (.slice A2 m c2) m (ints (firmOut l)) ∧ m ≤ 40 ∧ Below w.heap.size w w' := by
  have HL := hid hs.len
  have CK := hid (votesI_any A n c l w w.heap.size hs)
  cases hok : votesOk l with
  | false =>
    have HV := hid (show firmOut l = [] from by unfold firmOut; rw [hok]; rfl)
    rw [hok] at CK
    clear hok
    go_enter Tryd.func12, Tryd.ntmps12
    go_wp2_with fail
    with_reducible refine Calls.mono CK.out ?_
    rintro e w' ⟨rfl, rfl⟩
    go_wp2
    go_ret
    exact ⟨_, 0, _, rfl, by rw [HV.out]; exact World.ownsRow_nil _ _ _ _, by omega, Below.refl _ _⟩
  | true =>
    have HV := hid (show firmOut l = firmTo l n from by unfold firmOut; rw [if_pos hok, HL.out])
    obtain ⟨⟨h1, h2⟩, hb⟩ := votesOk_iff.1 hok
    rw [HL.out] at h1 h2
    rw [hok] at CK
    have CV := hid (votesOf_any A n c l w hs h2 hb)
    have CF := hid (fun W : World => firm_any (pk l n) n W h1 h2 (pk_lt _ _))
    have hlt : firmB (pk l n) n < 2 ^ 40 := Nat.lt_of_le_of_lt Nat.and_le_left (by have := pow40 h2; omega)
    have CR := hid (fun (W : World) (hW : TabsZ W) => ascending_any (firmB (pk l n) n) (firmTo l n) W hlt (firm_list HL.out h1 h2 hb hlt) (by have := firm_len l n; omega) hW)
    have HT := hid hT
    clear hok hb hs hlt hT
    go_enter Tryd.func12, Tryd.ntmps12
    go_wp2_with fail
    with_reducible refine Calls.mono CK.out ?_
    rintro e w' ⟨rfl, rfl⟩
    go_wp2_with fail
    with_reducible refine Calls.mono CV.out ?_
    rintro e w1 ⟨rfl, b1⟩
    go_wp2_with fail
    with_reducible refine Calls.mono (CF.out w1) ?_
    rintro e w2 ⟨rfl, g2⟩
    have T2 := (HT.out.below b1).on g2
    go_wp2_with fail
    with_reducible refine Calls.mono (CR.out w2 T2) ?_
    rintro e w3 ⟨A3, m, c3, rfl, o3, hm, b3⟩
    have HB2 := hid (b1.trans ((below_grown g2).mono b1.size))
    have O3 := hid (own_mono o3 HB2.out.size)
    have HB3 := hid (HB2.out.trans (b3.mono HB2.out.size))
    clear b1 b3 o3 g2 T2
    go_wp2
    go_ret
    exact ⟨_, m, _, rfl, by rw [HV.out]; exact O3.out, hm, HB3.out⟩
end Go.Proofs.YtfmlekcdjjkolaaDoor
