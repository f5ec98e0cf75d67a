/-
  Walks of the program's OnesOf, SummedAfter, SummedOf, AddedOf. No statement is proved here.
-/
import Derived.Test.YtkejcajboneniaaDoorC10g
import Derived.Test.YtkejcajboneniaaDoorC10h
import Derived.Test.YtkejcajboneniaaDoorC10a
import Derived.Test.YtkejcajboneniaaDoorC10d
namespace Go.Proofs.YtkejcajboneniaaDoor
open Go.RowKit
set_option linter.unusedVariables false
set_option linter.unusedSimpArgs false

theorem fld_vr (x n : Nat) (w : World) : (Instr.field 56 (vot x n) 0).run Tryd.prog w = .ok (vot x n) w := by kernel_rfl
theorem fld_vo (x n : Nat) (w : World) : (Instr.field 54 (vot x n) 0).run Tryd.prog w = .ok (.int .u64 x) w := by kernel_rfl
theorem pop_pb {l : List Int} {n : Nat} (hl : l.length = n) (hn : n ≤ 16) : pop 16 (pb l n) = ones l := by
  have e : code l = pb l n := by
    subst hl
    exact pb_eq (code_lt l) fun j hj => code_bit l j
  have h16 : pb l n < 2 ^ 16 := Nat.lt_of_lt_of_le (pb_lt l n) (Nat.pow_le_pow_right (by omega) hn)
  rw [← pop16_pop (Nat.le_refl 16) h16, pop16_pop hn (pb_lt l n), ← e, ← hl, code_pop]

set_option maxHeartbeats 1600000 in
theorem implOnesOf_any (A : Option Addr) (n c : Nat) (l : List Int) (w : World) (hs : Sl w w.heap.size A n l) :
    Calls Tryd.prog 14 #[.slice A n c] w fun e w' => e = .returned (.int .i64 (onesOut l)) ∧ Below w.heap.size w w' := by
  have HL := hid hs.len
  have CK := hid (bitsI_any A n c l w w.heap.size hs)
  cases hok : bitsOk l with
  | false =>
    have HV := hid (show onesOut l = -1 from by unfold onesOut; rw [hok]; rfl)
    rw [hok] at CK
    clear hok
    go_enter Tryd.func14, Tryd.ntmps14
    go_wp2_with fail
    with_reducible refine Calls.mono CK.out ?_
    rintro e w' ⟨rfl, rfl⟩
    go_wp2
    go_ret
    exact ⟨ret_int HV.out.symm, Below.refl _ _⟩
  | true =>
    obtain ⟨hb, h1, h2⟩ := bitsOk_iff.1 hok
    rw [HL.out] at h1 h2
    have HV := hid (show onesOut l = (ones l : Int) from by unfold onesOut; rw [if_pos hok])
    have HP := hid (pop_pb HL.out h2)
    have h16 : pb l n < 2 ^ 16 := Nat.lt_of_lt_of_le (pb_lt l n) (Nat.pow_le_pow_right (by omega) h2)
    have CC := hid (fun W : World => onesCount_any (pb l n) W h16)
    rw [HP.out] at CC
    rw [hok] at CK
    have CV := hid (bitRingOf_any A n c l w hs h2 hb)
    have hf1 := fld_vr (pb l n) n
    have hf2 := fld_vo (pb l n) n
    clear hok hb hs h16
    go_enter Tryd.func14, Tryd.ntmps14
    go_wp2_with fail
    with_reducible refine Calls.mono CK.out ?_
    rintro e w' ⟨rfl, rfl⟩
    go_wp2_with fail
    with_reducible refine Calls.mono CV.out ?_
    rintro e w1 ⟨rfl, b1⟩
    have B1 := hid b1
    clear b1
    go_wp2_with fail
    with_reducible refine Calls.mono (CC.out _) ?_
    rintro e w2 ⟨rfl, rfl⟩
    go_wp2
    go_ret
    exact ⟨ret_int HV.out.symm, B1.out⟩

end Go.Proofs.YtkejcajboneniaaDoor
