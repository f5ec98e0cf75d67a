/-
  Walks of the program's OnesOf, SummedAfter, SummedOf, AddedOf. No statement is proved here.
-/
import Derived.Test.YthncjopbagkdcaaC10g
import Derived.Test.YthncjopbagkdcaaC10h
import Derived.Test.YthncjopbagkdcaaC10a
import Derived.Test.YthncjopbagkdcaaC10d
namespace Go.Proofs.Ythncjopbagkdcaa
open Go.RowKit
set_option linter.unusedVariables false
set_option linter.unusedSimpArgs false

theorem fld_vr (x n : Nat) (w : World) : (Instr.field 51 (vot x n) 0).run Try.prog w = .ok (vot x n) w := by kernel_rfl
theorem fld_vo (x n : Nat) (w : World) : (Instr.field 49 (vot x n) 0).run Try.prog w = .ok (.int .u64 x) w := by kernel_rfl
theorem pop_pb {l : List Int} {n : Nat} (hl : l.length = n) (hn : n ≤ 16) : pop 16 (pb l n) = ones l := by
  have e : code l = pb l n := by
    subst hl
    exact pb_eq (code_lt l) fun j hj => code_bit l j
  have h16 : pb l n < 2 ^ 16 := Nat.lt_of_lt_of_le (pb_lt l n) (Nat.pow_le_pow_right (by omega) hn)
  rw [← pop16_pop (Nat.le_refl 16) h16, pop16_pop hn (pb_lt l n), ← e, ← hl, code_pop]

set_option maxHeartbeats 1600000 in
theorem implOnesOf_any (A : Option Addr) (n c : Nat) (l : List Int) (w : World) (hs : Sl w w.heap.size A n l) :
    Calls Try.prog 23 #[.slice A n c] w fun e w' => e = .returned (.int .i64 (onesOut l)) ∧ Below w.heap.size w w' := by
  have HL := hid hs.len
  have CK := hid (bitsI_any A n c l w w.heap.size hs)
  cases hok : bitsOk l with
  | false =>
    have HV := hid (show onesOut l = -1 from by unfold onesOut; rw [hok]; rfl)
    rw [hok] at CK
    clear hok
    go_enter Try.func23, Try.ntmps23
    go_wp2_with fail
    with_reducible refine Calls.mono CK.out ?_
    rintro e w' ⟨rfl, rfl⟩
    go_wp2
    go_ret
    exact ⟨ret_int HV.out.symm, Below.refl _ _⟩
  | true =>
    obtain ⟨hb, h1, h2⟩ := bitsOk_iff.1 hok
    rw [HL.out] at h1 h2
    have HV := hid (show onesOut l = (ones l : Int) from by unfold onesOut; rw [if_pos hok])
    have HP := hid (pop_pb HL.out h2)
    have h16 : pb l n < 2 ^ 16 := Nat.lt_of_lt_of_le (pb_lt l n) (Nat.pow_le_pow_right (by omega) h2)
    have CC := hid (fun W : World => onesCount_any (pb l n) W h16)
    rw [HP.out] at CC
    rw [hok] at CK
    have CV := hid (bitRingOf_any A n c l w hs h2 hb)
    have hf1 := fld_vr (pb l n) n
    have hf2 := fld_vo (pb l n) n
    clear hok hb hs h16
    go_enter Try.func23, Try.ntmps23
    go_wp2_with fail
    with_reducible refine Calls.mono CK.out ?_
    rintro e w' ⟨rfl, rfl⟩
    go_wp2_with fail
    with_reducible refine Calls.mono CV.out ?_
    rintro e w1 ⟨rfl, b1⟩
    have B1 := hid b1
    clear b1
    go_wp2_with fail
    with_reducible refine Calls.mono (CC.out _) ?_
    rintro e w2 ⟨rfl, rfl⟩
    go_wp2
    go_ret
    exact ⟨ret_int HV.out.symm, B1.out⟩

set_option maxRecDepth 100000 in
set_option maxHeartbeats 3200000 in
theorem implSummedAfter_any (A : Option Addr) (n c : Nat) (l : List Int) (s : Int) (w : World) (hs : Sl w w.heap.size A n l) :
    Calls Try.prog 25 #[.slice A n c, .int .i64 s] w fun e w' => ∃ A2 m c2, e = .returned (.slice A2 m c2) ∧ w'.ownsRow w.heap.size 3 1 (.slice A2 m c2) m (ints (sumAft l s)) ∧ m ≤ 16 ∧ Below w.heap.size w w' := by
  have HL := hid hs.len
  have CK := hid (bitsI_any A n c l w w.heap.size hs)
  cases hok : (bitsOk l && within s 0 1000) with
  | false =>
    have HV := hid (show sumAft l s = [] from by unfold sumAft; rw [hok]; rfl)
    cases h0 : bitsOk l with
    | false =>
      rw [h0] at CK
      clear hok h0
      go_enter Try.func25, Try.ntmps25
      go_wp2_with fail
      with_reducible refine Calls.mono CK.out ?_
      rintro e w' ⟨rfl, rfl⟩
      go_wp2
      go_ret
      exact ⟨_, 0, _, rfl, by rw [HV.out]; exact World.ownsRow_nil _ _ _ _, by omega, Below.refl _ _⟩
    | true =>
      rw [h0, Bool.true_and] at hok
      rw [h0] at CK
      clear h0
      by_cases hs0 : s < 0
      · clear hok
        go_enter Try.func25, Try.ntmps25
        go_wp2_with fail
        with_reducible refine Calls.mono CK.out ?_
        rintro e w' ⟨rfl, rfl⟩
        go_wp2
        go_ret
        exact ⟨_, 0, _, rfl, by rw [HV.out]; exact World.ownsRow_nil _ _ _ _, by omega, Below.refl _ _⟩
      · have hs1 : 1000 < s := by
          rcases Int.lt_or_le 1000 s with h | h
          · exact h
          · rw [within_iff.2 ⟨by omega, by omega⟩] at hok; cases hok
        have hd : decide (s < 0) = false := by simpa using hs0
        clear hok
        go_enter Try.func25, Try.ntmps25
        go_wp2_with fail
        with_reducible refine Calls.mono CK.out ?_
        rintro e w' ⟨rfl, rfl⟩
        go_wp2
        go_ret
        exact ⟨_, 0, _, rfl, by rw [HV.out]; exact World.ownsRow_nil _ _ _ _, by omega, Below.refl _ _⟩
  | true =>
    have hok2 : bitsOk l = true ∧ within s 0 1000 = true := by simpa using hok
    obtain ⟨h0, hws⟩ := hok2
    obtain ⟨hb, h1, h2⟩ := bitsOk_iff.1 h0
    rw [HL.out] at h1 h2
    have hsb := within_iff.1 hws
    obtain ⟨S, rfl⟩ : ∃ S : Nat, s = S := Int.eq_ofNat_of_zero_le hsb.1
    have HV := hid (show sumAft l S = sumI S l from by unfold sumAft; rw [if_pos hok, Int.toNat_natCast])
    rw [h0] at CK
    have CV := hid (bitRingOf_any A n c l w hs h2 hb)
    have CS := hid (fun W : World => summedAfterI_any l n S W HL.out h0 (by omega))
    have CR := hid (fun W : World => voteRow_any (sumI S l) n W (by rw [sumI_len, HL.out]) (by omega) (bitsOk_iff.1 (sumI_ok h0 S)).1)
    rw [pk_pb] at CR
    have hd : decide ((S : Int) < 0) = false := by simp
    have hd2 : decide ((1000 : Int) < (S : Int)) = false := by simp; omega
    have hf1 := fld_vr (pb (sumI S l) n) n
    clear hok h0 hb hs hws
    go_enter Try.func25, Try.ntmps25
    go_wp2_with fail
    with_reducible refine Calls.mono CK.out ?_
    rintro e w' ⟨rfl, rfl⟩
    go_wp2_with fail
    with_reducible refine Calls.mono CV.out ?_
    rintro e w1 ⟨rfl, b1⟩
    have B1 := hid b1
    clear b1
    go_wp2_with fail
    with_reducible refine Calls.mono (CS.out _) ?_
    rintro e w2 ⟨rfl, b2⟩
    have B2 := hid (below_tr B1.out b2)
    clear b2 B1
    go_wp2_with fail
    with_reducible refine Calls.mono (CR.out _) ?_
    rintro e w3 ⟨A3, c3, rfl, o3, b3⟩
    have O3 := hid (own_mono o3 B2.out.size)
    have B3 := hid (below_tr B2.out b3)
    clear b3 o3 B2
    go_wp2
    go_ret
    exact ⟨_, n, _, rfl, by rw [HV.out]; exact O3.out, h2, B3.out⟩

set_option maxHeartbeats 800000 in
theorem implSummedOf_any (A : Option Addr) (n c : Nat) (l : List Int) (w : World) (hs : Sl w w.heap.size A n l) :
    Calls Try.prog 20 #[.slice A n c] w fun e w' => ∃ A2 m c2, e = .returned (.slice A2 m c2) ∧ w'.ownsRow w.heap.size 3 1 (.slice A2 m c2) m (ints (sumOut l)) ∧ m ≤ 16 ∧ Below w.heap.size w w' := by
  have HE := hid (show sumAft l 1 = sumOut l from by
    unfold sumAft sumOut
    rw [show within 1 0 1000 = true from by decide, Bool.and_true]
    rfl)
  have CA := hid (implSummedAfter_any A n c l 1 w hs)
  rw [HE.out] at CA
  go_enter Try.func20, Try.ntmps20
  go_wp2_with fail
  with_reducible refine Calls.mono CA.out ?_
  rintro e w3 ⟨A3, m, c3, rfl, o3, hm, b3⟩
  have O3 := hid o3
  have B3 := hid b3
  clear o3 b3
  go_wp2
  go_ret
  exact ⟨_, m, _, rfl, O3.out, hm, B3.out⟩

set_option maxRecDepth 100000 in
set_option maxHeartbeats 3200000 in
theorem implAddedOf_any (A : Option Addr) (n c : Nat) (l : List Int) (A1 : Option Addr) (n1 c1 : Nat) (m : List Int) (w : World) (hs : Sl w w.heap.size A n l) (hs1 : Sl w w.heap.size A1 n1 m) :
    Calls Try.prog 28 #[.slice A n c, .slice A1 n1 c1] w fun e w' => ∃ A2 q c2, e = .returned (.slice A2 q c2) ∧ w'.ownsRow w.heap.size 3 1 (.slice A2 q c2) q (ints (addOut l m)) ∧ q ≤ 16 ∧ Below w.heap.size w w' := by
  have HL := hid hs.len
  have HM := hid hs1.len
  have CK := hid (bitsI_any A n c l w w.heap.size hs)
  have CK1 := hid (bitsI_any A1 n1 c1 m w w.heap.size hs1)
  cases hok : (bitsOk l && (bitsOk m && decide (l.length = m.length))) with
  | false =>
    have HV := hid (show addOut l m = [] from by unfold addOut; rw [hok]; rfl)
    cases h0 : bitsOk l with
    | false =>
      rw [h0] at CK
      clear hok h0 CK1
      go_enter Try.func28, Try.ntmps28
      go_wp2_with (go_at_call 16; with_reducible refine Calls.mono CK.out ?_; rintro e w' ⟨rfl, rfl⟩)
      go_ret
      exact ⟨_, 0, _, rfl, by rw [HV.out]; exact World.ownsRow_nil _ _ _ _, by omega, Below.refl _ _⟩
    | true =>
      rw [h0, Bool.true_and] at hok
      rw [h0] at CK
      clear h0
      cases h1 : bitsOk m with
      | false =>
        rw [h1] at CK1
        clear hok h1
        go_enter Try.func28, Try.ntmps28
        go_wp2_with (first | (go_at_call 16; with_reducible refine Calls.mono CK.out ?_; rintro e w' ⟨rfl, rfl⟩) | (go_at_call 16; with_reducible refine Calls.mono CK1.out ?_; rintro e w' ⟨rfl, rfl⟩))
        go_ret
        exact ⟨_, 0, _, rfl, by rw [HV.out]; exact World.ownsRow_nil _ _ _ _, by omega, Below.refl _ _⟩
      | true =>
        rw [h1, Bool.true_and, HL.out, HM.out, decide_eq_false_iff_not] at hok
        rw [h1] at CK1
        have hne : ((n : Int) == (n1 : Int)) = false := by simp; omega
        have hne2 : ¬ (n : Int) = (n1 : Int) := by omega
        clear h1 hok
        go_enter Try.func28, Try.ntmps28
        go_wp2_with (first | (go_at_call 16; with_reducible refine Calls.mono CK.out ?_; rintro e w' ⟨rfl, rfl⟩) | (go_at_call 16; with_reducible refine Calls.mono CK1.out ?_; rintro e w' ⟨rfl, rfl⟩))
        go_ret
        exact ⟨_, 0, _, rfl, by rw [HV.out]; exact World.ownsRow_nil _ _ _ _, by omega, Below.refl _ _⟩
  | true =>
    have hok2 : bitsOk l = true ∧ bitsOk m = true ∧ l.length = m.length := by simpa using hok
    obtain ⟨h0, h1, hll⟩ := hok2
    have HV := hid (show addOut l m = addL l m from by unfold addOut; rw [if_pos hok])
    obtain ⟨hb, g1, g2⟩ := bitsOk_iff.1 h0
    have hb' := (bitsOk_iff.1 h1).1
    rw [HL.out] at g1 g2
    rw [HL.out, HM.out] at hll
    subst hll
    rw [h0] at CK
    rw [h1] at CK1
    have CV := hid (bitRingOf_any A n c l w hs g2 hb)
    have CV1 := hid (fun (W : World) (hW : Below w.heap.size w W) => bitRingOf_any A1 n c1 m W (hs1.on hW) g2 hb')
    have CD := hid (fun W : World => added_any (pb l n) (pb m n) n W g2 (pb_lt _ _) (pb_lt _ _))
    rw [pb_add HL.out hb hb'] at CD
    have CR := hid (fun W : World => voteRow_any (addL l m) n W (by rw [addL_len, HL.out]) (by omega) addL_bits)
    rw [pk_pb] at CR
    have een : ((n : Int) == (n : Int)) = true := by simp
    have hf1 := fld_vr (pb (addL l m) n) n
    clear hok h0 h1 hb hb' hs hs1
    go_enter Try.func28, Try.ntmps28
    go_wp2_with (first | (go_at_call 16; with_reducible refine Calls.mono CK.out ?_; rintro e w' ⟨rfl, rfl⟩) | (go_at_call 16; with_reducible refine Calls.mono CK1.out ?_; rintro e w' ⟨rfl, rfl⟩))
    with_reducible refine Calls.mono CV.out ?_
    rintro e w1 ⟨rfl, b1⟩
    have B1 := hid b1
    clear b1
    go_wp2_with fail
    with_reducible refine Calls.mono (CV1.out _ B1.out) ?_
    rintro e w2 ⟨rfl, b2⟩
    have B2 := hid (below_tr B1.out b2)
    clear b2 B1
    go_wp2_with fail
    with_reducible refine Calls.mono (CD.out _) ?_
    rintro e w3 ⟨rfl, b3⟩
    have B3 := hid (below_tr B2.out b3)
    clear b3 B2
    go_wp2_with fail
    with_reducible refine Calls.mono (CR.out _) ?_
    rintro e w4 ⟨A3, c3, rfl, o3, b3⟩
    have O3 := hid (own_mono o3 B3.out.size)
    have B4 := hid (below_tr B3.out b3)
    clear b3 o3 B3
    go_wp2
    go_ret
    exact ⟨_, n, _, rfl, by rw [HV.out]; exact O3.out, g2, B4.out⟩
end Go.Proofs.Ythncjopbagkdcaa
