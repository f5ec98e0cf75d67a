/-
  Texts put together: C10h C10k. No statement is proved here.
-/
import Derived.Test.YtkejcajboneniabGreatDoorQMp
import Derived.Test.YtkejcajboneniabGreatDoorQMb
set_option linter.unusedVariables false
set_option linter.unusedSimpArgs false
namespace Go.Proofs.YtkejcajboneniabGreatDoor
open Go.RowKit

def cA (x : Nat) : Nat := Nat.add (Nat.land (Nat.div x 2) 6148914691236517205) (Nat.land x 6148914691236517205)
def cB (x : Nat) : Nat := Nat.add (Nat.land (Nat.div x 4) 3689348814741910323) (Nat.land x 3689348814741910323)
def cC (x : Nat) : Nat := Nat.land (Nat.add (Nat.div x 16) x) 1085102592571150095
def cD (x : Nat) : Nat := Nat.add x (Nat.div x 256)
def cE (x : Nat) : Nat := Nat.add x (Nat.div x 65536)
def cF (x : Nat) : Nat := Nat.add x (Nat.div x 4294967296)
def cnt (x : Nat) : Nat := Nat.land (cF (cE (cD (cC (cB (cA x)))))) 127
theorem cnt_all : all2 16 (fun x => Nat.beq (cnt x) (pop16 x)) 0 = true := by decide +kernel
theorem cnt_pop {x : Nat} (h : x < 2 ^ 16) : cnt x = pop 16 x := by
  rw [← pop16_pop (Nat.le_refl 16) h]
  have h2 := all2_lt (p := fun x => Nat.beq (cnt x) (pop16 x)) cnt_all h
  generalize cnt x = u at h2
  generalize pop16 x = v at h2
  exact Nat.eq_of_beq_eq_true h2

set_option maxHeartbeats 800000 in
theorem onesCount_any (x : Nat) (w : World) (hx : x < 2 ^ 16) :
    Calls Tryz.prog 202 #[.int .u64 x] w fun e w' => e = .returned (.int .i64 (pop 16 x : Nat)) ∧ w = w' := by
  have HC := hid (cnt_pop hx)
  have lA1 : x / 2 &&& 6148914691236517205 ≤ x / 2 := Nat.and_le_left
  have lA2 : x &&& 6148914691236517205 ≤ x := Nat.and_le_left
  obtain ⟨a1, eA1⟩ : ∃ y, x / 2 &&& 6148914691236517205 = y := ⟨_, rfl⟩
  obtain ⟨a2, eA2⟩ : ∃ y, x &&& 6148914691236517205 = y := ⟨_, rfl⟩
  rw [eA1] at lA1
  rw [eA2] at lA2
  have hA1 : bits .and .u64 ((x : Int) / 2) 6148914691236517205 = (a1 : Int) := by have h := bits_and_u64_nat (x / 2) 6148914691236517205 (by omega) (by omega); rw [eA1] at h; rw [show ((x / 2 : Nat) : Int) = (x : Int) / 2 from by omega] at h; exact h
  have hA2 : bits .and .u64 (x : Int) 6148914691236517205 = (a2 : Int) := by have h := bits_and_u64_nat x 6148914691236517205 (by omega) (by omega); rw [eA2] at h; exact h
  obtain ⟨b, eb⟩ : ∃ y, a1 + a2 = y := ⟨_, rfl⟩
  have hA : IntKind.u64.wrap ((a1 : Int) + (a2 : Int)) = (b : Int) := by rw [show (a1 : Int) + (a2 : Int) = (b : Int) from by omega]; exact u64_in b (by omega)
  have lB1 : b / 4 &&& 3689348814741910323 ≤ b / 4 := Nat.and_le_left
  have lB2 : b &&& 3689348814741910323 ≤ b := Nat.and_le_left
  obtain ⟨b1, eB1⟩ : ∃ y, b / 4 &&& 3689348814741910323 = y := ⟨_, rfl⟩
  obtain ⟨b2, eB2⟩ : ∃ y, b &&& 3689348814741910323 = y := ⟨_, rfl⟩
  rw [eB1] at lB1
  rw [eB2] at lB2
  have hB1 : bits .and .u64 ((b : Int) / 4) 3689348814741910323 = (b1 : Int) := by have h := bits_and_u64_nat (b / 4) 3689348814741910323 (by omega) (by omega); rw [eB1] at h; rw [show ((b / 4 : Nat) : Int) = (b : Int) / 4 from by omega] at h; exact h
  have hB2 : bits .and .u64 (b : Int) 3689348814741910323 = (b2 : Int) := by have h := bits_and_u64_nat b 3689348814741910323 (by omega) (by omega); rw [eB2] at h; exact h
  obtain ⟨d, ed⟩ : ∃ y, b1 + b2 = y := ⟨_, rfl⟩
  have hB : IntKind.u64.wrap ((b1 : Int) + (b2 : Int)) = (d : Int) := by rw [show (b1 : Int) + (b2 : Int) = (d : Int) from by omega]; exact u64_in d (by omega)
  obtain ⟨e, ee⟩ : ∃ y, d / 16 + d = y := ⟨_, rfl⟩
  have hD : IntKind.u64.wrap ((d : Int) / 16 + (d : Int)) = (e : Int) := by rw [show (d : Int) / 16 + (d : Int) = (e : Int) from by omega]; exact u64_in e (by omega)
  have lD : e &&& 1085102592571150095 ≤ e := Nat.and_le_left
  obtain ⟨f, ef⟩ : ∃ y, e &&& 1085102592571150095 = y := ⟨_, rfl⟩
  rw [ef] at lD
  have hD2 : bits .and .u64 (e : Int) 1085102592571150095 = (f : Int) := by have h := bits_and_u64_nat e 1085102592571150095 (by omega) (by omega); rw [ef] at h; exact h
  obtain ⟨g, eg⟩ : ∃ y, f + f / 256 = y := ⟨_, rfl⟩
  have hF : IntKind.u64.wrap ((f : Int) + (f : Int) / 256) = (g : Int) := by rw [show (f : Int) + (f : Int) / 256 = (g : Int) from by omega]; exact u64_in g (by omega)
  obtain ⟨k, ek⟩ : ∃ y, g + g / 65536 = y := ⟨_, rfl⟩
  have hG : IntKind.u64.wrap ((g : Int) + (g : Int) / 65536) = (k : Int) := by rw [show (g : Int) + (g : Int) / 65536 = (k : Int) from by omega]; exact u64_in k (by omega)
  obtain ⟨m, em⟩ : ∃ y, k + k / 4294967296 = y := ⟨_, rfl⟩
  have hK : IntKind.u64.wrap ((k : Int) + (k : Int) / 4294967296) = (m : Int) := by rw [show (k : Int) + (k : Int) / 4294967296 = (m : Int) from by omega]; exact u64_in m (by omega)
  have hM : IntKind.i64.wrap (m : Int) = (m : Int) := IntWalk.i64_in _ (by omega)
  have HR : m &&& 127 = pop 16 x := by
    rw [← HC.out]
    subst em ek eg ef ee ed eB1 eB2 eb eA1 eA2
    rfl
  obtain ⟨p, hp⟩ : ∃ p, pop 16 x = p := ⟨_, rfl⟩
  rw [hp] at HR ⊢
  have hR : bits .and .i64 (m : Int) 127 = (p : Int) := by have h := bits_and_i64_nat m 127 (by omega) (by omega); rw [HR] at h; exact h
  clear HC lA1 lA2 lB1 lB2 lD hp HR em ek eg ef ee ed eB1 eB2 eb eA1 eA2 hx
  go_enter Tryz.func202, Tryz.ntmps202
  go_wp2
  go_ret
  exact ⟨rfl, rfl⟩

set_option maxHeartbeats 800000 in
theorem bitRingOf_any (A : Option Addr) (n c : Nat) (l : List Int) (w : World) (hs : Sl w w.heap.size A n l) (hn : n ≤ 16) (hb : ∀ x ∈ l, x = 0 ∨ x = 1) :
    Calls Tryz.prog 158 #[.slice A n c] w fun e w' => e = .returned (vot (pb l n) n) ∧ Below w.heap.size w w' := by
  have b0 : Below w.heap.size w (w.alloc (.cells #[.int .u64 0, .int .i64 0] 151)) := (Below.refl w.heap.size w).alloc (Nat.le_refl _) _
  have X0 : Vr (w.alloc (.cells #[.int .u64 0, .int .i64 0] 151)) w.heap.size 0 0 := Vr.new w 0 0
  have CV := hid (votesOf_any A n c l _ (hs.on b0) (by omega) hb)
  rw [pk_pb] at CV
  have hz : (w.alloc (.cells #[.int .u64 0, .int .i64 0] 151)).heap.size = w.heap.size + 1 := by simp
  have HX := hid X0
  have HB := hid b0
  have HZ := hid hz
  clear X0 b0 hz hs hb
  go_enter Tryz.func158, Tryz.ntmps158
  go_wp2_with fail
  with_reducible refine Calls.mono CV.out ?_
  rintro e w3 ⟨rfl, b3⟩
  rw [HZ.out] at b3
  have Y := HX.out.below b3 (by omega)
  have f0 := Y.fz 0
  have f1 := Y.fz 1
  have k0 := Y.c0
  have k1 := Y.c1
  obtain ⟨q, hq⟩ : ∃ q, pb l n = q := ⟨_, rfl⟩
  rw [hq]
  have HQ := hid hq
  have HY := hid (Y.set q n)
  have BB := hid (((HB.out.trans (b3.mono (by omega))).setCell (p := ⟨w.heap.size, 0, none⟩) (by simp) (.int .u64 q)).setCell (p := ⟨w.heap.size, 1, none⟩) (by simp) (.int .i64 n))
  clear Y HX HB HZ b3 hq CV
  go_wp2
  (try simp only [Exit.inBlock, Exit.then])
  refine bodyPost_ret (results_cell_row rfl _ _ w.heap.size 151 _ (0, 0) _ (by simp [Act.put]) HY.out Tryz.underlying151 rfl size_vr) rfl ?_
  exact ⟨by rw [HQ.out], BB.out⟩
end Go.Proofs.YtkejcajboneniabGreatDoor
namespace Go.Proofs.YtkejcajboneniabGreatDoor
open Go.RowKit

theorem fld_vr (x n : Nat) (w : World) : (Instr.field 151 (vot x n) 0).run Tryz.prog w = .ok (vot x n) w := by kernel_rfl
theorem fld_vo (x n : Nat) (w : World) : (Instr.field 149 (vot x n) 0).run Tryz.prog w = .ok (.int .u64 x) w := by kernel_rfl
theorem pop_pb {l : List Int} {n : Nat} (hl : l.length = n) (hn : n ≤ 16) : pop 16 (pb l n) = ones l := by
  have e : code l = pb l n := by
    subst hl
    exact pb_eq (code_lt l) fun j hj => code_bit l j
  have h16 : pb l n < 2 ^ 16 := Nat.lt_of_lt_of_le (pb_lt l n) (Nat.pow_le_pow_right (by omega) hn)
  rw [← pop16_pop (Nat.le_refl 16) h16, pop16_pop hn (pb_lt l n), ← e, ← hl, code_pop]

set_option maxHeartbeats 1600000 in
theorem implOnesOf_any (A : Option Addr) (n c : Nat) (l : List Int) (w : World) (hs : Sl w w.heap.size A n l) :
    Calls Tryz.prog 172 #[.slice A n c] w fun e w' => e = .returned (.int .i64 (onesOut l)) ∧ Below w.heap.size w w' := by
  have HL := hid hs.len
  have CK := hid (bitsI_any A n c l w w.heap.size hs)
  cases hok : bitsOk l with
  | false =>
    have HV := hid (show onesOut l = -1 from by unfold onesOut; rw [hok]; rfl)
    rw [hok] at CK
    clear hok
    go_enter Tryz.func172, Tryz.ntmps172
    go_wp2_with fail
    with_reducible refine Calls.mono CK.out ?_
    rintro e w' ⟨rfl, rfl⟩
    go_wp2
    go_ret
    exact ⟨ret_int HV.out.symm, Below.refl _ _⟩
  | true =>
    obtain ⟨hb, h1, h2⟩ := bitsOk_iff.1 hok
    rw [HL.out] at h1 h2
    have HV := hid (show onesOut l = (ones l : Int) from by unfold onesOut; rw [if_pos hok])
    have HP := hid (pop_pb HL.out h2)
    have h16 : pb l n < 2 ^ 16 := Nat.lt_of_lt_of_le (pb_lt l n) (Nat.pow_le_pow_right (by omega) h2)
    have CC := hid (fun W : World => onesCount_any (pb l n) W h16)
    rw [HP.out] at CC
    rw [hok] at CK
    have CV := hid (bitRingOf_any A n c l w hs h2 hb)
    have hf1 := fld_vr (pb l n) n
    have hf2 := fld_vo (pb l n) n
    clear hok hb hs h16
    go_enter Tryz.func172, Tryz.ntmps172
    go_wp2_with fail
    with_reducible refine Calls.mono CK.out ?_
    rintro e w' ⟨rfl, rfl⟩
    go_wp2_with fail
    with_reducible refine Calls.mono CV.out ?_
    rintro e w1 ⟨rfl, b1⟩
    have B1 := hid b1
    clear b1
    go_wp2_with fail
    with_reducible refine Calls.mono (CC.out _) ?_
    rintro e w2 ⟨rfl, rfl⟩
    go_wp2
    go_ret
    exact ⟨ret_int HV.out.symm, B1.out⟩

set_option maxRecDepth 100000 in
set_option maxHeartbeats 3200000 in
theorem implSummedAfter_any (A : Option Addr) (n c : Nat) (l : List Int) (s : Int) (w : World) (hs : Sl w w.heap.size A n l) :
    Calls Tryz.prog 154 #[.slice A n c, .int .i64 s] w fun e w' => ∃ A2 m c2, e = .returned (.slice A2 m c2) ∧ w'.ownsRow w.heap.size 3 1 (.slice A2 m c2) m (ints (sumAft l s)) ∧ m ≤ 16 ∧ Below w.heap.size w w' := by
  have HL := hid hs.len
  have CK := hid (bitsI_any A n c l w w.heap.size hs)
  cases hok : (bitsOk l && within s 0 1000) with
  | false =>
    have HV := hid (show sumAft l s = [] from by unfold sumAft; rw [hok]; rfl)
    cases h0 : bitsOk l with
    | false =>
      rw [h0] at CK
      clear hok h0
      go_enter Tryz.func154, Tryz.ntmps154
      go_wp2_with fail
      with_reducible refine Calls.mono CK.out ?_
      rintro e w' ⟨rfl, rfl⟩
      go_wp2
      go_ret
      exact ⟨_, 0, _, rfl, by rw [HV.out]; exact World.ownsRow_nil _ _ _ _, by omega, Below.refl _ _⟩
    | true =>
      rw [h0, Bool.true_and] at hok
      rw [h0] at CK
      clear h0
      by_cases hs0 : s < 0
      · clear hok
        go_enter Tryz.func154, Tryz.ntmps154
        go_wp2_with fail
        with_reducible refine Calls.mono CK.out ?_
        rintro e w' ⟨rfl, rfl⟩
        go_wp2
        go_ret
        exact ⟨_, 0, _, rfl, by rw [HV.out]; exact World.ownsRow_nil _ _ _ _, by omega, Below.refl _ _⟩
      · have hs1 : 1000 < s := by
          rcases Int.lt_or_le 1000 s with h | h
          · exact h
          · rw [within_iff.2 ⟨by omega, by omega⟩] at hok; cases hok
        have hd : decide (s < 0) = false := by simpa using hs0
        clear hok
        go_enter Tryz.func154, Tryz.ntmps154
        go_wp2_with fail
        with_reducible refine Calls.mono CK.out ?_
        rintro e w' ⟨rfl, rfl⟩
        go_wp2
        go_ret
        exact ⟨_, 0, _, rfl, by rw [HV.out]; exact World.ownsRow_nil _ _ _ _, by omega, Below.refl _ _⟩
  | true =>
    have hok2 : bitsOk l = true ∧ within s 0 1000 = true := by simpa using hok
    obtain ⟨h0, hws⟩ := hok2
    obtain ⟨hb, h1, h2⟩ := bitsOk_iff.1 h0
    rw [HL.out] at h1 h2
    have hsb := within_iff.1 hws
    obtain ⟨S, rfl⟩ : ∃ S : Nat, s = S := Int.eq_ofNat_of_zero_le hsb.1
    have HV := hid (show sumAft l S = sumI S l from by unfold sumAft; rw [if_pos hok, Int.toNat_natCast])
    rw [h0] at CK
    have CV := hid (bitRingOf_any A n c l w hs h2 hb)
    have CS := hid (fun W : World => summedAfterI_any l n S W HL.out h0 (by omega))
    have CR := hid (fun W : World => voteRow_any (sumI S l) n W (by rw [sumI_len, HL.out]) (by omega) (bitsOk_iff.1 (sumI_ok h0 S)).1)
    rw [pk_pb] at CR
    have hd : decide ((S : Int) < 0) = false := by simp
    have hd2 : decide ((1000 : Int) < (S : Int)) = false := by simp; omega
    have hf1 := fld_vr (pb (sumI S l) n) n
    clear hok h0 hb hs hws
    go_enter Tryz.func154, Tryz.ntmps154
    go_wp2_with fail
    with_reducible refine Calls.mono CK.out ?_
    rintro e w' ⟨rfl, rfl⟩
    go_wp2_with fail
    with_reducible refine Calls.mono CV.out ?_
    rintro e w1 ⟨rfl, b1⟩
    have B1 := hid b1
    clear b1
    go_wp2_with fail
    with_reducible refine Calls.mono (CS.out _) ?_
    rintro e w2 ⟨rfl, b2⟩
    have B2 := hid (below_tr B1.out b2)
    clear b2 B1
    go_wp2_with fail
    with_reducible refine Calls.mono (CR.out _) ?_
    rintro e w3 ⟨A3, c3, rfl, o3, b3⟩
    have O3 := hid (own_mono o3 B2.out.size)
    have B3 := hid (below_tr B2.out b3)
    clear b3 o3 B2
    go_wp2
    go_ret
    exact ⟨_, n, _, rfl, by rw [HV.out]; exact O3.out, h2, B3.out⟩

set_option maxHeartbeats 800000 in
theorem implSummedOf_any (A : Option Addr) (n c : Nat) (l : List Int) (w : World) (hs : Sl w w.heap.size A n l) :
    Calls Tryz.prog 119 #[.slice A n c] w fun e w' => ∃ A2 m c2, e = .returned (.slice A2 m c2) ∧ w'.ownsRow w.heap.size 3 1 (.slice A2 m c2) m (ints (sumOut l)) ∧ m ≤ 16 ∧ Below w.heap.size w w' := by
  have HE := hid (show sumAft l 1 = sumOut l from by
    unfold sumAft sumOut
    rw [show within 1 0 1000 = true from by decide, Bool.and_true]
    rfl)
  have CA := hid (implSummedAfter_any A n c l 1 w hs)
  rw [HE.out] at CA
  go_enter Tryz.func119, Tryz.ntmps119
  go_wp2_with fail
  with_reducible refine Calls.mono CA.out ?_
  rintro e w3 ⟨A3, m, c3, rfl, o3, hm, b3⟩
  have O3 := hid o3
  have B3 := hid b3
  clear o3 b3
  go_wp2
  go_ret
  exact ⟨_, m, _, rfl, O3.out, hm, B3.out⟩

end Go.Proofs.YtkejcajboneniabGreatDoor
