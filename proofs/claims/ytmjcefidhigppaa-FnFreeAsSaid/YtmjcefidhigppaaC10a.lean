/-
  Walks of the model's SummedOf, SummedAfter, AddedOf, OnesOf. No statement is proved here.
-/
import Derived.Test.YtmjcefidhigppaaC10
namespace Go.Proofs.Ytmjcefidhigppaa
open Go.RowKit
set_option linter.unusedVariables false
set_option linter.unusedSimpArgs false

/-- What SummedOf gives. -/
def sumOut (l : List Int) : List Int := if bitsOk l = true then sumL l else []
/-- What SummedAfter gives. -/
def sumAft (l : List Int) (s : Int) : List Int := if (bitsOk l && within s 0 1000) = true then sumI s.toNat l else []
/-- What OnesOf gives. -/
def onesOut (l : List Int) : Int := if bitsOk l = true then (ones l : Int) else -1
/-- What AddedOf gives. -/
def addOut (a b : List Int) : List Int := if (bitsOk a && (bitsOk b && decide (a.length = b.length))) = true then addL a b else []

set_option maxRecDepth 100000 in
set_option maxHeartbeats 1600000 in
theorem specOnesOf_any (A : Option Addr) (n c : Nat) (l : List Int) (w : World) (B : Nat) (hs : Sl w B A n l) :
    Calls Try.prog 55 #[.slice A n c] w fun e w' => e = .returned (.int .i64 (onesOut l)) ∧ w = w' := by
  have HL := hid hs.len
  have CK := hid (specBitsOk_any A n c l w B hs)
  cases hok : bitsOk l with
  | false =>
    have HV := hid (show onesOut l = -1 from by unfold onesOut; rw [hok]; rfl)
    rw [hok] at CK
    clear hok
    go_enter Try.func55, Try.ntmps55
    go_wp2_with fail
    with_reducible refine Calls.mono CK.out ?_
    rintro e w' ⟨rfl, rfl⟩
    go_wp2
    go_ret
    exact ⟨ret_int HV.out.symm, rfl⟩
  | true =>
    obtain ⟨hb, h1, h2⟩ := bitsOk_iff.1 hok
    have HV := hid (show onesOut l = ones l from by unfold onesOut; rw [if_pos hok])
    have HX := hid (fun k => bit_nth hb k)
    rw [HL.out] at h1 h2
    obtain ⟨b, off, rfl, hbl, hc⟩ := hs.2.2 (by omega)
    have HC := hid hc
    rw [hok] at CK
    clear hok hs hc hb
    go_enter Try.func55, Try.ntmps55
    go_wp2_with fail
    with_reducible refine Calls.mono CK.out ?_
    rintro e w' ⟨rfl, rfl⟩
    go_wp2
    go_loop [3, 4] (fun v i => ∃ k m : Nat, v = .int .i64 m ∧ i = .int .i64 k ∧ k ≤ n ∧ m ≤ k ∧ Hid (m = ones (l.take k))) (fun _ i => n - (intOf i).toNat)
    case atStart => exact ⟨0, 0, rfl, rfl, Nat.zero_le _, Nat.le_refl _, hid rfl⟩
    case round =>
      obtain ⟨k, m, rfl, rfl, hk, hm, HM⟩ := hrel
      by_cases hlt : k < n
      · have hck := HC.out k hlt
        have hbx := HX.out k
        have HT := hid (ones_take (l := l) (k := k) (by rw [HL.out]; exact hlt))
        obtain ⟨x, hx⟩ : ∃ x, nth l k = x := ⟨_, rfl⟩
        rw [hx] at hck hbx HT
        clear hx
        obtain ⟨q, hq⟩ : ∃ q : Nat, x = q := Int.eq_ofNat_of_zero_le (by omega)
        subst hq
        have HM2 := hid (show m + q = ones (l.take (k + 1)) from by
          rw [HT.out, HM.out]
          rcases hbx with h | h
          · rw [if_neg (by omega)]; omega
          · rw [if_pos h]; omega)
        have hlti : (k : Int) < (n : Int) := by omega
        have e1 : IntKind.i64.wrap ((m : Int) + (q : Int)) = (m : Int) + (q : Int) := IntWalk.i64_in _ (by omega)
        clear HT
        go_wp2
        go_round
        case rel => exact ⟨k + 1, m + q, by go_num, by go_num, by omega, by omega, HM2⟩
        case measure => simp [intOf]; omega
      · obtain rfl : k = n := by omega
        have HT := hid (show onesOut l = (m : Int) from by
          rw [HV.out, HM.out, List.take_of_length_le (by rw [HL.out]; omega)])
        go_wp2
        go_ret
        exact ⟨ret_int HT.out.symm, rfl⟩
end Go.Proofs.Ytmjcefidhigppaa
