/-
  The walk of laws.FnRoundOf, written by program (lawsig.py). No statement is proved here.
-/
import Derived.Test.YtajjmhfbdknlfaaC2i
import Derived.Test.YtajjmhfbdknlfaaC2p
import Derived.Test.YtajjmhfbdknlfaaC2t
import Derived.Test.YtajjmhfbdknlfaaDr4
import Derived.Test.YtajjmhfbdknlfaaC1a
import Derived.Deep.RegionHeld3
namespace Go.Proofs.Ytajjmhfbdknlfaa
open Go.RowKit
set_option linter.unusedVariables false
set_option linter.unusedSimpArgs false

set_option maxRecDepth 100000 in
set_option maxHeartbeats 3200000 in
theorem fnRoundOf_walk (A : Option Addr) (n c : Nat) (w : World) (hs : By w w.heap.size A n) (hc : n ≤ c) :
    Calls Try.prog 5 #[.slice A n c] w fun e w' => e = .returned (.bool true) ∧ Below w.heap.size w w' := by
  have hm : n ≤ 9223372036854775807 := hs.1
  by_cases hbig : 1048576 < n
  · go_enter Try.func5, Try.ntmps5
    go_wp2
    go_ret
    exact ⟨rfl, Below.refl _ _⟩
  go_enter Try.func5, Try.ntmps5
  go_wp2_with fail
  refine (drawRoundOf_any A n c _ hs hc).mono ?_
  rintro r w1 ⟨f, d, z, rfl, f0, f1, d0, d1, z0, z1, hb1⟩
  clear hs
  have CS := hid (fun W : World => specRoundOf_any f d z W)
  have C1 := hid (fun W : World => implRoundOf_any f d z W)
  by_cases h1 : sigOk f d z = true
  · have hr := round_bd h1
    have HP := hid (fun (k : Nat) (hk : k ≤ 1000) => (show placeOut f d z (2 * z * slow d + k) = at2 f d z k from by unfold placeOut; rw [h1, if_pos (by simp; omega), at2_round h1]))
    have HQ := hid (fun (k : Nat) (hk : k ≤ 1000) => (show placeOut f d z k = at2 f d z k from by unfold placeOut; rw [h1, if_pos (by simp; omega)]))
    have HB2 := hid (fun k : Int => at2_bd h1 k)
    rw [show roundOut f d z = 2 * z * slow d from by unfold roundOut; rw [if_pos h1]] at CS C1
    obtain ⟨R, hR⟩ : ∃ R : Int, 2 * z * slow d = R := ⟨_, rfl⟩
    rw [hR] at CS C1 hr HP
    clear hR h1
    go_wp2_with fail
    with_reducible refine Calls.mono (C1.out _) ?_
    rintro r w2 ⟨rfl, g2⟩
    have K : Hid (One w1 w2 f d) := hid ⟨g2.cell (by simp) (by simp), g2.cell (by simp) (by simp), (grown_alloc _ _ _).trans g2, Nat.le_trans (by simp) g2.size⟩
    clear g2
    obtain ⟨a0, a1, _, _⟩ := K.out
    go_wp2_with fail
    with_reducible refine Calls.mono (CS.out _) ?_
    rintro r w3 ⟨rfl, g3⟩
    have K := hid (K.out.on g3)
    clear a0 a1
    clear g3
    obtain ⟨a0, a1, _, _⟩ := K.out
    go_wp2_with fail
    go_loopw [6] (fun i wr => ∃ k : Nat, i = .int .i64 k ∧ k ≤ 51 ∧ Hid (One w1 wr f d)) (fun i _ => 51 - (intOf i).toNat)
    case atStart => exact ⟨0, rfl, Nat.zero_le _, K⟩
    case round =>
      clear K a0 a1
      obtain ⟨k, rfl, hk, K⟩ := hrel
      obtain ⟨a0, a1, _, _⟩ := K.out
      by_cases hlt : k ≤ 50
      · have P1 := hid (fun W : World => implPlaceAt_any f d z (R + k) W)
        have P2 := hid (fun W : World => implPlaceAt_any f d z k W)
        rw [HP.out k (by omega)] at P1
        rw [HQ.out k (by omega)] at P2
        have hv := HB2.out k
        obtain ⟨v, he⟩ : ∃ v, at2 f d z k = v := ⟨_, rfl⟩
        rw [he] at P1 P2 hv
        clear he
        have hv0 := hv.1
        clear hv
        go_wp2_with fail
        with_reducible refine Calls.mono (P1.out _) ?_
        rintro r w4 ⟨rfl, g4⟩
        have K := hid (K.out.on g4)
        clear g4 a0 a1
        obtain ⟨a0, a1, _, _⟩ := K.out
        go_wp2_with fail
        with_reducible refine Calls.mono (P2.out _) ?_
        rintro r w5 ⟨rfl, g5⟩
        have K := hid (K.out.on g5)
        clear g5 a0 a1
        go_wp2
        go_roundw
        case rel => exact ⟨k + 1, by go_num, by omega, K⟩
        case measure => simp [intOf]; omega
      · obtain rfl : k = 51 := by omega
        go_wp2_with fail
        refine (alive_any _).mono ?_
        rintro r w4 ⟨rfl, hb2⟩
        have HB := hid (hb1.trans ((Below.trans (below_one K.out) (hb2.mono K.out.hg.size)).mono hb1.size))
        clear hb2 a0 a1
        go_wp2
        go_ret
        exact ⟨rfl, HB.out⟩
  · have h1' : sigOk f d z = false := by simpa using h1
    rw [show roundOut f d z = -1 from by unfold roundOut; rw [h1']; rfl] at CS C1
    go_wp2_with fail
    with_reducible refine Calls.mono (C1.out _) ?_
    rintro r w2 ⟨rfl, g2⟩
    have K : Hid (One w1 w2 f d) := hid ⟨g2.cell (by simp) (by simp), g2.cell (by simp) (by simp), (grown_alloc _ _ _).trans g2, Nat.le_trans (by simp) g2.size⟩
    clear g2
    obtain ⟨a0, a1, _, _⟩ := K.out
    go_wp2_with fail
    with_reducible refine Calls.mono (CS.out _) ?_
    rintro r w3 ⟨rfl, g3⟩
    have K := hid (K.out.on g3)
    clear a0 a1
    clear g3
    obtain ⟨a0, a1, _, _⟩ := K.out
    go_wp2_with fail
    refine (alive_any _).mono ?_
    rintro r w4 ⟨rfl, hb2⟩
    have HB := hid (hb1.trans ((Below.trans (below_one K.out) (hb2.mono K.out.hg.size)).mono hb1.size))
    clear hb2 a0 a1
    go_wp2
    go_ret
    exact ⟨rfl, HB.out⟩
end Go.Proofs.Ytajjmhfbdknlfaa
