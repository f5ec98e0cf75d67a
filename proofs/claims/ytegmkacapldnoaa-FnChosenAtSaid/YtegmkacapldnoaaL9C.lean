/-
  The walk of laws.FnChosenAt, written by program (law9.py). No statement is proved here.
-/
import Derived.Test.YtegmkacapldnoaaC9c
import Derived.Test.YtegmkacapldnoaaC9i
import Derived.Test.YtegmkacapldnoaaDrS
import Derived.Test.YtegmkacapldnoaaExS
import Derived.Test.YtegmkacapldnoaaC1a
import Derived.IntWalk
namespace Go.Proofs.Ytegmkacapldnoaa
open Go.RowKit
set_option linter.unusedVariables false
set_option linter.unusedSimpArgs false

set_option maxRecDepth 100000 in
set_option maxHeartbeats 6400000 in
theorem fnChosenAt_walk (A : Option Addr) (n c : Nat) (w : World) (hs : By w w.heap.size A n) (hc : n ≤ c) :
    Calls Try.prog 5 #[.slice A n c] w fun e w' => e = .returned (.bool true) ∧ Below w.heap.size w w' := by
  have hm : n ≤ 9223372036854775807 := hs.1
  by_cases hbig : 1048576 < n
  · go_enter Try.func5, Try.ntmps5
    go_wp2
    go_ret
    exact ⟨rfl, Below.refl _ _⟩
  go_enter Try.func5, Try.ntmps5
  go_wp2_with fail
  refine (drawChosenAt_any A n c _ hs hc).mono ?_
  rintro e w1 ⟨A1, n1, c1, l1, rfl, o1, hn1, hb1⟩
  have HB := hid hb1
  clear hs hc hb1 hbig hm
  replace o1 := own_mono (base' := 0) o1 (Nat.zero_le _)
  have hl1 : l1.length = n1 := by have := o1.1; simpa using this
  obtain ⟨hc1, hc2⟩ := own_caps9 o1
  have CI := hid (fun (W : World) (hs : Sl W W.heap.size A1 n1 l1) => implChosenAt_any A1 n1 c1 l1 W hs hc1 hc2)
  have CS := hid (fun (W : World) (hs : Sl W W.heap.size A1 n1 l1) => specChosenAt_any A1 n1 c1 l1 W hs)
  have CK := hid (fun (W : World) (hs : Sl W W.heap.size A1 n1 l1) => implRingOk_any A1 n1 c1 l1 W hs hc1 hc2)
  cases hk : ringOk l1 with
  | false =>
    rw [show chosenOut l1 = .tuple #[.int .i64 (-1), .int .i64 (-1), .bool false] from by unfold chosenOut; rw [hk]; rfl] at CI CS
    rw [hk] at CK
    clear hk
    go_wp2_with fail
    with_reducible refine Calls.mono (CI.out _ (Sl.of_own o1)) ?_
    rintro e w2 ⟨rfl, st2⟩
    replace o1 := own_on o1 st2
    replace HB := hid (HB.out.trans (st2.mono HB.out.size))
    clear st2
    go_wp2_with fail
    with_reducible refine Calls.mono (CS.out _ (Sl.of_own o1)) ?_
    rintro e w3 ⟨rfl, st3⟩
    replace o1 := own_on o1 st3
    replace HB := hid (HB.out.trans (st3.mono HB.out.size))
    clear st3
    go_wp2_with fail
    with_reducible refine Calls.mono (CK.out _ (Sl.of_own o1)) ?_
    rintro e w4 ⟨rfl, st4⟩
    replace o1 := own_on o1 st4
    replace HB := hid (HB.out.trans (st4.mono HB.out.size))
    clear st4
    go_wp2_with fail
    refine (alive_any _).mono ?_
    rintro e w5 ⟨rfl, st5⟩
    replace o1 := own_on o1 st5
    replace HB := hid (HB.out.trans (st5.mono HB.out.size))
    clear st5
    go_wp2
    go_ret
    exact ⟨rfl, HB.out⟩
  | true =>
    obtain ⟨_, _, h1, h2⟩ := ringOk_iff.1 hk
    have hmx := maxAt_is (l := l1) (by omega)
    rw [show chosenOut l1 = .tuple #[.int .i64 (maxAt l1 : Int), .int .i64 ((n1 - 1 : Nat) : Int), .bool true] from by unfold chosenOut; rw [if_pos hk, hl1]] at CI CS
    obtain ⟨p, hp⟩ : ∃ p, maxAt l1 = p := ⟨_, rfl⟩
    rw [hp] at CI CS hmx
    have hpn := hmx.1
    have HM := hid hmx.2
    rw [hl1] at h1 h2 hpn HM
    have HL := hid hl1
    clear hp hk hmx CK
    go_wp2_with fail
    with_reducible refine Calls.mono (CI.out _ (Sl.of_own o1)) ?_
    rintro e w2 ⟨rfl, st2⟩
    replace o1 := own_on o1 st2
    replace HB := hid (HB.out.trans (st2.mono HB.out.size))
    clear st2
    go_wp2_with fail
    with_reducible refine Calls.mono (CS.out _ (Sl.of_own o1)) ?_
    rintro e w3 ⟨rfl, st3⟩
    replace o1 := own_on o1 st3
    replace HB := hid (HB.out.trans (st3.mono HB.out.size))
    clear st3
    clear CI CS hl1
    go_wp2_with fail
    go_loopw [10] (fun i wr => ∃ k : Nat, i = .int .i64 k ∧ k ≤ n1 ∧ wr.ownsRow 0 3 1 (.slice A1 n1 c1) n1 (ints l1) ∧ Hid (Below w.heap.size w wr)) (fun i _ => n1 - (intOf i).toNat)
    case atStart => exact ⟨0, rfl, Nat.zero_le _, o1, HB⟩
    case round =>
      clear o1 HB
      obtain ⟨k, rfl, hk, o1, HB⟩ := hrel
      by_cases hlt : k < n1
      · have hlti : (k : Int) < (n1 : Int) := by omega
        have hpi : (p : Int) < (n1 : Int) := by omega
        have hk0 : (0 : Int) ≤ (k : Int) := by omega
        have hp0 : (0 : Int) ≤ (p : Int) := by omega
        rcases own_form9 o1 with ⟨_, h0, _⟩ | ⟨g1, rfl, _, _⟩
        · omega
        have x0 := own_cell o1 HL.out hlt
        have x1 := own_cell o1 HL.out hpn
        have hle := HM.out k hlt
        obtain ⟨a, ha⟩ : ∃ a, nth l1 k = a := ⟨_, rfl⟩
        obtain ⟨b, hb⟩ : ∃ b, nth l1 p = b := ⟨_, rfl⟩
        rw [ha] at x0 hle
        rw [hb] at x1 hle
        have hd : decide (b < a) = false := by simp; omega
        clear ha hb
        go_wp2
        go_quiet (fail)
        go_wp2
        go_roundw
        case rel => exact ⟨k + 1, by go_num, by omega, own_kept_none o1 (drewN_g9 _ _), hid (below_drewN HB.out _)⟩
        case measure => simp [intOf]; omega
      · obtain rfl : k = n1 := by omega
        have w1 : IntKind.i64.wrap ((k : Int) - 1) = (k : Int) - 1 := IntWalk.i64_in _ (by omega)
        have e1 : ((k - 1 : Nat) : Int) = (k : Int) - 1 := by omega
        have e2 : (((k - 1 : Nat) : Int) == (k : Int) - 1) = true := by rw [e1]; simp
        go_wp2
        go_ret
        exact ⟨by simp [e1], HB.out⟩
end Go.Proofs.Ytegmkacapldnoaa
