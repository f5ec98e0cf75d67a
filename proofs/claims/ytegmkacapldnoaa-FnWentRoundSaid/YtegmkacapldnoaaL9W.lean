/-
  The walk of laws.FnWentRound, written by program (law9.py). No statement is proved here.
-/
import Derived.Test.YtegmkacapldnoaaC9m
import Derived.Test.YtegmkacapldnoaaC9r
import Derived.Test.YtegmkacapldnoaaC9w
import Derived.Test.YtegmkacapldnoaaC9i
import Derived.Test.YtegmkacapldnoaaDrS
import Derived.Test.YtegmkacapldnoaaExS
import Derived.Test.YtegmkacapldnoaaC1a
import Derived.IntWalk
import Derived.Deep.RegionHeld3
namespace Go.Proofs.Ytegmkacapldnoaa
open Go.RowKit
set_option linter.unusedVariables false
set_option linter.unusedSimpArgs false

theorem rot_ok {l : List Int} {a : Nat} (h : a < l.length) (hk : ringOk l = true) : ringOk (rotL l a) = true := by
  obtain ⟨h1, h2, h3, h4⟩ := ringOk_iff.1 hk
  refine ringOk_iff.2 ⟨fun x hx => h1 x ?_, fun b hb a' ha e => ?_, by rw [rot_len (by omega)]; exact h3, by rw [rot_len (by omega)]; exact h4⟩
  · rcases List.mem_append.1 hx with h | h
    · exact List.mem_of_mem_drop h
    · exact List.mem_of_mem_take h
  · have := rot_apart h (ring_apart hk) a' b (by omega) hb e
    omega

set_option maxRecDepth 100000 in
set_option maxHeartbeats 6400000 in
theorem fnWentRound_walk (A : Option Addr) (n c : Nat) (w : World) (hs : By w w.heap.size A n) (hc : n ≤ c) :
    Calls Try.prog 8 #[.slice A n c] w fun e w' => e = .returned (.bool true) ∧ Below w.heap.size w w' := by
  have hm : n ≤ 9223372036854775807 := hs.1
  by_cases hbig : 1048576 < n
  · go_enter Try.func8, Try.ntmps8
    go_wp2
    go_ret
    exact ⟨rfl, Below.refl _ _⟩
  go_enter Try.func8, Try.ntmps8
  go_wp2_with fail
  refine (drawWentRound_any A n c _ hs hc).mono ?_
  rintro e w1 ⟨A1, n1, c1, l1, f1, rfl, o1, hn1, f10, f11, hb1⟩
  have HB := hid hb1
  clear hs hc hb1 hbig hm
  replace o1 := own_mono (base' := 0) o1 (Nat.zero_le _)
  have hl1 : l1.length = n1 := by have := o1.1; simpa using this
  have hcap : n1 ≤ c1 ∧ c1 ≤ maxLen := by
    rcases own_form9 o1 with ⟨_, h0, h1⟩ | ⟨g, _, h0, h1⟩
    · subst h0; subst h1; exact ⟨Nat.le_refl _, by simp [maxLen]⟩
    · exact ⟨h0, h1⟩
  obtain ⟨hc1, hc2⟩ := hcap
  have hwf : (Lit.int .i64 f1).wf = true := WalkArith.wf_i64 (by omega)
  have CI := hid (fun (W : World) (hs : Sl W W.heap.size A1 n1 l1) => implWentRound_any A1 n1 c1 l1 f1 W hs hc1 hc2 hwf)
  have CS := hid (fun (W : World) (hs : Sl W W.heap.size A1 n1 l1) => specWentRound_any A1 n1 c1 l1 f1 W hs hc1 hc2 hwf)
  clear hwf
  have CC := hid (fun (W : World) (hs : Sl W W.heap.size A1 n1 l1) => implChosenAt_any A1 n1 c1 l1 W hs hc1 hc2)
  have CM := hid (fun (W : World) (hs : Sl W W.heap.size A1 n1 l1) => implMessagesOf_any A1 n1 c1 l1 W hs hc1 hc2)
  clear hc1 hc2
  cases hk : (ringOk l1 && within f1 0 ((n1 : Int) - 1)) with
  | false =>
    rw [show wentOut l1 f1 = [] from by unfold wentOut; rw [hl1, hk]; rfl] at CI CS
    clear hk CC CM
    go_wp2_with fail
    refine (CI.out _ (Sl.of_own o1)).mono ?_
    rintro e w2 ⟨Ax, nx, cx, rfl, ox, hnx, st2⟩
    replace o1 := own_on o1 st2
    replace HB := hid (HB.out.trans (st2.mono HB.out.size))
    clear st2
    replace ox := own_mono (base' := 0) ox (Nat.zero_le _)
    go_wp2_with fail
    refine (CS.out _ (Sl.of_own o1)).mono ?_
    rintro e w3 ⟨Ay, ny, cy, rfl, oy, hny, st3⟩
    replace o1 := own_on o1 st3
    replace ox := own_on ox st3
    replace HB := hid (HB.out.trans (st3.mono HB.out.size))
    clear st3
    replace oy := own_mono (base' := 0) oy (Nat.zero_le _)
    go_wp2_with fail
    refine (sameInts_b _ _ _ _ _ _ _ _ _ _ _ (Sl.of_own ox) (Sl.of_own oy)).mono ?_
    rintro e w4 ⟨rfl, st4⟩
    rw [decide_eq_true rfl]
    replace o1 := own_on o1 st4
    replace ox := own_on ox st4
    replace oy := own_on oy st4
    replace HB := hid (HB.out.trans (st4.mono HB.out.size))
    clear st4
    clear oy
    obtain rfl : nx = 0 := by have := ox.1; simpa using this.symm
    go_wp2_with fail
    refine (alive_any _).mono ?_
    rintro e w5 ⟨rfl, st5⟩
    replace o1 := own_on o1 st5
    replace ox := own_on ox st5
    replace HB := hid (HB.out.trans (st5.mono HB.out.size))
    clear st5
    go_wp2
    go_ret
    exact ⟨rfl, HB.out⟩
  | true =>
    have hk2 : ringOk l1 = true ∧ within f1 0 ((n1 : Int) - 1) = true := by simpa using hk
    obtain ⟨hk0, hw⟩ := hk2
    have hw2 := within_iff.1 hw
    obtain ⟨F, rfl⟩ : ∃ F : Nat, f1 = F := Int.eq_ofNat_of_zero_le hw2.1
    have hF : F < l1.length := by omega
    rw [show wentOut l1 (F : Int) = rotL l1 F from by unfold wentOut; rw [hl1, if_pos hk, Int.toNat_natCast]] at CI CS
    have hrk := rot_ok hF hk0
    obtain ⟨_, _, h1, h2⟩ := ringOk_iff.1 hk0
    have hm1 := maxAt_is (l := l1) (by omega)
    have hlr := (rot_len (l := l1) (a := F) (by omega)).trans hl1
    have hm2 := maxAt_is (l := rotL l1 F) (by omega)
    have hmx := rot_max hF hm1 hm2
    have hms : messOut (rotL l1 F) = messOut l1 := by
      unfold messOut
      rw [if_pos hk0, if_pos hrk, mess_reach (ring_pos hk0) (by omega), mess_reach (ring_pos hrk) (by omega), reach_rot_sum hF]
    have HC1 := hid (show chosenOut l1 = .tuple #[.int .i64 (maxAt l1 : Int), .int .i64 ((n1 - 1 : Nat) : Int), .bool true] from by unfold chosenOut; rw [if_pos hk0, hl1])
    have HC2 := hid (show chosenOut (rotL l1 F) = .tuple #[.int .i64 (maxAt (rotL l1 F) : Int), .int .i64 ((n1 - 1 : Nat) : Int), .bool true] from by unfold chosenOut; rw [if_pos hrk, hlr])
    have hp1 := hm1.1
    have hp2 := hm2.1
    rw [hl1] at h1 h2 hp1
    rw [hlr] at hp2
    rw [HC1.out] at CC
    obtain ⟨L2, hL2⟩ : ∃ L2, rotL l1 F = L2 := ⟨_, rfl⟩
    rw [hL2] at CI CS hlr hp2 hmx hms HC2
    have HMS := hid hms
    have HL := hid hl1
    have HLR := hid hlr
    have HMX := hid hmx
    clear hk hk0 hw hrk hm1 hm2 hms hL2 HC1 hF
    go_wp2_with fail
    refine (CI.out _ (Sl.of_own o1)).mono ?_
    rintro e w2 ⟨Ax, nx, cx, rfl, ox, hnx, st2⟩
    replace o1 := own_on o1 st2
    replace HB := hid (HB.out.trans (st2.mono HB.out.size))
    clear st2
    replace ox := own_mono (base' := 0) ox (Nat.zero_le _)
    go_wp2_with fail
    refine (CS.out _ (Sl.of_own o1)).mono ?_
    rintro e w3 ⟨Ay, ny, cy, rfl, oy, hny, st3⟩
    replace o1 := own_on o1 st3
    replace ox := own_on ox st3
    replace HB := hid (HB.out.trans (st3.mono HB.out.size))
    clear st3
    replace oy := own_mono (base' := 0) oy (Nat.zero_le _)
    go_wp2_with fail
    refine (sameInts_b _ _ _ _ _ _ _ _ _ _ _ (Sl.of_own ox) (Sl.of_own oy)).mono ?_
    rintro e w4 ⟨rfl, st4⟩
    rw [decide_eq_true rfl]
    replace o1 := own_on o1 st4
    replace ox := own_on ox st4
    replace oy := own_on oy st4
    replace HB := hid (HB.out.trans (st4.mono HB.out.size))
    clear st4
    clear oy
    have hnx1 : nx = n1 := by have := ox.1; simp [HLR.out] at this; omega
    subst hnx1
    have hne : ((nx : Int) == 0) = false := by simp; omega
    have hne' : ¬ (nx : Int) = 0 := by omega
    obtain ⟨hx1, hx2⟩ := own_caps9 ox
    have DC := hid (fun (W : World) (hs : Sl W W.heap.size Ax nx L2) => implChosenAt_any Ax nx cx L2 W hs hx1 hx2)
    have DM := hid (fun (W : World) (hs : Sl W W.heap.size Ax nx L2) => implMessagesOf_any Ax nx cx L2 W hs hx1 hx2)
    rw [HC2.out] at DC
    rw [HMS.out] at DM
    clear CI CS hl1 hlr hmx
    go_wp2_with fail
    with_reducible refine Calls.mono (CC.out _ (Sl.of_own o1)) ?_
    rintro e w5 ⟨rfl, st5⟩
    replace o1 := own_on o1 st5
    replace ox := own_on ox st5
    replace HB := hid (HB.out.trans (st5.mono HB.out.size))
    clear st5
    go_wp2_with fail
    with_reducible refine Calls.mono (DC.out _ (Sl.of_own ox)) ?_
    rintro e w6 ⟨rfl, st6⟩
    replace o1 := own_on o1 st6
    replace ox := own_on ox st6
    replace HB := hid (HB.out.trans (st6.mono HB.out.size))
    clear st6
    rcases own_form9 o1 with ⟨_, h0, _⟩ | ⟨g1, rfl, _, _⟩
    · omega
    rcases own_form9 ox with ⟨_, h0, _⟩ | ⟨gx, rfl, _, _⟩
    · omega
    have x1 := own_cell o1 HL.out hp1
    have x2 := own_cell ox HLR.out hp2
    rw [HMX.out] at x2
    have pi1 : (maxAt l1 : Int) < (nx : Int) := by omega
    have pi2 : (maxAt L2 : Int) < (nx : Int) := by omega
    have pi3 : (0 : Int) ≤ (maxAt l1 : Int) := by omega
    have pi4 : (0 : Int) ≤ (maxAt L2 : Int) := by omega
    have hd : Below w6.heap.size w6 w6.drew := (Below.refl _ _).drew
    have d1 := own_on o1 hd
    have dx := own_on ox hd
    have Bd := hid (HB.out.trans (hd.mono HB.out.size))
    have KP := hid (fun (W : World) (e1 : W.ownsRow 0 3 1 (.slice (some ⟨g1, 0, none⟩) nx c1) nx (ints l1)) (e2 : W.ownsRow 0 3 1 (.slice (some ⟨gx, 0, none⟩) nx cx) nx (ints L2)) => show W.cell? ⟨gx, maxAt L2, none⟩ = some (.int .i64 (nth l1 (maxAt l1))) ∧ W.cell? ⟨g1, maxAt l1, none⟩ = some (.int .i64 (nth l1 (maxAt l1))) from ⟨by rw [own_cell e2 HLR.out hp2, HMX.out], own_cell e1 HL.out hp1⟩)
    clear CC DC HC2 o1 ox HB hd
    go_wp2
    go_region_held3 (fun w' => w'.cell? ⟨gx, maxAt L2, none⟩ = some (.int .i64 (nth l1 (maxAt l1))) ∧ w'.cell? ⟨g1, maxAt l1, none⟩ = some (.int .i64 (nth l1 (maxAt l1)))) (first | exact ⟨x2, x1⟩ | exact KP.out _ d1 dx | assumption) (first
      | (go_at_call 28; with_reducible refine Calls.mono (DM.out _ (Sl.of_own dx)) ?_; clear DM; rintro e w11 ⟨rfl, st11⟩; replace d1 := own_on d1 st11; replace dx := own_on dx st11; replace Bd := hid (Bd.out.trans (st11.mono Bd.out.size)); clear st11)
      | (go_at_call 28; with_reducible refine Calls.mono (CM.out _ (Sl.of_own d1)) ?_; rintro e w12 ⟨rfl, st12⟩; replace d1 := own_on d1 st12; replace dx := own_on dx st12; replace Bd := hid (Bd.out.trans (st12.mono Bd.out.size)); clear st12)
      | (go_at_call 18; refine (alive_any _).mono ?_; rintro e w13 ⟨rfl, st13⟩; replace d1 := own_on d1 st13; replace dx := own_on dx st13; replace Bd := hid (Bd.out.trans (st13.mono Bd.out.size)); clear st13))
    go_wp2
    go_ret
    exact ⟨rfl, Bd.out⟩
end Go.Proofs.Ytegmkacapldnoaa
