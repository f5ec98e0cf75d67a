/-
  The walk of laws.FnCounterOk, written by program (law6.py). No statement is proved here.
-/
import Derived.Test.YtdacjpaaffpfgaaC6i
import Derived.Test.YtdacjpaaffpfgaaC6
import Derived.Test.YtdacjpaaffpfgaaDrT
import Derived.Test.YtdacjpaaffpfgaaS6b
import Derived.Test.YtdacjpaaffpfgaaExC
import Derived.Test.YtdacjpaaffpfgaaC1a
import Derived.Deep.RegionHeld3
namespace Go.Proofs.Ytdacjpaaffpfgaa
open Go.RowKit
set_option linter.unusedVariables false
set_option linter.unusedSimpArgs false

set_option maxRecDepth 100000 in
set_option maxHeartbeats 6400000 in
theorem fnCounterOk_walk (A : Option Addr) (n c : Nat) (w : World) (hs : By w w.heap.size A n) (hc : n ≤ c) :
    Calls Try.prog 3 #[.slice A n c] w fun e w' => e = .returned (.bool true) ∧ Below w.heap.size w w' := by
  have hm : n ≤ 9223372036854775807 := hs.1
  by_cases hbig : 1048576 < n
  · go_enter Try.func3, Try.ntmps3
    go_wp2
    go_ret
    exact ⟨rfl, Below.refl _ _⟩
  go_enter Try.func3, Try.ntmps3
  go_wp2_with fail
  refine (drawCounterOk_any A n c _ hs hc).mono ?_
  rintro e w1 ⟨A1, n1, c1, A2, n2, c2, D, C, rfl, oc, hn1, hn2, hb1⟩
  have HB := hid hb1
  have z1 := hb1.size
  clear hs hc hb1 hbig hm
  replace oc := oc.mono (Nat.zero_le _)
  have yD := oc.lenD
  have yC := oc.lenC
  have hM1 : n1 ≤ 9223372036854775807 := (Sl.of_own oc.d).max
  have hM2 : n2 ≤ 9223372036854775807 := (Sl.of_own oc.e).max
  have st2 := (Below.refl w1.heap.size w1).alloc (Nat.le_refl _) (.cells #[.slice A1 n1 c1, .slice A2 n2 c2] 25)
  have Xc := Bt.new w1 25 (.slice A1 n1 c1) (.slice A2 n2 c2)
  obtain ⟨bc, hbc⟩ : ∃ q, w1.heap.size = q := ⟨_, rfl⟩
  rw [hbc] at Xc
  obtain ⟨w2, e2⟩ : ∃ W, w1.alloc (.cells #[.slice A1 n1 c1, .slice A2 n2 c2] 25) = W := ⟨_, rfl⟩
  rw [e2] at Xc st2
  have Bc := hid Xc
  clear Xc
  replace oc := oc.on st2
  have z2 := st2.size
  replace HB := hid (HB.out.trans (st2.mono HB.out.size))
  clear st2
  have cc0 := Bc.out.c0
  have cc1 := Bc.out.c1
  have CI := hid (fun (W : World) (h1 : Sl W W.heap.size A1 n1 D) (h2 : Sl W W.heap.size A2 n2 C) => implCounterOk_any A1 n1 c1 A2 n2 c2 D C W h1 h2)
  have CS := hid (fun (W : World) (h1 : Sl W W.heap.size A1 n1 D) (h2 : Sl W W.heap.size A2 n2 C) => specCounterOk_any A1 n1 c1 A2 n2 c2 D C W h1 h2)
  have CW := hid (fun (W : World) (h1 : Sl W W.heap.size A1 n1 D) (h2 : Sl W W.heap.size A2 n2 C) => implCounterOk_any A2 n2 c2 A1 n1 c1 C D W h2 h1)
  rw [ctrOk_swap] at CW
  have CN := hid (fun (W : World) => implCounterOk_any none 0 0 none 0 0 [] [] W (Sl.of_own (World.ownsRow_nil W 0 3 1)) (Sl.of_own (World.ownsRow_nil W 0 3 1)))
  rw [ctrOk_nil] at CN
  cases hok : ctrOk D C with
  | false =>
    rw [hok] at CI CS CW
    clear hok
    go_wp2_with fail
    clear cc0 cc1
    with_reducible refine Calls.mono (CI.out _ (Sl.of_own oc.d) (Sl.of_own oc.e)) ?_
    rintro e w3 ⟨rfl, st3⟩
    replace oc := oc.on st3
    replace Bc := hid (Bc.out.below st3)
    have z3 := st3.size
    replace HB := hid (HB.out.trans (st3.mono HB.out.size))
    clear st3
    have cc0 := Bc.out.c0
    have cc1 := Bc.out.c1
    go_wp2_with fail
    clear cc0 cc1
    with_reducible refine Calls.mono (CS.out _ (Sl.of_own oc.d) (Sl.of_own oc.e)) ?_
    rintro e w4 ⟨rfl, st4⟩
    replace st4 := below_grown st4
    replace oc := oc.on st4
    replace Bc := hid (Bc.out.below st4)
    have z4 := st4.size
    replace HB := hid (HB.out.trans (st4.mono HB.out.size))
    clear st4
    have cc0 := Bc.out.c0
    have cc1 := Bc.out.c1
    go_wp2_with fail
    have hd : Below w4.heap.size w4 w4.drew := (Below.refl _ _).drew
    have dw := oc.on hd
    have Bd := hid (Bc.out.below hd)
    refine wp_region_held_drew (S := (fun w' => w'.cell? ⟨bc, 0, none⟩ = some (.slice A1 n1 c1) ∧ w'.cell? ⟨bc, 1, none⟩ = some (.slice A2 n2 c2))) (by kernel_rfl) (by go_keep) (fun hHeld => ?_)
    refine wpAnyH_take (i := 0) (v := ?v0false) rfl (by kernel_rfl) (by kernel_rfl) (by kernel_rfl) (fun _ _ _ h => h) (Or.inl ⟨by rfl, ?y0false⟩) (by assumption) ?r0false
    case y0false => (intro w hSw; (try dsimp only at hSw); go_simp; try with_reducible rfl)
    try simp only [List.getElem_toArray, List.getElem_cons_zero, List.getElem_cons_succ, Act.put, List.setIfInBounds_toArray, List.set_cons_zero, List.set_cons_succ]
    refine wpAnyH_take (i := 1) (v := ?v1false) rfl (by kernel_rfl) (by kernel_rfl) (by kernel_rfl) (fun _ _ _ h => h) (Or.inl ⟨by rfl, ?y1false⟩) (by assumption) ?r1false
    case y1false => (intro w hSw; (try dsimp only at hSw); go_simp; try with_reducible rfl)
    try simp only [List.getElem_toArray, List.getElem_cons_zero, List.getElem_cons_succ, Act.put, List.setIfInBounds_toArray, List.set_cons_zero, List.set_cons_succ]
    refine wpAnyH_take (i := 2) (v := ?v2false) rfl (by kernel_rfl) (by kernel_rfl) (by kernel_rfl) (fun _ _ _ h => h) (Or.inl ⟨by rfl, ?y2false⟩) (by assumption) ?r2false
    case y2false => (intro w hSw; (try dsimp only at hSw); go_simp; try with_reducible rfl)
    try simp only [List.getElem_toArray, List.getElem_cons_zero, List.getElem_cons_succ, Act.put, List.setIfInBounds_toArray, List.set_cons_zero, List.set_cons_succ]
    refine wpAnyH_take (i := 3) (v := ?v3false) rfl (by kernel_rfl) (by kernel_rfl) (by kernel_rfl) (fun _ _ _ h => h) (Or.inl ⟨by rfl, ?y3false⟩) (by assumption) ?r3false
    case y3false => (intro w hSw; (try dsimp only at hSw); go_simp; try with_reducible rfl)
    try simp only [List.getElem_toArray, List.getElem_cons_zero, List.getElem_cons_succ, Act.put, List.setIfInBounds_toArray, List.set_cons_zero, List.set_cons_succ]
    refine wpAnyH_take (i := 4) (v := ?v4false) rfl (by kernel_rfl) (by kernel_rfl) (by kernel_rfl) (fun _ _ _ h => h) (Or.inl ⟨by rfl, ?y4false⟩) (by assumption) ?r4false
    case y4false => (intro w hSw; (try dsimp only at hSw); go_simp; try with_reducible rfl)
    try simp only [List.getElem_toArray, List.getElem_cons_zero, List.getElem_cons_succ, Act.put, List.setIfInBounds_toArray, List.set_cons_zero, List.set_cons_succ]
    refine wpAnyH_take (i := 6) (v := ?v6false) rfl (by kernel_rfl) (by kernel_rfl) (by kernel_rfl) (fun _ _ _ h => h) (Or.inl ⟨by rfl, ?y6false⟩) (by assumption) ?r6false
    case y6false => (intro w hSw; (try dsimp only at hSw); go_simp; try with_reducible rfl)
    try simp only [List.getElem_toArray, List.getElem_cons_zero, List.getElem_cons_succ, Act.put, List.setIfInBounds_toArray, List.set_cons_zero, List.set_cons_succ]
    refine wpAnyH_ready (rs := [5]) (by kernel_rfl) (by simp) ?_
    refine AllReadyH.cons rfl (fun Kr hKr => ?_) AllReadyH.nil
    go_simp
    (go_at_call 16; with_reducible refine Calls.mono (CW.out _ (Sl.of_own dw.d) (Sl.of_own dw.e)) ?_; rintro e w5 ⟨rfl, st5⟩)
    try go_wp2_with fail
    refine hKr.out _ _ ?_ (fun hHeld => ?_)
    · go_split_ands
      exact ⟨(Bd.out.below st5).c0, (Bd.out.below st5).c1⟩
    clear hKr Kr
    try simp only [List.getElem_toArray, List.getElem_cons_zero, List.getElem_cons_succ, Act.put, List.setIfInBounds_toArray, List.set_cons_zero, List.set_cons_succ]
    replace Bd := hid (Bd.out.below st5)
    replace dw := dw.on st5
    replace HB := hid (HB.out.trans ((hd.trans (st5.mono hd.size)).mono HB.out.size))
    clear st5 hd
    refine wpAnyH_take (i := 7) (v := ?v7false) rfl (by kernel_rfl) (by kernel_rfl) (by kernel_rfl) (fun _ _ _ h => h) (Or.inl ⟨by rfl, ?y7false⟩) (by assumption) ?r7false
    case y7false => (intro w hSw; (try dsimp only at hSw); go_simp; try with_reducible rfl)
    try simp only [List.getElem_toArray, List.getElem_cons_zero, List.getElem_cons_succ, Act.put, List.setIfInBounds_toArray, List.set_cons_zero, List.set_cons_succ]
    refine wpAnyH_take (i := 8) (v := ?v8false) rfl (by kernel_rfl) (by kernel_rfl) (by kernel_rfl) (fun _ _ _ h => h) (Or.inl ⟨by rfl, ?y8false⟩) (by assumption) ?r8false
    case y8false => (intro w hSw; (try dsimp only at hSw); go_simp; try with_reducible rfl)
    try simp only [List.getElem_toArray, List.getElem_cons_zero, List.getElem_cons_succ, Act.put, List.setIfInBounds_toArray, List.set_cons_zero, List.set_cons_succ]
    refine wpAnyH_take (i := 9) (v := ?v9false) rfl (by kernel_rfl) (by kernel_rfl) (by kernel_rfl) (fun _ _ _ h => h) (Or.inl ⟨by rfl, ?y9false⟩) (by assumption) ?r9false
    case y9false => (intro w hSw; (try dsimp only at hSw); go_simp; try with_reducible rfl)
    try simp only [List.getElem_toArray, List.getElem_cons_zero, List.getElem_cons_succ, Act.put, List.setIfInBounds_toArray, List.set_cons_zero, List.set_cons_succ]
    refine wpAnyH_take (i := 10) (v := ?v10false) rfl (by kernel_rfl) (by kernel_rfl) (by kernel_rfl) (fun _ _ _ h => h) (Or.inl ⟨by rfl, ?y10false⟩) (by assumption) ?r10false
    case y10false => (intro w hSw; (try dsimp only at hSw); go_simp; try with_reducible rfl)
    try simp only [List.getElem_toArray, List.getElem_cons_zero, List.getElem_cons_succ, Act.put, List.setIfInBounds_toArray, List.set_cons_zero, List.set_cons_succ]
    refine wpAnyH_take (i := 11) (v := ?v11false) rfl (by kernel_rfl) (by kernel_rfl) (by kernel_rfl) (fun _ _ _ h => h) (Or.inl ⟨by rfl, ?y11false⟩) (by assumption) ?r11false
    case y11false => (intro w hSw; (try dsimp only at hSw); go_simp; try with_reducible rfl)
    try simp only [List.getElem_toArray, List.getElem_cons_zero, List.getElem_cons_succ, Act.put, List.setIfInBounds_toArray, List.set_cons_zero, List.set_cons_succ]
    refine wpAnyH_take (i := 12) (v := undef) rfl (by kernel_rfl) (by kernel_rfl) (by kernel_rfl) (fun _ _ _ h => h) (Or.inr ⟨by rfl, rfl⟩) (by assumption) ?_
    try simp only [List.getElem_toArray, List.getElem_cons_zero, List.getElem_cons_succ, Act.put, List.setIfInBounds_toArray, List.set_cons_zero, List.set_cons_succ]
    refine wpAnyH_take (i := 13) (v := undef) rfl (by kernel_rfl) (by kernel_rfl) (by kernel_rfl) (fun _ _ _ h => h) (Or.inr ⟨by rfl, rfl⟩) (by assumption) ?_
    try simp only [List.getElem_toArray, List.getElem_cons_zero, List.getElem_cons_succ, Act.put, List.setIfInBounds_toArray, List.set_cons_zero, List.set_cons_succ]
    refine wpAnyH_take (i := 14) (v := undef) rfl (by kernel_rfl) (by kernel_rfl) (by kernel_rfl) (fun _ _ _ h => h) (Or.inr ⟨by rfl, rfl⟩) (by assumption) ?_
    try simp only [List.getElem_toArray, List.getElem_cons_zero, List.getElem_cons_succ, Act.put, List.setIfInBounds_toArray, List.set_cons_zero, List.set_cons_succ]
    refine wpAnyH_take (i := 15) (v := undef) rfl (by kernel_rfl) (by kernel_rfl) (by kernel_rfl) (fun _ _ _ h => h) (Or.inr ⟨by rfl, rfl⟩) (by assumption) ?_
    try simp only [List.getElem_toArray, List.getElem_cons_zero, List.getElem_cons_succ, Act.put, List.setIfInBounds_toArray, List.set_cons_zero, List.set_cons_succ]
    refine wpAnyH_take (i := 16) (v := undef) rfl (by kernel_rfl) (by kernel_rfl) (by kernel_rfl) (fun _ _ _ h => h) (Or.inr ⟨by rfl, rfl⟩) (by assumption) ?_
    try simp only [List.getElem_toArray, List.getElem_cons_zero, List.getElem_cons_succ, Act.put, List.setIfInBounds_toArray, List.set_cons_zero, List.set_cons_succ]
    refine wpAnyH_take (i := 17) (v := undef) rfl (by kernel_rfl) (by kernel_rfl) (by kernel_rfl) (fun _ _ _ h => h) (Or.inr ⟨by rfl, rfl⟩) (by assumption) ?_
    try simp only [List.getElem_toArray, List.getElem_cons_zero, List.getElem_cons_succ, Act.put, List.setIfInBounds_toArray, List.set_cons_zero, List.set_cons_succ]
    refine wpAnyH_take (i := 18) (v := undef) rfl (by kernel_rfl) (by kernel_rfl) (by kernel_rfl) (fun _ _ _ h => h) (Or.inr ⟨by rfl, rfl⟩) (by assumption) ?_
    try simp only [List.getElem_toArray, List.getElem_cons_zero, List.getElem_cons_succ, Act.put, List.setIfInBounds_toArray, List.set_cons_zero, List.set_cons_succ]
    refine wpAnyH_take (i := 19) (v := undef) rfl (by kernel_rfl) (by kernel_rfl) (by kernel_rfl) (fun _ _ _ h => h) (Or.inr ⟨by rfl, rfl⟩) (by assumption) ?_
    try simp only [List.getElem_toArray, List.getElem_cons_zero, List.getElem_cons_succ, Act.put, List.setIfInBounds_toArray, List.set_cons_zero, List.set_cons_succ]
    refine wpAnyH_take (i := 20) (v := ?v20false) rfl (by kernel_rfl) (by kernel_rfl) (by kernel_rfl) (fun _ _ _ h => h) (Or.inl ⟨by rfl, ?y20false⟩) (by assumption) ?r20false
    case y20false => (intro w hSw; (try dsimp only at hSw); go_simp; try with_reducible rfl)
    try simp only [List.getElem_toArray, List.getElem_cons_zero, List.getElem_cons_succ, Act.put, List.setIfInBounds_toArray, List.set_cons_zero, List.set_cons_succ]
    refine wpAnyH_take (i := 21) (v := ?v21false) rfl (by kernel_rfl) (by kernel_rfl) (by kernel_rfl) (fun _ _ _ h => h) (Or.inl ⟨by rfl, ?y21false⟩) (by assumption) ?r21false
    case y21false => (intro w hSw; (try dsimp only at hSw); go_simp; try with_reducible rfl)
    try simp only [List.getElem_toArray, List.getElem_cons_zero, List.getElem_cons_succ, Act.put, List.setIfInBounds_toArray, List.set_cons_zero, List.set_cons_succ]
    refine wpAnyH_take (i := 22) (v := ?v22false) rfl (by kernel_rfl) (by kernel_rfl) (by kernel_rfl) (fun _ _ _ h => h) (Or.inl ⟨by rfl, ?y22false⟩) (by assumption) ?r22false
    case y22false => (intro w hSw; (try dsimp only at hSw); go_simp; try with_reducible rfl)
    try simp only [List.getElem_toArray, List.getElem_cons_zero, List.getElem_cons_succ, Act.put, List.setIfInBounds_toArray, List.set_cons_zero, List.set_cons_succ]
    refine wpAnyH_take (i := 23) (v := ?v23false) rfl (by kernel_rfl) (by kernel_rfl) (by kernel_rfl) (fun _ _ _ h => h) (Or.inl ⟨by rfl, ?y23false⟩) (by assumption) ?r23false
    case y23false => (intro w hSw; (try dsimp only at hSw); go_simp; try with_reducible rfl)
    try simp only [List.getElem_toArray, List.getElem_cons_zero, List.getElem_cons_succ, Act.put, List.setIfInBounds_toArray, List.set_cons_zero, List.set_cons_succ]
    refine wpAnyH_ready (rs := [24]) (by kernel_rfl) (by simp) ?_
    refine AllReadyH.cons rfl (fun Kr hKr => ?_) AllReadyH.nil
    go_simp
    (go_at_call 16; with_reducible refine Calls.mono (CN.out _) ?_; rintro e w8 ⟨rfl, st8⟩)
    try go_wp2_with fail
    refine hKr.out _ _ ?_ (fun hHeld => ?_)
    · go_split_ands
      exact ⟨(Bd.out.below st8).c0, (Bd.out.below st8).c1⟩
    clear hKr Kr
    try simp only [List.getElem_toArray, List.getElem_cons_zero, List.getElem_cons_succ, Act.put, List.setIfInBounds_toArray, List.set_cons_zero, List.set_cons_succ]
    replace Bd := hid (Bd.out.below st8)
    replace HB := hid (HB.out.trans (st8.mono HB.out.size))
    clear st8
    refine wpAnyH_take (i := 25) (v := ?v25false) rfl (by kernel_rfl) (by kernel_rfl) (by kernel_rfl) (fun _ _ _ h => h) (Or.inl ⟨by rfl, ?y25false⟩) (by assumption) ?r25false
    case y25false => (intro w hSw; (try dsimp only at hSw); go_simp; try with_reducible rfl)
    try simp only [List.getElem_toArray, List.getElem_cons_zero, List.getElem_cons_succ, Act.put, List.setIfInBounds_toArray, List.set_cons_zero, List.set_cons_succ]
    refine wpAnyH_take (i := 26) (v := ?v26false) rfl (by kernel_rfl) (by kernel_rfl) (by kernel_rfl) (fun _ _ _ h => h) (Or.inl ⟨by rfl, ?y26false⟩) (by assumption) ?r26false
    case y26false => (intro w hSw; (try dsimp only at hSw); go_simp; try with_reducible rfl)
    try simp only [List.getElem_toArray, List.getElem_cons_zero, List.getElem_cons_succ, Act.put, List.setIfInBounds_toArray, List.set_cons_zero, List.set_cons_succ]
    refine wpAnyH_take (i := 27) (v := ?v27false) rfl (by kernel_rfl) (by kernel_rfl) (by kernel_rfl) (fun _ _ _ h => h) (Or.inl ⟨by rfl, ?y27false⟩) (by assumption) ?r27false
    case y27false => (intro w hSw; (try dsimp only at hSw); go_simp; try with_reducible rfl)
    try simp only [List.getElem_toArray, List.getElem_cons_zero, List.getElem_cons_succ, Act.put, List.setIfInBounds_toArray, List.set_cons_zero, List.set_cons_succ]
    refine wpAnyH_ready (rs := [28]) (by kernel_rfl) (by simp) ?_
    refine AllReadyH.cons rfl (fun Kr hKr => ?_) AllReadyH.nil
    go_simp
    (go_at_call 18; refine Calls.mono (alive_any _) ?_; rintro e w9 ⟨rfl, st9⟩)
    try go_wp2_with fail
    refine hKr.out _ _ ?_ (fun hHeld => ?_)
    · go_split_ands
      exact ⟨(Bd.out.below st9).c0, (Bd.out.below st9).c1⟩
    clear hKr Kr
    try simp only [List.getElem_toArray, List.getElem_cons_zero, List.getElem_cons_succ, Act.put, List.setIfInBounds_toArray, List.set_cons_zero, List.set_cons_succ]
    replace HB := hid (HB.out.trans (st9.mono HB.out.size))
    clear st9
    refine wpAnyH_take (i := 29) (v := ?v29false) rfl (by kernel_rfl) (by kernel_rfl) (by kernel_rfl) (fun _ _ _ h => h) (Or.inl ⟨by rfl, ?y29false⟩) (by assumption) ?r29false
    case y29false => (intro w hSw; (try dsimp only at hSw); go_simp; try with_reducible rfl)
    try simp only [List.getElem_toArray, List.getElem_cons_zero, List.getElem_cons_succ, Act.put, List.setIfInBounds_toArray, List.set_cons_zero, List.set_cons_succ]
    refine wpAnyH_take (i := 30) (v := ?v30false) rfl (by kernel_rfl) (by kernel_rfl) (by kernel_rfl) (fun _ _ _ h => h) (Or.inl ⟨by rfl, ?y30false⟩) (by assumption) ?r30false
    case y30false => (intro w hSw; (try dsimp only at hSw); go_simp; try with_reducible rfl)
    try simp only [List.getElem_toArray, List.getElem_cons_zero, List.getElem_cons_succ, Act.put, List.setIfInBounds_toArray, List.set_cons_zero, List.set_cons_succ]
    refine wpAnyH_done (by kernel_rfl) ?_ _
    go_wp2
    go_ret
    exact ⟨rfl, HB.out⟩
  | true =>
    obtain ⟨hD1, hD2, _⟩ := ctrOk_iff.1 hok
    have CZ := hid (fun (W : World) (A3 : Option Addr) (c3 : Nat) (h1 : Sl W W.heap.size A1 n1 D) (h2 : Sl W W.heap.size A3 n1 (List.replicate n1 0)) => implCounterOk_any A1 n1 c1 A3 n1 c3 D (List.replicate n1 0) W h1 h2)
    have hz := ctrOk_zero hok
    rw [yD] at hz hD1
    rw [hz] at CZ
    have hmk := fun W => run_make_row' (P := Try.prog) 23 3 (.int .i64 0) 8 Try.underlying23 info_int rfl .i64 .i64 n1 (by omega) (by omega) W
    clear hz
    rw [hok] at CI CS CW
    clear hok
    go_wp2_with fail
    clear cc0 cc1
    with_reducible refine Calls.mono (CI.out _ (Sl.of_own oc.d) (Sl.of_own oc.e)) ?_
    rintro e w3 ⟨rfl, st3⟩
    replace oc := oc.on st3
    replace Bc := hid (Bc.out.below st3)
    have z3 := st3.size
    replace HB := hid (HB.out.trans (st3.mono HB.out.size))
    clear st3
    have cc0 := Bc.out.c0
    have cc1 := Bc.out.c1
    go_wp2_with fail
    clear cc0 cc1
    with_reducible refine Calls.mono (CS.out _ (Sl.of_own oc.d) (Sl.of_own oc.e)) ?_
    rintro e w4 ⟨rfl, st4⟩
    replace st4 := below_grown st4
    replace oc := oc.on st4
    replace Bc := hid (Bc.out.below st4)
    have z4 := st4.size
    replace HB := hid (HB.out.trans (st4.mono HB.out.size))
    clear st4
    have cc0 := Bc.out.c0
    have cc1 := Bc.out.c1
    go_wp2_with fail
    have hd : Below w4.heap.size w4 w4.drew := (Below.refl _ _).drew
    have dw := oc.on hd
    have Bd := hid (Bc.out.below hd)
    refine wp_region_held_drew (S := (fun w' => w'.cell? ⟨bc, 0, none⟩ = some (.slice A1 n1 c1) ∧ w'.cell? ⟨bc, 1, none⟩ = some (.slice A2 n2 c2))) (by kernel_rfl) (by go_keep) (fun hHeld => ?_)
    refine wpAnyH_take (i := 0) (v := ?v0true) rfl (by kernel_rfl) (by kernel_rfl) (by kernel_rfl) (fun _ _ _ h => h) (Or.inl ⟨by rfl, ?y0true⟩) (by assumption) ?r0true
    case y0true => (intro w hSw; (try dsimp only at hSw); go_simp; try with_reducible rfl)
    try simp only [List.getElem_toArray, List.getElem_cons_zero, List.getElem_cons_succ, Act.put, List.setIfInBounds_toArray, List.set_cons_zero, List.set_cons_succ]
    refine wpAnyH_take (i := 1) (v := ?v1true) rfl (by kernel_rfl) (by kernel_rfl) (by kernel_rfl) (fun _ _ _ h => h) (Or.inl ⟨by rfl, ?y1true⟩) (by assumption) ?r1true
    case y1true => (intro w hSw; (try dsimp only at hSw); go_simp; try with_reducible rfl)
    try simp only [List.getElem_toArray, List.getElem_cons_zero, List.getElem_cons_succ, Act.put, List.setIfInBounds_toArray, List.set_cons_zero, List.set_cons_succ]
    refine wpAnyH_take (i := 2) (v := ?v2true) rfl (by kernel_rfl) (by kernel_rfl) (by kernel_rfl) (fun _ _ _ h => h) (Or.inl ⟨by rfl, ?y2true⟩) (by assumption) ?r2true
    case y2true => (intro w hSw; (try dsimp only at hSw); go_simp; try with_reducible rfl)
    try simp only [List.getElem_toArray, List.getElem_cons_zero, List.getElem_cons_succ, Act.put, List.setIfInBounds_toArray, List.set_cons_zero, List.set_cons_succ]
    refine wpAnyH_take (i := 3) (v := ?v3true) rfl (by kernel_rfl) (by kernel_rfl) (by kernel_rfl) (fun _ _ _ h => h) (Or.inl ⟨by rfl, ?y3true⟩) (by assumption) ?r3true
    case y3true => (intro w hSw; (try dsimp only at hSw); go_simp; try with_reducible rfl)
    try simp only [List.getElem_toArray, List.getElem_cons_zero, List.getElem_cons_succ, Act.put, List.setIfInBounds_toArray, List.set_cons_zero, List.set_cons_succ]
    refine wpAnyH_take (i := 4) (v := ?v4true) rfl (by kernel_rfl) (by kernel_rfl) (by kernel_rfl) (fun _ _ _ h => h) (Or.inl ⟨by rfl, ?y4true⟩) (by assumption) ?r4true
    case y4true => (intro w hSw; (try dsimp only at hSw); go_simp; try with_reducible rfl)
    try simp only [List.getElem_toArray, List.getElem_cons_zero, List.getElem_cons_succ, Act.put, List.setIfInBounds_toArray, List.set_cons_zero, List.set_cons_succ]
    refine wpAnyH_take (i := 6) (v := ?v6true) rfl (by kernel_rfl) (by kernel_rfl) (by kernel_rfl) (fun _ _ _ h => h) (Or.inl ⟨by rfl, ?y6true⟩) (by assumption) ?r6true
    case y6true => (intro w hSw; (try dsimp only at hSw); go_simp; try with_reducible rfl)
    try simp only [List.getElem_toArray, List.getElem_cons_zero, List.getElem_cons_succ, Act.put, List.setIfInBounds_toArray, List.set_cons_zero, List.set_cons_succ]
    refine wpAnyH_ready (rs := [5]) (by kernel_rfl) (by simp) ?_
    refine AllReadyH.cons rfl (fun Kr hKr => ?_) AllReadyH.nil
    go_simp
    (go_at_call 16; with_reducible refine Calls.mono (CW.out _ (Sl.of_own dw.d) (Sl.of_own dw.e)) ?_; rintro e w5 ⟨rfl, st5⟩)
    try go_wp2_with fail
    refine hKr.out _ _ ?_ (fun hHeld => ?_)
    · go_split_ands
      exact ⟨(Bd.out.below st5).c0, (Bd.out.below st5).c1⟩
    clear hKr Kr
    try simp only [List.getElem_toArray, List.getElem_cons_zero, List.getElem_cons_succ, Act.put, List.setIfInBounds_toArray, List.set_cons_zero, List.set_cons_succ]
    replace Bd := hid (Bd.out.below st5)
    replace dw := dw.on st5
    replace HB := hid (HB.out.trans ((hd.trans (st5.mono hd.size)).mono HB.out.size))
    clear st5 hd
    refine wpAnyH_take (i := 7) (v := ?v7true) rfl (by kernel_rfl) (by kernel_rfl) (by kernel_rfl) (fun _ _ _ h => h) (Or.inl ⟨by rfl, ?y7true⟩) (by assumption) ?r7true
    case y7true => (intro w hSw; (try dsimp only at hSw); go_simp; try with_reducible rfl)
    try simp only [List.getElem_toArray, List.getElem_cons_zero, List.getElem_cons_succ, Act.put, List.setIfInBounds_toArray, List.set_cons_zero, List.set_cons_succ]
    refine wpAnyH_take (i := 8) (v := ?v8true) rfl (by kernel_rfl) (by kernel_rfl) (by kernel_rfl) (fun _ _ _ h => h) (Or.inl ⟨by rfl, ?y8true⟩) (by assumption) ?r8true
    case y8true => (intro w hSw; (try dsimp only at hSw); go_simp; try with_reducible rfl)
    try simp only [List.getElem_toArray, List.getElem_cons_zero, List.getElem_cons_succ, Act.put, List.setIfInBounds_toArray, List.set_cons_zero, List.set_cons_succ]
    refine wpAnyH_take (i := 9) (v := ?v9true) rfl (by kernel_rfl) (by kernel_rfl) (by kernel_rfl) (fun _ _ _ h => h) (Or.inl ⟨by rfl, ?y9true⟩) (by assumption) ?r9true
    case y9true => (intro w hSw; (try dsimp only at hSw); go_simp; try with_reducible rfl)
    try simp only [List.getElem_toArray, List.getElem_cons_zero, List.getElem_cons_succ, Act.put, List.setIfInBounds_toArray, List.set_cons_zero, List.set_cons_succ]
    refine wpAnyH_take (i := 10) (v := ?v10true) rfl (by kernel_rfl) (by kernel_rfl) (by kernel_rfl) (fun _ _ _ h => h) (Or.inl ⟨by rfl, ?y10true⟩) (by assumption) ?r10true
    case y10true => (intro w hSw; (try dsimp only at hSw); go_simp; try with_reducible rfl)
    try simp only [List.getElem_toArray, List.getElem_cons_zero, List.getElem_cons_succ, Act.put, List.setIfInBounds_toArray, List.set_cons_zero, List.set_cons_succ]
    refine wpAnyH_take (i := 11) (v := ?v11true) rfl (by kernel_rfl) (by kernel_rfl) (by kernel_rfl) (fun _ _ _ h => h) (Or.inl ⟨by rfl, ?y11true⟩) (by assumption) ?r11true
    case y11true => (intro w hSw; (try dsimp only at hSw); go_simp; try with_reducible rfl)
    try simp only [List.getElem_toArray, List.getElem_cons_zero, List.getElem_cons_succ, Act.put, List.setIfInBounds_toArray, List.set_cons_zero, List.set_cons_succ]
    refine wpAnyH_take (i := 12) (v := ?v12true) rfl (by kernel_rfl) (by kernel_rfl) (by kernel_rfl) (fun _ _ _ h => h) (Or.inl ⟨by rfl, ?y12true⟩) (by assumption) ?r12true
    case y12true => (intro w hSw; (try dsimp only at hSw); go_simp; try with_reducible rfl)
    try simp only [List.getElem_toArray, List.getElem_cons_zero, List.getElem_cons_succ, Act.put, List.setIfInBounds_toArray, List.set_cons_zero, List.set_cons_succ]
    refine wpAnyH_take (i := 13) (v := ?v13true) rfl (by kernel_rfl) (by kernel_rfl) (by kernel_rfl) (fun _ _ _ h => h) (Or.inl ⟨by rfl, ?y13true⟩) (by assumption) ?r13true
    case y13true => (intro w hSw; (try dsimp only at hSw); go_simp; try with_reducible rfl)
    try simp only [List.getElem_toArray, List.getElem_cons_zero, List.getElem_cons_succ, Act.put, List.setIfInBounds_toArray, List.set_cons_zero, List.set_cons_succ]
    refine wpAnyH_take (i := 14) (v := ?v14true) rfl (by kernel_rfl) (by kernel_rfl) (by kernel_rfl) (fun _ _ _ h => h) (Or.inl ⟨by rfl, ?y14true⟩) (by assumption) ?r14true
    case y14true => (intro w hSw; (try dsimp only at hSw); go_simp; try with_reducible rfl)
    try simp only [List.getElem_toArray, List.getElem_cons_zero, List.getElem_cons_succ, Act.put, List.setIfInBounds_toArray, List.set_cons_zero, List.set_cons_succ]
    refine wpAnyH_take (i := 15) (v := ?v15true) rfl (by kernel_rfl) (by kernel_rfl) (by kernel_rfl) (fun _ _ _ h => h) (Or.inl ⟨by rfl, ?y15true⟩) (by assumption) ?r15true
    case y15true => (intro w hSw; (try dsimp only at hSw); go_simp; try with_reducible rfl)
    try simp only [List.getElem_toArray, List.getElem_cons_zero, List.getElem_cons_succ, Act.put, List.setIfInBounds_toArray, List.set_cons_zero, List.set_cons_succ]
    refine wpAnyH_take (i := 16) (v := ?v16true) rfl (by kernel_rfl) (by kernel_rfl) (by kernel_rfl) (fun _ _ _ h => h) (Or.inl ⟨by rfl, ?y16true⟩) (by assumption) ?r16true
    case y16true => (intro w hSw; (try dsimp only at hSw); go_simp; try with_reducible rfl)
    try simp only [List.getElem_toArray, List.getElem_cons_zero, List.getElem_cons_succ, Act.put, List.setIfInBounds_toArray, List.set_cons_zero, List.set_cons_succ]
    have hz5 : (w5.alloc (.cells (madeCells #[.int .i64 0] n1) 3)).heap.size = w5.heap.size + 1 := by simp
    have st6 := (Below.refl w5.heap.size w5).alloc (Nat.le_refl _) (.cells (madeCells #[.int .i64 0] n1) 3)
    have o6 := own_zeros (heap_alloc_new w5 (.cells (madeCells #[.int .i64 0] n1) 3)) (Nat.le_refl _) (show n1 ≤ 1000000 by omega)
    obtain ⟨w6, e6⟩ : ∃ W, w5.alloc (.cells (madeCells #[.int .i64 0] n1) 3) = W := ⟨_, rfl⟩
    rw [e6] at st6 o6 hz5
    refine wpAnyH_ready (rs := [17]) (by kernel_rfl) (by simp) ?_
    refine AllReadyH.cons rfl (fun Kr hKr => ?_) AllReadyH.nil
    go_simp
    skip
    try go_wp2_with fail
    refine hKr.out _ _ ?_ (fun hHeld => ?_)
    · go_split_ands
      exact ⟨(Bd.out.below st6).c0, (Bd.out.below st6).c1⟩
    clear hKr Kr
    try simp only [List.getElem_toArray, List.getElem_cons_zero, List.getElem_cons_succ, Act.put, List.setIfInBounds_toArray, List.set_cons_zero, List.set_cons_succ]
    replace Bd := hid (Bd.out.below st6)
    replace dw := dw.on st6
    replace HB := hid (HB.out.trans (st6.mono HB.out.size))
    clear st6
    refine wpAnyH_take (i := 18) (v := ?v18true) rfl (by kernel_rfl) (by kernel_rfl) (by kernel_rfl) (fun _ _ _ h => h) (Or.inl ⟨by rfl, ?y18true⟩) (by assumption) ?r18true
    case y18true => (intro w hSw; (try dsimp only at hSw); go_simp; try with_reducible rfl)
    try simp only [List.getElem_toArray, List.getElem_cons_zero, List.getElem_cons_succ, Act.put, List.setIfInBounds_toArray, List.set_cons_zero, List.set_cons_succ]
    refine wpAnyH_ready (rs := [19]) (by kernel_rfl) (by simp) ?_
    refine AllReadyH.cons rfl (fun Kr hKr => ?_) AllReadyH.nil
    go_simp
    (go_at_call 16; with_reducible refine Calls.mono (CZ.out _ _ _ (Sl.of_own dw.d) (Sl.of_own o6)) ?_; rintro e w7 ⟨rfl, st7⟩)
    try go_wp2_with fail
    refine hKr.out _ _ ?_ (fun hHeld => ?_)
    · go_split_ands
      exact ⟨(Bd.out.below st7).c0, (Bd.out.below st7).c1⟩
    clear hKr Kr
    try simp only [List.getElem_toArray, List.getElem_cons_zero, List.getElem_cons_succ, Act.put, List.setIfInBounds_toArray, List.set_cons_zero, List.set_cons_succ]
    replace Bd := hid (Bd.out.below st7)
    replace HB := hid (HB.out.trans (st7.mono HB.out.size))
    clear st7 o6
    refine wpAnyH_take (i := 20) (v := ?v20true) rfl (by kernel_rfl) (by kernel_rfl) (by kernel_rfl) (fun _ _ _ h => h) (Or.inl ⟨by rfl, ?y20true⟩) (by assumption) ?r20true
    case y20true => (intro w hSw; (try dsimp only at hSw); go_simp; try with_reducible rfl)
    try simp only [List.getElem_toArray, List.getElem_cons_zero, List.getElem_cons_succ, Act.put, List.setIfInBounds_toArray, List.set_cons_zero, List.set_cons_succ]
    refine wpAnyH_take (i := 21) (v := ?v21true) rfl (by kernel_rfl) (by kernel_rfl) (by kernel_rfl) (fun _ _ _ h => h) (Or.inl ⟨by rfl, ?y21true⟩) (by assumption) ?r21true
    case y21true => (intro w hSw; (try dsimp only at hSw); go_simp; try with_reducible rfl)
    try simp only [List.getElem_toArray, List.getElem_cons_zero, List.getElem_cons_succ, Act.put, List.setIfInBounds_toArray, List.set_cons_zero, List.set_cons_succ]
    refine wpAnyH_take (i := 22) (v := ?v22true) rfl (by kernel_rfl) (by kernel_rfl) (by kernel_rfl) (fun _ _ _ h => h) (Or.inl ⟨by rfl, ?y22true⟩) (by assumption) ?r22true
    case y22true => (intro w hSw; (try dsimp only at hSw); go_simp; try with_reducible rfl)
    try simp only [List.getElem_toArray, List.getElem_cons_zero, List.getElem_cons_succ, Act.put, List.setIfInBounds_toArray, List.set_cons_zero, List.set_cons_succ]
    refine wpAnyH_take (i := 23) (v := ?v23true) rfl (by kernel_rfl) (by kernel_rfl) (by kernel_rfl) (fun _ _ _ h => h) (Or.inl ⟨by rfl, ?y23true⟩) (by assumption) ?r23true
    case y23true => (intro w hSw; (try dsimp only at hSw); go_simp; try with_reducible rfl)
    try simp only [List.getElem_toArray, List.getElem_cons_zero, List.getElem_cons_succ, Act.put, List.setIfInBounds_toArray, List.set_cons_zero, List.set_cons_succ]
    refine wpAnyH_ready (rs := [24]) (by kernel_rfl) (by simp) ?_
    refine AllReadyH.cons rfl (fun Kr hKr => ?_) AllReadyH.nil
    go_simp
    (go_at_call 16; with_reducible refine Calls.mono (CN.out _) ?_; rintro e w8 ⟨rfl, st8⟩)
    try go_wp2_with fail
    refine hKr.out _ _ ?_ (fun hHeld => ?_)
    · go_split_ands
      exact ⟨(Bd.out.below st8).c0, (Bd.out.below st8).c1⟩
    clear hKr Kr
    try simp only [List.getElem_toArray, List.getElem_cons_zero, List.getElem_cons_succ, Act.put, List.setIfInBounds_toArray, List.set_cons_zero, List.set_cons_succ]
    replace Bd := hid (Bd.out.below st8)
    replace HB := hid (HB.out.trans (st8.mono HB.out.size))
    clear st8
    refine wpAnyH_take (i := 25) (v := ?v25true) rfl (by kernel_rfl) (by kernel_rfl) (by kernel_rfl) (fun _ _ _ h => h) (Or.inl ⟨by rfl, ?y25true⟩) (by assumption) ?r25true
    case y25true => (intro w hSw; (try dsimp only at hSw); go_simp; try with_reducible rfl)
    try simp only [List.getElem_toArray, List.getElem_cons_zero, List.getElem_cons_succ, Act.put, List.setIfInBounds_toArray, List.set_cons_zero, List.set_cons_succ]
    refine wpAnyH_take (i := 26) (v := ?v26true) rfl (by kernel_rfl) (by kernel_rfl) (by kernel_rfl) (fun _ _ _ h => h) (Or.inl ⟨by rfl, ?y26true⟩) (by assumption) ?r26true
    case y26true => (intro w hSw; (try dsimp only at hSw); go_simp; try with_reducible rfl)
    try simp only [List.getElem_toArray, List.getElem_cons_zero, List.getElem_cons_succ, Act.put, List.setIfInBounds_toArray, List.set_cons_zero, List.set_cons_succ]
    refine wpAnyH_take (i := 27) (v := ?v27true) rfl (by kernel_rfl) (by kernel_rfl) (by kernel_rfl) (fun _ _ _ h => h) (Or.inl ⟨by rfl, ?y27true⟩) (by assumption) ?r27true
    case y27true => (intro w hSw; (try dsimp only at hSw); go_simp; try with_reducible rfl)
    try simp only [List.getElem_toArray, List.getElem_cons_zero, List.getElem_cons_succ, Act.put, List.setIfInBounds_toArray, List.set_cons_zero, List.set_cons_succ]
    refine wpAnyH_ready (rs := [28]) (by kernel_rfl) (by simp) ?_
    refine AllReadyH.cons rfl (fun Kr hKr => ?_) AllReadyH.nil
    go_simp
    (go_at_call 18; refine Calls.mono (alive_any _) ?_; rintro e w9 ⟨rfl, st9⟩)
    try go_wp2_with fail
    refine hKr.out _ _ ?_ (fun hHeld => ?_)
    · go_split_ands
      exact ⟨(Bd.out.below st9).c0, (Bd.out.below st9).c1⟩
    clear hKr Kr
    try simp only [List.getElem_toArray, List.getElem_cons_zero, List.getElem_cons_succ, Act.put, List.setIfInBounds_toArray, List.set_cons_zero, List.set_cons_succ]
    replace HB := hid (HB.out.trans (st9.mono HB.out.size))
    clear st9
    refine wpAnyH_take (i := 29) (v := ?v29true) rfl (by kernel_rfl) (by kernel_rfl) (by kernel_rfl) (fun _ _ _ h => h) (Or.inl ⟨by rfl, ?y29true⟩) (by assumption) ?r29true
    case y29true => (intro w hSw; (try dsimp only at hSw); go_simp; try with_reducible rfl)
    try simp only [List.getElem_toArray, List.getElem_cons_zero, List.getElem_cons_succ, Act.put, List.setIfInBounds_toArray, List.set_cons_zero, List.set_cons_succ]
    refine wpAnyH_take (i := 30) (v := ?v30true) rfl (by kernel_rfl) (by kernel_rfl) (by kernel_rfl) (fun _ _ _ h => h) (Or.inl ⟨by rfl, ?y30true⟩) (by assumption) ?r30true
    case y30true => (intro w hSw; (try dsimp only at hSw); go_simp; try with_reducible rfl)
    try simp only [List.getElem_toArray, List.getElem_cons_zero, List.getElem_cons_succ, Act.put, List.setIfInBounds_toArray, List.set_cons_zero, List.set_cons_succ]
    refine wpAnyH_done (by kernel_rfl) ?_ _
    go_wp2
    go_ret
    exact ⟨rfl, HB.out⟩
end Go.Proofs.Ytdacjpaaffpfgaa
