/-
  The walk of laws.FnTickOf, written by program (law6.py). No statement is proved here.
-/
import Derived.Test.YtdacjpaaffpfgaaC6i
import Derived.Test.YtdacjpaaffpfgaaC6t
import Derived.Test.YtdacjpaaffpfgaaDrT
import Derived.Test.YtdacjpaaffpfgaaS6b
import Derived.Test.YtdacjpaaffpfgaaExC
import Derived.Test.YtdacjpaaffpfgaaC1a
import Derived.Deep.RegionHeld3
import Derived.IntWalk
namespace Go.Proofs.Ytdacjpaaffpfgaa
open Go.RowKit
set_option linter.unusedVariables false
set_option linter.unusedSimpArgs false

set_option maxRecDepth 100000 in
set_option maxHeartbeats 6400000 in
theorem fnTickOf_walk (A : Option Addr) (n c : Nat) (w : World) (hs : By w w.heap.size A n) (hc : n ≤ c) :
    Calls Try.prog 5 #[.slice A n c] w fun e w' => e = .returned (.bool true) ∧ Below w.heap.size w w' := by
  have hm : n ≤ 9223372036854775807 := hs.1
  by_cases hbig : 1048576 < n
  · go_enter Try.func5, Try.ntmps5
    go_wp2
    go_ret
    exact ⟨rfl, Below.refl _ _⟩
  go_enter Try.func5, Try.ntmps5
  go_wp2_with fail
  refine (drawTickOf_any A n c _ hs hc).mono ?_
  rintro e w1 ⟨A1, n1, c1, A2, n2, c2, D, C, t, rfl, oc, hn1, hn2, hb1⟩
  have HB := hid hb1
  have z1 := hb1.size
  clear hs hc hb1 hbig hm
  replace oc := oc.mono (Nat.zero_le _)
  have yD := oc.lenD
  have yC := oc.lenC
  have hM1 : n1 ≤ 9223372036854775807 := (Sl.of_own oc.d).max
  have hM2 : n2 ≤ 9223372036854775807 := (Sl.of_own oc.e).max
  have st2 := (Below.refl w1.heap.size w1).alloc (Nat.le_refl _) (.cells #[.slice A1 n1 c1, .slice A2 n2 c2] 25)
  have Xc := Bt.new w1 25 (.slice A1 n1 c1) (.slice A2 n2 c2)
  obtain ⟨bc, hbc⟩ : ∃ q, w1.heap.size = q := ⟨_, rfl⟩
  rw [hbc] at Xc
  obtain ⟨w2, e2⟩ : ∃ W, w1.alloc (.cells #[.slice A1 n1 c1, .slice A2 n2 c2] 25) = W := ⟨_, rfl⟩
  rw [e2] at Xc st2
  have Bc := hid Xc
  clear Xc
  replace oc := oc.on st2
  have z2 := st2.size
  replace HB := hid (HB.out.trans (st2.mono HB.out.size))
  clear st2
  have cc0 := Bc.out.c0
  have cc1 := Bc.out.c1
  have CI := hid (fun (W : World) (h1 : Sl W W.heap.size A1 n1 D) (h2 : Sl W W.heap.size A2 n2 C) => implTickOf_any A1 n1 c1 A2 n2 c2 D C t W h1 h2)
  have CS := hid (fun (W : World) (h1 : Sl W W.heap.size A1 n1 D) (h2 : Sl W W.heap.size A2 n2 C) => specTickOf_any A1 n1 c1 A2 n2 c2 D C t W h1 h2)
  cases hok : ctrOk D C with
  | false =>
    have hz : tickD D C t = [] ∧ tickC D C t = [] := by unfold tickD tickC; rw [hok]; exact ⟨rfl, rfl⟩
    rw [hok, hz.1, hz.2] at CI CS
    clear hok hz
    go_wp2_with fail
    clear cc0 cc1
    with_reducible refine Calls.mono (CI.out _ (Sl.of_own oc.d) (Sl.of_own oc.e)) ?_
    rintro e w3 ⟨Ad, nd, cd, Ed, md, dd, rfl, od, st3⟩
    replace od := od.mono (Nat.zero_le _)
    replace oc := oc.on st3
    replace Bc := hid (Bc.out.below st3)
    have z3 := st3.size
    replace HB := hid (HB.out.trans (st3.mono HB.out.size))
    clear st3
    have cc0 := Bc.out.c0
    have cc1 := Bc.out.c1
    have yd := od.lenD
    have xd := od.lenC
    clear cc0 cc1
    have st4 := (Below.refl w3.heap.size w3).alloc (Nat.le_refl _) (.cells #[.slice Ad nd cd, .slice Ed md dd] 25)
    have Xd := Bt.new w3 25 (.slice Ad nd cd) (.slice Ed md dd)
    obtain ⟨bd, hbd⟩ : ∃ q, w3.heap.size = q := ⟨_, rfl⟩
    rw [hbd] at Xd
    obtain ⟨w4, e4⟩ : ∃ W, w3.alloc (.cells #[.slice Ad nd cd, .slice Ed md dd] 25) = W := ⟨_, rfl⟩
    rw [e4] at Xd st4
    have Bd := hid Xd
    clear Xd
    replace oc := oc.on st4
    replace od := od.on st4
    replace Bc := hid (Bc.out.below st4)
    have z4 := st4.size
    replace HB := hid (HB.out.trans (st4.mono HB.out.size))
    clear st4
    have cc0 := Bc.out.c0
    have cc1 := Bc.out.c1
    have dc0 := Bd.out.c0
    have dc1 := Bd.out.c1
    go_wp2_with fail
    clear cc0 cc1 dc0 dc1
    with_reducible refine Calls.mono (CS.out _ (Sl.of_own oc.d) (Sl.of_own oc.e)) ?_
    rintro e w5 ⟨Ax, nx, cx, Ex, mx, dx, rfl, ox, st5⟩
    replace ox := ox.mono (Nat.zero_le _)
    replace oc := oc.on st5
    replace od := od.on st5
    replace Bc := hid (Bc.out.below st5)
    replace Bd := hid (Bd.out.below st5)
    have z5 := st5.size
    replace HB := hid (HB.out.trans (st5.mono HB.out.size))
    clear st5
    have cc0 := Bc.out.c0
    have cc1 := Bc.out.c1
    have dc0 := Bd.out.c0
    have dc1 := Bd.out.c1
    have yx := ox.lenD
    have xx := ox.lenC
    clear cc0 cc1 dc0 dc1
    have st6 := (Below.refl w5.heap.size w5).alloc (Nat.le_refl _) (.cells #[.slice Ax nx cx, .slice Ex mx dx] 25)
    have Xx := Bt.new w5 25 (.slice Ax nx cx) (.slice Ex mx dx)
    obtain ⟨bx, hbx⟩ : ∃ q, w5.heap.size = q := ⟨_, rfl⟩
    rw [hbx] at Xx
    obtain ⟨w6, e6⟩ : ∃ W, w5.alloc (.cells #[.slice Ax nx cx, .slice Ex mx dx] 25) = W := ⟨_, rfl⟩
    rw [e6] at Xx st6
    have Bx := hid Xx
    clear Xx
    replace oc := oc.on st6
    replace od := od.on st6
    replace ox := ox.on st6
    replace Bc := hid (Bc.out.below st6)
    replace Bd := hid (Bd.out.below st6)
    have z6 := st6.size
    replace HB := hid (HB.out.trans (st6.mono HB.out.size))
    clear st6
    have cc0 := Bc.out.c0
    have cc1 := Bc.out.c1
    have dc0 := Bd.out.c0
    have dc1 := Bd.out.c1
    have xc0 := Bx.out.c0
    have xc1 := Bx.out.c1
    go_wp2_with fail
    clear cc0 cc1 dc0 dc1 xc0 xc1
    refine (sameCounter_same _ _ _ _ _ _ _ _ _ _ _ _ _ _ _ _ _ od ox).mono ?_
    rintro e w7 ⟨rfl, st7⟩
    replace oc := oc.on st7
    replace od := od.on st7
    replace ox := ox.on st7
    replace Bc := hid (Bc.out.below st7)
    replace Bd := hid (Bd.out.below st7)
    replace Bx := hid (Bx.out.below st7)
    have z7 := st7.size
    replace HB := hid (HB.out.trans (st7.mono HB.out.size))
    clear st7
    have cc0 := Bc.out.c0
    have cc1 := Bc.out.c1
    have dc0 := Bd.out.c0
    have dc1 := Bd.out.c1
    have xc0 := Bx.out.c0
    have xc1 := Bx.out.c1
    go_wp2_with fail
    clear cc0 cc1 dc0 dc1 xc0 xc1
    refine (sameCounter_same _ _ _ _ _ _ _ _ _ _ _ _ _ _ _ _ _ od (Ctr.none _ 0)).mono ?_
    rintro e w8 ⟨rfl, st8⟩
    replace oc := oc.on st8
    replace od := od.on st8
    replace ox := ox.on st8
    replace Bc := hid (Bc.out.below st8)
    replace Bd := hid (Bd.out.below st8)
    replace Bx := hid (Bx.out.below st8)
    have z8 := st8.size
    replace HB := hid (HB.out.trans (st8.mono HB.out.size))
    clear st8
    have cc0 := Bc.out.c0
    have cc1 := Bc.out.c1
    have dc0 := Bd.out.c0
    have dc1 := Bd.out.c1
    have xc0 := Bx.out.c0
    have xc1 := Bx.out.c1
    go_wp2_with fail
    clear cc0 cc1 dc0 dc1 xc0 xc1
    refine (alive_any _).mono ?_
    rintro e w9 ⟨rfl, st9⟩
    replace oc := oc.on st9
    replace od := od.on st9
    replace ox := ox.on st9
    replace Bc := hid (Bc.out.below st9)
    replace Bd := hid (Bd.out.below st9)
    replace Bx := hid (Bx.out.below st9)
    have z9 := st9.size
    replace HB := hid (HB.out.trans (st9.mono HB.out.size))
    clear st9
    have cc0 := Bc.out.c0
    have cc1 := Bc.out.c1
    have dc0 := Bd.out.c0
    have dc1 := Bd.out.c1
    have xc0 := Bx.out.c0
    have xc1 := Bx.out.c1
    go_wp2
    go_ret
    exact ⟨rfl, HB.out⟩
  | true =>
    obtain ⟨q1, q2, q3⟩ := tick_law hok t
    obtain ⟨t0, t1, _⟩ := told_law hok
    obtain ⟨hD1, hD2, _⟩ := ctrOk_iff.1 hok
    rw [yD] at q2 q3 t1 hD1
    rw [yD, yC] at hD2
    obtain rfl : n2 = n1 := hD2
    obtain ⟨TD, hTD⟩ : ∃ l, tickD D C t = l := ⟨_, rfl⟩
    obtain ⟨TC, hTC⟩ : ∃ l, tickC D C t = l := ⟨_, rfl⟩
    rw [hTD, hTC] at CI CS q1 q2
    clear hTD hTC
    have CU := hid (fun (W : World) (h1 : Sl W W.heap.size A1 n2 D) (h2 : Sl W W.heap.size A2 n2 C) => implToldBy_any A1 n2 c1 A2 n2 c2 D C W h1 h2)
    rw [hok] at CI CS
    obtain ⟨N, rfl⟩ : ∃ N, n2 = N + 1 := ⟨n2 - 1, by omega⟩
    obtain ⟨T, hT⟩ : ∃ T, toldC D C = T := ⟨_, rfl⟩
    obtain ⟨V, hV⟩ : ∃ V, nth C N = V := ⟨_, rfl⟩
    rw [Nat.add_sub_cancel] at q2 q3
    rw [hV] at q2 q3
    rw [hT] at CU q2 t0 t1
    clear hok hT
    have hp := pow_le8 (show N + 1 ≤ 8 by omega)
    have x1 := bit_pow q3 (show N + 1 ≤ 8 by omega)
    obtain ⟨X, hX⟩ : ∃ X, V * 2 ^ (N + 1) = X := ⟨_, rfl⟩
    rw [hX] at x1 q2
    obtain ⟨g2, k2, hv2, hb2, hb3⟩ := own_shape oc.e
    injection hv2 with e21 e22 e23
    subst e21
    subst e23
    have tb : T ≤ 510 := by omega
    clear hb2 hb3 e22 t1
    go_wp2_with fail
    clear cc0 cc1
    with_reducible refine Calls.mono (CI.out _ (Sl.of_own oc.d) (Sl.of_own oc.e)) ?_
    rintro e w3 ⟨Ad, nd, cd, Ed, md, dd, rfl, od, st3⟩
    replace od := od.mono (Nat.zero_le _)
    replace oc := oc.on st3
    replace Bc := hid (Bc.out.below st3)
    have z3 := st3.size
    replace HB := hid (HB.out.trans (st3.mono HB.out.size))
    clear st3
    have cc0 := Bc.out.c0
    have cc1 := Bc.out.c1
    have yd := od.lenD
    have xd := od.lenC
    clear cc0 cc1
    have st4 := (Below.refl w3.heap.size w3).alloc (Nat.le_refl _) (.cells #[.slice Ad nd cd, .slice Ed md dd] 25)
    have Xd := Bt.new w3 25 (.slice Ad nd cd) (.slice Ed md dd)
    obtain ⟨bd, hbd⟩ : ∃ q, w3.heap.size = q := ⟨_, rfl⟩
    rw [hbd] at Xd
    obtain ⟨w4, e4⟩ : ∃ W, w3.alloc (.cells #[.slice Ad nd cd, .slice Ed md dd] 25) = W := ⟨_, rfl⟩
    rw [e4] at Xd st4
    have Bd := hid Xd
    clear Xd
    replace oc := oc.on st4
    replace od := od.on st4
    replace Bc := hid (Bc.out.below st4)
    have z4 := st4.size
    replace HB := hid (HB.out.trans (st4.mono HB.out.size))
    clear st4
    have cc0 := Bc.out.c0
    have cc1 := Bc.out.c1
    have dc0 := Bd.out.c0
    have dc1 := Bd.out.c1
    go_wp2_with fail
    clear cc0 cc1 dc0 dc1
    with_reducible refine Calls.mono (CS.out _ (Sl.of_own oc.d) (Sl.of_own oc.e)) ?_
    rintro e w5 ⟨Ax, nx, cx, Ex, mx, dx, rfl, ox, st5⟩
    replace ox := ox.mono (Nat.zero_le _)
    replace oc := oc.on st5
    replace od := od.on st5
    replace Bc := hid (Bc.out.below st5)
    replace Bd := hid (Bd.out.below st5)
    have z5 := st5.size
    replace HB := hid (HB.out.trans (st5.mono HB.out.size))
    clear st5
    have cc0 := Bc.out.c0
    have cc1 := Bc.out.c1
    have dc0 := Bd.out.c0
    have dc1 := Bd.out.c1
    have yx := ox.lenD
    have xx := ox.lenC
    clear cc0 cc1 dc0 dc1
    have st6 := (Below.refl w5.heap.size w5).alloc (Nat.le_refl _) (.cells #[.slice Ax nx cx, .slice Ex mx dx] 25)
    have Xx := Bt.new w5 25 (.slice Ax nx cx) (.slice Ex mx dx)
    obtain ⟨bx, hbx⟩ : ∃ q, w5.heap.size = q := ⟨_, rfl⟩
    rw [hbx] at Xx
    obtain ⟨w6, e6⟩ : ∃ W, w5.alloc (.cells #[.slice Ax nx cx, .slice Ex mx dx] 25) = W := ⟨_, rfl⟩
    rw [e6] at Xx st6
    have Bx := hid Xx
    clear Xx
    replace oc := oc.on st6
    replace od := od.on st6
    replace ox := ox.on st6
    replace Bc := hid (Bc.out.below st6)
    replace Bd := hid (Bd.out.below st6)
    have z6 := st6.size
    replace HB := hid (HB.out.trans (st6.mono HB.out.size))
    clear st6
    have cc0 := Bc.out.c0
    have cc1 := Bc.out.c1
    have dc0 := Bd.out.c0
    have dc1 := Bd.out.c1
    have xc0 := Bx.out.c0
    have xc1 := Bx.out.c1
    go_wp2_with fail
    clear cc0 cc1 dc0 dc1 xc0 xc1
    refine (sameCounter_same _ _ _ _ _ _ _ _ _ _ _ _ _ _ _ _ _ od ox).mono ?_
    rintro e w7 ⟨rfl, st7⟩
    replace oc := oc.on st7
    replace od := od.on st7
    replace ox := ox.on st7
    replace Bc := hid (Bc.out.below st7)
    replace Bd := hid (Bd.out.below st7)
    replace Bx := hid (Bx.out.below st7)
    have z7 := st7.size
    replace HB := hid (HB.out.trans (st7.mono HB.out.size))
    clear st7
    have cc0 := Bc.out.c0
    have cc1 := Bc.out.c1
    have dc0 := Bd.out.c0
    have dc1 := Bd.out.c1
    have xc0 := Bx.out.c0
    have xc1 := Bx.out.c1
    have CK := hid (fun (W : World) (h1 : Sl W W.heap.size Ad nd TD) (h2 : Sl W W.heap.size Ed md TC) => implCounterOk_any Ad nd cd Ed md dd TD TC W h1 h2)
    have CT := hid (fun (W : World) (h1 : Sl W W.heap.size Ad nd TD) (h2 : Sl W W.heap.size Ed md TC) => implToldBy_any Ad nd cd Ed md dd TD TC W h1 h2)
    rw [q1] at CK
    rw [q2] at CT
    have hcV := own_cell (j := N) oc.e oc.lenC (by omega)
    rw [hV] at hcV
    have i1 : ((N : Int) + 1).toNat = N + 1 := by omega
    have i2 : (0 : Int) ≤ (N : Int) + 1 := by omega
    have i3 : (N : Int) + 1 ≤ 64 := by omega
    have i4 : IntKind.i64.wrap X = X := IntWalk.i64_in _ (by omega)
    clear q1 q2 hV hp
    cases t with
    | true =>
      rw [show bitI true = 1 from rfl] at CT
      have e5 : IntKind.i64.wrap (T + 1) = T + 1 := IntWalk.i64_in _ (by omega)
      have e6 : IntKind.i64.wrap (T + 1 - X) = T + 1 - X := IntWalk.i64_in _ (by omega)
      go_wp2_with fail
      go_quiet (fail)
      go_wp2_with fail
      have hd : Below w7.heap.size w7 (w7.drewN (nq + 1)) := below_drewN (Below.refl _ _) _
      replace od := od.on hd
      replace oc := oc.on hd
      replace Bd := hid (Bd.out.below hd)
      replace Bc := hid (Bc.out.below hd)
      replace HB := hid (HB.out.trans (hd.mono HB.out.size))
      clear hd
      have gd0 := Bd.out.c0
      have gd1 := Bd.out.c1
      have gc0 := Bc.out.c0
      have gc1 := Bc.out.c1
      refine wp_region_held_drew (S := (fun w' => w'.cell? ⟨bd, 0, none⟩ = some (.slice Ad nd cd) ∧ w'.cell? ⟨bd, 1, none⟩ = some (.slice Ed md dd) ∧ w'.cell? ⟨bc, 0, none⟩ = some (.slice A1 (N + 1) c1) ∧ w'.cell? ⟨bc, 1, none⟩ = some (.slice (some ⟨g2, 0, none⟩) (N + 1) c2))) (by kernel_rfl) (by go_keep) (fun hHeld => ?_)
      refine wpAnyH_take (i := 0) (v := ?v0true) rfl (by kernel_rfl) (by kernel_rfl) (by kernel_rfl) (fun _ _ _ h => h) (Or.inl ⟨by rfl, ?y0true⟩) (by assumption) ?r0true
      case y0true => (intro w hSw; (try dsimp only at hSw); go_simp; try with_reducible rfl)
      try simp only [List.getElem_toArray, List.getElem_cons_zero, List.getElem_cons_succ, Act.put, List.setIfInBounds_toArray, List.set_cons_zero, List.set_cons_succ]
      refine wpAnyH_ready (rs := [1]) (by kernel_rfl) (by simp) ?_
      refine AllReadyH.cons rfl (fun Kr hKr => ?_) AllReadyH.nil
      go_simp
      (go_at_call 16; with_reducible refine Calls.mono (CK.out _ (Sl.of_own od.d) (Sl.of_own od.e)) ?_; rintro e w8 ⟨rfl, st8⟩)
      try go_wp2_with fail
      refine hKr.out _ _ ?_ (fun hHeld => ?_)
      · go_split_ands
        exact ⟨(Bd.out.below st8).c0, (Bd.out.below st8).c1, (Bc.out.below st8).c0, (Bc.out.below st8).c1⟩
      clear hKr Kr
      try simp only [List.getElem_toArray, List.getElem_cons_zero, List.getElem_cons_succ, Act.put, List.setIfInBounds_toArray, List.set_cons_zero, List.set_cons_succ]
      replace od := od.on st8
      replace oc := oc.on st8
      replace Bd := hid (Bd.out.below st8)
      replace Bc := hid (Bc.out.below st8)
      replace HB := hid (HB.out.trans (st8.mono HB.out.size))
      clear st8
      refine wpAnyH_take (i := 2) (v := ?v2true) rfl (by kernel_rfl) (by kernel_rfl) (by kernel_rfl) (fun _ _ _ h => h) (Or.inl ⟨by rfl, ?y2true⟩) (by assumption) ?r2true
      case y2true => (intro w hSw; (try dsimp only at hSw); go_simp; try with_reducible rfl)
      try simp only [List.getElem_toArray, List.getElem_cons_zero, List.getElem_cons_succ, Act.put, List.setIfInBounds_toArray, List.set_cons_zero, List.set_cons_succ]
      refine wpAnyH_take (i := 3) (v := ?v3true) rfl (by kernel_rfl) (by kernel_rfl) (by kernel_rfl) (fun _ _ _ h => h) (Or.inl ⟨by rfl, ?y3true⟩) (by assumption) ?r3true
      case y3true => (intro w hSw; (try dsimp only at hSw); go_simp; try with_reducible rfl)
      try simp only [List.getElem_toArray, List.getElem_cons_zero, List.getElem_cons_succ, Act.put, List.setIfInBounds_toArray, List.set_cons_zero, List.set_cons_succ]
      refine wpAnyH_take (i := 5) (v := ?v5true) rfl (by kernel_rfl) (by kernel_rfl) (by kernel_rfl) (fun _ _ _ h => h) (Or.inl ⟨by rfl, ?y5true⟩) (by assumption) ?r5true
      case y5true => (intro w hSw; (try dsimp only at hSw); go_simp; try with_reducible rfl)
      try simp only [List.getElem_toArray, List.getElem_cons_zero, List.getElem_cons_succ, Act.put, List.setIfInBounds_toArray, List.set_cons_zero, List.set_cons_succ]
      refine wpAnyH_take (i := 7) (v := ?v7true) rfl (by kernel_rfl) (by kernel_rfl) (by kernel_rfl) (fun _ _ _ h => h) (Or.inl ⟨by rfl, ?y7true⟩) (by assumption) ?r7true
      case y7true => (intro w hSw; (try dsimp only at hSw); go_simp; try with_reducible rfl)
      try simp only [List.getElem_toArray, List.getElem_cons_zero, List.getElem_cons_succ, Act.put, List.setIfInBounds_toArray, List.set_cons_zero, List.set_cons_succ]
      refine wpAnyH_take (i := 9) (v := ?v9true) rfl (by kernel_rfl) (by kernel_rfl) (by kernel_rfl) (fun _ _ _ h => h) (Or.inl ⟨by rfl, ?y9true⟩) (by assumption) ?r9true
      case y9true => (intro w hSw; (try dsimp only at hSw); go_simp; try with_reducible rfl)
      try simp only [List.getElem_toArray, List.getElem_cons_zero, List.getElem_cons_succ, Act.put, List.setIfInBounds_toArray, List.set_cons_zero, List.set_cons_succ]
      refine wpAnyH_ready (rs := [4]) (by kernel_rfl) (by simp) ?_
      refine AllReadyH.cons rfl (fun Kr hKr => ?_) AllReadyH.nil
      go_simp
      (go_at_call 23; with_reducible refine Calls.mono (CT.out _ (Sl.of_own od.d) (Sl.of_own od.e)) ?_; rintro e w9 ⟨rfl, st9⟩)
      try go_wp2_with fail
      refine hKr.out _ _ ?_ (fun hHeld => ?_)
      · go_split_ands
        exact ⟨(Bd.out.below st9).c0, (Bd.out.below st9).c1, (Bc.out.below st9).c0, (Bc.out.below st9).c1⟩
      clear hKr Kr
      try simp only [List.getElem_toArray, List.getElem_cons_zero, List.getElem_cons_succ, Act.put, List.setIfInBounds_toArray, List.set_cons_zero, List.set_cons_succ]
      replace od := od.on st9
      replace oc := oc.on st9
      replace Bd := hid (Bd.out.below st9)
      replace Bc := hid (Bc.out.below st9)
      replace HB := hid (HB.out.trans (st9.mono HB.out.size))
      clear st9
      refine wpAnyH_ready (rs := [6]) (by kernel_rfl) (by simp) ?_
      refine AllReadyH.cons rfl (fun Kr hKr => ?_) AllReadyH.nil
      go_simp
      (go_at_call 23; with_reducible refine Calls.mono (CU.out _ (Sl.of_own oc.d) (Sl.of_own oc.e)) ?_; rintro e w10 ⟨rfl, st10⟩)
      try go_wp2_with fail
      refine hKr.out _ _ ?_ (fun hHeld => ?_)
      · go_split_ands
        exact ⟨(Bd.out.below st10).c0, (Bd.out.below st10).c1, (Bc.out.below st10).c0, (Bc.out.below st10).c1⟩
      clear hKr Kr
      try simp only [List.getElem_toArray, List.getElem_cons_zero, List.getElem_cons_succ, Act.put, List.setIfInBounds_toArray, List.set_cons_zero, List.set_cons_succ]
      replace od := od.on st10
      replace oc := oc.on st10
      replace Bd := hid (Bd.out.below st10)
      replace Bc := hid (Bc.out.below st10)
      replace HB := hid (HB.out.trans (st10.mono HB.out.size))
      clear st10
      refine wpAnyH_take (i := 8) (v := ?v8true) rfl (by kernel_rfl) (by kernel_rfl) (by kernel_rfl) (fun _ _ _ h => h) (Or.inl ⟨by rfl, ?y8true⟩) (by assumption) ?r8true
      case y8true => (intro w hSw; (try dsimp only at hSw); go_simp; try with_reducible rfl)
      try simp only [List.getElem_toArray, List.getElem_cons_zero, List.getElem_cons_succ, Act.put, List.setIfInBounds_toArray, List.set_cons_zero, List.set_cons_succ]
      refine wpAnyH_take (i := 10) (v := ?v10true) rfl (by kernel_rfl) (by kernel_rfl) (by kernel_rfl) (fun _ _ _ h => h) (Or.inl ⟨by rfl, ?y10true⟩) (by assumption) ?r10true
      case y10true => (intro w hSw; (try dsimp only at hSw); go_simp; try with_reducible rfl)
      try simp only [List.getElem_toArray, List.getElem_cons_zero, List.getElem_cons_succ, Act.put, List.setIfInBounds_toArray, List.set_cons_zero, List.set_cons_succ]
      refine wpAnyH_take (i := 11) (v := ?v11true) rfl (by kernel_rfl) (by kernel_rfl) (by kernel_rfl) (fun _ _ _ h => h) (Or.inl ⟨by rfl, ?y11true⟩) (by assumption) ?r11true
      case y11true => (intro w hSw; (try dsimp only at hSw); go_simp; try with_reducible rfl)
      try simp only [List.getElem_toArray, List.getElem_cons_zero, List.getElem_cons_succ, Act.put, List.setIfInBounds_toArray, List.set_cons_zero, List.set_cons_succ]
      refine wpAnyH_take (i := 12) (v := ?v12true) rfl (by kernel_rfl) (by kernel_rfl) (by kernel_rfl) (fun _ _ _ h => h) (Or.inl ⟨by rfl, ?y12true⟩) (by assumption) ?r12true
      case y12true => (intro w hSw; (try dsimp only at hSw); go_simp; try with_reducible rfl)
      try simp only [List.getElem_toArray, List.getElem_cons_zero, List.getElem_cons_succ, Act.put, List.setIfInBounds_toArray, List.set_cons_zero, List.set_cons_succ]
      refine wpAnyH_take (i := 13) (v := ?v13true) rfl (by kernel_rfl) (by kernel_rfl) (by kernel_rfl) (fun _ _ _ h => h) (Or.inl ⟨by rfl, ?y13true⟩) (by assumption) ?r13true
      case y13true => (intro w hSw; (try dsimp only at hSw); go_simp; try with_reducible rfl)
      try simp only [List.getElem_toArray, List.getElem_cons_zero, List.getElem_cons_succ, Act.put, List.setIfInBounds_toArray, List.set_cons_zero, List.set_cons_succ]
      refine wpAnyH_ready (rs := [14]) (by kernel_rfl) (by simp) ?_
      refine AllReadyH.cons rfl (fun Kr hKr => ?_) AllReadyH.nil
      go_simp
      (go_at_call 18; refine Calls.mono (alive_any _) ?_; rintro e w11 ⟨rfl, st11⟩)
      try go_wp2_with fail
      refine hKr.out _ _ ?_ (fun hHeld => ?_)
      · go_split_ands
        exact ⟨(Bd.out.below st11).c0, (Bd.out.below st11).c1, (Bc.out.below st11).c0, (Bc.out.below st11).c1⟩
      clear hKr Kr
      try simp only [List.getElem_toArray, List.getElem_cons_zero, List.getElem_cons_succ, Act.put, List.setIfInBounds_toArray, List.set_cons_zero, List.set_cons_succ]
      replace od := od.on st11
      replace oc := oc.on st11
      replace Bd := hid (Bd.out.below st11)
      replace Bc := hid (Bc.out.below st11)
      replace HB := hid (HB.out.trans (st11.mono HB.out.size))
      clear st11
      refine wpAnyH_take (i := 15) (v := ?v15true) rfl (by kernel_rfl) (by kernel_rfl) (by kernel_rfl) (fun _ _ _ h => h) (Or.inl ⟨by rfl, ?y15true⟩) (by assumption) ?r15true
      case y15true => (intro w hSw; (try dsimp only at hSw); go_simp; try with_reducible rfl)
      try simp only [List.getElem_toArray, List.getElem_cons_zero, List.getElem_cons_succ, Act.put, List.setIfInBounds_toArray, List.set_cons_zero, List.set_cons_succ]
      refine wpAnyH_take (i := 16) (v := ?v16true) rfl (by kernel_rfl) (by kernel_rfl) (by kernel_rfl) (fun _ _ _ h => h) (Or.inl ⟨by rfl, ?y16true⟩) (by assumption) ?r16true
      case y16true => (intro w hSw; (try dsimp only at hSw); go_simp; try with_reducible rfl)
      try simp only [List.getElem_toArray, List.getElem_cons_zero, List.getElem_cons_succ, Act.put, List.setIfInBounds_toArray, List.set_cons_zero, List.set_cons_succ]
      refine wpAnyH_done (by kernel_rfl) ?_ _
      go_wp2
      go_ret
      exact ⟨rfl, HB.out⟩
    | false =>
      rw [show T + bitI false - X = T - X from by simp [bitI]] at CT
      have e5 : IntKind.i64.wrap T = T := IntWalk.i64_in _ (by omega)
      have e6 : IntKind.i64.wrap (T - X) = T - X := IntWalk.i64_in _ (by omega)
      go_wp2_with fail
      go_quiet (fail)
      go_wp2_with fail
      have hd : Below w7.heap.size w7 (w7.drewN (nq + 1)) := below_drewN (Below.refl _ _) _
      replace od := od.on hd
      replace oc := oc.on hd
      replace Bd := hid (Bd.out.below hd)
      replace Bc := hid (Bc.out.below hd)
      replace HB := hid (HB.out.trans (hd.mono HB.out.size))
      clear hd
      have gd0 := Bd.out.c0
      have gd1 := Bd.out.c1
      have gc0 := Bc.out.c0
      have gc1 := Bc.out.c1
      refine wp_region_held_drew (S := (fun w' => w'.cell? ⟨bd, 0, none⟩ = some (.slice Ad nd cd) ∧ w'.cell? ⟨bd, 1, none⟩ = some (.slice Ed md dd) ∧ w'.cell? ⟨bc, 0, none⟩ = some (.slice A1 (N + 1) c1) ∧ w'.cell? ⟨bc, 1, none⟩ = some (.slice (some ⟨g2, 0, none⟩) (N + 1) c2))) (by kernel_rfl) (by go_keep) (fun hHeld => ?_)
      refine wpAnyH_take (i := 0) (v := ?v0false) rfl (by kernel_rfl) (by kernel_rfl) (by kernel_rfl) (fun _ _ _ h => h) (Or.inl ⟨by rfl, ?y0false⟩) (by assumption) ?r0false
      case y0false => (intro w hSw; (try dsimp only at hSw); go_simp; try with_reducible rfl)
      try simp only [List.getElem_toArray, List.getElem_cons_zero, List.getElem_cons_succ, Act.put, List.setIfInBounds_toArray, List.set_cons_zero, List.set_cons_succ]
      refine wpAnyH_ready (rs := [1]) (by kernel_rfl) (by simp) ?_
      refine AllReadyH.cons rfl (fun Kr hKr => ?_) AllReadyH.nil
      go_simp
      (go_at_call 16; with_reducible refine Calls.mono (CK.out _ (Sl.of_own od.d) (Sl.of_own od.e)) ?_; rintro e w8 ⟨rfl, st8⟩)
      try go_wp2_with fail
      refine hKr.out _ _ ?_ (fun hHeld => ?_)
      · go_split_ands
        exact ⟨(Bd.out.below st8).c0, (Bd.out.below st8).c1, (Bc.out.below st8).c0, (Bc.out.below st8).c1⟩
      clear hKr Kr
      try simp only [List.getElem_toArray, List.getElem_cons_zero, List.getElem_cons_succ, Act.put, List.setIfInBounds_toArray, List.set_cons_zero, List.set_cons_succ]
      replace od := od.on st8
      replace oc := oc.on st8
      replace Bd := hid (Bd.out.below st8)
      replace Bc := hid (Bc.out.below st8)
      replace HB := hid (HB.out.trans (st8.mono HB.out.size))
      clear st8
      refine wpAnyH_take (i := 2) (v := ?v2false) rfl (by kernel_rfl) (by kernel_rfl) (by kernel_rfl) (fun _ _ _ h => h) (Or.inl ⟨by rfl, ?y2false⟩) (by assumption) ?r2false
      case y2false => (intro w hSw; (try dsimp only at hSw); go_simp; try with_reducible rfl)
      try simp only [List.getElem_toArray, List.getElem_cons_zero, List.getElem_cons_succ, Act.put, List.setIfInBounds_toArray, List.set_cons_zero, List.set_cons_succ]
      refine wpAnyH_take (i := 3) (v := ?v3false) rfl (by kernel_rfl) (by kernel_rfl) (by kernel_rfl) (fun _ _ _ h => h) (Or.inl ⟨by rfl, ?y3false⟩) (by assumption) ?r3false
      case y3false => (intro w hSw; (try dsimp only at hSw); go_simp; try with_reducible rfl)
      try simp only [List.getElem_toArray, List.getElem_cons_zero, List.getElem_cons_succ, Act.put, List.setIfInBounds_toArray, List.set_cons_zero, List.set_cons_succ]
      refine wpAnyH_take (i := 5) (v := ?v5false) rfl (by kernel_rfl) (by kernel_rfl) (by kernel_rfl) (fun _ _ _ h => h) (Or.inl ⟨by rfl, ?y5false⟩) (by assumption) ?r5false
      case y5false => (intro w hSw; (try dsimp only at hSw); go_simp; try with_reducible rfl)
      try simp only [List.getElem_toArray, List.getElem_cons_zero, List.getElem_cons_succ, Act.put, List.setIfInBounds_toArray, List.set_cons_zero, List.set_cons_succ]
      refine wpAnyH_take (i := 7) (v := ?v7false) rfl (by kernel_rfl) (by kernel_rfl) (by kernel_rfl) (fun _ _ _ h => h) (Or.inl ⟨by rfl, ?y7false⟩) (by assumption) ?r7false
      case y7false => (intro w hSw; (try dsimp only at hSw); go_simp; try with_reducible rfl)
      try simp only [List.getElem_toArray, List.getElem_cons_zero, List.getElem_cons_succ, Act.put, List.setIfInBounds_toArray, List.set_cons_zero, List.set_cons_succ]
      refine wpAnyH_take (i := 9) (v := ?v9false) rfl (by kernel_rfl) (by kernel_rfl) (by kernel_rfl) (fun _ _ _ h => h) (Or.inl ⟨by rfl, ?y9false⟩) (by assumption) ?r9false
      case y9false => (intro w hSw; (try dsimp only at hSw); go_simp; try with_reducible rfl)
      try simp only [List.getElem_toArray, List.getElem_cons_zero, List.getElem_cons_succ, Act.put, List.setIfInBounds_toArray, List.set_cons_zero, List.set_cons_succ]
      refine wpAnyH_ready (rs := [4]) (by kernel_rfl) (by simp) ?_
      refine AllReadyH.cons rfl (fun Kr hKr => ?_) AllReadyH.nil
      go_simp
      (go_at_call 23; with_reducible refine Calls.mono (CT.out _ (Sl.of_own od.d) (Sl.of_own od.e)) ?_; rintro e w9 ⟨rfl, st9⟩)
      try go_wp2_with fail
      refine hKr.out _ _ ?_ (fun hHeld => ?_)
      · go_split_ands
        exact ⟨(Bd.out.below st9).c0, (Bd.out.below st9).c1, (Bc.out.below st9).c0, (Bc.out.below st9).c1⟩
      clear hKr Kr
      try simp only [List.getElem_toArray, List.getElem_cons_zero, List.getElem_cons_succ, Act.put, List.setIfInBounds_toArray, List.set_cons_zero, List.set_cons_succ]
      replace od := od.on st9
      replace oc := oc.on st9
      replace Bd := hid (Bd.out.below st9)
      replace Bc := hid (Bc.out.below st9)
      replace HB := hid (HB.out.trans (st9.mono HB.out.size))
      clear st9
      refine wpAnyH_ready (rs := [6]) (by kernel_rfl) (by simp) ?_
      refine AllReadyH.cons rfl (fun Kr hKr => ?_) AllReadyH.nil
      go_simp
      (go_at_call 23; with_reducible refine Calls.mono (CU.out _ (Sl.of_own oc.d) (Sl.of_own oc.e)) ?_; rintro e w10 ⟨rfl, st10⟩)
      try go_wp2_with fail
      refine hKr.out _ _ ?_ (fun hHeld => ?_)
      · go_split_ands
        exact ⟨(Bd.out.below st10).c0, (Bd.out.below st10).c1, (Bc.out.below st10).c0, (Bc.out.below st10).c1⟩
      clear hKr Kr
      try simp only [List.getElem_toArray, List.getElem_cons_zero, List.getElem_cons_succ, Act.put, List.setIfInBounds_toArray, List.set_cons_zero, List.set_cons_succ]
      replace od := od.on st10
      replace oc := oc.on st10
      replace Bd := hid (Bd.out.below st10)
      replace Bc := hid (Bc.out.below st10)
      replace HB := hid (HB.out.trans (st10.mono HB.out.size))
      clear st10
      refine wpAnyH_take (i := 8) (v := ?v8false) rfl (by kernel_rfl) (by kernel_rfl) (by kernel_rfl) (fun _ _ _ h => h) (Or.inl ⟨by rfl, ?y8false⟩) (by assumption) ?r8false
      case y8false => (intro w hSw; (try dsimp only at hSw); go_simp; try with_reducible rfl)
      try simp only [List.getElem_toArray, List.getElem_cons_zero, List.getElem_cons_succ, Act.put, List.setIfInBounds_toArray, List.set_cons_zero, List.set_cons_succ]
      refine wpAnyH_take (i := 10) (v := ?v10false) rfl (by kernel_rfl) (by kernel_rfl) (by kernel_rfl) (fun _ _ _ h => h) (Or.inl ⟨by rfl, ?y10false⟩) (by assumption) ?r10false
      case y10false => (intro w hSw; (try dsimp only at hSw); go_simp; try with_reducible rfl)
      try simp only [List.getElem_toArray, List.getElem_cons_zero, List.getElem_cons_succ, Act.put, List.setIfInBounds_toArray, List.set_cons_zero, List.set_cons_succ]
      refine wpAnyH_take (i := 11) (v := ?v11false) rfl (by kernel_rfl) (by kernel_rfl) (by kernel_rfl) (fun _ _ _ h => h) (Or.inl ⟨by rfl, ?y11false⟩) (by assumption) ?r11false
      case y11false => (intro w hSw; (try dsimp only at hSw); go_simp; try with_reducible rfl)
      try simp only [List.getElem_toArray, List.getElem_cons_zero, List.getElem_cons_succ, Act.put, List.setIfInBounds_toArray, List.set_cons_zero, List.set_cons_succ]
      refine wpAnyH_take (i := 12) (v := ?v12false) rfl (by kernel_rfl) (by kernel_rfl) (by kernel_rfl) (fun _ _ _ h => h) (Or.inl ⟨by rfl, ?y12false⟩) (by assumption) ?r12false
      case y12false => (intro w hSw; (try dsimp only at hSw); go_simp; try with_reducible rfl)
      try simp only [List.getElem_toArray, List.getElem_cons_zero, List.getElem_cons_succ, Act.put, List.setIfInBounds_toArray, List.set_cons_zero, List.set_cons_succ]
      refine wpAnyH_take (i := 13) (v := ?v13false) rfl (by kernel_rfl) (by kernel_rfl) (by kernel_rfl) (fun _ _ _ h => h) (Or.inl ⟨by rfl, ?y13false⟩) (by assumption) ?r13false
      case y13false => (intro w hSw; (try dsimp only at hSw); go_simp; try with_reducible rfl)
      try simp only [List.getElem_toArray, List.getElem_cons_zero, List.getElem_cons_succ, Act.put, List.setIfInBounds_toArray, List.set_cons_zero, List.set_cons_succ]
      refine wpAnyH_ready (rs := [14]) (by kernel_rfl) (by simp) ?_
      refine AllReadyH.cons rfl (fun Kr hKr => ?_) AllReadyH.nil
      go_simp
      (go_at_call 18; refine Calls.mono (alive_any _) ?_; rintro e w11 ⟨rfl, st11⟩)
      try go_wp2_with fail
      refine hKr.out _ _ ?_ (fun hHeld => ?_)
      · go_split_ands
        exact ⟨(Bd.out.below st11).c0, (Bd.out.below st11).c1, (Bc.out.below st11).c0, (Bc.out.below st11).c1⟩
      clear hKr Kr
      try simp only [List.getElem_toArray, List.getElem_cons_zero, List.getElem_cons_succ, Act.put, List.setIfInBounds_toArray, List.set_cons_zero, List.set_cons_succ]
      replace od := od.on st11
      replace oc := oc.on st11
      replace Bd := hid (Bd.out.below st11)
      replace Bc := hid (Bc.out.below st11)
      replace HB := hid (HB.out.trans (st11.mono HB.out.size))
      clear st11
      refine wpAnyH_take (i := 15) (v := ?v15false) rfl (by kernel_rfl) (by kernel_rfl) (by kernel_rfl) (fun _ _ _ h => h) (Or.inl ⟨by rfl, ?y15false⟩) (by assumption) ?r15false
      case y15false => (intro w hSw; (try dsimp only at hSw); go_simp; try with_reducible rfl)
      try simp only [List.getElem_toArray, List.getElem_cons_zero, List.getElem_cons_succ, Act.put, List.setIfInBounds_toArray, List.set_cons_zero, List.set_cons_succ]
      refine wpAnyH_take (i := 16) (v := ?v16false) rfl (by kernel_rfl) (by kernel_rfl) (by kernel_rfl) (fun _ _ _ h => h) (Or.inl ⟨by rfl, ?y16false⟩) (by assumption) ?r16false
      case y16false => (intro w hSw; (try dsimp only at hSw); go_simp; try with_reducible rfl)
      try simp only [List.getElem_toArray, List.getElem_cons_zero, List.getElem_cons_succ, Act.put, List.setIfInBounds_toArray, List.set_cons_zero, List.set_cons_succ]
      refine wpAnyH_done (by kernel_rfl) ?_ _
      go_wp2
      go_ret
      exact ⟨rfl, HB.out⟩
end Go.Proofs.Ytdacjpaaffpfgaa
