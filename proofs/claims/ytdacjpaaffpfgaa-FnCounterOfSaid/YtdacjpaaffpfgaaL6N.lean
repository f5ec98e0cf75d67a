/-
  The walk of laws.FnCounterOf, written by program (law6.py). No statement is proved here.
-/
import Derived.Test.YtdacjpaaffpfgaaC6i
import Derived.Test.YtdacjpaaffpfgaaC6c
import Derived.Test.YtdacjpaaffpfgaaDrT
import Derived.Test.YtdacjpaaffpfgaaS6b
import Derived.Test.YtdacjpaaffpfgaaExC
import Derived.Test.YtdacjpaaffpfgaaC1a
import Derived.Deep.RegionHeld3
namespace Go.Proofs.Ytdacjpaaffpfgaa
open Go.RowKit
set_option linter.unusedVariables false
set_option linter.unusedSimpArgs false

set_option maxRecDepth 100000 in
set_option maxHeartbeats 6400000 in
theorem fnCounterOf_walk (A : Option Addr) (n c : Nat) (w : World) (hs : By w w.heap.size A n) (hc : n ≤ c) :
    Calls Try.prog 4 #[.slice A n c] w fun e w' => e = .returned (.bool true) ∧ Below w.heap.size w w' := by
  have hm : n ≤ 9223372036854775807 := hs.1
  by_cases hbig : 1048576 < n
  · go_enter Try.func4, Try.ntmps4
    go_wp2
    go_ret
    exact ⟨rfl, Below.refl _ _⟩
  go_enter Try.func4, Try.ntmps4
  go_wp2_with fail
  refine (drawCounterOf_any A n c _ hs hc).mono ?_
  rintro e w1 ⟨m, rfl, m0, m1, hb1⟩
  have HB := hid hb1
  have z1 := hb1.size
  clear hs hc hb1 hbig hm
  have hwf : (Lit.int .i64 m).wf = true := WalkArith.wf_i64 (by omega)
  have CI := hid (fun (W : World) => implCounterOf_any m W hwf)
  have CS := hid (fun (W : World) => specCounterOf_any m W hwf)
  clear hwf
  cases hok : within m 1 8 with
  | false =>
    have hz : zerosOut m = [] := by unfold zerosOut; rw [hok]; rfl
    rw [hok, hz] at CI CS
    clear hok hz
    go_wp2_with fail
    with_reducible refine Calls.mono (CI.out _ ) ?_
    rintro e w2 ⟨Ad, nd, cd, Ed, md, dd, rfl, od, st2⟩
    replace od := od.mono (Nat.zero_le _)
    have z2 := st2.size
    replace HB := hid (HB.out.trans (st2.mono HB.out.size))
    clear st2
    have yd := od.lenD
    have xd := od.lenC
    have st3 := (Below.refl w2.heap.size w2).alloc (Nat.le_refl _) (.cells #[.slice Ad nd cd, .slice Ed md dd] 25)
    have Xd := Bt.new w2 25 (.slice Ad nd cd) (.slice Ed md dd)
    obtain ⟨bd, hbd⟩ : ∃ q, w2.heap.size = q := ⟨_, rfl⟩
    rw [hbd] at Xd
    obtain ⟨w3, e3⟩ : ∃ W, w2.alloc (.cells #[.slice Ad nd cd, .slice Ed md dd] 25) = W := ⟨_, rfl⟩
    rw [e3] at Xd st3
    have Bd := hid Xd
    clear Xd
    replace od := od.on st3
    have z3 := st3.size
    replace HB := hid (HB.out.trans (st3.mono HB.out.size))
    clear st3
    have dc0 := Bd.out.c0
    have dc1 := Bd.out.c1
    go_wp2_with fail
    clear dc0 dc1
    with_reducible refine Calls.mono (CS.out _ ) ?_
    rintro e w4 ⟨Ax, nx, cx, Ex, mx, dx, rfl, ox, st4⟩
    replace ox := ox.mono (Nat.zero_le _)
    replace od := od.on st4
    replace Bd := hid (Bd.out.below st4)
    have z4 := st4.size
    replace HB := hid (HB.out.trans (st4.mono HB.out.size))
    clear st4
    have dc0 := Bd.out.c0
    have dc1 := Bd.out.c1
    have yx := ox.lenD
    have xx := ox.lenC
    clear dc0 dc1
    have st5 := (Below.refl w4.heap.size w4).alloc (Nat.le_refl _) (.cells #[.slice Ax nx cx, .slice Ex mx dx] 25)
    have Xx := Bt.new w4 25 (.slice Ax nx cx) (.slice Ex mx dx)
    obtain ⟨bx, hbx⟩ : ∃ q, w4.heap.size = q := ⟨_, rfl⟩
    rw [hbx] at Xx
    obtain ⟨w5, e5⟩ : ∃ W, w4.alloc (.cells #[.slice Ax nx cx, .slice Ex mx dx] 25) = W := ⟨_, rfl⟩
    rw [e5] at Xx st5
    have Bx := hid Xx
    clear Xx
    replace od := od.on st5
    replace ox := ox.on st5
    replace Bd := hid (Bd.out.below st5)
    have z5 := st5.size
    replace HB := hid (HB.out.trans (st5.mono HB.out.size))
    clear st5
    have dc0 := Bd.out.c0
    have dc1 := Bd.out.c1
    have xc0 := Bx.out.c0
    have xc1 := Bx.out.c1
    go_wp2_with fail
    clear dc0 dc1 xc0 xc1
    refine (sameCounter_same _ _ _ _ _ _ _ _ _ _ _ _ _ _ _ _ _ od ox).mono ?_
    rintro e w6 ⟨rfl, st6⟩
    replace od := od.on st6
    replace ox := ox.on st6
    replace Bd := hid (Bd.out.below st6)
    replace Bx := hid (Bx.out.below st6)
    have z6 := st6.size
    replace HB := hid (HB.out.trans (st6.mono HB.out.size))
    clear st6
    have dc0 := Bd.out.c0
    have dc1 := Bd.out.c1
    have xc0 := Bx.out.c0
    have xc1 := Bx.out.c1
    go_wp2_with fail
    clear dc0 dc1 xc0 xc1
    refine (sameCounter_same _ _ _ _ _ _ _ _ _ _ _ _ _ _ _ _ _ od (Ctr.none _ 0)).mono ?_
    rintro e w7 ⟨rfl, st7⟩
    replace od := od.on st7
    replace ox := ox.on st7
    replace Bd := hid (Bd.out.below st7)
    replace Bx := hid (Bx.out.below st7)
    have z7 := st7.size
    replace HB := hid (HB.out.trans (st7.mono HB.out.size))
    clear st7
    have dc0 := Bd.out.c0
    have dc1 := Bd.out.c1
    have xc0 := Bx.out.c0
    have xc1 := Bx.out.c1
    go_wp2_with fail
    clear dc0 dc1 xc0 xc1
    refine (alive_any _).mono ?_
    rintro e w8 ⟨rfl, st8⟩
    replace od := od.on st8
    replace ox := ox.on st8
    replace Bd := hid (Bd.out.below st8)
    replace Bx := hid (Bx.out.below st8)
    have z8 := st8.size
    replace HB := hid (HB.out.trans (st8.mono HB.out.size))
    clear st8
    have dc0 := Bd.out.c0
    have dc1 := Bd.out.c1
    have xc0 := Bx.out.c0
    have xc1 := Bx.out.c1
    go_wp2
    go_ret
    exact ⟨rfl, HB.out⟩
  | true =>
    obtain ⟨q1, q2, q3⟩ := zeros_law hok
    have hb := within_iff.1 hok
    obtain ⟨Z, hZ⟩ : ∃ Z, zerosOut m = Z := ⟨_, rfl⟩
    rw [hZ] at CI CS q1 q2 q3
    rw [hok] at CI CS
    clear hok hZ
    go_wp2_with fail
    with_reducible refine Calls.mono (CI.out _ ) ?_
    rintro e w2 ⟨Ad, nd, cd, Ed, md, dd, rfl, od, st2⟩
    replace od := od.mono (Nat.zero_le _)
    have z2 := st2.size
    replace HB := hid (HB.out.trans (st2.mono HB.out.size))
    clear st2
    have yd := od.lenD
    have xd := od.lenC
    have st3 := (Below.refl w2.heap.size w2).alloc (Nat.le_refl _) (.cells #[.slice Ad nd cd, .slice Ed md dd] 25)
    have Xd := Bt.new w2 25 (.slice Ad nd cd) (.slice Ed md dd)
    obtain ⟨bd, hbd⟩ : ∃ q, w2.heap.size = q := ⟨_, rfl⟩
    rw [hbd] at Xd
    obtain ⟨w3, e3⟩ : ∃ W, w2.alloc (.cells #[.slice Ad nd cd, .slice Ed md dd] 25) = W := ⟨_, rfl⟩
    rw [e3] at Xd st3
    have Bd := hid Xd
    clear Xd
    replace od := od.on st3
    have z3 := st3.size
    replace HB := hid (HB.out.trans (st3.mono HB.out.size))
    clear st3
    have dc0 := Bd.out.c0
    have dc1 := Bd.out.c1
    go_wp2_with fail
    clear dc0 dc1
    with_reducible refine Calls.mono (CS.out _ ) ?_
    rintro e w4 ⟨Ax, nx, cx, Ex, mx, dx, rfl, ox, st4⟩
    replace ox := ox.mono (Nat.zero_le _)
    replace od := od.on st4
    replace Bd := hid (Bd.out.below st4)
    have z4 := st4.size
    replace HB := hid (HB.out.trans (st4.mono HB.out.size))
    clear st4
    have dc0 := Bd.out.c0
    have dc1 := Bd.out.c1
    have yx := ox.lenD
    have xx := ox.lenC
    clear dc0 dc1
    have st5 := (Below.refl w4.heap.size w4).alloc (Nat.le_refl _) (.cells #[.slice Ax nx cx, .slice Ex mx dx] 25)
    have Xx := Bt.new w4 25 (.slice Ax nx cx) (.slice Ex mx dx)
    obtain ⟨bx, hbx⟩ : ∃ q, w4.heap.size = q := ⟨_, rfl⟩
    rw [hbx] at Xx
    obtain ⟨w5, e5⟩ : ∃ W, w4.alloc (.cells #[.slice Ax nx cx, .slice Ex mx dx] 25) = W := ⟨_, rfl⟩
    rw [e5] at Xx st5
    have Bx := hid Xx
    clear Xx
    replace od := od.on st5
    replace ox := ox.on st5
    replace Bd := hid (Bd.out.below st5)
    have z5 := st5.size
    replace HB := hid (HB.out.trans (st5.mono HB.out.size))
    clear st5
    have dc0 := Bd.out.c0
    have dc1 := Bd.out.c1
    have xc0 := Bx.out.c0
    have xc1 := Bx.out.c1
    go_wp2_with fail
    clear dc0 dc1 xc0 xc1
    refine (sameCounter_same _ _ _ _ _ _ _ _ _ _ _ _ _ _ _ _ _ od ox).mono ?_
    rintro e w6 ⟨rfl, st6⟩
    replace od := od.on st6
    replace ox := ox.on st6
    replace Bd := hid (Bd.out.below st6)
    replace Bx := hid (Bx.out.below st6)
    have z6 := st6.size
    replace HB := hid (HB.out.trans (st6.mono HB.out.size))
    clear st6
    have dc0 := Bd.out.c0
    have dc1 := Bd.out.c1
    have xc0 := Bx.out.c0
    have xc1 := Bx.out.c1
    obtain ⟨N, rfl⟩ := Int.eq_ofNat_of_zero_le (show 0 ≤ m by omega)
    obtain rfl : nd = N := by omega
    have CK := hid (fun (W : World) (h1 : Sl W W.heap.size Ad nd Z) (h2 : Sl W W.heap.size Ed md Z) => implCounterOk_any Ad nd cd Ed md dd Z Z W h1 h2)
    have CT := hid (fun (W : World) (h1 : Sl W W.heap.size Ad nd Z) (h2 : Sl W W.heap.size Ed md Z) => implToldBy_any Ad nd cd Ed md dd Z Z W h1 h2)
    rw [q1] at CK
    rw [q2] at CT
    clear q1 q2
    go_wp2_with fail
    clear dc0 dc1 xc0 xc1
    with_reducible refine Calls.mono (CK.out _ (Sl.of_own od.d) (Sl.of_own od.e)) ?_
    rintro e w7 ⟨rfl, st7⟩
    replace od := od.on st7
    replace ox := ox.on st7
    replace Bd := hid (Bd.out.below st7)
    replace Bx := hid (Bx.out.below st7)
    have z7 := st7.size
    replace HB := hid (HB.out.trans (st7.mono HB.out.size))
    clear st7
    have dc0 := Bd.out.c0
    have dc1 := Bd.out.c1
    have xc0 := Bx.out.c0
    have xc1 := Bx.out.c1
    go_wp2_with fail
    clear dc0 dc1 xc0 xc1
    with_reducible refine Calls.mono (CT.out _ (Sl.of_own od.d) (Sl.of_own od.e)) ?_
    rintro e w8 ⟨rfl, st8⟩
    replace od := od.on st8
    replace ox := ox.on st8
    replace Bd := hid (Bd.out.below st8)
    replace Bx := hid (Bx.out.below st8)
    have z8 := st8.size
    replace HB := hid (HB.out.trans (st8.mono HB.out.size))
    clear st8
    have dc0 := Bd.out.c0
    have dc1 := Bd.out.c1
    have xc0 := Bx.out.c0
    have xc1 := Bx.out.c1
    go_wp2
    go_ret
    exact ⟨rfl, HB.out⟩
end Go.Proofs.Ytdacjpaaffpfgaa
