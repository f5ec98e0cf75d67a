/-
  The walk of laws.FnCountedOf, written by program (law6.py). No statement is proved here.
-/
import Derived.Test.YtdacjpaaffpfgaaC6i
import Derived.Test.YtdacjpaaffpfgaaC6q
import Derived.Test.YtdacjpaaffpfgaaDrT
import Derived.Test.YtdacjpaaffpfgaaS6b
import Derived.Test.YtdacjpaaffpfgaaExC
import Derived.Test.YtdacjpaaffpfgaaC1a
import Derived.Deep.RegionHeld3
import Derived.IntWalk
namespace Go.Proofs.Ytdacjpaaffpfgaa
open Go.RowKit
set_option linter.unusedVariables false
set_option linter.unusedSimpArgs false

set_option maxRecDepth 100000 in
set_option maxHeartbeats 6400000 in
theorem fnCountedOf_walk (A : Option Addr) (n c : Nat) (w : World) (hs : By w w.heap.size A n) (hc : n ≤ c) :
    Calls Try.prog 7 #[.slice A n c] w fun e w' => e = .returned (.bool true) ∧ Below w.heap.size w w' := by
  have hm : n ≤ 9223372036854775807 := hs.1
  by_cases hbig : 1048576 < n
  · go_enter Try.func7, Try.ntmps7
    go_wp2
    go_ret
    exact ⟨rfl, Below.refl _ _⟩
  go_enter Try.func7, Try.ntmps7
  go_wp2_with fail
  refine (drawCountedOf_any A n c _ hs hc).mono ?_
  rintro e w1 ⟨m, A1, n1, c1, ts, rfl, sc, hn1, m1, m2, hb1⟩
  have HB := hid hb1
  have z1 := hb1.size
  clear hs hc hb1 hbig hm
  replace sc := own_mono (base' := 0) sc (Nat.zero_le _)
  have hwf : (Lit.int .i64 m).wf = true := WalkArith.wf_i64 (by omega)
  have CI := hid (fun (W : World) (h : Sb W W.heap.size A1 n1 ts) => implCountedOf_any m A1 n1 c1 ts W h hwf)
  have CS := hid (fun (W : World) (h : Sb W W.heap.size A1 n1 ts) => specCountedOf_any m A1 n1 c1 ts W h hwf)
  clear hwf
  have yT := (Sb.of_own sc).1
  cases hok : countOk m ts with
  | false =>
    have hz : countD m ts = [] ∧ countC m ts = [] := by unfold countD countC; rw [hok]; exact ⟨rfl, rfl⟩
    rw [hok, hz.1, hz.2] at CI CS
    clear hok hz
    go_wp2_with fail
    with_reducible refine Calls.mono (CI.out _ (Sb.of_own sc)) ?_
    rintro e w2 ⟨Ad, nd, cd, Ed, md, dd, rfl, od, st2⟩
    replace od := od.mono (Nat.zero_le _)
    replace sc := own_on sc st2
    have z2 := st2.size
    replace HB := hid (HB.out.trans (st2.mono HB.out.size))
    clear st2
    have yd := od.lenD
    have xd := od.lenC
    have st3 := (Below.refl w2.heap.size w2).alloc (Nat.le_refl _) (.cells #[.slice Ad nd cd, .slice Ed md dd] 25)
    have Xd := Bt.new w2 25 (.slice Ad nd cd) (.slice Ed md dd)
    obtain ⟨bd, hbd⟩ : ∃ q, w2.heap.size = q := ⟨_, rfl⟩
    rw [hbd] at Xd
    obtain ⟨w3, e3⟩ : ∃ W, w2.alloc (.cells #[.slice Ad nd cd, .slice Ed md dd] 25) = W := ⟨_, rfl⟩
    rw [e3] at Xd st3
    have Bd := hid Xd
    clear Xd
    replace od := od.on st3
    replace sc := own_on sc st3
    have z3 := st3.size
    replace HB := hid (HB.out.trans (st3.mono HB.out.size))
    clear st3
    have dc0 := Bd.out.c0
    have dc1 := Bd.out.c1
    go_wp2_with fail
    clear dc0 dc1
    with_reducible refine Calls.mono (CS.out _ (Sb.of_own sc)) ?_
    rintro e w4 ⟨Ax, nx, cx, Ex, mx, dx, rfl, ox, st4⟩
    replace ox := ox.mono (Nat.zero_le _)
    replace od := od.on st4
    replace sc := own_on sc st4
    replace Bd := hid (Bd.out.below st4)
    have z4 := st4.size
    replace HB := hid (HB.out.trans (st4.mono HB.out.size))
    clear st4
    have dc0 := Bd.out.c0
    have dc1 := Bd.out.c1
    have yx := ox.lenD
    have xx := ox.lenC
    clear dc0 dc1
    have st5 := (Below.refl w4.heap.size w4).alloc (Nat.le_refl _) (.cells #[.slice Ax nx cx, .slice Ex mx dx] 25)
    have Xx := Bt.new w4 25 (.slice Ax nx cx) (.slice Ex mx dx)
    obtain ⟨bx, hbx⟩ : ∃ q, w4.heap.size = q := ⟨_, rfl⟩
    rw [hbx] at Xx
    obtain ⟨w5, e5⟩ : ∃ W, w4.alloc (.cells #[.slice Ax nx cx, .slice Ex mx dx] 25) = W := ⟨_, rfl⟩
    rw [e5] at Xx st5
    have Bx := hid Xx
    clear Xx
    replace od := od.on st5
    replace ox := ox.on st5
    replace sc := own_on sc st5
    replace Bd := hid (Bd.out.below st5)
    have z5 := st5.size
    replace HB := hid (HB.out.trans (st5.mono HB.out.size))
    clear st5
    have dc0 := Bd.out.c0
    have dc1 := Bd.out.c1
    have xc0 := Bx.out.c0
    have xc1 := Bx.out.c1
    go_wp2_with fail
    clear dc0 dc1 xc0 xc1
    refine (sameCounter_same _ _ _ _ _ _ _ _ _ _ _ _ _ _ _ _ _ od ox).mono ?_
    rintro e w6 ⟨rfl, st6⟩
    replace od := od.on st6
    replace ox := ox.on st6
    replace sc := own_on sc st6
    replace Bd := hid (Bd.out.below st6)
    replace Bx := hid (Bx.out.below st6)
    have z6 := st6.size
    replace HB := hid (HB.out.trans (st6.mono HB.out.size))
    clear st6
    have dc0 := Bd.out.c0
    have dc1 := Bd.out.c1
    have xc0 := Bx.out.c0
    have xc1 := Bx.out.c1
    go_wp2_with fail
    clear dc0 dc1 xc0 xc1
    refine (sameCounter_same _ _ _ _ _ _ _ _ _ _ _ _ _ _ _ _ _ od (Ctr.none _ 0)).mono ?_
    rintro e w7 ⟨rfl, st7⟩
    replace od := od.on st7
    replace ox := ox.on st7
    replace sc := own_on sc st7
    replace Bd := hid (Bd.out.below st7)
    replace Bx := hid (Bx.out.below st7)
    have z7 := st7.size
    replace HB := hid (HB.out.trans (st7.mono HB.out.size))
    clear st7
    have dc0 := Bd.out.c0
    have dc1 := Bd.out.c1
    have xc0 := Bx.out.c0
    have xc1 := Bx.out.c1
    go_wp2_with fail
    clear dc0 dc1 xc0 xc1
    refine (alive_any _).mono ?_
    rintro e w8 ⟨rfl, st8⟩
    replace od := od.on st8
    replace ox := ox.on st8
    replace sc := own_on sc st8
    replace Bd := hid (Bd.out.below st8)
    replace Bx := hid (Bx.out.below st8)
    have z8 := st8.size
    replace HB := hid (HB.out.trans (st8.mono HB.out.size))
    clear st8
    have dc0 := Bd.out.c0
    have dc1 := Bd.out.c1
    have xc0 := Bx.out.c0
    have xc1 := Bx.out.c1
    go_wp2
    go_ret
    exact ⟨rfl, HB.out⟩
  | true =>
    obtain ⟨b1, b2, T, o, q1, q2⟩ := counted_law hok
    obtain ⟨TD, hTD⟩ : ∃ l, countD m ts = l := ⟨_, rfl⟩
    obtain ⟨TC, hTC⟩ : ∃ l, countC m ts = l := ⟨_, rfl⟩
    rw [hTD, hTC] at CI CS q1
    rw [hok] at CI CS
    clear hTD hTC hok
    obtain ⟨N, rfl⟩ := Int.eq_ofNat_of_zero_le (show 0 ≤ m by omega)
    rw [Int.toNat_natCast] at q2
    have hp := pow_le8 (show N ≤ 8 by omega)
    obtain ⟨Y, hY⟩ : ∃ Y, (2 : Int) ^ N = Y := ⟨_, rfl⟩
    rw [hY] at hp q2
    have hml : many ts ≤ 300 := Nat.le_trans List.countP_le_length b2
    have ho0 : 0 ≤ (o : Int) * Y := Int.mul_nonneg (by omega) (by omega)
    have hrem : ((many ts : Int) - T).tmod Y = 0 := by rw [show ((many ts : Int) - T) = (o : Int) * Y from by omega, Int.mul_comm]; exact Int.mul_tmod_right _ _
    have hsm : (many ts : Int) < Y → (T : Int) = many ts := by
      intro h
      rcases Nat.eq_zero_or_pos o with h0 | h0
      · subst h0; simp at q2; omega
      · have : Y * 1 ≤ Y * (o : Int) := Int.mul_le_mul_of_nonneg_left (by omega) (by omega)
        rw [Int.mul_comm Y o] at this
        omega
    have hTM : (T : Int) ≤ many ts := by omega
    clear q2 ho0
    go_wp2_with fail
    with_reducible refine Calls.mono (CI.out _ (Sb.of_own sc)) ?_
    rintro e w2 ⟨Ad, nd, cd, Ed, md, dd, rfl, od, st2⟩
    replace od := od.mono (Nat.zero_le _)
    replace sc := own_on sc st2
    have z2 := st2.size
    replace HB := hid (HB.out.trans (st2.mono HB.out.size))
    clear st2
    have yd := od.lenD
    have xd := od.lenC
    have st3 := (Below.refl w2.heap.size w2).alloc (Nat.le_refl _) (.cells #[.slice Ad nd cd, .slice Ed md dd] 25)
    have Xd := Bt.new w2 25 (.slice Ad nd cd) (.slice Ed md dd)
    obtain ⟨bd, hbd⟩ : ∃ q, w2.heap.size = q := ⟨_, rfl⟩
    rw [hbd] at Xd
    obtain ⟨w3, e3⟩ : ∃ W, w2.alloc (.cells #[.slice Ad nd cd, .slice Ed md dd] 25) = W := ⟨_, rfl⟩
    rw [e3] at Xd st3
    have Bd := hid Xd
    clear Xd
    replace od := od.on st3
    replace sc := own_on sc st3
    have z3 := st3.size
    replace HB := hid (HB.out.trans (st3.mono HB.out.size))
    clear st3
    have dc0 := Bd.out.c0
    have dc1 := Bd.out.c1
    go_wp2_with fail
    clear dc0 dc1
    with_reducible refine Calls.mono (CS.out _ (Sb.of_own sc)) ?_
    rintro e w4 ⟨Ax, nx, cx, Ex, mx, dx, rfl, ox, st4⟩
    replace ox := ox.mono (Nat.zero_le _)
    replace od := od.on st4
    replace sc := own_on sc st4
    replace Bd := hid (Bd.out.below st4)
    have z4 := st4.size
    replace HB := hid (HB.out.trans (st4.mono HB.out.size))
    clear st4
    have dc0 := Bd.out.c0
    have dc1 := Bd.out.c1
    have yx := ox.lenD
    have xx := ox.lenC
    clear dc0 dc1
    have st5 := (Below.refl w4.heap.size w4).alloc (Nat.le_refl _) (.cells #[.slice Ax nx cx, .slice Ex mx dx] 25)
    have Xx := Bt.new w4 25 (.slice Ax nx cx) (.slice Ex mx dx)
    obtain ⟨bx, hbx⟩ : ∃ q, w4.heap.size = q := ⟨_, rfl⟩
    rw [hbx] at Xx
    obtain ⟨w5, e5⟩ : ∃ W, w4.alloc (.cells #[.slice Ax nx cx, .slice Ex mx dx] 25) = W := ⟨_, rfl⟩
    rw [e5] at Xx st5
    have Bx := hid Xx
    clear Xx
    replace od := od.on st5
    replace ox := ox.on st5
    replace sc := own_on sc st5
    replace Bd := hid (Bd.out.below st5)
    have z5 := st5.size
    replace HB := hid (HB.out.trans (st5.mono HB.out.size))
    clear st5
    have dc0 := Bd.out.c0
    have dc1 := Bd.out.c1
    have xc0 := Bx.out.c0
    have xc1 := Bx.out.c1
    go_wp2_with fail
    clear dc0 dc1 xc0 xc1
    refine (sameCounter_same _ _ _ _ _ _ _ _ _ _ _ _ _ _ _ _ _ od ox).mono ?_
    rintro e w6 ⟨rfl, st6⟩
    replace od := od.on st6
    replace ox := ox.on st6
    replace sc := own_on sc st6
    replace Bd := hid (Bd.out.below st6)
    replace Bx := hid (Bx.out.below st6)
    have z6 := st6.size
    replace HB := hid (HB.out.trans (st6.mono HB.out.size))
    clear st6
    have dc0 := Bd.out.c0
    have dc1 := Bd.out.c1
    have xc0 := Bx.out.c0
    have xc1 := Bx.out.c1
    have CT := hid (fun (W : World) (h1 : Sl W W.heap.size Ad nd TD) (h2 : Sl W W.heap.size Ed md TC) => implToldBy_any Ad nd cd Ed md dd TD TC W h1 h2)
    rw [q1] at CT
    clear q1 CI CS
    have HC := hid (Sb.of_own sc).2.2
    have HR := hid hrem
    have HM := hid hsm
    have HY := hid hY
    clear hrem hsm hY
    have hmx : n1 ≤ 9223372036854775807 := by omega
    go_wp2_with fail
    go_loopw [9, 10] (fun t i wr => ∃ k : Nat, t = .int .i64 (many (ts.take k)) ∧ i = .int .i64 k ∧ k ≤ n1 ∧ wr = w6) (fun _ i _ => n1 - (intOf i).toNat)
    case atStart => exact ⟨0, by simp [many], rfl, Nat.zero_le _, rfl⟩
    case round =>
      obtain ⟨k, rfl, rfl, hk, rfl⟩ := hrel
      by_cases hlt : k < n1
      · obtain ⟨bb, oo, rfl, _, hcc⟩ := HC.out (by omega)
        have hx := hcc k hlt
        have q1 : (k : Int) < (n1 : Int) := by omega
        have hts := take_bit (l := ts) (k := k) (by omega)
        have hms := many_snoc (ts.take k) (ts.getD k false)
        rw [← hts] at hms
        have hmk : many (ts.take k) ≤ k := Nat.le_trans List.countP_le_length (by rw [List.length_take]; omega)
        obtain ⟨b, hbe⟩ : ∃ b, ts.getD k false = b := ⟨_, rfl⟩
        rw [hbe] at hx hms
        have HS := hid hms
        clear hms hts hbe hcc
        obtain ⟨M, hM⟩ : ∃ M, many (ts.take k) = M := ⟨_, rfl⟩
        rw [hM] at hmk HS ⊢
        clear hM
        cases b with
        | true =>
          go_wp2
          go_roundw
          case rel => exact ⟨k + 1, by rw [HS.out]; simp [bitI], by go_num, by omega, trivial⟩
          case measure => simp [intOf]; omega
        | false =>
          go_wp2
          go_roundw
          case rel => exact ⟨k + 1, by rw [HS.out]; simp [bitI], by go_num, by omega, trivial⟩
          case measure => simp [intOf]; omega
      · obtain rfl : k = n1 := by omega
        rw [List.take_of_length_le (by omega)]
        obtain ⟨M, hM⟩ : ∃ M, many ts = M := ⟨_, rfl⟩
        rw [hM] at hml HR HM hTM ⊢
        clear hlt hk hM
        have e1 : IntKind.i64.wrap ((M : Int) - T) = (M : Int) - T := IntWalk.i64_in _ (by omega)
        have e2 : IntKind.i64.wrap Y = Y := IntWalk.i64_in _ (by omega)
        have e3 : decide ((0 : Int) ≤ (T : Int)) = true := by simp
        have e4 : decide ((T : Int) ≤ (M : Int)) = true := by simp; omega
        have e5 : ¬ Y = 0 := by omega
        have e6 : ((N : Nat) : Int) ≤ 64 := by omega
        go_wp2_with fail
        with_reducible refine Calls.mono (CT.out _ (Sl.of_own od.d) (Sl.of_own od.e)) ?_
        rintro e w8 ⟨rfl, st8⟩
        replace HB := hid (HB.out.trans (st8.mono HB.out.size))
        clear st8
        have hr := HR.out
        have hY := HY.out
        by_cases hge : Y ≤ (M : Int)
        · have e7 : decide (Y ≤ (M : Int)) = true := by simp [hge]
          go_wp2
          go_ret
          exact ⟨rfl, HB.out⟩
        · have hlt : (M : Int) < Y := by omega
          have e7 : decide (Y ≤ (M : Int)) = false := by simp; omega
          obtain rfl : T = M := by have := HM.out hlt; omega
          go_wp2
          go_ret
          exact ⟨rfl, HB.out⟩
end Go.Proofs.Ytdacjpaaffpfgaa
