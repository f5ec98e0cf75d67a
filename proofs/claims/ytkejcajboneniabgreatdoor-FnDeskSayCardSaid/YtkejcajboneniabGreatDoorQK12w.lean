/-
  Texts put together: K12w. No statement is proved here.
-/
import Derived.Test.YtkejcajboneniabGreatDoorQMz
set_option linter.unusedVariables false
set_option linter.unusedSimpArgs false
namespace Go.Proofs.YtkejcajboneniabGreatDoor
open Go.RowKit Go.Maps

/-- Numbers with commas, or none. -/
def rowsJ (l : List Int) : List UInt8 := if l.length = 0 then wNone else joinB l [44]
theorem fire_rows (n : Int) : (if 0 ≤ fireOut n then numB (fireOut n).toNat else wNone) = rowsJ (fireL n) := by
  unfold rowsJ fireL
  split
  · simp [joinB, numT, Lib.join, List.intercalate]
  · simp
theorem rows_rows (l : List Int) : rowsOut l = rowsJ l := by rw [rows_join]; rfl
theorem cut_unended {s : List UInt8} (h : (cutW s 32).2.2 = false) : (cutW s 32).2.1 = [] := by
  unfold cutW at h ⊢
  split
  · rename_i h1; rw [if_pos h1] at h; cases h
  · rfl
theorem fireL_small (n : Int) : ∀ x ∈ fireL n, 0 ≤ x ∧ x ≤ 1000 := by
  intro x hx
  unfold fireL at hx
  split at hx
  · rename_i h0
    have := fireOut_leP n
    simp at hx
    omega
  · simp at hx
theorem wf_smallP {n : Int} (h1 : -1 ≤ n) (h2 : n < 1000000) : (Lit.int .i64 n).wf = true := by
  have e1 : IntKind.i64.min = -9223372036854775808 := by decide
  have e2 : IntKind.i64.max = 9223372036854775807 := by decide
  simp [Lit.wf, e1, e2]
  omega

set_option maxRecDepth 100000 in
set_option maxHeartbeats 6400000 in
theorem answer_any (A : Option Addr) (n c : Nat) (A2 : Option Addr) (m c2 : Nat) (D : Dk) (s : List UInt8) (w : World) (h : DkR w w.heap.size A n c A2 m c2 D) (hok : bitsOk D.now = true) (hs : s.length ≤ 2000000) (hT : TabsL w) :
    Calls Tryz.prog 98 #[dsk A n c A2 m c2, encStr s] w fun e w' => e = .returned (encStr (askOut D.now s)) ∧ Below w.heap.size w w' := by
  have B0 := (Below.refl w.heap.size w).alloc (Nat.le_refl _) (.cells #[.slice A n c, .slice A2 m c2] 31)
  have X0 := Db.new w (.slice A n c) (.slice A2 m c2)
  obtain ⟨w0, e0⟩ : ∃ W, w.alloc (.cells #[.slice A n c, .slice A2 m c2] 31) = W := ⟨_, rfl⟩
  have hz0 : w0.heap.size = w.heap.size + 1 := by rw [← e0]; simp
  rw [e0] at B0 X0
  have HN := hid h.now
  have HX0 := hid X0
  have HB0 := hid B0
  have HOK := hid hok
  have HTT := hid (fun (W : World) (hW : Below w.heap.size w W) => hT.below hW)
  have CR := hid (ringQuestions_any w0)
  clear B0 X0 h hok
  by_cases hwRow : s = wRow
  · subst hwRow
    have HV := hid (show askOut D.now wRow = rowTextOut D.now from by unfold askOut; rw [if_pos rfl])
    go_enter Tryz.func98, Tryz.ntmps98
    go_wp2_with fail
    with_reducible refine Calls.mono CR.out ?_
    rintro e w1 ⟨rfl, M1, b1⟩
    have HB1 := hid (HB0.out.trans (b1.mono (by omega)))
    have X1 := HX0.out.below b1 (by omega)
    have c0 := X1.c0
    have c1 := X1.c1
    obtain ⟨v, hr, hv⟩ := ringLook w1 _ M1 wRow (by decide)
    rw [hz0] at hr
    obtain ⟨kk, ek, rfl⟩ := hv 140 (by decide)
    obtain rfl : kk = 140 := by omega
    rw [show (wordAt askRingL wRow).isSome = true from by decide] at hr
    have CM := hid (mRow_any A n c A2 m c2 D w1 (HN.out.on HB1.out) (HTT.out _ HB1.out).P)
    clear M1 b1 X1 hv ek e0
    go_wp2_with fail
    with_reducible refine Calls.mono CM.out ?_
    rintro e w2 ⟨rfl, b2⟩
    have HB2 := hid (HB1.out.trans (b2.mono HB1.out.size))
    clear b2
    go_wp2
    go_ret
    exact ⟨by rw [HV.out]; rfl, HB2.out⟩
  by_cases hwOnes : s = wOnes
  · subst hwOnes
    have HV := hid (show askOut D.now wOnes = numB (onesOut D.now).toNat from by unfold askOut; rw [if_neg (by decide)]; rw [if_pos rfl])
    go_enter Tryz.func98, Tryz.ntmps98
    go_wp2_with fail
    with_reducible refine Calls.mono CR.out ?_
    rintro e w1 ⟨rfl, M1, b1⟩
    have HB1 := hid (HB0.out.trans (b1.mono (by omega)))
    have X1 := HX0.out.below b1 (by omega)
    have c0 := X1.c0
    have c1 := X1.c1
    obtain ⟨v, hr, hv⟩ := ringLook w1 _ M1 wOnes (by decide)
    rw [hz0] at hr
    obtain ⟨kk, ek, rfl⟩ := hv 141 (by decide)
    obtain rfl : kk = 141 := by omega
    rw [show (wordAt askRingL wOnes).isSome = true from by decide] at hr
    have CM := hid (mOnes_any A n c A2 m c2 D w1 (HN.out.on HB1.out) HOK.out (HTT.out _ HB1.out).P)
    clear M1 b1 X1 hv ek e0
    go_wp2_with fail
    with_reducible refine Calls.mono CM.out ?_
    rintro e w2 ⟨rfl, b2⟩
    have HB2 := hid (HB1.out.trans (b2.mono HB1.out.size))
    clear b2
    go_wp2
    go_ret
    exact ⟨by rw [HV.out]; rfl, HB2.out⟩
  by_cases hwFlow : s = wFlow
  · subst hwFlow
    have HV := hid (show askOut D.now wFlow = numB (flowOut D.now).toNat from by unfold askOut; rw [if_neg (by decide)]; rw [if_neg (by decide)]; rw [if_pos rfl])
    go_enter Tryz.func98, Tryz.ntmps98
    go_wp2_with fail
    with_reducible refine Calls.mono CR.out ?_
    rintro e w1 ⟨rfl, M1, b1⟩
    have HB1 := hid (HB0.out.trans (b1.mono (by omega)))
    have X1 := HX0.out.below b1 (by omega)
    have c0 := X1.c0
    have c1 := X1.c1
    obtain ⟨v, hr, hv⟩ := ringLook w1 _ M1 wFlow (by decide)
    rw [hz0] at hr
    obtain ⟨kk, ek, rfl⟩ := hv 142 (by decide)
    obtain rfl : kk = 142 := by omega
    rw [show (wordAt askRingL wFlow).isSome = true from by decide] at hr
    have CM := hid (mFlow_any A n c A2 m c2 D w1 (HN.out.on HB1.out) HOK.out (HTT.out _ HB1.out).P)
    clear M1 b1 X1 hv ek e0
    go_wp2_with fail
    with_reducible refine Calls.mono CM.out ?_
    rintro e w2 ⟨rfl, b2⟩
    have HB2 := hid (HB1.out.trans (b2.mono HB1.out.size))
    clear b2
    go_wp2
    go_ret
    exact ⟨by rw [HV.out]; rfl, HB2.out⟩
  by_cases hwEnd : s = wEnd
  · subst hwEnd
    have HV := hid (show askOut D.now wEnd = numB (endOut D.now).toNat from by unfold askOut; rw [if_neg (by decide)]; rw [if_neg (by decide)]; rw [if_neg (by decide)]; rw [if_pos rfl])
    go_enter Tryz.func98, Tryz.ntmps98
    go_wp2_with fail
    with_reducible refine Calls.mono CR.out ?_
    rintro e w1 ⟨rfl, M1, b1⟩
    have HB1 := hid (HB0.out.trans (b1.mono (by omega)))
    have X1 := HX0.out.below b1 (by omega)
    have c0 := X1.c0
    have c1 := X1.c1
    obtain ⟨v, hr, hv⟩ := ringLook w1 _ M1 wEnd (by decide)
    rw [hz0] at hr
    obtain ⟨kk, ek, rfl⟩ := hv 143 (by decide)
    obtain rfl : kk = 143 := by omega
    rw [show (wordAt askRingL wEnd).isSome = true from by decide] at hr
    have CM := hid (mEnd_any A n c A2 m c2 D w1 (HN.out.on HB1.out) HOK.out (HTT.out _ HB1.out).P)
    clear M1 b1 X1 hv ek e0
    go_wp2_with fail
    with_reducible refine Calls.mono CM.out ?_
    rintro e w2 ⟨rfl, b2⟩
    have HB2 := hid (HB1.out.trans (b2.mono HB1.out.size))
    clear b2
    go_wp2
    go_ret
    exact ⟨by rw [HV.out]; rfl, HB2.out⟩
  by_cases hwFlowing : s = wFlowing
  · subst hwFlowing
    have HV := hid (show askOut D.now wFlowing = numB (flowingOut D.now).toNat from by unfold askOut; rw [if_neg (by decide)]; rw [if_neg (by decide)]; rw [if_neg (by decide)]; rw [if_neg (by decide)]; rw [if_pos rfl])
    go_enter Tryz.func98, Tryz.ntmps98
    go_wp2_with fail
    with_reducible refine Calls.mono CR.out ?_
    rintro e w1 ⟨rfl, M1, b1⟩
    have HB1 := hid (HB0.out.trans (b1.mono (by omega)))
    have X1 := HX0.out.below b1 (by omega)
    have c0 := X1.c0
    have c1 := X1.c1
    obtain ⟨v, hr, hv⟩ := ringLook w1 _ M1 wFlowing (by decide)
    rw [hz0] at hr
    obtain ⟨kk, ek, rfl⟩ := hv 144 (by decide)
    obtain rfl : kk = 144 := by omega
    rw [show (wordAt askRingL wFlowing).isSome = true from by decide] at hr
    have CM := hid (mFlowing_any A n c A2 m c2 D w1 (HN.out.on HB1.out) HOK.out (HTT.out _ HB1.out).P)
    clear M1 b1 X1 hv ek e0
    go_wp2_with fail
    with_reducible refine Calls.mono CM.out ?_
    rintro e w2 ⟨rfl, b2⟩
    have HB2 := hid (HB1.out.trans (b2.mono HB1.out.size))
    clear b2
    go_wp2
    go_ret
    exact ⟨by rw [HV.out]; rfl, HB2.out⟩
  by_cases hwSettled : s = wSettled
  · subst hwSettled
    have HV := hid (show askOut D.now wSettled = numB (settleC D.now).toNat from by unfold askOut; rw [if_neg (by decide)]; rw [if_neg (by decide)]; rw [if_neg (by decide)]; rw [if_neg (by decide)]; rw [if_neg (by decide)]; rw [if_pos rfl])
    go_enter Tryz.func98, Tryz.ntmps98
    go_wp2_with fail
    with_reducible refine Calls.mono CR.out ?_
    rintro e w1 ⟨rfl, M1, b1⟩
    have HB1 := hid (HB0.out.trans (b1.mono (by omega)))
    have X1 := HX0.out.below b1 (by omega)
    have c0 := X1.c0
    have c1 := X1.c1
    obtain ⟨v, hr, hv⟩ := ringLook w1 _ M1 wSettled (by decide)
    rw [hz0] at hr
    obtain ⟨kk, ek, rfl⟩ := hv 145 (by decide)
    obtain rfl : kk = 145 := by omega
    rw [show (wordAt askRingL wSettled).isSome = true from by decide] at hr
    have CM := hid (mSettled_any A n c A2 m c2 D w1 (HN.out.on HB1.out) HOK.out (HTT.out _ HB1.out).P)
    clear M1 b1 X1 hv ek e0
    go_wp2_with fail
    with_reducible refine Calls.mono CM.out ?_
    rintro e w2 ⟨rfl, b2⟩
    have HB2 := hid (HB1.out.trans (b2.mono HB1.out.size))
    clear b2
    go_wp2
    go_ret
    exact ⟨by rw [HV.out]; rfl, HB2.out⟩
  by_cases hwFirm : s = wFirm
  · subst hwFirm
    have HV := hid (show askOut D.now wFirm = rowsOut (firmOut D.now) from by unfold askOut; rw [if_neg (by decide)]; rw [if_neg (by decide)]; rw [if_neg (by decide)]; rw [if_neg (by decide)]; rw [if_neg (by decide)]; rw [if_neg (by decide)]; rw [if_pos rfl])
    go_enter Tryz.func98, Tryz.ntmps98
    go_wp2_with fail
    with_reducible refine Calls.mono CR.out ?_
    rintro e w1 ⟨rfl, M1, b1⟩
    have HB1 := hid (HB0.out.trans (b1.mono (by omega)))
    have X1 := HX0.out.below b1 (by omega)
    have c0 := X1.c0
    have c1 := X1.c1
    obtain ⟨v, hr, hv⟩ := ringLook w1 _ M1 wFirm (by decide)
    rw [hz0] at hr
    obtain ⟨kk, ek, rfl⟩ := hv 146 (by decide)
    obtain rfl : kk = 146 := by omega
    rw [show (wordAt askRingL wFirm).isSome = true from by decide] at hr
    have CM := hid (mFirm_any A n c A2 m c2 D w1 (HN.out.on HB1.out) HOK.out (HTT.out _ HB1.out))
    clear M1 b1 X1 hv ek e0
    go_wp2_with fail
    with_reducible refine Calls.mono CM.out ?_
    rintro e w2 ⟨rfl, b2⟩
    have HB2 := hid (HB1.out.trans (b2.mono HB1.out.size))
    clear b2
    go_wp2
    go_ret
    exact ⟨by rw [HV.out]; rfl, HB2.out⟩
  have HV := hid (show askOut D.now s = askW s from by unfold askOut; rw [if_neg hwRow, if_neg hwOnes, if_neg hwFlow, if_neg hwEnd, if_neg hwFlowing, if_neg hwSettled, if_neg hwFirm])
  have kwRow : ¬ s = [114, 111, 119] := hwRow
  have kwOnes : ¬ s = [111, 110, 101, 115] := hwOnes
  have kwFlow : ¬ s = [102, 108, 111, 119] := hwFlow
  have kwEnd : ¬ s = [101, 110, 100] := hwEnd
  have kwFlowing : ¬ s = [102, 108, 111, 119, 105, 110, 103] := hwFlowing
  have kwSettled : ¬ s = [115, 101, 116, 116, 108, 101, 100] := hwSettled
  have kwFirm : ¬ s = [102, 105, 114, 109] := hwFirm
  have HNO := hid (show wordAt askRingL s = none from by simp [askRingL, wordAt, kwRow, kwOnes, kwFlow, kwEnd, kwFlowing, kwSettled, kwFirm])
  clear hwRow hwOnes hwFlow hwEnd hwFlowing hwSettled hwFirm kwRow kwOnes kwFlow kwEnd kwFlowing kwSettled kwFirm
  have HW := hid (askW_cut s)
  have hcl : (cutW s 32).1.length ≤ 2000000 ∧ (cutW s 32).2.1.length ≤ 2000000 := by
    unfold cutW
    split
    · exact ⟨by show (s.take _).length ≤ _; rw [List.length_take]; omega, by show (s.drop _).length ≤ _; rw [List.length_drop]; omega⟩
    · exact ⟨hs, by show ([] : List UInt8).length ≤ _; simp⟩
  have CC := hid (fun (W : World) => strCut_any s 32 W (by omega))
  have HUN := hid (cut_unended (s := s))
  obtain ⟨word, hword⟩ : ∃ x, (cutW s 32).1 = x := ⟨_, rfl⟩
  obtain ⟨rest, hrest⟩ : ∃ x, (cutW s 32).2.1 = x := ⟨_, rfl⟩
  obtain ⟨spaced, hsp⟩ : ∃ x, (cutW s 32).2.2 = x := ⟨_, rfl⟩
  rw [hword, hrest, hsp] at CC HW
  rw [hrest, hsp] at HUN
  rw [hword, hrest] at hcl
  clear hword hrest hsp
  have CQ := hid (fun (W : World) => numberQuestions_any W)
  have CN := hid (fun (W : World) (hW : Below w.heap.size w W) => numberOf_any rest 999999 W (by omega) (by omega) (hT.below hW))
  have HD := hid (num_digits rest)
  cases spaced with
  | false =>
    replace HV := hid (HV.out.trans (HW.out.trans (show _ = wWhat from by rw [if_neg (by simp)])))
    obtain rfl : rest = [] := HUN.out rfl
    rw [show numOut [] 999999 = (0, false) from rfl] at CN
    clear HD HW HUN
    go_enter Tryz.func98, Tryz.ntmps98
    go_wp2_with fail
    with_reducible refine Calls.mono CR.out ?_
    rintro e w1 ⟨rfl, M1, b1⟩
    have HB1 := hid (HB0.out.trans (b1.mono (by omega)))
    obtain ⟨v, hr, hv⟩ := ringLook w1 _ M1 s (by omega)
    rw [hz0] at hr
    rw [HNO.out, Option.isSome_none] at hr
    clear M1 b1 hv e0
    go_wp2_with fail
    with_reducible refine Calls.mono (CC.out _) ?_
    rintro e w2 ⟨rfl, b2⟩
    have HB2 := hid (HB1.out.trans (b2.mono HB1.out.size))
    clear b2 hr
    go_wp2_with fail
    with_reducible refine Calls.mono (CQ.out _) ?_
    rintro e w3 ⟨rfl, M3, b3⟩
    have HB3 := hid (HB2.out.trans (b3.mono HB2.out.size))
    obtain ⟨v3, hr3, hv3⟩ := numLook w3 _ M3 word (by omega)
    clear M3 b3
    -- no number, or a word that is not asked
    cases hb : (wordAt askNumL word).isSome with
    | false =>
      rw [hb] at hr3
      clear hv3
      go_wp2_with fail
      with_reducible refine Calls.mono (CN.out _ HB3.out) ?_
      rintro e w4 ⟨rfl, b4⟩
      have HB4 := hid (HB3.out.trans (b4.mono HB3.out.size))
      clear b4
      go_wp2
      go_ret
      exact ⟨by rw [HV.out]; rfl, HB4.out⟩
    | true =>
      rw [hb] at hr3
      clear hv3
      go_wp2_with fail
      with_reducible refine Calls.mono (CN.out _ HB3.out) ?_
      rintro e w4 ⟨rfl, b4⟩
      have HB4 := hid (HB3.out.trans (b4.mono HB3.out.size))
      clear b4
      go_wp2
      go_ret
      exact ⟨by rw [HV.out]; rfl, HB4.out⟩
  | true =>
    by_cases hd : digitsOut rest < 0
    · replace HV := hid (HV.out.trans (HW.out.trans (show _ = wWhat from by rw [if_pos rfl]; unfold askN; rw [if_pos hd])))
      rw [HD.out, if_pos hd] at CN
      clear HD HW HUN hd
      go_enter Tryz.func98, Tryz.ntmps98
      go_wp2_with fail
      with_reducible refine Calls.mono CR.out ?_
      rintro e w1 ⟨rfl, M1, b1⟩
      have HB1 := hid (HB0.out.trans (b1.mono (by omega)))
      obtain ⟨v, hr, hv⟩ := ringLook w1 _ M1 s (by omega)
      rw [hz0] at hr
      rw [HNO.out, Option.isSome_none] at hr
      clear M1 b1 hv e0
      go_wp2_with fail
      with_reducible refine Calls.mono (CC.out _) ?_
      rintro e w2 ⟨rfl, b2⟩
      have HB2 := hid (HB1.out.trans (b2.mono HB1.out.size))
      clear b2 hr
      go_wp2_with fail
      with_reducible refine Calls.mono (CQ.out _) ?_
      rintro e w3 ⟨rfl, M3, b3⟩
      have HB3 := hid (HB2.out.trans (b3.mono HB2.out.size))
      obtain ⟨v3, hr3, hv3⟩ := numLook w3 _ M3 word (by omega)
      clear M3 b3
      -- no number, or a word that is not asked
      cases hb : (wordAt askNumL word).isSome with
      | false =>
        rw [hb] at hr3
        clear hv3
        go_wp2_with fail
        with_reducible refine Calls.mono (CN.out _ HB3.out) ?_
        rintro e w4 ⟨rfl, b4⟩
        have HB4 := hid (HB3.out.trans (b4.mono HB3.out.size))
        clear b4
        go_wp2
        go_ret
        exact ⟨by rw [HV.out]; rfl, HB4.out⟩
      | true =>
        rw [hb] at hr3
        clear hv3
        go_wp2_with fail
        with_reducible refine Calls.mono (CN.out _ HB3.out) ?_
        rintro e w4 ⟨rfl, b4⟩
        have HB4 := hid (HB3.out.trans (b4.mono HB3.out.size))
        clear b4
        go_wp2
        go_ret
        exact ⟨by rw [HV.out]; rfl, HB4.out⟩
    · have hdl := digitsOut_le rest
      rw [HD.out, if_neg hd] at CN
      rw [if_pos rfl] at HW
      clear HD HUN
      obtain ⟨N, hN⟩ : ∃ x, digitsOut rest = x := ⟨_, rfl⟩
      rw [hN] at CN HW hd hdl
      clear hN
      have hwf := hid (wf_smallP (n := N) (by omega) (by omega))
      by_cases hwMiddles : word = wMiddles
      · subst hwMiddles
        replace HV := hid (HV.out.trans (HW.out.trans (show _ = rowsJ (middles N) from by unfold askN; rw [if_neg hd]; rw [if_pos rfl, rows_rows])))
        have HSM := hid (middles_small N)
        go_enter Tryz.func98, Tryz.ntmps98
        go_wp2_with fail
        with_reducible refine Calls.mono CR.out ?_
        rintro e w1 ⟨rfl, M1, b1⟩
        have HB1 := hid (HB0.out.trans (b1.mono (by omega)))
        obtain ⟨v, hr, hv⟩ := ringLook w1 _ M1 s (by omega)
        rw [hz0] at hr
        rw [HNO.out, Option.isSome_none] at hr
        clear M1 b1 hv e0
        go_wp2_with fail
        with_reducible refine Calls.mono (CC.out _) ?_
        rintro e w2 ⟨rfl, b2⟩
        have HB2 := hid (HB1.out.trans (b2.mono HB1.out.size))
        clear b2 hr
        go_wp2_with fail
        with_reducible refine Calls.mono (CQ.out _) ?_
        rintro e w3 ⟨rfl, M3, b3⟩
        have HB3 := hid (HB2.out.trans (b3.mono HB2.out.size))
        obtain ⟨v3, hr3, hv3⟩ := numLook w3 _ M3 wMiddles (by decide)
        clear M3 b3
        obtain ⟨kk, ek, rfl⟩ := hv3 147 (by decide)
        obtain rfl : kk = 147 := by omega
        rw [show (wordAt askNumL wMiddles).isSome = true from by decide] at hr3
        clear hv3 ek
        go_wp2_with fail
        with_reducible refine Calls.mono (CN.out _ HB3.out) ?_
        rintro e w4 ⟨rfl, b4⟩
        have HB4 := hid (HB3.out.trans (b4.mono HB3.out.size))
        have CM := hid (implMiddlesOf_any N w4 (HTT.out _ HB4.out).t)
        clear b4 hr3
        go_wp2_with fail
        with_reducible refine Calls.mono CM.out ?_
        rintro e w5 ⟨A5, m5, c5, rfl, o5, hm5, b5⟩
        have HB5 := hid (HB4.out.trans (b5.mono HB4.out.size))
        have hl5 : (middles N).length = m5 := (Sl.of_own o5).len
        by_cases h0 : m5 = 0
        · subst h0
          replace HV := hid (HV.out.trans (show _ = wNone from by unfold rowsJ; rw [if_pos hl5]))
          clear o5 b5 hl5
          go_wp2
          go_ret
          exact ⟨by rw [HV.out]; rfl, HB5.out⟩
        · have hpos : (0 : Int) < (m5 : Int) := by omega
          replace HV := hid (HV.out.trans (show _ = joinB (middles N) [44] from by unfold rowsJ; rw [if_neg (by omega)]))
          have CJ := hid (joined_any A5 m5 c5 (middles N) [44] w5 (Sl.of_own o5) (fun x hx => by have := HSM.out x hx; omega) (by omega) (by simp) (HTT.out _ HB5.out).P)
          clear o5 b5 hl5
          go_wp2_with fail
          with_reducible refine Calls.mono CJ.out ?_
          rintro e w6 ⟨rfl, b6⟩
          have HB6 := hid (HB5.out.trans (b6.mono HB5.out.size))
          clear b6
          go_wp2
          go_ret
          exact ⟨by rw [HV.out]; rfl, HB6.out⟩
      by_cases hwRounds : word = wRounds
      · subst hwRounds
        replace HV := hid (HV.out.trans (HW.out.trans (show _ = rowsJ (roundsOut N) from by unfold askN; rw [if_neg hd]; rw [if_neg (by decide), if_pos rfl, rows_rows])))
        have HSM := hid (rounds_small N)
        go_enter Tryz.func98, Tryz.ntmps98
        go_wp2_with fail
        with_reducible refine Calls.mono CR.out ?_
        rintro e w1 ⟨rfl, M1, b1⟩
        have HB1 := hid (HB0.out.trans (b1.mono (by omega)))
        obtain ⟨v, hr, hv⟩ := ringLook w1 _ M1 s (by omega)
        rw [hz0] at hr
        rw [HNO.out, Option.isSome_none] at hr
        clear M1 b1 hv e0
        go_wp2_with fail
        with_reducible refine Calls.mono (CC.out _) ?_
        rintro e w2 ⟨rfl, b2⟩
        have HB2 := hid (HB1.out.trans (b2.mono HB1.out.size))
        clear b2 hr
        go_wp2_with fail
        with_reducible refine Calls.mono (CQ.out _) ?_
        rintro e w3 ⟨rfl, M3, b3⟩
        have HB3 := hid (HB2.out.trans (b3.mono HB2.out.size))
        obtain ⟨v3, hr3, hv3⟩ := numLook w3 _ M3 wRounds (by decide)
        clear M3 b3
        obtain ⟨kk, ek, rfl⟩ := hv3 148 (by decide)
        obtain rfl : kk = 148 := by omega
        rw [show (wordAt askNumL wRounds).isSome = true from by decide] at hr3
        clear hv3 ek
        go_wp2_with fail
        with_reducible refine Calls.mono (CN.out _ HB3.out) ?_
        rintro e w4 ⟨rfl, b4⟩
        have HB4 := hid (HB3.out.trans (b4.mono HB3.out.size))
        have CM := hid (implRoundsOf_any N w4 hwf.out)
        clear b4 hr3
        go_wp2_with fail
        with_reducible refine Calls.mono CM.out ?_
        rintro e w5 ⟨A5, m5, c5, rfl, o5, hm5, b5⟩
        have HB5 := hid (HB4.out.trans (b5.mono HB4.out.size))
        have hl5 : (roundsOut N).length = m5 := (Sl.of_own o5).len
        by_cases h0 : m5 = 0
        · subst h0
          replace HV := hid (HV.out.trans (show _ = wNone from by unfold rowsJ; rw [if_pos hl5]))
          clear o5 b5 hl5
          go_wp2
          go_ret
          exact ⟨by rw [HV.out]; rfl, HB5.out⟩
        · have hpos : (0 : Int) < (m5 : Int) := by omega
          replace HV := hid (HV.out.trans (show _ = joinB (roundsOut N) [44] from by unfold rowsJ; rw [if_neg (by omega)]))
          have CJ := hid (joined_any A5 m5 c5 (roundsOut N) [44] w5 (Sl.of_own o5) (fun x hx => by have := HSM.out x hx; omega) (by omega) (by simp) (HTT.out _ HB5.out).P)
          clear o5 b5 hl5
          go_wp2_with fail
          with_reducible refine Calls.mono CJ.out ?_
          rintro e w6 ⟨rfl, b6⟩
          have HB6 := hid (HB5.out.trans (b6.mono HB5.out.size))
          clear b6
          go_wp2
          go_ret
          exact ⟨by rw [HV.out]; rfl, HB6.out⟩
      by_cases hwFire : word = wFire
      · subst hwFire
        replace HV := hid (HV.out.trans (HW.out.trans (show _ = rowsJ (fireL N) from by unfold askN; rw [if_neg hd]; rw [if_neg (by decide), if_neg (by decide), if_pos rfl, fire_rows])))
        have HSM := hid (fireL_small N)
        go_enter Tryz.func98, Tryz.ntmps98
        go_wp2_with fail
        with_reducible refine Calls.mono CR.out ?_
        rintro e w1 ⟨rfl, M1, b1⟩
        have HB1 := hid (HB0.out.trans (b1.mono (by omega)))
        obtain ⟨v, hr, hv⟩ := ringLook w1 _ M1 s (by omega)
        rw [hz0] at hr
        rw [HNO.out, Option.isSome_none] at hr
        clear M1 b1 hv e0
        go_wp2_with fail
        with_reducible refine Calls.mono (CC.out _) ?_
        rintro e w2 ⟨rfl, b2⟩
        have HB2 := hid (HB1.out.trans (b2.mono HB1.out.size))
        clear b2 hr
        go_wp2_with fail
        with_reducible refine Calls.mono (CQ.out _) ?_
        rintro e w3 ⟨rfl, M3, b3⟩
        have HB3 := hid (HB2.out.trans (b3.mono HB2.out.size))
        obtain ⟨v3, hr3, hv3⟩ := numLook w3 _ M3 wFire (by decide)
        clear M3 b3
        obtain ⟨kk, ek, rfl⟩ := hv3 149 (by decide)
        obtain rfl : kk = 149 := by omega
        rw [show (wordAt askNumL wFire).isSome = true from by decide] at hr3
        clear hv3 ek
        go_wp2_with fail
        with_reducible refine Calls.mono (CN.out _ HB3.out) ?_
        rintro e w4 ⟨rfl, b4⟩
        have HB4 := hid (HB3.out.trans (b4.mono HB3.out.size))
        have CM := hid (firesOf_any N w4 hwf.out (HTT.out _ HB4.out))
        clear b4 hr3
        go_wp2_with fail
        with_reducible refine Calls.mono CM.out ?_
        rintro e w5 ⟨A5, m5, c5, rfl, o5, hm5, b5⟩
        have HB5 := hid (HB4.out.trans (b5.mono HB4.out.size))
        have hl5 : (fireL N).length = m5 := (Sl.of_own o5).len
        by_cases h0 : m5 = 0
        · subst h0
          replace HV := hid (HV.out.trans (show _ = wNone from by unfold rowsJ; rw [if_pos hl5]))
          clear o5 b5 hl5
          go_wp2
          go_ret
          exact ⟨by rw [HV.out]; rfl, HB5.out⟩
        · have hpos : (0 : Int) < (m5 : Int) := by omega
          replace HV := hid (HV.out.trans (show _ = joinB (fireL N) [44] from by unfold rowsJ; rw [if_neg (by omega)]))
          have CJ := hid (joined_any A5 m5 c5 (fireL N) [44] w5 (Sl.of_own o5) (fun x hx => by have := HSM.out x hx; omega) (by omega) (by simp) (HTT.out _ HB5.out).P)
          clear o5 b5 hl5
          go_wp2_with fail
          with_reducible refine Calls.mono CJ.out ?_
          rintro e w6 ⟨rfl, b6⟩
          have HB6 := hid (HB5.out.trans (b6.mono HB5.out.size))
          clear b6
          go_wp2
          go_ret
          exact ⟨by rw [HV.out]; rfl, HB6.out⟩
      have kwMiddles : ¬ word = [109, 105, 100, 100, 108, 101, 115] := hwMiddles
      have kwRounds : ¬ word = [114, 111, 117, 110, 100, 115] := hwRounds
      have kwFire : ¬ word = [102, 105, 114, 101] := hwFire
      replace HV := hid (HV.out.trans (HW.out.trans (show _ = wWhat from by unfold askN; rw [if_neg hd, if_neg hwMiddles, if_neg hwRounds, if_neg hwFire])))
      have HNN := hid (show wordAt askNumL word = none from by simp [askNumL, wordAt, kwMiddles, kwRounds, kwFire])
      clear hwMiddles hwRounds hwFire kwMiddles kwRounds kwFire
      go_enter Tryz.func98, Tryz.ntmps98
      go_wp2_with fail
      with_reducible refine Calls.mono CR.out ?_
      rintro e w1 ⟨rfl, M1, b1⟩
      have HB1 := hid (HB0.out.trans (b1.mono (by omega)))
      obtain ⟨v, hr, hv⟩ := ringLook w1 _ M1 s (by omega)
      rw [hz0] at hr
      rw [HNO.out, Option.isSome_none] at hr
      clear M1 b1 hv e0
      go_wp2_with fail
      with_reducible refine Calls.mono (CC.out _) ?_
      rintro e w2 ⟨rfl, b2⟩
      have HB2 := hid (HB1.out.trans (b2.mono HB1.out.size))
      clear b2 hr
      go_wp2_with fail
      with_reducible refine Calls.mono (CQ.out _) ?_
      rintro e w3 ⟨rfl, M3, b3⟩
      have HB3 := hid (HB2.out.trans (b3.mono HB2.out.size))
      obtain ⟨v3, hr3, hv3⟩ := numLook w3 _ M3 word (by omega)
      clear M3 b3
      have hb : (wordAt askNumL word).isSome = false := by rw [HNN.out]; rfl
      rw [hb] at hr3
      clear hv3
      go_wp2_with fail
      with_reducible refine Calls.mono (CN.out _ HB3.out) ?_
      rintro e w4 ⟨rfl, b4⟩
      have HB4 := hid (HB3.out.trans (b4.mono HB3.out.size))
      clear b4
      go_wp2
      go_ret
      exact ⟨by rw [HV.out]; rfl, HB4.out⟩
end Go.Proofs.YtkejcajboneniabGreatDoor
