/-
  The walk of the program's ChosenAt. No statement is proved here.
-/
import Derived.Test.YtegmkacapldnoaaC9u
import Derived.Test.YtegmkacapldnoaaQr
namespace Go.Proofs.Ytegmkacapldnoaa
open Go.RowKit
set_option linter.unusedVariables false
set_option linter.unusedSimpArgs false

theorem results_cell3 {fn : Func} {p q r : Tmp} {ty tz tx : TypeId} (h : fn.results = #[.cell p ty, .cell q tz, .cell r tx]) (tmps : Array Value) (P : Program) (w : World) :
    (results fn tmps).run P w = ((asAddr (tmps.getD p undef)).run P w).andThen fun a w₁ => ((loadVar ty a).run P w₁).andThen fun v w₂ =>
      ((asAddr (tmps.getD q undef)).run P w₂).andThen fun b w₃ => ((loadVar tz b).run P w₃).andThen fun u w₄ =>
      ((asAddr (tmps.getD r undef)).run P w₄).andThen fun d w₅ => ((loadVar tx d).run P w₅).andThen fun z w₆ => .ok (.tuple #[v, u, z]) w₆ := by
  simp only [results, h]
  simp [Sem.run_bind, Result.andThen]
theorem boxed_below {W W' : World} {b : Nat} {t : TypeId} {v : Value} (h : Boxed W b t v) (hb : Below W.heap.size W W') : Boxed W' b t v := (hb.block _ h.lt).trans h
/-- Three variables in blocks of their own are stored. -/
theorem three_set {W : World} {b1 b2 b3 : Nat} {t1 t2 t3 : TypeId} {v1 v2 v3 : Value} (u1 u2 u3 : Value) (h1 : Boxed W b1 t1 v1) (h2 : Boxed W b2 t2 v2) (h3 : Boxed W b3 t3 v3) (n12 : b1 ≠ b2) (n13 : b1 ≠ b3) (n23 : b2 ≠ b3) :
    Boxed (((W.setCell ⟨b1, 0, none⟩ u1).setCell ⟨b2, 0, none⟩ u2).setCell ⟨b3, 0, none⟩ u3) b1 t1 u1 ∧ Boxed (((W.setCell ⟨b1, 0, none⟩ u1).setCell ⟨b2, 0, none⟩ u2).setCell ⟨b3, 0, none⟩ u3) b2 t2 u2 ∧
    Boxed (((W.setCell ⟨b1, 0, none⟩ u1).setCell ⟨b2, 0, none⟩ u2).setCell ⟨b3, 0, none⟩ u3) b3 t3 u3 := by
  have o : ∀ (V : World) (a k : Nat) (u : Value), k ≠ a → (V.setCell ⟨a, 0, none⟩ u).heap[k]? = V.heap[k]? := fun V a k u h => heap_setCell_other V ⟨a, 0, none⟩ k u (by simpa using h)
  have s1 : Boxed (W.setCell ⟨b1, 0, none⟩ u1) b1 t1 u1 := h1.set u1
  have s2 : Boxed (W.setCell ⟨b1, 0, none⟩ u1) b2 t2 v2 := (o _ _ _ _ (Ne.symm n12)).trans h2
  have s3 : Boxed (W.setCell ⟨b1, 0, none⟩ u1) b3 t3 v3 := (o _ _ _ _ (Ne.symm n13)).trans h3
  have r1 : Boxed ((W.setCell ⟨b1, 0, none⟩ u1).setCell ⟨b2, 0, none⟩ u2) b1 t1 u1 := (o _ _ _ _ n12).trans s1
  have r2 : Boxed ((W.setCell ⟨b1, 0, none⟩ u1).setCell ⟨b2, 0, none⟩ u2) b2 t2 u2 := s2.set u2
  have r3 : Boxed ((W.setCell ⟨b1, 0, none⟩ u1).setCell ⟨b2, 0, none⟩ u2) b3 t3 v3 := (o _ _ _ _ (Ne.symm n23)).trans s3
  exact ⟨(o _ _ _ _ n13).trans r1, (o _ _ _ _ n23).trans r2, r3.set u3⟩

/-- Before the last step no machine hears its own number. -/
theorem not_heard {l : List Int} (ha : apart l) {s i : Nat} (hs : s + 1 < l.length) (hi : i < (msgs l s).length) :
    ∃ (p : Nat) (x : Int), (msgs l s).getD i (0, 0) = ((p : Int), x) ∧ p < l.length ∧ nth l ((p + 1) % l.length) ≠ x := by
  obtain ⟨j, hj, _, he⟩ := msgs_get hi
  refine ⟨(j + s) % l.length, rf l j, he, Nat.mod_lt _ (by omega), ?_⟩
  have h := rf_ne ha hj (show 0 < s + 1 by omega) hs
  rw [Nat.mod_add_mod]
  exact h
/-- In the last step the greatest number comes home. -/
theorem heard {l : List Int} (ha : apart l) (h0 : 0 < l.length) {i : Nat} (hi : i < (msgs l (l.length - 1)).length) :
    ∃ (p : Nat) (x : Int), (msgs l (l.length - 1)).getD i (0, 0) = ((p : Int), x) ∧ p < l.length ∧ (p + 1) % l.length = maxAt l ∧ nth l ((p + 1) % l.length) = x := by
  obtain ⟨j, hj, hs, he⟩ := msgs_get hi
  have hm := max_one ha ((surv_max ha hj).1 hs) (maxAt_is h0)
  have hh : ((j + (l.length - 1)) % l.length + 1) % l.length = j := by
    rw [Nat.mod_add_mod, show j + (l.length - 1) + 1 = j + l.length by omega, Nat.add_mod_right, Nat.mod_eq_of_lt hj]
  exact ⟨_, rf l j, he, Nat.mod_lt _ h0, by rw [hh, hm], by rw [hh, rf_lt hj]⟩

attribute [local go_sem] Oper.semAt_some

set_option maxRecDepth 100000 in
set_option maxHeartbeats 3200000 in
theorem chosen_yes (A : Option Addr) (n c N1 : Nat) (hN1 : n - 1 = N1) (l : List Int) (w : World) (hs : Sl w w.heap.size A n l) (hc : n ≤ c) (hcm : c ≤ maxLen) (h1 : ringOk l = true) :
    Calls Try.prog 25 #[.slice A n c] w fun e w' => e = .returned (.tuple #[.int .i64 (maxAt l : Int), .int .i64 (N1 : Int), .bool true]) ∧ Below w.heap.size w w' := by
  have HLL := hid hs.len
  have HN1 := hid hN1
  clear hN1
  have hrk := ringOk_iff.1 h1
  rw [HLL.out] at hrk
  obtain ⟨_, _, hn1, hn12⟩ := hrk
  have HAP := hid (ring_apart h1)
  have HS := hid hs
  obtain ⟨WR, hWR⟩ : ∃ WR : World, (((w.alloc (.cells #[.slice A n c] 23)).alloc (.cells #[.int .i64 0] 3)).alloc (.cells #[.int .i64 0] 3)).alloc (.cells #[.bool false] 4) = WR := ⟨_, rfl⟩
  have hzR : WR.heap.size = w.heap.size + 4 := by rw [← hWR]; simp
  have hbR : Below w.heap.size w WR := by rw [← hWR]; exact ((((Below.refl _ w).alloc (Nat.le_refl _) _).alloc (by simp) _).alloc (by simp; omega) _).alloc (by simp; omega) _
  have y0 : Boxed WR w.heap.size 23 (.slice A n c) := by rw [← hWR]; exact (((Boxed.new w _ _).alloc _).alloc _).alloc _
  have y1 : Boxed WR (w.heap.size + 1) 3 (.int .i64 0) := by
    rw [← hWR]
    have h1 := Boxed.new (w.alloc (.cells #[.slice A n c] 23)) 3 (.int .i64 0)
    rw [World.size_alloc] at h1
    exact (h1.alloc _).alloc _
  have y2 : Boxed WR (w.heap.size + 1 + 1) 3 (.int .i64 0) := by
    rw [← hWR]
    have h1 := Boxed.new ((w.alloc (.cells #[.slice A n c] 23)).alloc (.cells #[.int .i64 0] 3)) 3 (.int .i64 0)
    rw [World.size_alloc, World.size_alloc] at h1
    exact h1.alloc _
  have y3 : Boxed WR (w.heap.size + 1 + 1 + 1) 4 (.bool false) := by
    rw [← hWR]
    have h1 := Boxed.new (((w.alloc (.cells #[.slice A n c] 23)).alloc (.cells #[.int .i64 0] 3)).alloc (.cells #[.int .i64 0] 3)) 4 (.bool false)
    rw [World.size_alloc, World.size_alloc, World.size_alloc] at h1
    exact h1
  have y0c := y0.cell
  have CK := hid (ringI_any A n c l WR _ (hs.on hbR) hc hcm)
  rw [h1] at CK
  refine (callsIn_wide (n := 5)).1 ?_
  have hwd : Fence.wide.depth.isSome = false := rfl
  have hwr : Fence.wide.round = none := rfl
  have hf1 : Fence.wide.fn 16 := trivial
  have hf2 : Fence.wide.fn 49 := trivial
  have hf3 : Fence.wide.fn 47 := trivial
  refine callsIn_of_wp_marks Try.func25 rfl trivial ?_ rfl
  simp only [Try.ntmps25, List.size_toArray, List.length_cons, List.length_nil, Nat.reduceAdd, Nat.reduceSub, Array.replicate_succ, Array.replicate_zero, List.push_toArray, List.append_toArray, List.nil_append, List.cons_append]
  gi_wp2_with (first | (gi_at_call 16; refine (callsIn_wide.2 CK.out).mono ?_; rintro e w' ⟨rfl, rfl⟩) | (gi_at_call 47; refine (callsIn_wide.2 (messageRoundsF_any _ _ _ _)).mono ?_; rintro e w' ⟨rfl, rfl⟩))
  have Y1 := hid (y1.alloc (.cells #[.slice A n c] 23))
  have Y2 := hid (y2.alloc (.cells #[.slice A n c] 23))
  have Y3 := hid (y3.alloc (.cells #[.slice A n c] 23))
  have Y0 := hid (y0.alloc (.cells #[.slice A n c] 23))
  have X1 := hid (Boxed.new WR 23 (.slice A n c))
  rw [hzR] at X1
  obtain ⟨W0, hW0⟩ : ∃ W0 : World, WR.alloc (.cells #[.slice A n c] 23) = W0 := ⟨_, rfl⟩
  have hsz : w.heap.size + 5 ≤ W0.heap.size := by rw [← hW0]; simp [hzR]
  have hb0 : Below w.heap.size w W0 := by rw [← hW0]; exact hbR.alloc (by omega) _
  rw [hW0] at Y0 Y1 Y2 Y3 X1 ⊢
  clear hW0 hWR y0 y1 y2 y3 y0c CK hbR
  have eg : ∀ args w, (callFunc 55 args).run Try.prog w = .ok (.enter 55 args) w := enters_of Try.func55 (by kernel_rfl) rfl
  refine range_bareX (n := 5) rfl eg ?_
  intro rc W1 hs1 hb1 hl1 hd1 hY
  have hbW := hb0.trans (hb1.mono (by omega))
  have g01 : W0.grownBy W1 none := ⟨hb1.os, hb1.tape, hb1.output, hb1.size, fun k hk _ => hb1.block k hk⟩
  have x11 : Boxed W1 (w.heap.size + 4) 23 (.slice A n c) := X1.out.kept g01 (by simp)
  refine (rounds9_in (5 - 1) (W0.heap.size + 1) (w.heap.size + 4) A n c l
    (fun k W => k < n ∧ W.heap[W0.heap.size + 1]? = some (.loop (rc .ready none)) ∧ W.heap[W0.heap.size]? = some (.deferred (some [])) ∧
      Boxed W w.heap.size 23 (.slice A n c) ∧ Boxed W (w.heap.size + 1) 3 (.int .i64 0) ∧ Boxed W (w.heap.size + 1 + 1) 3 (.int .i64 0) ∧ Boxed W (w.heap.size + 1 + 1 + 1) 4 (.bool false) ∧
      Boxed W (w.heap.size + 4) 23 (.slice A n c) ∧ W1.heap.size ≤ W.heap.size ∧ Below w.heap.size w W)
    (fun W => W.heap[W0.heap.size + 1]? = some (.loop (rc .done (some .ret))) ∧ W.heap[W0.heap.size]? = some (.deferred (some [])) ∧
      Boxed W (w.heap.size + 1) 3 (.int .i64 (maxAt l : Int)) ∧ Boxed W (w.heap.size + 1 + 1) 3 (.int .i64 ((n - 1 : Nat) : Int)) ∧ Boxed W (w.heap.size + 1 + 1 + 1) 4 (.bool true) ∧ Below w.heap.size w W) W1
    HLL.out h1 (hs.on hbW |>.more (by omega)) x11.cell (by omega) ?still ?below ?yields
    ⟨by omega, hl1, hd1, Y0.out.kept g01 (by simp), Y1.out.kept g01 (by simp), Y2.out.kept g01 (by simp), Y3.out.kept g01 (by simp), x11, Nat.le_refl _, hbW⟩).mono ?behind
  case still =>
    rintro k W ⟨_, _, _, _, _, _, _, g4, g5, g6⟩
    exact ⟨HS.out.on g6, g4.cell, g5⟩
  case below =>
    rintro k W W' ⟨g0, g1, g2, v0, v1, v2, v3, v4, g5, g6⟩ hb
    exact ⟨g0, (hb.block _ (Array.getElem?_eq_some_iff.1 g1).1).trans g1, (hb.block _ (Array.getElem?_eq_some_iff.1 g2).1).trans g2, boxed_below v0 hb, boxed_below v1 hb, boxed_below v2 hb, boxed_below v3 hb, boxed_below v4 hb, Nat.le_trans g5 hb.size, g6.trans (hb.mono g6.size)⟩
  case yields =>
    rintro k q c3 A3 W ⟨hkn', hl, hd, v0, v1, v2, v3, v4, hz, hb⟩ hkn hq0 ho
    clear hkn'
    refine hY #[.int .i64 k, .slice A3 q c3] W _ rfl hl ⟨?a1, ?w1, ?assign, ?ready, ?body⟩
    case assign =>
      intro K hK
      gi_wp2
      exact hK
    case ready => exact hl
    have hsW : w.heap.size ≤ W.heap.size := hb.size
    have hlW : W0.heap.size + 1 < W.heap.size := (Array.getElem?_eq_some_iff.1 hl).1
    obtain ⟨Wb, hWb⟩ : ∃ Wb, W.putObj (W0.heap.size + 1) (.loop (rc .busy none)) = Wb := ⟨_, rfl⟩
    rw [hWb]
    have lb : Wb.heap[W0.heap.size + 1]? = some (.loop (rc .busy none)) := by rw [← hWb]; exact World.putObj_heap_same hlW
    have db : Wb.heap[W0.heap.size]? = some (.deferred (some [])) := by rw [← hWb]; exact (World.putObj_heap_other (by omega)).trans hd
    have b0 : Boxed Wb w.heap.size 23 (.slice A n c) := by rw [← hWb]; exact boxed_putX v0 _ (by omega)
    have b1 : Boxed Wb (w.heap.size + 1) 3 (.int .i64 0) := by rw [← hWb]; exact boxed_putX v1 _ (by omega)
    have b2 : Boxed Wb (w.heap.size + 1 + 1) 3 (.int .i64 0) := by rw [← hWb]; exact boxed_putX v2 _ (by omega)
    have b3 : Boxed Wb (w.heap.size + 1 + 1 + 1) 4 (.bool false) := by rw [← hWb]; exact boxed_putX v3 _ (by omega)
    have b4 : Boxed Wb (w.heap.size + 4) 23 (.slice A n c) := by rw [← hWb]; exact boxed_putX v4 _ (by omega)
    have bb : Below w.heap.size w Wb := by rw [← hWb]; exact below_putX hb _ (by omega) hsW
    have zb : W1.heap.size ≤ Wb.heap.size := by rw [← hWb]; simpa using hz
    have ob : Wb.ownsRow W1.heap.size 49 2 (.slice A3 q c3) q (ints (flat (msgs l k))) := by rw [← hWb]; exact ownsRow_putObj ho _ hl rfl
    have hql := own_len2 ob
    have hq12 : q ≤ 12 := by have := msgs_len_le l k; rw [hql, HLL.out] at this; omega
    have HSM := hid (SlD.of_own ob)
    have OB := hid ob
    have BB := hid bb
    have LB := hid lb
    have DB := hid db
    have B0 := hid b0
    have B1 := hid b1
    have B2 := hid b2
    have B3 := hid b3
    have B4 := hid b4
    have ZB := hid zb
    have HS1 := hid hs1
    have hzw : w.heap.size < Wb.heap.size := b0.lt
    clear hl hd v0 v1 v2 v3 v4 hz hb hWb ho ob bb lb db b0 b1 b2 b3 b4 zb hs1 hs h1 hlW hsW x11 g01
    have hq0i : (0 : Int) < (q : Int) := by omega
    by_cases hlast : k + 1 < n
    · have HNE := hid (fun i (hi : i < q) => not_heard HAP.out (s := k) (i := i) (by rw [HLL.out]; exact hlast) (by rw [hql]; exact hi))
      clear hql
      gi_wp2
      gi_loopw [19] (fun i wr => ∃ j : Nat, i = .int .i64 j ∧ j ≤ q ∧ Hid (Below Wb.heap.size Wb wr)) (fun i _ => q - (intOf i).toNat)
      case atStart => exact ⟨0, rfl, Nat.zero_le _, hid (Below.refl _ _)⟩
      case round =>
        obtain ⟨j, rfl, hj, HB⟩ := hrel
        by_cases hlt : j < q
        · have hlti : (j : Int) < (q : Int) := by omega
          obtain ⟨b, off, rfl, hbl, hcs⟩ := (HSM.out.below HB.out).2.2 (by omega)
          have hc0 := hcs (j * 2) (by omega)
          have hc1 := hcs (j * 2 + 1) (by omega)
          rw [nth_flat0] at hc0
          rw [nth_flat1, ← Nat.add_assoc] at hc1
          clear hcs
          obtain ⟨p, x, hmx, hpn, hne⟩ := HNE.out j hlt
          rw [hmx] at hc0 hc1
          replace hc0 : wr.cell? ⟨b, off + j * 2, none⟩ = some (.int .i64 p) := hc0
          replace hc1 : wr.cell? ⟨b, off + j * 2 + 1, none⟩ = some (.int .i64 x) := hc1
          rw [HLL.out] at hpn hne
          obtain ⟨t, ht⟩ : ∃ t, (p + 1) % n = t := ⟨_, rfl⟩
          have htn : t < n := by rw [← ht]; exact Nat.mod_lt _ (by omega)
          have hti : (t : Int) < (n : Int) := by omega
          rw [ht] at hne
          obtain ⟨W2, hW2⟩ : ∃ W2, wr.alloc (.cells #[.int .i64 p, .int .i64 x] 49) = W2 := ⟨_, rfl⟩
          have hz2 : W2.heap.size = wr.heap.size + 1 := by rw [← hW2]; simp
          have e2 : Below Wb.heap.size Wb W2 := by rw [← hW2]; exact HB.out.alloc HB.out.size _
          have d0 : W2.cell? ⟨wr.heap.size, 0, none⟩ = some (.int .i64 p) := by rw [← hW2]; simp
          have d1 : W2.cell? ⟨wr.heap.size, 1, none⟩ = some (.int .i64 x) := by rw [← hW2]; simp
          obtain ⟨W3, hW3⟩ : ∃ W3, W2.alloc (.cells #[.int .i64 p, .int .i64 x] 49) = W3 := ⟨_, rfl⟩
          have e3 : Below Wb.heap.size Wb W3 := by rw [← hW3]; exact e2.alloc e2.size _
          have k3 : Below W2.heap.size W2 W3 := by rw [← hW3]; exact (Below.refl _ _).alloc (Nat.le_refl _) _
          have f1 : W3.cell? ⟨wr.heap.size, 1, none⟩ = some (.int .i64 x) := (k3.cell (p := ⟨wr.heap.size, 1, none⟩) (by show wr.heap.size < W2.heap.size; omega)).trans d1
          have CT := hid (toM_any p n x A c W2 hpn hn12)
          rw [ht, hW3] at CT
          have q2 := (boxed_below B0.out e2).cell
          have q3 := (boxed_below B0.out e3).cell
          obtain ⟨r0, off0, rfl, hrl0, hc00⟩ := (HS.out.below (BB.out.trans (e3.mono BB.out.size))).2.2 (by omega)
          have y0 := hc00 t htn
          clear hc00
          obtain ⟨y, hy⟩ : ∃ y, nth l t = y := ⟨_, rfl⟩
          rw [hy] at y0 hne
          have hxy : (x == y) = false := by simpa using fun h : x = y => hne h.symm
          have E3 := hid e3
          clear hy ht e2 e3 k3 hz2 hmx hne
          gi_wp2_with (gi_at_call 49; refine (CallsIn.inRound (W0.heap.size + 1) (callsIn_wide.2 CT.out)).mono ?_; clear CT; rintro e w' ⟨rfl, rfl⟩)
          refine wpIn_region_quietR rfl (by kernel_rfl) (by kernel_rfl) ?_
          repeat (gi_big_quiet_step (fail))
          refine wpQuietIn_nil ?_
          intro _ hw'
          obtain ⟨nq, hw''⟩ := hw'
          subst hw''
          gi_wp2
          go_roundw
          case rel => exact ⟨j + 1, by go_num, by omega, hid (below_drewN E3.out nq)⟩
          case measure => simp [intOf]; omega
        · obtain rfl : j = q := by omega
          have lb2 : wr.heap[W0.heap.size + 1]? = some (.loop (rc .busy none)) := (HB.out.block _ (Array.getElem?_eq_some_iff.1 LB.out).1).trans LB.out
          have db2 : wr.heap[W0.heap.size]? = some (.deferred (some [])) := (HB.out.block _ (Array.getElem?_eq_some_iff.1 DB.out).1).trans DB.out
          have bb2 := BB.out.trans (HB.out.mono BB.out.size)
          have ob2 := own_on2 OB.out HB.out
          have hsz9 := HB.out.size
          have L2 := hid lb2
          have D2 := hid db2
          have BB2 := hid bb2
          have OB2 := hid ob2
          clear lb2 db2 bb2 ob2
          gi_wp2
          exact ⟨L2.out, .inl ⟨rfl, ⟨hlast, World.putObj_heap_same (Array.getElem?_eq_some_iff.1 L2.out).1, (World.putObj_heap_other (by omega)).trans D2.out, boxed_putX (boxed_below B0.out HB.out) _ (by omega), boxed_putX (boxed_below B1.out HB.out) _ (by omega), boxed_putX (boxed_below B2.out HB.out) _ (by omega), boxed_putX (boxed_below B3.out HB.out) _ (by omega), boxed_putX (boxed_below B4.out HB.out) _ (by omega),
            by simpa using Nat.le_trans ZB.out HB.out.size, below_putX BB2.out _ (by omega) BB2.out.size⟩, ownsRow_putObj OB2.out _ L2.out rfl⟩⟩
    · have hkl : k = l.length - 1 := by rw [HLL.out]; omega
      have HNE := hid (heard HAP.out (i := 0) (by rw [HLL.out]; omega) (by rw [← hkl, hql]; exact hq0))
      rw [← hkl] at HNE
      have HKN := hid (show k = n - 1 from by omega)
      clear hql hkl
      gi_wp2
      gi_loopw [19] (fun i wr => i = .int .i64 0 ∧ Hid (Below Wb.heap.size Wb wr)) (fun i _ => 1)
      case atStart => exact ⟨rfl, hid (Below.refl _ _)⟩
      case round =>
        obtain ⟨rfl, HB⟩ := hrel
        obtain ⟨b, off, rfl, hbl, hcs⟩ := (HSM.out.below HB.out).2.2 (by omega)
        have hc0 := hcs (0 * 2) (by omega)
        have hc1 := hcs (0 * 2 + 1) (by omega)
        rw [nth_flat0] at hc0
        rw [nth_flat1] at hc1
        clear hcs
        obtain ⟨p, x, hmx, hpn, hpm, hpx⟩ := HNE.out
        rw [hmx] at hc0 hc1
        replace hc0 : wr.cell? ⟨b, off, none⟩ = some (.int .i64 p) := hc0
        replace hc1 : wr.cell? ⟨b, off + 1, none⟩ = some (.int .i64 x) := hc1
        rw [HLL.out] at hpn hpm hpx
        obtain ⟨t, ht⟩ : ∃ t, (p + 1) % n = t := ⟨_, rfl⟩
        have htn : t < n := by rw [← ht]; exact Nat.mod_lt _ (by omega)
        have hti : (t : Int) < (n : Int) := by omega
        rw [ht] at hpm hpx
        obtain ⟨W2, hW2⟩ : ∃ W2, wr.alloc (.cells #[.int .i64 p, .int .i64 x] 49) = W2 := ⟨_, rfl⟩
        have hz2 : W2.heap.size = wr.heap.size + 1 := by rw [← hW2]; simp
        have e2 : Below Wb.heap.size Wb W2 := by rw [← hW2]; exact HB.out.alloc HB.out.size _
        have d0 : W2.cell? ⟨wr.heap.size, 0, none⟩ = some (.int .i64 p) := by rw [← hW2]; simp
        have d1 : W2.cell? ⟨wr.heap.size, 1, none⟩ = some (.int .i64 x) := by rw [← hW2]; simp
        obtain ⟨W3, hW3⟩ : ∃ W3, W2.alloc (.cells #[.int .i64 p, .int .i64 x] 49) = W3 := ⟨_, rfl⟩
        have e3 : Below Wb.heap.size Wb W3 := by rw [← hW3]; exact e2.alloc e2.size _
        have k3 : Below W2.heap.size W2 W3 := by rw [← hW3]; exact (Below.refl _ _).alloc (Nat.le_refl _) _
        have f1 : W3.cell? ⟨wr.heap.size, 1, none⟩ = some (.int .i64 x) := (k3.cell (p := ⟨wr.heap.size, 1, none⟩) (by show wr.heap.size < W2.heap.size; omega)).trans d1
        have CT := hid (toM_any p n x A c W2 hpn hn12)
        rw [ht, hW3] at CT
        have q2 := (boxed_below B0.out e2).cell
        have q3 := (boxed_below B0.out e3).cell
        obtain ⟨r0, off0, rfl, hrl0, hc00⟩ := (HS.out.below (BB.out.trans (e3.mono BB.out.size))).2.2 (by omega)
        have y0 := hc00 t htn
        clear hc00
        rw [hpx] at y0
        have g1 := (boxed_below B1.out e3).cell
        have g1f := (boxed_below B1.out e3).frozen
        have g2 := (boxed_below B2.out e3).cell
        have g2f := (boxed_below B2.out e3).frozen
        have g3 := (boxed_below B3.out e3).cell
        have g3f := (boxed_below B3.out e3).frozen
        have HPM := hid hpm
        have E3 := hid e3
        clear ht e2 e3 k3 hz2 hmx hpm hpx
        gi_wp2_with (gi_at_call 49; refine (CallsIn.inRound (W0.heap.size + 1) (callsIn_wide.2 CT.out)).mono ?_; clear CT; rintro e w' ⟨rfl, rfl⟩)
        refine wpIn_region_quietR rfl (by kernel_rfl) (by kernel_rfl) ?_
        repeat (gi_big_quiet_step (fail))
        refine wpQuietIn_nil ?_
        intro _ hw'
        obtain ⟨nq, hw''⟩ := hw'
        subst hw''
        gi_wp2
        have e4 := below_drewN E3.out nq
        obtain ⟨x1, x2, x3⟩ := three_set (.int .i64 t) (.int .i64 k) (.bool true) (boxed_below B1.out e4) (boxed_below B2.out e4) (boxed_below B3.out e4) (by omega) (by omega) (by omega)
        have K7 := ((KeepsOthers.setCell (w'.drewN nq) ⟨w.heap.size + 1, 0, none⟩ (.int .i64 t)).trans (KeepsOthers.setCell _ ⟨w.heap.size + 1 + 1, 0, none⟩ (.int .i64 k))).trans (KeepsOthers.setCell _ ⟨w.heap.size + 1 + 1 + 1, 0, none⟩ (.bool true))
        have l7 := K7.same _ _ ((e4.block _ (Array.getElem?_eq_some_iff.1 LB.out).1).trans LB.out) rfl
        have d7 := K7.same _ _ ((e4.block _ (Array.getElem?_eq_some_iff.1 DB.out).1).trans DB.out) rfl
        have b7 := (((BB.out.trans (e4.mono BB.out.size)).setCell (p := ⟨w.heap.size + 1, 0, none⟩) (by simp) (.int .i64 t)).setCell (p := ⟨w.heap.size + 1 + 1, 0, none⟩) (by simp; omega) (.int .i64 k)).setCell (p := ⟨w.heap.size + 1 + 1 + 1, 0, none⟩) (by simp; omega) (.bool true)
        exact ⟨l7, .inr ⟨rfl, World.putObj_heap_same (Array.getElem?_eq_some_iff.1 l7).1, (World.putObj_heap_other (by omega)).trans d7,
          show Boxed _ _ _ (.int .i64 (maxAt l : Int)) from by rw [← HPM.out]; exact boxed_putX x1 _ (by omega),
          show Boxed _ _ _ (.int .i64 ((n - 1 : Nat) : Int)) from by rw [← HKN.out]; exact boxed_putX x2 _ (by omega),
          boxed_putX x3 _ (by omega), below_putX b7 _ (by omega) b7.size⟩⟩
  case behind =>
    rintro e W' ⟨hv, (⟨hnn, _⟩ | ⟨hl, hd, v1, v2, v3, hb⟩)⟩
    · exact absurd hnn (Nat.lt_irrefl _)
    · refine ⟨hv, .inr ⟨_, hl, fun o => ?_⟩⟩
      obtain ⟨W2, hW2⟩ : ∃ W2, W'.putObj (W0.heap.size + 1) o = W2 := ⟨_, rfl⟩
      rw [hW2]
      have x1 : Boxed W2 (w.heap.size + 1) 3 (.int .i64 (maxAt l : Int)) := by rw [← hW2]; exact boxed_putX v1 _ (by omega)
      have x2 : Boxed W2 (w.heap.size + 1 + 1) 3 (.int .i64 ((n - 1 : Nat) : Int)) := by rw [← hW2]; exact boxed_putX v2 _ (by omega)
      have x3 : Boxed W2 (w.heap.size + 1 + 1 + 1) 4 (.bool true) := by rw [← hW2]; exact boxed_putX v3 _ (by omega)
      have hK2 : W2.heap[W0.heap.size]? = some (.deferred (some [])) := by rw [← hW2]; exact (World.putObj_heap_other (by omega)).trans hd
      have hb2 : Below w.heap.size w W2 := by rw [← hW2]; exact below_putX hb _ (by omega) hb.size
      clear hW2 hb hl hd v1 v2 v3
      rw [HN1.out] at x2
      have z1 := (boxed_putX x1 (l := W0.heap.size) (.deferred none) (by omega)).cell
      have z2 := (boxed_putX x2 (l := W0.heap.size) (.deferred none) (by omega)).cell
      have z3 := (boxed_putX x3 (l := W0.heap.size) (.deferred none) (by omega)).cell
      have B7 := below_putX (l := W0.heap.size) hb2 (.deferred none) (by omega) hb2.size
      gi_wp2
      refine ⟨by simp, .inl ⟨_, _, rfl, run_takeDeferred hK2, ?_⟩⟩
      refine ⟨.tuple #[.int .i64 (maxAt l : Int), .int .i64 (N1 : Int), .bool true], ?_, rfl, B7⟩
      rw [results_cell3 rfl]
      go_simp

set_option maxRecDepth 100000 in
set_option maxHeartbeats 1600000 in
theorem chosenI_any (A : Option Addr) (n c : Nat) (l : List Int) (w : World) (hs : Sl w w.heap.size A n l) (hc : n ≤ c) (hcm : c ≤ maxLen) :
    Calls Try.prog 25 #[.slice A n c] w fun e w' => e = .returned (chosenOut l) ∧ Below w.heap.size w w' := by
  cases h1 : ringOk l with
  | true =>
    have HV : chosenOut l = .tuple #[.int .i64 (maxAt l : Int), .int .i64 ((l.length - 1 : Nat) : Int), .bool true] := by unfold chosenOut; rw [if_pos h1]
    rw [HV, hs.len]
    exact chosen_yes A n c _ rfl l w hs hc hcm h1
  | false =>
    have HV : chosenOut l = .tuple #[.int .i64 (-1), .int .i64 (-1), .bool false] := by unfold chosenOut; rw [h1]; rfl
    rw [HV]
    obtain ⟨WR, hWR⟩ : ∃ WR : World, (((w.alloc (.cells #[.slice A n c] 23)).alloc (.cells #[.int .i64 0] 3)).alloc (.cells #[.int .i64 0] 3)).alloc (.cells #[.bool false] 4) = WR := ⟨_, rfl⟩
    have hbR : Below w.heap.size w WR := by rw [← hWR]; exact ((((Below.refl _ w).alloc (Nat.le_refl _) _).alloc (by simp) _).alloc (by simp; omega) _).alloc (by simp; omega) _
    have y0 : Boxed WR w.heap.size 23 (.slice A n c) := by rw [← hWR]; exact (((Boxed.new w _ _).alloc _).alloc _).alloc _
    have y1 : Boxed WR (w.heap.size + 1) 3 (.int .i64 0) := by
      rw [← hWR]
      have h1 := Boxed.new (w.alloc (.cells #[.slice A n c] 23)) 3 (.int .i64 0)
      rw [World.size_alloc] at h1
      exact (h1.alloc _).alloc _
    have y2 : Boxed WR (w.heap.size + 1 + 1) 3 (.int .i64 0) := by
      rw [← hWR]
      have h1 := Boxed.new ((w.alloc (.cells #[.slice A n c] 23)).alloc (.cells #[.int .i64 0] 3)) 3 (.int .i64 0)
      rw [World.size_alloc, World.size_alloc] at h1
      exact h1.alloc _
    have y3 : Boxed WR (w.heap.size + 1 + 1 + 1) 4 (.bool false) := by
      rw [← hWR]
      have h1 := Boxed.new (((w.alloc (.cells #[.slice A n c] 23)).alloc (.cells #[.int .i64 0] 3)).alloc (.cells #[.int .i64 0] 3)) 4 (.bool false)
      rw [World.size_alloc, World.size_alloc, World.size_alloc] at h1
      exact h1
    have y0c := y0.cell
    have y1c := y1.cell
    have y1f := y1.frozen
    have y2c := y2.cell
    have y2f := y2.frozen
    have y3c := y3.cell
    have y3f := y3.frozen
    have CK := hid (ringI_any A n c l WR _ (hs.on hbR) hc hcm)
    rw [h1] at CK
    obtain ⟨x1, x2, x3⟩ := three_set (.int .i64 (-1)) (.int .i64 (-1)) (.bool false) y1 y2 y3 (by omega) (by omega) (by omega)
    have z1 := x1.cell
    have z2 := x2.cell
    have z3 := x3.cell
    have B7 := ((hbR.setCell (p := ⟨w.heap.size + 1, 0, none⟩) (by simp) (.int .i64 (-1))).setCell (p := ⟨w.heap.size + 1 + 1, 0, none⟩) (by simp; omega) (.int .i64 (-1))).setCell (p := ⟨w.heap.size + 1 + 1 + 1, 0, none⟩) (by simp; omega) (.bool false)
    have Z1 := hid z1
    have Z2 := hid z2
    have Z3 := hid z3
    have HB7 := hid B7
    clear x1 x2 x3 y0 y1 y2 y3 hbR hs z1 z2 z3 B7
    go_enter Try.func25, Try.ntmps25
    go_wp2_with (go_at_call 16; refine CK.out.mono ?_; rintro e w' ⟨rfl, rfl⟩)
    (try simp only [Exit.inBlock, Exit.then])
    have z1 := Z1.out
    have z2 := Z2.out
    have z3 := Z3.out
    refine bodyPost_ret (v := .tuple #[.int .i64 (-1), .int .i64 (-1), .bool false]) ?_ rfl ⟨rfl, HB7.out⟩
    rw [results_cell3 rfl]
    go_simp
end Go.Proofs.Ytegmkacapldnoaa
