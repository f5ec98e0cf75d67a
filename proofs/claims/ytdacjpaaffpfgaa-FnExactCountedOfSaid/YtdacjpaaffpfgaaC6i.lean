/-
  The walk of the program's ToldBy (its fold, the range over slices.Backward). No statement is proved here.
-/
import Derived.Test.YtdacjpaaffpfgaaRg
import Derived.Test.YtdacjpaaffpfgaaRb
import Derived.Test.YtdacjpaaffpfgaaC6k
import Derived.RangeFuncBox
import Derived.Laws.EntriesVeiled
import Derived.Test.YtdacjpaaffpfgaaC6a
namespace Go.Proofs.Ytdacjpaaffpfgaa
open Go.RowKit
set_option linter.unusedVariables false
set_option linter.unusedSimpArgs false

theorem drewN_grownI (w : World) (m : Nat) : w.grownBy (w.drewN m) none := ⟨rfl, rfl, rfl, Nat.le_refl _, fun _ _ _ => rfl⟩

set_option maxRecDepth 100000 in
set_option maxHeartbeats 1600000 in
theorem foldC_any (u x y : Int) (h n c k b1 o1 b2 o2 c2 : Nat) (w : World) (hB : Bk w h (.slice (some ⟨b1, o1, none⟩) n c) (.slice (some ⟨b2, o2, none⟩) n c2)) (hk : k < n)
    (hx : w.cell? ⟨b1, o1 + k, none⟩ = some (.int .i64 x)) (hy : w.cell? ⟨b2, o2 + k, none⟩ = some (.int .i64 y)) (hu : 0 ≤ u ∧ u ≤ 1000) (hx1 : 0 ≤ x ∧ x ≤ 1) (hy1 : 0 ≤ y ∧ y ≤ 1) :
    Calls Try.prog 53 #[.int .i64 u, .int .i64 k, .pointer (some ⟨h, 0, none⟩)] w fun e w' => e = .returned (.int .i64 (2 * u + x + 2 * y)) ∧ w.grownBy w' none := by
  have d0 := hB.c0
  have d1 := hB.c1
  have q1 : (k : Int) < (n : Int) := by omega
  have e1 : IntKind.i64.wrap (2 * u) = 2 * u := IntWalk.i64_in _ (by omega)
  have e2 : IntKind.i64.wrap (2 * u + x) = 2 * u + x := IntWalk.i64_in _ (by omega)
  have e3 : IntKind.i64.wrap (2 * y) = 2 * y := IntWalk.i64_in _ (by omega)
  have e4 : IntKind.i64.wrap (2 * u + x + 2 * y) = 2 * u + x + 2 * y := IntWalk.i64_in _ (by omega)
  go_enter Try.func53, Try.ntmps53
  go_wp2_with fail
  go_quiet (fail)
  go_wp2_with fail
  go_ret
  exact ⟨rfl, drewN_grownI _ _⟩

theorem backward_any (A : Option Addr) (n c : Nat) (w : World) :
    Calls Try.prog 54 #[.slice A n c] w fun e w' =>
      e = .returned (.func (.func 63) #[] #[.pointer (some ⟨w.heap.size, 0, none⟩)]) ∧ w' = w.alloc (.cells #[.slice A n c] 23) := by
  go_enter Try.func54, Try.ntmps54
  go_wp2
  go_ret
  exact ⟨rfl, rfl⟩

attribute [local go_sem] Oper.semAt_some

set_option maxRecDepth 100000 in
set_option maxHeartbeats 1600000 in
/-- The iterator: the places of a slice from the last one on, each with its number, to whatever goes on with J. -/
theorem backward_in (m l h b off n c : Nat) (lst : List Int) (J : Nat → World → Prop) (W0 : World) (hn : n ≤ 1000)
    (hJc : ∀ k W, J k W → W.cell? ⟨h, 0, none⟩ = some (.slice (some ⟨b, off, none⟩) n c) ∧ ∀ j, j < n → W.cell? ⟨b, off + j, none⟩ = some (.int .i64 (nth lst j)))
    (hY : ∀ k W, k < n → J (k + 1) W → YieldAt Fence.wide (m - 1) Try.prog l #[.int .i64 k, .int .i64 (nth lst k)] W fun e W' => e = .returned (.bool true) ∧ J k W')
    (h0 : J n W0) :
    CallsIn Fence.wide m Try.prog 63 #[.func (.yield l) #[] #[], .pointer (some ⟨h, 0, none⟩)] W0 fun e W' => (∃ v, e = .returned v) ∧ J 0 W' := by
  refine callsIn_of_wp Try.func63 rfl trivial ?_ rfl
  simp only [Try.ntmps63, List.size_toArray, List.length_cons, List.length_nil, Nat.reduceAdd, Nat.reduceSub, Array.replicate_succ, Array.replicate_zero, List.push_toArray, List.append_toArray, List.nil_append, List.cons_append]
  have HY := hid hY; clear hY
  have HJC := hid hJc; clear hJc
  have HJ0 := hid h0; clear h0
  have hc1 := (HJC.out _ _ HJ0.out).1
  have hwd : Fence.wide.depth.isSome = false := rfl
  gi_wp2
  gi_loopw [3] (fun i wr => ∃ k : Nat, i = .int .i64 ((k : Int) - 1) ∧ k ≤ n ∧ Hid (J k wr)) (fun i _ => (intOf i + 1).toNat)
  case atStart => exact ⟨n, rfl, Nat.le_refl _, HJ0⟩
  case round =>
    obtain ⟨k, rfl, hk, HJ⟩ := hrel
    clear hc1
    by_cases hk0 : k = 0
    · subst hk0
      have HJ0' := hid HJ.out
      gi_wp2
      go_end0
      exact ⟨⟨_, rfl⟩, HJ0'.out⟩
    · obtain ⟨j, rfl⟩ : ∃ j, k = j + 1 := ⟨k - 1, by omega⟩
      have hj : ((j + 1 : Nat) : Int) - 1 = (j : Int) := by omega
      rw [hj]
      obtain ⟨hc1, hcc⟩ := HJ.out |> HJC.out _ _
      have hcj := hcc j (by omega)
      have q1 : (j : Int) < (n : Int) := by omega
      obtain ⟨fn, tmps, assign, body, hy, hRd⟩ := HY.out j _ (by omega) HJ.out
      have HR := hid hRd; clear hRd
      clear hcc hj
      obtain ⟨x, hx⟩ : ∃ x, nth lst j = x := ⟨_, rfl⟩
      rw [hx] at hcj hy
      clear hx
      gi_wp2
      refine HR.out.mono ?_
      rintro e W3 ⟨rfl, hj3⟩
      have HJ3 := hid hj3; clear hj3
      gi_wp2
      go_roundw
      case rel => exact ⟨j, by go_num, by omega, HJ3⟩
      case measure => simp [intOf]

theorem told_drop {l : Cnt} {k : Nat} (h : k < l.length) : toldL (l.drop k) = (l[k]).1 + 2 * (l[k]).2 + 2 * toldL (l.drop (k + 1)) := by
  rw [List.drop_eq_getElem_cons h]
  simp [toldL]
theorem told_drop_bd {l : Cnt} (h : okL l) (h8 : l.length ≤ 8) (k : Nat) : 0 ≤ toldL (l.drop k) ∧ toldL (l.drop k) ≤ 1000 := by
  have h1 := told_bd (l := l.drop k) (fun p hp => h p (List.mem_of_mem_drop hp))
  have h2 := pow_le8 (show (l.drop k).length ≤ 8 by rw [List.length_drop]; omega)
  omega

set_option maxRecDepth 100000 in
set_option maxHeartbeats 3200000 in
theorem toldBy_yes (A : Option Addr) (n c : Nat) (A2 : Option Addr) (c2 : Nat) (D C : List Int) (w : World) (h1 : Sl w w.heap.size A n D) (h2 : Sl w w.heap.size A2 n C) (hok : ctrOk D C = true) :
    Calls Try.prog 23 #[ctr A n c A2 n c2] w fun e w' => e = .returned (.int .i64 (toldL (D.zip C))) ∧ Below w.heap.size w w' := by
  have HD := hid h1.len
  have HC := hid h2.len
  obtain ⟨hn, hnn, hol⟩ := ctrOk_iff.1 hok
  rw [HD.out] at hn
  have HO := hid hol
  have HZ := hid (show (D.zip C).length = n from by rw [List.length_zip, HD.out, HC.out]; omega)
  have HA := hid (fun (k : Nat) (hk : k < (D.zip C).length) => show (D.zip C)[k] = (nth D k, nth C k) from by
    rw [List.getElem_zip, nth_lt (by rw [HD.out]; have := HZ.out; omega), nth_lt (by rw [HC.out]; have := HZ.out; omega)])
  have B0 := (Below.refl w.heap.size w).alloc (Nat.le_refl _) (.cells #[.slice A n c, .slice A2 n c2] 25)
  have X0 := Bk.new w (.slice A n c) (.slice A2 n c2)
  have CK := hid (counterI_any A n c A2 n c2 D C _ (h1.on B0) (h2.on B0))
  rw [hok] at CK
  have k0 := X0.c0
  have k1 := X0.c1
  obtain ⟨b1, o1, rfl, hl1, hc1⟩ := h1.2.2 (by omega)
  obtain ⟨b2, o2, rfl, hl2, hc2⟩ := h2.2.2 (by omega)
  have H1 := hid hc1
  have H2 := hid hc2
  have HX0 := hid X0
  have HB0 := hid B0
  clear hc1 hc2 h1 h2 X0 B0 hok hol hnn
  refine (callsIn_wide (n := 5)).1 ?_
  have hwd : Fence.wide.depth.isSome = false := rfl
  have hwr : Fence.wide.round = none := rfl
  have hf1 : Fence.wide.fn 16 := trivial
  have hf2 : Fence.wide.fn 54 := trivial
  have hf3 : Fence.wide.fn 53 := trivial
  refine callsIn_of_wp_marks Try.func23 rfl trivial ?_ rfl
  simp only [Try.ntmps23, List.size_toArray, List.length_cons, List.length_nil, Nat.reduceAdd, Nat.reduceSub, Array.replicate_succ, Array.replicate_zero, List.push_toArray, List.append_toArray, List.nil_append, List.cons_append]
  gi_wp2_with (gi_at_call 16; refine (callsIn_wide.2 CK.out).mono ?_; rintro e w1 ⟨rfl, g1⟩; have Y0 := HX0.out.on g1 (by simp); have j0 := Y0.c0; have j1 := Y0.c1; have Z0 := (Y0.on (row := none) (grown_alloc w1 (.cells #[.func (.func 53) #[] #[.pointer (some ⟨w.heap.size, 0, none⟩)]] 62) none) (by simp)).on (row := none) (grown_alloc _ (.cells #[.int .i64 0] 3) none) (by simp); have l0 := Z0.c0)
  gi_wp2_with (gi_at_call 54; refine (callsIn_wide.2 (backward_any _ _ _ _)).mono ?_; rintro e w' ⟨rfl, rfl⟩)
  have hb1 := HB0.out.trans ((below_grown g1).mono HB0.out.size)
  have hs1 : w.heap.size + 1 ≤ w1.heap.size := by have := g1.size; simp at this; omega
  obtain ⟨b, hb⟩ : ∃ b, w1.heap.size = b := ⟨_, rfl⟩
  rw [hb]
  obtain ⟨F, hF⟩ : ∃ F : Value, .func (.func 53) #[] #[.pointer (some ⟨w.heap.size, 0, none⟩)] = F := ⟨_, rfl⟩
  obtain ⟨W0, hW0⟩ : ∃ W0 : World, ((w1.alloc (.cells #[F] 62)).alloc (.cells #[.int .i64 0] 3)).alloc (.cells #[.slice (some ⟨b1, o1, none⟩) n c] 23) = W0 := ⟨_, rfl⟩
  rw [hF, hW0]
  have hsz : W0.heap.size = b + 3 := by rw [← hW0]; simp [hb]
  have hb0 : Below w.heap.size w W0 := by rw [← hW0]; exact ((hb1.alloc (by omega) _).alloc (by simp; omega) _).alloc (by simp; omega) _
  have x0 : Bk W0 w.heap.size (.slice (some ⟨b1, o1, none⟩) n c) (.slice (some ⟨b2, o2, none⟩) n c2) := by
    rw [← hW0]
    exact ((Y0.on (row := none) (grown_alloc _ _ _) (by simp)).on (row := none) (grown_alloc _ _ _) (by simp)).on (row := none) (grown_alloc _ _ _) (by simp)
  have x1 : Boxed W0 b 62 F := by rw [← hW0, ← hb]; exact ((Boxed.new w1 _ _).alloc _).alloc _
  have x2 : Boxed W0 (b + 1) 3 (.int .i64 0) := by
    rw [← hW0, ← hb]
    have h1 := Boxed.new (w1.alloc (.cells #[F] 62)) 3 (.int .i64 0)
    rw [World.size_alloc] at h1
    exact h1.alloc _
  have x3 : Boxed W0 (b + 2) 23 (.slice (some ⟨b1, o1, none⟩) n c) := by
    rw [← hW0, ← hb]
    have h1 := Boxed.new ((w1.alloc (.cells #[F] 62)).alloc (.cells #[.int .i64 0] 3)) 23 (.slice (some ⟨b1, o1, none⟩) n c)
    rw [World.size_alloc, World.size_alloc] at h1
    exact h1
  have HF := hid hF
  rw [hb] at hs1
  clear hW0 hb g1 Y0 j0 j1 Z0 l0 hb1 CK k0 k1 HX0 HB0 hF
  have eg : ∀ args w, (callFunc 63 args).run Try.prog w = .ok (.enter 63 args) w := enters_of Try.func63 (by kernel_rfl) rfl
  refine range_bare (n := 5) rfl eg ?_
  intro rc W1 hz1 hbL hlL hdL hY
  have hbW := hb0.trans (hbL.mono (by omega))
  refine (backward_in (5 - 1) (W0.heap.size + 1) (b + 2) b1 o1 n c D
    (fun k W => W.heap[W0.heap.size + 1]? = some (.loop (rc .ready none)) ∧ W.heap[W0.heap.size]? = some (.deferred (some [])) ∧
      Bk W w.heap.size (.slice (some ⟨b1, o1, none⟩) n c) (.slice (some ⟨b2, o2, none⟩) n c2) ∧ Boxed W b 62 F ∧
      Boxed W (b + 1) 3 (.int .i64 (toldL ((D.zip C).drop k))) ∧ Boxed W (b + 2) 23 (.slice (some ⟨b1, o1, none⟩) n c) ∧ Below w.heap.size w W) W1
    (by omega) ?cells ?yields
    ⟨hlL, hdL, x0.below hbL (by omega), (hbL.block _ (by omega)).trans x1, by rw [List.drop_of_length_le (by rw [HZ.out]; omega)]; exact (hbL.block _ (by omega)).trans x2, (hbL.block _ (by omega)).trans x3, hbW⟩).mono ?behind
  case cells =>
    rintro k W ⟨_, _, _, _, _, g6, g7⟩
    exact ⟨g6.cell, fun j hj => (g7.cell (p := ⟨b1, o1 + j, none⟩) hl1).trans (H1.out j hj)⟩
  case yields =>
    rintro k W hkn ⟨hl, hd, hbk, hf, hv, hsl, hbe⟩
    have hkz : k < (D.zip C).length := by rw [HZ.out]; exact hkn
    have htd := told_drop hkz
    rw [HA.out k hkz] at htd
    have hp : okP (nth D k, nth C k) := by rw [← HA.out k hkz]; exact HO.out _ (List.getElem_mem _)
    have hbd := told_drop_bd HO.out (by rw [HZ.out]; omega) (k + 1)
    have hx := (hbe.cell (p := ⟨b1, o1 + k, none⟩) hl1).trans (H1.out k hkn)
    have hy := (hbe.cell (p := ⟨b2, o2 + k, none⟩) hl2).trans (H2.out k hkn)
    obtain ⟨x, hxe⟩ : ∃ x, nth D k = x := ⟨_, rfl⟩
    obtain ⟨y, hye⟩ : ∃ y, nth C k = y := ⟨_, rfl⟩
    obtain ⟨u, hue⟩ : ∃ u, toldL ((D.zip C).drop (k + 1)) = u := ⟨_, rfl⟩
    rw [hxe] at hx htd hp ⊢
    rw [hye] at hy htd hp
    rw [hue] at htd hbd hv
    simp only [okP] at hp
    have HTD := hid (show toldL ((D.zip C).drop k) = 2 * u + x + 2 * y from by rw [htd]; simp only []; omega)
    clear htd hxe hye hue hkz
    refine hY #[.int .i64 k, .int .i64 x] W _ rfl hl ⟨?a1, ?w1, ?assign, ?ready, ?body⟩
    case assign =>
      intro K hK
      gi_wp2
      exact hK
    case ready => exact hl
    have hsW : w.heap.size ≤ W.heap.size := hbe.size
    have hlW : W0.heap.size + 1 < W.heap.size := (Array.getElem?_eq_some_iff.1 hl).1
    obtain ⟨Wb, hWb⟩ : ∃ Wb, W.putObj (W0.heap.size + 1) (.loop (rc .busy none)) = Wb := ⟨_, rfl⟩
    rw [hWb]
    have lb : Wb.heap[W0.heap.size + 1]? = some (.loop (rc .busy none)) := by rw [← hWb]; exact World.putObj_heap_same hlW
    have db : Wb.heap[W0.heap.size]? = some (.deferred (some [])) := by rw [← hWb]; exact (World.putObj_heap_other (by omega)).trans hd
    have kb : Bk Wb w.heap.size (.slice (some ⟨b1, o1, none⟩) n c) (.slice (some ⟨b2, o2, none⟩) n c2) := by rw [← hWb]; exact (World.putObj_heap_other (by omega)).trans hbk
    have fb : Boxed Wb b 62 F := by rw [← hWb]; exact boxed_putX hf _ (by omega)
    have vb : Boxed Wb (b + 1) 3 (.int .i64 u) := by rw [← hWb]; exact boxed_putX hv _ (by omega)
    have sb : Boxed Wb (b + 2) 23 (.slice (some ⟨b1, o1, none⟩) n c) := by rw [← hWb]; exact boxed_putX hsl _ (by omega)
    have bb : Below w.heap.size w Wb := by rw [← hWb]; exact below_putX hbe _ (by omega) hsW
    have hx2 := (bb.cell (p := ⟨b1, o1 + k, none⟩) hl1).trans ((hbe.cell (p := ⟨b1, o1 + k, none⟩) hl1).symm.trans hx)
    have hy2 := (bb.cell (p := ⟨b2, o2 + k, none⟩) hl2).trans ((hbe.cell (p := ⟨b2, o2 + k, none⟩) hl2).symm.trans hy)
    have CF := hid (foldC_any u x y w.heap.size n c k b1 o1 b2 o2 c2 Wb kb hkn hx2 hy2 hbd (by omega) (by omega))
    have fc := fb.cell
    rw [← HF.out] at fc
    have vc := vb.cell
    have hfw : (Fence.wide.inRound (W0.heap.size + 1)).fn 53 := trivial
    clear hl hd hbk hf hv hsl hbe hWb hx hy hx2 hy2
    gi_wp2_with (gi_at_call 53; refine (CallsIn.inRound (W0.heap.size + 1) (callsIn_wide.2 CF.out)).mono ?_; rintro r w2 ⟨rfl, g2⟩; have v2 := vb.kept g2 (by simp); have hc2 := v2.cell; have hf2 := v2.frozen)
    have l2 : w2.heap[W0.heap.size + 1]? = some (.loop (rc .busy none)) := (g2.block _ (Array.getElem?_eq_some_iff.1 lb).1 (by simp)).trans lb
    have d2 : w2.heap[W0.heap.size]? = some (.deferred (some [])) := (g2.block _ (Array.getElem?_eq_some_iff.1 db).1 (by simp)).trans db
    have hK3 := KeepsOthers.setCell w2 ⟨b + 1, 0, none⟩ (.int .i64 (2 * u + x + 2 * y))
    have hl3 := hK3.same _ _ l2 rfl
    have hd3 := hK3.same _ _ d2 rfl
    have b3 := (bb.trans ((below_grown g2).mono bb.size)).setCell (p := ⟨b + 1, 0, none⟩) (show w.heap.size ≤ b + 1 by omega) (.int .i64 (2 * u + x + 2 * y))
    have k3 := (kb.on g2 (by simp)).put (g := b + 1) (by omega) 0 (.int .i64 (2 * u + x + 2 * y))
    have f3 : Boxed (w2.setCell ⟨b + 1, 0, none⟩ (.int .i64 (2 * u + x + 2 * y))) b 62 F := (heap_setCell_other w2 ⟨b + 1, 0, none⟩ b _ (by simp)).trans (fb.kept g2 (by simp))
    have s3 : Boxed (w2.setCell ⟨b + 1, 0, none⟩ (.int .i64 (2 * u + x + 2 * y))) (b + 2) 23 (.slice (some ⟨b1, o1, none⟩) n c) := (heap_setCell_other w2 ⟨b + 1, 0, none⟩ (b + 2) _ (by simp)).trans (sb.kept g2 (by simp))
    exact ⟨hl3, rfl, World.putObj_heap_same (Array.getElem?_eq_some_iff.1 hl3).1, (World.putObj_heap_other (by omega)).trans hd3, (World.putObj_heap_other (by omega)).trans k3, boxed_putX f3 _ (by omega), by rw [HTD.out]; exact boxed_putX (v2.set _) _ (by omega), boxed_putX s3 _ (by omega), below_putX b3 _ (by omega) b3.size⟩
  case behind =>
    rintro e W' ⟨hv, hl, hd, hbk, hf, hv2, hsl, hbe⟩
    refine ⟨hv, .inl ⟨hl, fun o => ?_⟩⟩
    obtain ⟨W2, hW2⟩ : ∃ W2, W'.putObj (W0.heap.size + 1) o = W2 := ⟨_, rfl⟩
    rw [hW2]
    have hcv : W2.cell? ⟨b + 1, 0, none⟩ = some (.int .i64 (toldL (D.zip C))) := by rw [← hW2]; exact (boxed_putX hv2 _ (by omega)).cell
    have hK2 : W2.heap[W0.heap.size]? = some (.deferred (some [])) := by rw [← hW2]; exact (World.putObj_heap_other (by omega)).trans hd
    have hb2 : Below w.heap.size w W2 := by rw [← hW2]; exact below_putX hbe _ (by omega) hbe.size
    have HSZ := hid hsz
    clear hW2 hbe hl hd hv2 hbk hf hsl hsz
    gi_wp2
    refine ⟨by simp, .inl ⟨_, _, rfl, run_takeDeferred hK2, ?_⟩⟩
    exact ⟨_, results_tmp rfl _ _ _, rfl, below_putX hb2 _ (by rw [HSZ.out]; omega) hb2.size⟩

theorem implToldBy_any (A : Option Addr) (n c : Nat) (A2 : Option Addr) (n2 c2 : Nat) (D C : List Int) (w : World) (h1 : Sl w w.heap.size A n D) (h2 : Sl w w.heap.size A2 n2 C) :
    Calls Try.prog 23 #[ctr A n c A2 n2 c2] w fun e w' => e = .returned (.int .i64 (toldC D C)) ∧ Below w.heap.size w w' := by
  cases hok : ctrOk D C with
  | true =>
    have hnn := (ctrOk_iff.1 hok).2.1
    rw [h1.len, h2.len] at hnn
    subst hnn
    have HV := hid (show toldC D C = toldL (D.zip C) from by unfold toldC; rw [hok]; rfl)
    rw [HV.out]
    exact toldBy_yes A n2 c A2 c2 D C w h1 h2 hok
  | false =>
    have HV := hid (show toldC D C = -1 from by unfold toldC; rw [hok]; rfl)
    have B0 := (Below.refl w.heap.size w).alloc (Nat.le_refl _) (.cells #[.slice A n c, .slice A2 n2 c2] 25)
    have X0 := Bk.new w (.slice A n c) (.slice A2 n2 c2)
    have CK := hid (counterI_any A n c A2 n2 c2 D C _ (h1.on B0) (h2.on B0))
    rw [hok] at CK
    have k0 := X0.c0
    have k1 := X0.c1
    have HB0 := hid B0
    clear hok h1 h2 X0 B0
    go_enter Try.func23, Try.ntmps23
    go_wp2_with (go_at_call 16; with_reducible refine Calls.mono CK.out ?_; rintro e w1 ⟨rfl, g1⟩)
    go_ret
    exact ⟨ret_int HV.out.symm, HB0.out.trans ((below_grown g1).mono HB0.out.size)⟩
end Go.Proofs.Ytdacjpaaffpfgaa
