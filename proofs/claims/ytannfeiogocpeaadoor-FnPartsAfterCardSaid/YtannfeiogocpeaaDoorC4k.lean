/-
  The walk of the program's squadAfter. No statement is proved here.
-/
import Derived.Test.YtannfeiogocpeaaDoorC4z
namespace Go.Proofs.YtannfeiogocpeaaDoor
open Go.RowKit
set_option linter.unusedVariables false
set_option linter.unusedSimpArgs false

theorem results_cell2 {fn : Func} {p q : Tmp} {ty tz : TypeId} (h : fn.results = #[.cell p ty, .cell q tz]) (tmps : Array Value) (P : Program) (w : World) :
    (results fn tmps).run P w = ((asAddr (tmps.getD p undef)).run P w).andThen fun a w₁ => ((loadVar ty a).run P w₁).andThen fun v w₂ =>
      ((asAddr (tmps.getD q undef)).run P w₂).andThen fun b w₃ => ((loadVar tz b).run P w₃).andThen fun u w₄ => .ok (.tuple #[v, u]) w₄ := by
  simp only [results, h]
  simp [Sem.run_bind, Result.andThen]

theorem Kpt.refl (n0 l : Nat) (W : World) : Kpt n0 l W W := ⟨Below.refl _ _, fun _ _ _ => rfl⟩
theorem Kpt.alloc {n0 l : Nat} {W W' : World} (h : Kpt n0 l W W') (o : Obj) (hn : n0 ≤ W'.heap.size) : Kpt n0 l W (W'.alloc o) :=
  ⟨h.below.alloc hn o, fun k h1 h2 => (Below.heap_alloc W' o k (Nat.lt_of_lt_of_le h2 h.below.size)).trans (h.keep k h1 h2)⟩
theorem Kpt.put {n0 l : Nat} {W W' : World} (h : Kpt n0 l W W') (o : Obj) (hl : n0 ≤ l) (hn : n0 ≤ W'.heap.size) : Kpt n0 l W (W'.putObj l o) :=
  ⟨below_put h.below o hl hn, fun k h1 h2 => (World.putObj_heap_other (by omega)).trans (h.keep k h1 h2)⟩
theorem Kpt.set {n0 l : Nat} {W W' : World} (h : Kpt n0 l W W') (b o : Nat) (v : Value) (hb : n0 ≤ b) (hl : b ≤ l) : Kpt n0 l W (W'.setCell ⟨b, o, none⟩ v) :=
  ⟨h.below.setCell (p := ⟨b, o, none⟩) hb v, fun k h1 h2 => (heap_setCell_other W' ⟨b, o, none⟩ k v (by simp; omega)).trans (h.keep k h1 h2)⟩

attribute [local go_sem] Oper.semAt_some

set_option maxRecDepth 100000 in
set_option maxHeartbeats 1000000 in
theorem squadAfter_nat (N r : Nat) (w : World) (h1 : 1 ≤ N) (hN : N ≤ 40) (hr : (r : Int) ≤ 9223372036854775807) (hT : Tabs w) :
    Calls Tryd.prog 36 #[.int .i64 N, .int .i64 r] w fun e w' => Below w.heap.size w w' ∧
      ((r ≤ (roundsN N).length ∧ ∃ A q c, e = .returned (.tuple #[.agg #[.slice A q c, .int .u64 (told64 N r : Nat)], .bool true]) ∧ w'.ownsRow w.heap.size 56 2 (.slice A q c) q (pcells (partsP (N : Int) r))) ∨
       ((roundsN N).length < r ∧ e = .returned (.tuple #[.agg #[.slice none 0 0, .int .u64 0], .bool false]))) := by
  refine (callsIn_wide (n := 5)).1 ?_
  have hwd : Fence.wide.depth.isSome = false := rfl
  have hwr : Fence.wide.round = none := rfl
  have hf1 : Fence.wide.fn 33 := trivial
  have hf2 : Fence.wide.fn 45 := trivial
  have hok : within (N : Int) 1 40 = true := by simp [within]; omega
  have hr0 : decide ((r : Int) < 0) = false := by simp
  refine callsIn_of_wp_marks Tryd.func36 rfl trivial ?_ rfl
  simp only [Tryd.ntmps36, List.size_toArray, List.length_cons, List.length_nil, Nat.reduceAdd, Nat.reduceSub, Array.replicate_succ, Array.replicate_zero, List.push_toArray, List.append_toArray, List.nil_append, List.cons_append]
  gi_wp2_with (first | (gi_at_call 33; refine (callsIn_wide.2 (machinesOk_any _ _)).mono ?_; rintro e w' ⟨rfl, rfl⟩) | (gi_at_call 45; refine (callsIn_wide.2 (squadsOf_any _ _)).mono ?_; rintro e w' ⟨rfl, rfl⟩))
  obtain ⟨W0, hW0⟩ : ∃ W0 : World, (((w.alloc (.cells #[.slice none 0 0, .int .u64 0] 52)).alloc (.cells #[.bool false] 4)).alloc (.cells #[.int .i64 r] 3)).alloc (.cells #[.int .i64 N] 3) = W0 := ⟨_, rfl⟩
  rw [hW0]
  have hsz : w.heap.size + 4 ≤ W0.heap.size := by rw [← hW0]; simp
  have b0 : Below w.heap.size w W0 := by rw [← hW0]; exact ((((Below.refl _ w).alloc (Nat.le_refl _) _).alloc (by simp) _).alloc (by simp; omega) _).alloc (by simp; omega) _
  have x4 : Box2 W0 w.heap.size 52 (.slice none 0 0) (.int .u64 0) := by
    rw [← hW0]
    exact (((Box2.new w _ _ _).kept (grown_alloc _ _ none) (by simp)).kept (grown_alloc _ _ none) (by simp)).kept (grown_alloc _ _ none) (by simp)
  have x5 : Boxed W0 (w.heap.size + 1) 4 (.bool false) := by
    rw [← hW0]
    have h1 := Boxed.new (w.alloc (.cells #[.slice none 0 0, .int .u64 0] 52)) 4 (.bool false)
    rw [World.size_alloc] at h1
    exact (h1.alloc _).alloc _
  have x6 : Boxed W0 (w.heap.size + 1 + 1) 3 (.int .i64 r) := by
    rw [← hW0]
    have h1 := Boxed.new ((w.alloc (.cells #[.slice none 0 0, .int .u64 0] 52)).alloc (.cells #[.bool false] 4)) 3 (.int .i64 r)
    rw [World.size_alloc, World.size_alloc] at h1
    exact h1.alloc _
  have hc0 : W0.cell? ⟨w.heap.size + 1 + 1 + 1, 0, none⟩ = some (.int .i64 N) := by
    rw [← hW0]
    have h1 := (Boxed.new (((w.alloc (.cells #[.slice none 0 0, .int .u64 0] 52)).alloc (.cells #[.bool false] 4)).alloc (.cells #[.int .i64 r] 3)) 3 (.int .i64 N)).cell
    rw [World.size_alloc, World.size_alloc, World.size_alloc] at h1
    exact h1
  have x6' : Boxed W0 (w.heap.size + 1 + 1) 3 (.int .i64 ((r : Int) - ((0 : Nat) : Int))) := by rw [show ((r : Int) - ((0 : Nat) : Int)) = (r : Int) from by omega]; exact x6
  clear hW0 x6
  have eg : ∀ args w, (callFunc 55 args).run Tryd.prog w = .ok (.enter 55 args) w := enters_of Tryd.func55 (by kernel_rfl) rfl
  refine range_bare (n := 5) rfl eg ?_
  intro rc W1 hs1 hb1 hl1 hd1 hY
  refine (squads_in (5 - 1) (W0.heap.size + 1) w.heap.size (w.heap.size + 1 + 1 + 1) N
    (fun k W => k ≤ r ∧ W.heap[W0.heap.size + 1]? = some (.loop (rc .ready none)) ∧ W.heap[W0.heap.size]? = some (.deferred (some [])) ∧ Box2 W w.heap.size 52 (.slice none 0 0) (.int .u64 0) ∧ Boxed W (w.heap.size + 1) 4 (.bool false) ∧ Boxed W (w.heap.size + 1 + 1) 3 (.int .i64 ((r : Int) - k)))
    (fun k v W => k = r ∧ W.heap[W0.heap.size + 1]? = some (.loop (rc .done (some .ret))) ∧ W.heap[W0.heap.size]? = some (.deferred (some [])) ∧ (∃ v0 v1, v = .agg #[v0, v1] ∧ Box2 W w.heap.size 52 v0 v1) ∧ Boxed W (w.heap.size + 1) 4 (.bool true))
    W1 h1 hN (by omega) (by omega) (by omega) ((hb1.cell (p := ⟨w.heap.size + 1 + 1 + 1, 0, none⟩) (by simp; omega)).trans hc0)
    (fun W hW => hT.below (b0.trans ((hb1.mono (by omega)).trans hW)))
    (by
      rintro k W W' ⟨g1, g2, g3, g4, g5, g6⟩ hb
      exact ⟨g1, (hb _ (by omega)).trans g2, (hb _ (by omega)).trans g3, (hb _ (by omega)).trans g4, (hb _ (by omega)).trans g5, (hb _ (by omega)).trans g6⟩)
    (by
      rintro k v W W' ⟨g1, g2, g3, ⟨v0, v1, g4, g5⟩, g6⟩ hb
      exact ⟨g1, (hb _ (by omega)).trans g2, (hb _ (by omega)).trans g3, ⟨v0, v1, g4, (hb _ (by omega)).trans g5⟩, (hb _ (by omega)).trans g6⟩)
    ?yields ⟨Nat.zero_le _, hl1, hd1, x4.below hb1 (by omega), (hb1.block _ (by omega)).trans x5, (hb1.block _ (by omega)).trans x6'⟩).mono ?behind
  case yields =>
    rintro k A q c t W ⟨hkr, hl, hd, v4, v5, v6⟩ hn hlt
    refine yield_any (hY #[.agg #[.slice A q c, .int .u64 t]] W _ rfl hl ⟨?a1, ?w1, ?assign, ?ready, ?body⟩)
    case assign =>
      intro K hK
      gi_wp2
      exact hK
    case ready => exact (Below.heap_alloc W _ _ (by omega)).trans hl
    have hlW : W0.heap.size + 1 < W.heap.size := by omega
    obtain ⟨Wb, hWb⟩ : ∃ Wb, (W.alloc (.cells #[.slice A q c, .int .u64 (t : Nat)] 52)).putObj (W0.heap.size + 1) (.loop (rc .busy none)) = Wb := ⟨_, rfl⟩
    rw [hWb]
    have lb : Wb.heap[W0.heap.size + 1]? = some (.loop (rc .busy none)) := by rw [← hWb]; exact World.putObj_heap_same (by simp; omega)
    have hblk : ∀ b, b ≠ W0.heap.size + 1 → b < W.heap.size → Wb.heap[b]? = W.heap[b]? := fun b h1 h2 => by rw [← hWb]; exact (World.putObj_heap_other h1).trans (Below.heap_alloc W _ b h2)
    have db := (hblk _ (by omega) (by omega)).trans hd
    have b4 : Box2 Wb w.heap.size 52 (.slice none 0 0) (.int .u64 0) := (hblk _ (by omega) v4.lt).trans v4
    have b5 : Boxed Wb (w.heap.size + 1) 4 (.bool false) := (hblk _ (by omega) v5.lt).trans v5
    have b6 : Boxed Wb (w.heap.size + 1 + 1) 3 (.int .i64 ((r : Int) - k)) := (hblk _ (by omega) v6.lt).trans v6
    have b7 : Box2 Wb W.heap.size 52 (.slice A q c) (.int .u64 (t : Nat)) := by rw [← hWb]; exact (Box2.new W _ _ _).put _ (by omega)
    have kb := hid (show Kpt w.heap.size (W0.heap.size + 1) W Wb from by rw [← hWb]; exact ((Kpt.refl _ _ W).alloc _ hn).put _ (by omega) (by simp; omega))
    have hszb : W.heap.size + 1 ≤ Wb.heap.size := by rw [← hWb]; simp
    clear hWb hblk hl hd v4 v5 v6
    have c40 := b4.cell0
    have c41 := b4.cell1
    have f4 := b4.frozen
    have c50 := b5.cell
    have f5 := b5.frozen
    have c60 := b6.cell
    have f6 := b6.frozen
    have c70 := b7.cell0
    have c71 := b7.cell1
    by_cases hke : k = r
    · have hz : (r : Int) - k = 0 := by omega
      rw [hz] at c60
      have HKE := hid hke
      clear hke hz b6
      obtain ⟨V0, hV0⟩ : ∃ V0, Value.slice A q c = V0 := ⟨_, rfl⟩
      obtain ⟨V1, hV1⟩ : ∃ V1, Value.int .u64 (t : Nat) = V1 := ⟨_, rfl⟩
      have K5 := ((KeepsOthers.setCell Wb ⟨w.heap.size, 0, none⟩ V0).trans (KeepsOthers.setCell _ ⟨w.heap.size, 1, none⟩ V1)).trans (KeepsOthers.setCell _ ⟨w.heap.size + 1, 0, none⟩ (.bool true))
      have l5 := K5.same _ _ lb rfl
      have d5 := K5.same _ _ db rfl
      have x5 := ((b4.set0 V0).set1 V1).other (b := w.heap.size + 1) (o := 0) (.bool true) (by omega)
      have y5 : Boxed (((Wb.setCell ⟨w.heap.size, 0, none⟩ V0).setCell ⟨w.heap.size, 1, none⟩ V1).setCell ⟨w.heap.size + 1, 0, none⟩ (.bool true)) (w.heap.size + 1) 4 (.bool true) :=
        Boxed.set _ ((heap_setCell_other _ ⟨w.heap.size, 1, none⟩ _ V1 (by simp)).trans ((heap_setCell_other _ ⟨w.heap.size, 0, none⟩ _ V0 (by simp)).trans b5))
      have k5 := ((kb.out.set w.heap.size 0 V0 (by omega) (by omega)).set w.heap.size 1 V1 (by omega) (by omega)).set (w.heap.size + 1) 0 (.bool true) (by omega) (by omega)
      subst hV0
      subst hV1
      gi_wp2
      exact ⟨l5, k5.put _ (by omega) (by simp; omega), .inr ⟨rfl, HKE.out, World.putObj_heap_same (by simp; omega), (World.putObj_heap_other (by omega)).trans d5, ⟨_, _, ⟨rfl, rfl⟩, x5.put _ (by omega)⟩, Boxed.put y5 _ (by omega)⟩⟩
    · have hkr2 : k < r := by omega
      have hne : decide ((r : Int) - k = 0) = false := by simp; omega
      have hnb : ((r : Int) - k == 0) = false := by simp; omega
      have K5 := KeepsOthers.setCell Wb ⟨w.heap.size + 1 + 1, 0, none⟩ (.int .i64 ((r : Int) - k - 1))
      have l5 := K5.same _ _ lb rfl
      have d5 := K5.same _ _ db rfl
      have x5 := b4.other (b := w.heap.size + 1 + 1) (o := 0) (.int .i64 ((r : Int) - k - 1)) (by omega)
      have y5 : Boxed (Wb.setCell ⟨w.heap.size + 1 + 1, 0, none⟩ (.int .i64 ((r : Int) - k - 1))) (w.heap.size + 1) 4 (.bool false) := (heap_setCell_other _ ⟨w.heap.size + 1 + 1, 0, none⟩ _ _ (by simp)).trans b5
      have z5 := b6.set (.int .i64 ((r : Int) - k - 1))
      have k5 := kb.out.set (w.heap.size + 1 + 1) 0 (.int .i64 ((r : Int) - k - 1)) (by omega) (by omega)
      have he : (r : Int) - ((k : Int) + 1) = (r : Int) - k - 1 := by omega
      have HE := hid he
      clear he hke
      gi_wp2
      exact ⟨l5, k5.put _ (by omega) (by simp; omega), .inl ⟨rfl, hkr2, World.putObj_heap_same (by simp; omega), (World.putObj_heap_other (by omega)).trans d5, x5.put _ (by omega), Boxed.put y5 _ (by omega), by rw [HE.out]; exact Boxed.put z5 _ (by omega)⟩⟩
  case behind =>
    rintro e W' ⟨hv, hB, (⟨hkr, hl, hd, v4, v5, v6⟩ | ⟨k, A, q, c, hk, ⟨hkr, hl, hd, ⟨v0, v1, hv01, v4⟩, v5⟩, hrow⟩)⟩
    · refine ⟨hv, .inl ⟨hl, fun o => ?_⟩⟩
      obtain ⟨W6, hW6⟩ : ∃ W6, W'.putObj (W0.heap.size + 1) o = W6 := ⟨_, rfl⟩
      rw [hW6]
      have hHB : Below w.heap.size w W' := (b0.trans (hb1.mono (by omega))).trans hB
      have hs' := hB.size
      have B6 := hid (show Below w.heap.size w W6 from by rw [← hW6]; exact below_put hHB _ (by omega) (by omega))
      have d6 : W6.heap[W0.heap.size]? = some (.deferred (some [])) := by rw [← hW6]; exact (World.putObj_heap_other (by omega)).trans hd
      have b4 : Box2 W6 w.heap.size 52 (.slice none 0 0) (.int .u64 0) := by rw [← hW6]; exact v4.put _ (by omega)
      have b5 : Boxed W6 (w.heap.size + 1) 4 (.bool false) := by rw [← hW6]; exact Boxed.put v5 _ (by omega)
      clear hW6 hl hd v4 v5 v6 hB hHB hb1 hs'
      have hlt : (roundsN N).length < r := by omega
      have HLT := hid hlt
      clear hlt hkr
      have c40 := b4.cell0
      have c41 := b4.cell1
      have f4 := b4.frozen
      have c50 := b5.cell
      have f5 := b5.frozen
      have K5 := ((KeepsOthers.setCell W6 ⟨w.heap.size, 0, none⟩ (.slice none 0 0)).trans (KeepsOthers.setCell _ ⟨w.heap.size, 1, none⟩ (.int .u64 0))).trans (KeepsOthers.setCell _ ⟨w.heap.size + 1, 0, none⟩ (.bool false))
      have d7 := K5.same _ _ d6 rfl
      have x7 := (((b4.set0 (.slice none 0 0)).set1 (.int .u64 0)).other (b := w.heap.size + 1) (o := 0) (.bool false) (by omega)).put (l := W0.heap.size) (.deferred none) (by omega)
      have y7 := Boxed.put (Boxed.set (.bool false) (show Boxed ((W6.setCell ⟨w.heap.size, 0, none⟩ (.slice none 0 0)).setCell ⟨w.heap.size, 1, none⟩ (.int .u64 0)) (w.heap.size + 1) 4 (.bool false) from
        (heap_setCell_other _ ⟨w.heap.size, 1, none⟩ _ _ (by simp)).trans ((heap_setCell_other _ ⟨w.heap.size, 0, none⟩ _ _ (by simp)).trans b5))) (l := W0.heap.size) (.deferred none) (by omega)
      have B7 := below_put (l := W0.heap.size) (((B6.out.setCell (p := ⟨w.heap.size, 0, none⟩) (by simp) (.slice none 0 0)).setCell (p := ⟨w.heap.size, 1, none⟩) (by simp) (.int .u64 0)).setCell (p := ⟨w.heap.size + 1, 0, none⟩) (by simp) (.bool false)) (.deferred none) (by omega) (by have := B6.out.size; simp; omega)
      gi_wp2
      refine ⟨by simp, .inl ⟨_, _, rfl, run_takeDeferred d7, ?_⟩⟩
      have g40 := x7.cell0
      have g41 := x7.cell1
      have g50 := y7.cell
      refine ⟨.tuple #[.agg #[.slice none 0 0, .int .u64 0], .bool false], ?_, B7, .inr ⟨HLT.out, rfl⟩⟩
      rw [results_cell2 rfl]
      go_simp
    · refine ⟨hv, .inr ⟨hl, fun o => ?_⟩⟩
      obtain ⟨W6, hW6⟩ : ∃ W6, W'.putObj (W0.heap.size + 1) o = W6 := ⟨_, rfl⟩
      rw [hW6]
      have hHB : Below w.heap.size w W' := (b0.trans (hb1.mono (by omega))).trans hB
      have hs' := hB.size
      have B6 := hid (show Below w.heap.size w W6 from by rw [← hW6]; exact below_put hHB _ (by omega) (by omega))
      have d6 : W6.heap[W0.heap.size]? = some (.deferred (some [])) := by rw [← hW6]; exact (World.putObj_heap_other (by omega)).trans hd
      have b4 : Box2 W6 w.heap.size 52 v0 v1 := by rw [← hW6]; exact v4.put _ (by omega)
      have b5 : Boxed W6 (w.heap.size + 1) 4 (.bool true) := by rw [← hW6]; exact Boxed.put v5 _ (by omega)
      have r6 : W6.ownsRow (W0.heap.size + 1 + 1) 56 2 (.slice A q c) q (pcells (partsP (N : Int) k)) := by rw [← hW6]; exact ownsRow_putObj hrow _ hl rfl
      injection hv01 with hv01
      injection hv01 with hv01
      simp at hv01
      obtain ⟨rfl, rfl⟩ := hv01
      clear hW6 hl hd v4 v5 hB hHB hb1 hs' hrow
      subst hkr
      have HK := hid hk
      clear hk
      have x7 := b4.put (l := W0.heap.size) (.deferred none) (by omega)
      have y7 := Boxed.put b5 (l := W0.heap.size) (.deferred none) (by omega)
      have B7 := below_put (l := W0.heap.size) B6.out (.deferred none) (by omega) (by have := B6.out.size; omega)
      have r7 := ownS_mono (ownsRow_putObj r6 (.deferred none) d6 rfl) (show w.heap.size ≤ W0.heap.size + 1 + 1 by omega)
      gi_wp2
      refine ⟨by simp, .inl ⟨_, _, rfl, run_takeDeferred d6, ?_⟩⟩
      have g40 := x7.cell0
      have g41 := x7.cell1
      have g50 := y7.cell
      refine ⟨.tuple #[.agg #[.slice A q c, .int .u64 (told64 N k : Nat)], .bool true], ?_, B7, .inl ⟨HK.out, A, q, c, rfl, r7⟩⟩
      rw [results_cell2 rfl]
      go_simp

set_option maxHeartbeats 800000 in
theorem squadAfter_no (n r : Int) (w : World) (hok : within n 1 40 = true → r < 0) :
    Calls Tryd.prog 36 #[.int .i64 n, .int .i64 r] w fun e w' => Below w.heap.size w w' ∧ e = .returned (.tuple #[.agg #[.slice none 0 0, .int .u64 0], .bool false]) := by
  obtain ⟨W0, hW0⟩ : ∃ W0 : World, (w.alloc (.cells #[.slice none 0 0, .int .u64 0] 52)).alloc (.cells #[.bool false] 4) = W0 := ⟨_, rfl⟩
  have b0 : Below w.heap.size w W0 := by rw [← hW0]; exact ((Below.refl _ w).alloc (Nat.le_refl _) _).alloc (by simp) _
  have x4 : Box2 W0 w.heap.size 52 (.slice none 0 0) (.int .u64 0) := by
    rw [← hW0]
    exact (Box2.new w _ _ _).kept (grown_alloc _ _ none) (by simp)
  have x5 : Boxed W0 (w.heap.size + 1) 4 (.bool false) := by
    rw [← hW0]
    have h1 := Boxed.new (w.alloc (.cells #[.slice none 0 0, .int .u64 0] 52)) 4 (.bool false)
    rw [World.size_alloc] at h1
    exact h1
  have c40 := x4.cell0
  have c41 := x4.cell1
  have f4 := x4.frozen
  have c50 := x5.cell
  have f5 := x5.frozen
  have x7 := ((x4.set0 (.slice none 0 0)).set1 (.int .u64 0)).other (b := w.heap.size + 1) (o := 0) (.bool false) (by omega)
  have y7 := Boxed.set (.bool false) (show Boxed ((W0.setCell ⟨w.heap.size, 0, none⟩ (.slice none 0 0)).setCell ⟨w.heap.size, 1, none⟩ (.int .u64 0)) (w.heap.size + 1) 4 (.bool false) from
    (heap_setCell_other _ ⟨w.heap.size, 1, none⟩ _ _ (by simp)).trans ((heap_setCell_other _ ⟨w.heap.size, 0, none⟩ _ _ (by simp)).trans x5))
  have B7 := ((b0.setCell (p := ⟨w.heap.size, 0, none⟩) (by simp) (.slice none 0 0)).setCell (p := ⟨w.heap.size, 1, none⟩) (by simp) (.int .u64 0)).setCell (p := ⟨w.heap.size + 1, 0, none⟩) (by simp) (.bool false)
  have g40 := x7.cell0
  have g41 := x7.cell1
  have g50 := y7.cell
  by_cases hn : within n 1 40 = true
  · have hr := hok hn
    go_enter Tryd.func36, Tryd.ntmps36
    go_wp2_with (go_at_call 33; refine (machinesOk_any _ _).mono ?_; rintro e w' ⟨rfl, rfl⟩)
    (try simp only [Exit.inBlock, Exit.then])
    refine bodyPost_ret (v := .tuple #[.agg #[.slice none 0 0, .int .u64 0], .bool false]) ?_ rfl ⟨B7, rfl⟩
    rw [results_cell2 rfl]
    go_simp
  · have hn' : within n 1 40 = false := by simpa using hn
    go_enter Tryd.func36, Tryd.ntmps36
    go_wp2_with (go_at_call 33; refine (machinesOk_any _ _).mono ?_; rintro e w' ⟨rfl, rfl⟩)
    (try simp only [Exit.inBlock, Exit.then])
    refine bodyPost_ret (v := .tuple #[.agg #[.slice none 0 0, .int .u64 0], .bool false]) ?_ rfl ⟨B7, rfl⟩
    rw [results_cell2 rfl]
    go_simp

theorem squadAfter_any (n r : Int) (w : World) (hw : (Lit.int .i64 n).wf = true) (hw2 : (Lit.int .i64 r).wf = true) (hT : Tabs w) :
    Calls Tryd.prog 36 #[.int .i64 n, .int .i64 r] w fun e w' => Below w.heap.size w w' ∧
      ((partsOk n r = true ∧ ∃ A q c, e = .returned (.tuple #[.agg #[.slice A q c, .int .u64 (told64 n.toNat r.toNat : Nat)], .bool true]) ∧ w'.ownsRow w.heap.size 56 2 (.slice A q c) q (pcells (partsP n r.toNat))) ∨
       (partsOk n r = false ∧ e = .returned (.tuple #[.agg #[.slice none 0 0, .int .u64 0], .bool false]))) := by
  have hb := bounds_i64 hw2
  by_cases hn : within n 1 40 = true
  · by_cases hr : 0 ≤ r
    · have hn2 : 1 ≤ n ∧ n ≤ 40 := by simpa [within] using hn
      obtain ⟨N, rfl⟩ : ∃ N : Nat, n = N := Int.eq_ofNat_of_zero_le (by omega)
      obtain ⟨R, rfl⟩ : ∃ R : Nat, r = R := Int.eq_ofNat_of_zero_le hr
      have hro : roundsOut (N : Int) = roundsN N := roundsOut_yes hn2
      refine (squadAfter_nat N R w (by omega) (by omega) (by omega) hT).mono ?_
      rintro e w' ⟨hB, (⟨h1, A, q, c, rfl, h3⟩ | ⟨h1, rfl⟩)⟩
      · refine ⟨hB, .inl ⟨?_, A, q, c, rfl, h3⟩⟩
        rw [partsOk_iff, hro]
        omega
      · refine ⟨hB, .inr ⟨?_, rfl⟩⟩
        have : ¬ partsOk (N : Int) (R : Int) = true := by rw [partsOk_iff, hro]; omega
        simpa using this
    · refine (squadAfter_no n r w (fun _ => by omega)).mono ?_
      rintro e w' ⟨hB, rfl⟩
      have : ¬ partsOk n r = true := by rw [partsOk_iff]; omega
      exact ⟨hB, .inr ⟨by simpa using this, rfl⟩⟩
  · refine (squadAfter_no n r w (fun h => absurd h hn)).mono ?_
    rintro e w' ⟨hB, rfl⟩
    have : ¬ partsOk n r = true := by
      rw [partsOk_iff]
      simp [within] at hn
      omega
    exact ⟨hB, .inr ⟨by simpa using this, rfl⟩⟩
end Go.Proofs.YtannfeiogocpeaaDoor
