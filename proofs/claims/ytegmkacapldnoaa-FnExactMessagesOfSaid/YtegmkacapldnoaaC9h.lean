/-
  Walks of slices.Grow and slices.Concat as the program's begunAt calls them, of begunAt, WentRound, machinesBeforeGreater and ReachOf. No statement is proved here.
-/
import Derived.Test.YtegmkacapldnoaaC9g
namespace Go.Proofs.Ytegmkacapldnoaa
open Go.RowKit
set_option linter.unusedVariables false
set_option linter.unusedSimpArgs false

theorem wpList_append_zeros_nil9 {P : Program} (w : World) {ops : Array Oper} {rest : List Oper} {o : Oper} {a : Act} {Q : Exit → Act → World → Prop} (hgd : o.guard = none) (s x : Operand) (t tn : TypeId)
    (ho : o.op = .call { callee := .builtin .append, args := #[s, x], argTypes := #[t, tn] })
    (e : TypeId) (i : TypeInfo) (z : Value) (kn : IntKind) (ht : P.underlying t = some (.slice e)) (htn : P.underlying tn = some (.int kn)) (hi : P.info? e = some i) (hz : i.zero = some z)
    (hs1 : i.size = 1) (hzc : z.cells = #[z]) (k : Nat) (kq : IntKind) (K : Int) (hs : a.eval s = .slice none 0 0) (hx : a.eval x = .int kq K) (hK : K = k) (h0 : 0 < k) (hk : k ≤ 1000000) (hb : i.bytes ≤ 1000)
    (h : ∀ c w', (∃ cur, w'.heap[w.heap.size]? = some (.cells cur e (0, 0)) ∧ cur.size = c) → k ≤ c → c ≤ maxLen → w.grownBy w' none → wpList P ops Q rest (a.put o.dst (.slice (some ⟨w.heap.size, 0, none⟩) k c)) w') : wpList P ops Q (o :: rest) a w := by
  refine wpList_plain hgd fun _ hKK => ?_
  subst hK
  have hold : (Builtin.firstCells i.size 0 (.slice none 0 0)).run P w.drew = .ok #[] w.drew := run_firstCells_none w.drew i.size 0 0 0
  have hmul : k * i.bytes ≤ 1000000 * 1000 := Nat.mul_le_mul hk hb
  have hr := Lib.run_append_grow_zeros (P := P) w t tn o.type e i z kq kn ht htn hi hz none 0 0 [] hold k h0 (by omega) (by omega) (by omega) (by omega) (growslice_fits (by omega) (by rw [Nat.zero_add]; omega))
  rw [Nat.zero_add] at hr
  unfold Oper.wp execOp
  simp only [ho, resolve, invoke, builtin, Sem.run_bind, Sem.run_pure, Result.andThen_ok, List.map_toArray, List.map_cons, List.map_nil, hs, hx, hr]
  refine hKK _ _ (h _ _ ⟨_, heap_alloc_new w.drew _, ?_⟩ (grownCap_ge w k 0 e) (grownCap_le_maxLen w k 0 e (by simp only [maxLen]; omega)) ⟨rfl, rfl, rfl, by simp, fun j hj _ => Below.heap_alloc w.drew _ j hj⟩)
  have := grownCap_ge w k 0 e
  simp only [Array.size_append, List.size_toArray, size_zeroCells, hzc]
  simp
  omega

set_option maxHeartbeats 800000 in
theorem grow9_any (k : Nat) (w : World) (h1 : 1 ≤ k) (hk : k ≤ 16) :
    Calls Try.prog 62 #[.slice none 0 0, .int .i64 k] w fun e w' => ∃ c, e = .returned (.slice (some ⟨w.heap.size, 0, none⟩) 0 c) ∧ k ≤ c ∧ w'.ownsRow w.heap.size 3 1 (.slice (some ⟨w.heap.size, 0, none⟩) 0 c) 0 (ints []) ∧ Below w.heap.size w w' := by
  obtain ⟨i0, hi, hz0, hz1, hz2⟩ := info_parts info_int
  have q1 : ¬ ((k : Int) < 0) := by omega
  have q2 : (0 : Int) < (k : Int) := by omega
  go_enter Try.func62, Try.ntmps62
  go_wp2_with (at_builtin; refine wpList_append_zeros_nil9 _ rfl _ _ 23 3 rfl 3 i0 (.int .i64 0) .i64 Try.underlying23 Try.underlying3 hi hz0 hz1 rfl k .i64 _ rfl rfl rfl (by omega) (by omega) (by omega) ?_; intro c w2 hcur hkc hcm g2)
  go_ret
  obtain ⟨cur, hcur, hcs⟩ := hcur
  exact ⟨c, rfl, hkc, ⟨by simp [ints], .inr ⟨w.heap.size, c, cur, rfl, Nat.le_refl _, hcur, by omega, hcm, by omega, by simp [ints]⟩⟩, below_grown g2⟩

set_option maxRecDepth 100000 in
set_option maxHeartbeats 3200000 in
/-- Two slices of ints, one behind the other, in memory of its own. -/
theorem concat9_any (q b1 f1 b2 f2 : Nat) (n1 c1 n2 c2 : Nat) (m zs : List Int) (w : World) (hq : q < w.heap.size) (y0 : w.cell? ⟨q, 0, none⟩ = some (.slice (some ⟨b1, f1, none⟩) n1 c1)) (y1 : w.cell? ⟨q, 1, none⟩ = some (.slice (some ⟨b2, f2, none⟩) n2 c2))
    (hs1 : Sl w w.heap.size (some ⟨b1, f1, none⟩) n1 m) (hs2 : Sl w w.heap.size (some ⟨b2, f2, none⟩) n2 zs) (h1 : 1 ≤ n1) (h16 : n1 + n2 ≤ 16) :
    Calls Try.prog 60 #[.slice (some ⟨q, 0, none⟩) 2 2] w fun e w' => ∃ A3 k c3, e = .returned (.slice A3 k c3) ∧ k = n1 + n2 ∧ w'.ownsRow w.heap.size 3 1 (.slice A3 k c3) k (ints (m ++ zs)) ∧ Below w.heap.size w w' := by
  obtain ⟨i0, hi, hz0, hz1, hz2⟩ := info_parts info_int
  have HL1 := hid hs1.len
  have HL2 := hid hs2.len
  have HS1 := hid hs1
  have HS2 := hid hs2
  clear hs1 hs2
  have GC := hid (grow9_any (n1 + n2) w (by omega) (by omega))
  rw [show (((n1 + n2 : Nat) : Int)) = (n1 : Int) + (n2 : Int) from by omega] at GC
  have w1 : IntKind.i64.wrap ((n1 : Int) + (n2 : Int)) = (n1 : Int) + (n2 : Int) := IntWalk.i64_in _ (by omega)
  have p0 : ¬ ((n1 : Int) < 0) := by omega
  have p1 : ¬ ((n1 : Int) + (n2 : Int) < 0) := by omega
  go_enter Try.func60, Try.ntmps60
  go_wp2
  go_loop [3, 11] (fun s i => (s = .int .i64 0 ∧ i = .int .i64 0) ∨ (s = .int .i64 n1 ∧ i = .int .i64 1) ∨ (s = .int .i64 ((n1 : Int) + (n2 : Int)) ∧ i = .int .i64 2)) (fun _ i => 2 - (intOf i).toNat)
  case atStart => exact .inl ⟨rfl, rfl⟩
  case round =>
    rcases hrel with ⟨rfl, rfl⟩ | ⟨rfl, rfl⟩ | ⟨rfl, rfl⟩
    · go_wp2
      go_round
      case rel => exact .inr (.inl ⟨by go_num, rfl⟩)
      case measure => simp [intOf]
    · go_wp2
      go_round
      case rel => exact .inr (.inr ⟨rfl, rfl⟩)
      case measure => simp [intOf]
    · go_wp2_with fail
      with_reducible refine Calls.mono GC.out ?_
      rintro e w2 ⟨c, rfl, hkc, o2, b2⟩
      have O2 := hid o2
      have B2 := hid b2
      have e0 := (b2.cell (p := ⟨q, 0, none⟩) hq).trans y0
      have e1 := (b2.cell (p := ⟨q, 1, none⟩) hq).trans y1
      clear o2 b2
      go_wp2_with fail
      go_loopw [6, 27] (fun v i wr => ∃ (A3 : Option Addr) (k c3 : Nat) (L : List Int), v = .slice A3 k c3 ∧ Hid (wr.ownsRow w.heap.size 3 1 (.slice A3 k c3) k (ints L)) ∧ Hid (Below w.heap.size w wr) ∧ ((i = .int .i64 0 ∧ k = 0 ∧ Hid (L = [])) ∨ (i = .int .i64 1 ∧ n1 = k ∧ Hid (L = m)) ∨ (i = .int .i64 2 ∧ k = n1 + n2 ∧ Hid (L = m ++ zs)))) (fun _ i _ => 2 - (intOf i).toNat)
      case atStart => exact ⟨_, 0, c, [], rfl, O2, B2, .inl ⟨rfl, rfl, hid rfl⟩⟩
      case round =>
        clear O2 B2 e0 e1
        obtain ⟨A3, k, c3, L, rfl, HO, HB, hcase⟩ := hrel
        have hbw := HB.out.size
        have e0 := (HB.out.cell (p := ⟨q, 0, none⟩) hq).trans y0
        have e1 := (HB.out.cell (p := ⟨q, 1, none⟩) hq).trans y1
        rcases hcase with ⟨rfl, rfl, HL⟩ | ⟨rfl, rfl, HL⟩ | ⟨rfl, rfl, HL⟩
        · have ho := HO.out
          rw [HL.out] at ho
          have HBK := hid (own_blk ho)
          have hc1 := hid (HS1.out.below HB.out).cellsAt
          clear HO HL
          go_wp2_with (at_builtin; refine wpList_append_own _ rfl _ _ 23 rfl w.heap.size 3 i0 (.int .i64 0) 1 8 Try.underlying23 hi hz0 hz1 hz2 rfl (by decide) (.slice A3 0 c3) _ _ rfl ho ⟨b1, f1, none⟩ n1 c1 (ints m) rfl (by rw [List.length_map, HL1.out, Nat.mul_one]) hc1.out (ints_one m) (by simp only [maxLen]; omega) (by omega) hbw ?_; intro v2 w3 o3 g3 _; rw [Nat.zero_add, show ints [] ++ ints m = ints m from rfl] at o3; obtain ⟨gA, cA, rfl, hbA, hltA⟩ := own_shape1 o3 (by omega); have O3 := hid o3; have B3 := hid (HB.out.grown g3 hbw (by intro j hj; rcases HBK.out with h | ⟨i, h, hi⟩; rw [h] at hj; cases hj; rw [h] at hj; cases hj; exact hi)); clear o3 g3 ho)
          go_roundw
          case rel => exact ⟨_, n1, cA, m, rfl, O3, B3, .inr (.inl ⟨rfl, rfl, hid rfl⟩)⟩
          case measure => simp [intOf]
        · have ho := HO.out
          rw [HL.out] at ho
          have HBK := hid (own_blk ho)
          have hc2 := hid (HS2.out.below HB.out).cellsAt
          clear HO HL
          go_wp2_with (at_builtin; refine wpList_append_own _ rfl _ _ 23 rfl w.heap.size 3 i0 (.int .i64 0) 1 8 Try.underlying23 hi hz0 hz1 hz2 rfl (by decide) (.slice A3 n1 c3) _ _ rfl ho ⟨b2, f2, none⟩ n2 c2 (ints zs) rfl (by rw [List.length_map, HL2.out, Nat.mul_one]) hc2.out (ints_one zs) (by simp only [maxLen]; omega) (by omega) hbw ?_; intro v2 w3 o3 g3 _; rw [show ints m ++ ints zs = ints (m ++ zs) from by simp [ints]] at o3; obtain ⟨gA, cA, rfl, hbA, hltA⟩ := own_shape1 o3 (by omega); have O3 := hid o3; have B3 := hid (HB.out.grown g3 hbw (by intro j hj; rcases HBK.out with h | ⟨i, h, hi⟩; rw [h] at hj; cases hj; rw [h] at hj; cases hj; exact hi)); clear o3 g3 ho)
          go_roundw
          case rel => exact ⟨_, n1 + n2, cA, m ++ zs, rfl, O3, B3, .inr (.inr ⟨rfl, rfl, hid rfl⟩)⟩
          case measure => simp [intOf]
        · go_wp2
          go_ret
          exact ⟨A3, _, c3, rfl, rfl, by rw [← HL.out]; exact HO.out, HB.out⟩


set_option maxRecDepth 100000 in
set_option maxHeartbeats 3200000 in
theorem begunAt_any (A : Option Addr) (n c : Nat) (l : List Int) (F : Nat) (w : World) (hs : Sl w w.heap.size A n l) (hc : n ≤ c) (hcm : c ≤ maxLen) (hFn : F < n) (h2 : n ≤ 12) :
    Calls Try.prog 51 #[.slice A n c, .int .i64 F] w fun e w' => ∃ A2 c2, e = .returned (.slice A2 n c2) ∧ w'.ownsRow w.heap.size 3 1 (.slice A2 n c2) n (ints (rotL l F)) ∧ Below w.heap.size w w' := by
  have HL := hid hs.len
  have hmx := hs.max
  have HS := hid hs
  obtain ⟨bl, off, rfl, hbl, hcc⟩ := hs.2.2 (by omega)
  simp only [maxLen] at hcm
  have e1 : (F : Int) ≤ (n : Int) := by omega
  have e2 : (F : Int) ≤ (c : Int) := by omega
  have e3 : (n : Int) ≤ (c : Int) := by omega
  have e4 : F ≤ c := by omega
  have e5 : F ≤ n := by omega
  have e6 : (0 : Int) ≤ (F : Int) := by omega
  clear hcc hs
  obtain ⟨wd, hwd⟩ : ∃ W, w.drew = W := ⟨_, rfl⟩
  have bd : Below w.heap.size w wd := by rw [← hwd]; exact (Below.refl w.heap.size w).drew
  have hzd := bd.size
  obtain ⟨W2, hW2⟩ : ∃ W2, wd.alloc (.cells #[.slice (some ⟨bl, off + F, none⟩) (n - F) (c - F), .slice (some ⟨bl, off, none⟩) F c] 23) = W2 := ⟨_, rfl⟩
  have hb0 : Below w.heap.size w W2 := by rw [← hW2]; exact bd.alloc hzd _
  have CC := hid (concat9_any wd.heap.size bl (off + F) bl off (n - F) (c - F) F c (l.drop F) (l.take F) W2 (by rw [← hW2]; simp) (by rw [← hW2]; simp) (by rw [← hW2]; simp) ((HS.out.on hb0).drop e5) ((HS.out.on hb0).take e5) (by omega) (by omega))
  rw [show n - F + F = n from by omega] at CC
  go_enter Try.func51, Try.ntmps51
  go_wp2_with fail
  refine wp_region_held_drew (S := (fun _ => True)) (by kernel_rfl) (by intros; trivial) (fun hHeld => ?_)
  rw [hwd]
  refine wpAnyH_take (i := 0) (v := ?v0) rfl (by kernel_rfl) (by kernel_rfl) (by kernel_rfl) (fun _ _ _ h => h) (Or.inl ⟨by rfl, ?y0⟩) (by assumption) ?r0
  case y0 => (intro w hSw; (try dsimp only at hSw); go_simp; try with_reducible rfl)
  try simp only [List.getElem_toArray, List.getElem_cons_zero, List.getElem_cons_succ, Act.put, List.setIfInBounds_toArray, List.set_cons_zero, List.set_cons_succ]
  refine wpAnyH_take (i := 1) (v := ?v1) rfl (by kernel_rfl) (by kernel_rfl) (by kernel_rfl) (fun _ _ _ h => h) (Or.inl ⟨by rfl, ?y1⟩) (by assumption) ?r1
  case y1 => (intro w hSw; (try dsimp only at hSw); go_simp; try with_reducible rfl)
  try simp only [List.getElem_toArray, List.getElem_cons_zero, List.getElem_cons_succ, Act.put, List.setIfInBounds_toArray, List.set_cons_zero, List.set_cons_succ]
  refine wpAnyH_take (i := 2) (v := ?v2) rfl (by kernel_rfl) (by kernel_rfl) (by kernel_rfl) (fun _ _ _ h => h) (Or.inl ⟨by rfl, ?y2⟩) (by assumption) ?r2
  case y2 => (intro w hSw; (try dsimp only at hSw); go_simp; try with_reducible rfl)
  try simp only [List.getElem_toArray, List.getElem_cons_zero, List.getElem_cons_succ, Act.put, List.setIfInBounds_toArray, List.set_cons_zero, List.set_cons_succ]
  refine wpAnyH_take (i := 3) (v := ?v3) rfl (by kernel_rfl) (by kernel_rfl) (by kernel_rfl) (fun _ _ _ h => h) (Or.inl ⟨by rfl, ?y3⟩) (by assumption) ?r3
  case y3 => (intro w hSw; (try dsimp only at hSw); go_simp; try with_reducible rfl)
  try simp only [List.getElem_toArray, List.getElem_cons_zero, List.getElem_cons_succ, Act.put, List.setIfInBounds_toArray, List.set_cons_zero, List.set_cons_succ]
  refine wpAnyH_take (i := 4) (v := ?v4) rfl (by kernel_rfl) (by kernel_rfl) (by kernel_rfl) (fun _ _ _ h => h) (Or.inl ⟨by rfl, ?y4⟩) (by assumption) ?r4
  case y4 => (intro w hSw; (try dsimp only at hSw); go_simp; try with_reducible rfl)
  try simp only [List.getElem_toArray, List.getElem_cons_zero, List.getElem_cons_succ, Act.put, List.setIfInBounds_toArray, List.set_cons_zero, List.set_cons_succ]
  refine wpAnyH_take (i := 5) (v := ?v5) rfl (by kernel_rfl) (by kernel_rfl) (by kernel_rfl) (fun _ _ _ h => h) (Or.inl ⟨by rfl, ?y5⟩) (by assumption) ?r5
  case y5 => (intro w hSw; (try dsimp only at hSw); go_simp; try with_reducible rfl)
  try simp only [List.getElem_toArray, List.getElem_cons_zero, List.getElem_cons_succ, Act.put, List.setIfInBounds_toArray, List.set_cons_zero, List.set_cons_succ]
  refine wpAnyH_ready (rs := [6]) (by kernel_rfl) (by simp) ?_
  refine AllReadyH.cons rfl (fun Kr hKr => ?_) AllReadyH.nil
  go_simp
  try go_wp2_with fail
  refine hKr.out _ _ trivial (fun hHeld => ?_)
  clear hKr Kr
  try simp only [List.getElem_toArray, List.getElem_cons_zero, List.getElem_cons_succ, Act.put, List.setIfInBounds_toArray, List.set_cons_zero, List.set_cons_succ]
  refine wpAnyH_ready (rs := [7]) (by kernel_rfl) (by simp) ?_
  refine AllReadyH.cons rfl (fun Kr hKr => ?_) AllReadyH.nil
  go_simp
  try go_wp2_with fail
  with_reducible refine Calls.mono CC.out ?_
  rintro e w4 ⟨A3, k, c3, rfl, hk, o4, b4⟩
  subst hk
  have O4 := hid (own_mono (base' := w.heap.size) o4 hb0.size)
  have hb4 := hid (hb0.trans (b4.mono hb0.size))
  clear o4 b4
  refine hKr.out _ _ trivial (fun hHeld => ?_)
  clear hKr Kr
  try simp only [List.getElem_toArray, List.getElem_cons_zero, List.getElem_cons_succ, Act.put, List.setIfInBounds_toArray, List.set_cons_zero, List.set_cons_succ]
  refine wpAnyH_take (i := 8) (v := ?v8) rfl (by kernel_rfl) (by kernel_rfl) (by kernel_rfl) (fun _ _ _ h => h) (Or.inl ⟨by rfl, ?y8⟩) (by assumption) ?r8
  case y8 => (intro w hSw; (try dsimp only at hSw); go_simp; try with_reducible rfl)
  try simp only [List.getElem_toArray, List.getElem_cons_zero, List.getElem_cons_succ, Act.put, List.setIfInBounds_toArray, List.set_cons_zero, List.set_cons_succ]
  refine wpAnyH_done (by kernel_rfl) ?_ _
  go_wp2
  go_ret
  exact ⟨_, _, rfl, O4.out, hb4.out⟩

set_option maxHeartbeats 800000 in
theorem wentR_any (A : Option Addr) (n c : Nat) (l : List Int) (f : Int) (w : World) (hs : Sl w w.heap.size A n l) (hc : n ≤ c) (hcm : c ≤ maxLen) :
    Calls Try.prog 34 #[.slice A n c, .int .i64 f] w fun e w' => ∃ A2 m c2, e = .returned (.slice A2 m c2) ∧ w'.ownsRow w.heap.size 3 1 (.slice A2 m c2) m (ints (wentOut l f)) ∧ m ≤ 12 ∧ Below w.heap.size w w' := by
  have HL := hid hs.len
  have CK := hid (ringI_any A n c l w _ hs hc hcm)
  cases hk : ringOk l with
  | false =>
    have HV := hid (show wentOut l f = [] from by unfold wentOut; rw [hk]; rfl)
    rw [hk] at CK
    clear hk
    go_enter Try.func34, Try.ntmps34
    go_wp2_with (go_at_call 16; refine CK.out.mono ?_; rintro e w' ⟨rfl, rfl⟩)
    go_ret
    exact ⟨_, 0, 0, rfl, by rw [HV.out]; exact World.ownsRow_nil _ _ _ _, by omega, Below.refl _ _⟩
  | true =>
    obtain ⟨_, _, h1, h2⟩ := ringOk_iff.1 hk
    rw [HL.out] at h1 h2
    have HK := hid hk
    rw [hk] at CK
    clear hk
    by_cases hf0 : f < 0
    · have HV := hid (show wentOut l f = [] from by unfold wentOut; rw [show within f 0 ((l.length : Int) - 1) = false from by simp [within]; omega]; simp)
      go_enter Try.func34, Try.ntmps34
      go_wp2_with (go_at_call 16; refine CK.out.mono ?_; rintro e w' ⟨rfl, rfl⟩)
      go_ret
      exact ⟨_, 0, 0, rfl, by rw [HV.out]; exact World.ownsRow_nil _ _ _ _, by omega, Below.refl _ _⟩
    · have hf0' : ¬ f < 0 := hf0
      obtain ⟨F, rfl⟩ : ∃ F : Nat, f = F := Int.eq_ofNat_of_zero_le (by omega)
      by_cases hfn : F < n
      · have hfi : ¬ (n : Int) ≤ (F : Int) := by omega
        have HV := hid (show wentOut l F = rotL l F from by unfold wentOut; rw [HK.out, HL.out, show within (F : Int) 0 ((n : Int) - 1) = true from by simp [within]; omega, Int.toNat_natCast]; rfl)
        have CB := hid (begunAt_any A n c l F w hs hc hcm hfn h2)
        go_enter Try.func34, Try.ntmps34
        go_wp2_with (go_at_call 16; refine CK.out.mono ?_; rintro e w' ⟨rfl, rfl⟩)
        with_reducible refine Calls.mono CB.out ?_
        rintro e w1 ⟨A2, c2, rfl, o1, b1⟩
        have HO := hid o1
        clear o1
        go_wp2
        go_ret
        exact ⟨_, n, _, rfl, by rw [HV.out]; exact HO.out, h2, b1⟩
      · have hfi : (n : Int) ≤ (F : Int) := by omega
        have HV := hid (show wentOut l F = [] from by unfold wentOut; rw [HL.out, show within (F : Int) 0 ((n : Int) - 1) = false from by simp [within]; omega]; simp)
        go_enter Try.func34, Try.ntmps34
        go_wp2_with (go_at_call 16; refine CK.out.mono ?_; rintro e w' ⟨rfl, rfl⟩)
        go_ret
        exact ⟨_, 0, 0, rfl, by rw [HV.out]; exact World.ownsRow_nil _ _ _ _, by omega, Below.refl _ _⟩

theorem greaterF_any (x b : Int) (h : Nat) (w : World) (hc : w.cell? ⟨h, 0, none⟩ = some (.int .i64 b)) :
    Calls Try.prog 59 #[.int .i64 x, .pointer (some ⟨h, 0, none⟩)] w fun e w' => e = .returned (.bool (decide (b < x))) ∧ w = w' := by
  go_enter Try.func59, Try.ntmps59
  go_wp2
  go_ret
  exact ⟨rfl, rfl⟩

/-- How many are ahead of one with a greater number than the first one's. -/
def beforeN (l : List Int) : Nat := ((List.range l.length).find? (fun k => decide (nth l 0 < nth l k))).getD l.length
theorem before_at {l : List Int} {k : Nat} (hk : k < l.length) (h : nth l 0 < nth l k) (hb : ∀ j, j < k → nth l j ≤ nth l 0) : beforeN l = k := by
  unfold beforeN
  have : (List.range l.length).find? (fun k => decide (nth l 0 < nth l k)) = some k := by
    rw [List.find?_range_eq_some]
    exact ⟨by simpa using h, List.mem_range.2 hk, fun j hj => by simpa using hb j hj⟩
  rw [this]; rfl
theorem before_all {l : List Int} (hb : ∀ j, j < l.length → nth l j ≤ nth l 0) : beforeN l = l.length := by
  unfold beforeN
  have : (List.range l.length).find? (fun k => decide (nth l 0 < nth l k)) = none := by
    rw [List.find?_eq_none]
    intro j hj
    simpa using hb j (List.mem_range.1 hj)
  rw [this]; rfl

set_option maxHeartbeats 800000 in
theorem indexFunc9_any (A : Option Addr) (n c : Nat) (l : List Int) (h : Nat) (w : World) (B : Nat) (hs : Sl w B A n l) (hcb : w.cell? ⟨h, 0, none⟩ = some (.int .i64 (nth l 0))) :
    Calls Try.prog 58 #[.slice A n c, .func (.func 59) #[] #[.pointer (some ⟨h, 0, none⟩)]] w fun e w' =>
      (∃ i : Int, e = .returned (.int .i64 i) ∧ ((i < 0 ∧ beforeN l = n) ∨ (∃ k : Nat, i = k ∧ k ≤ n ∧ beforeN l = k))) ∧ w = w' := by
  have hm := hs.max
  have HL := hid hs.len
  have HC := hid hs.2.2
  clear hs
  obtain ⟨y, hy⟩ : ∃ y, nth l 0 = y := ⟨_, rfl⟩
  have HY := hid hy
  rw [hy] at hcb
  clear hy
  go_enter Try.func58, Try.ntmps58
  go_wp2
  go_loop [8] (fun i => ∃ k : Nat, i = .int .i64 k ∧ k ≤ n ∧ Hid (∀ j, j < k → nth l j ≤ nth l 0)) (fun i => n - (intOf i).toNat)
  case atStart => exact ⟨0, rfl, Nat.zero_le _, hid (fun j hj => by omega)⟩
  case round =>
    obtain ⟨k, rfl, hk, HA⟩ := hrel
    by_cases hlt : k < n
    · obtain ⟨b, off, rfl, _, hc⟩ := HC.out (by omega)
      have hck := hc k hlt
      have hki : (k : Int) < (n : Int) := by omega
      clear hc
      obtain ⟨x, hx⟩ : ∃ x, nth l k = x := ⟨_, rfl⟩
      have HX := hid hx
      rw [hx] at hck
      clear hx
      by_cases he : y < x
      · have HE := hid (show beforeN l = k from before_at (by rw [HL.out]; exact hlt) (by rw [HY.out, HX.out]; exact he) HA.out)
        go_wp2_with (go_at_call 59; refine (greaterF_any _ y h _ hcb).mono ?_; rintro e w' ⟨rfl, rfl⟩)
        go_ret
        exact ⟨⟨_, rfl, .inr ⟨k, rfl, by omega, HE.out⟩⟩, rfl⟩
      · have HE := hid (show nth l k ≤ nth l 0 from by rw [HY.out, HX.out]; omega)
        have he' : decide (y < x) = false := by simpa using he
        go_wp2_with (go_at_call 59; refine (greaterF_any _ y h _ hcb).mono ?_; rintro e w' ⟨rfl, rfl⟩)
        go_round
        case rel => exact ⟨k + 1, by go_num, by omega, hid (fun j hj => by by_cases h : j = k; (subst h; exact HE.out); (exact HA.out j (by omega)))⟩
        case measure => simp [intOf]; omega
    · obtain rfl : k = n := by omega
      have HE := hid (show beforeN l = k from by
        have h := before_all (l := l) (by rw [HL.out]; exact HA.out)
        rw [h, HL.out])
      go_wp2
      go_ret
      exact ⟨⟨_, rfl, .inl ⟨by omega, HE.out⟩⟩, rfl⟩

set_option maxHeartbeats 800000 in
theorem beforeGreater_any (A : Option Addr) (n c : Nat) (l : List Int) (w : World) (hs : Sl w w.heap.size A n l) (h1 : 1 ≤ n) :
    Calls Try.prog 50 #[.slice A n c] w fun e w' => e = .returned (.int .i64 (beforeN l)) ∧ Below w.heap.size w w' := by
  have hm := hs.max
  have HL := hid hs.len
  obtain ⟨b, off, rfl, hbl, hcc⟩ := hs.2.2 (by omega)
  have hc0 : w.cell? ⟨b, off, none⟩ = some (.int .i64 (nth l 0)) := hcc 0 h1
  clear hcc
  have hn0 : (0 : Int) < (n : Int) := by omega
  obtain ⟨W, hW⟩ : ∃ W, w.alloc (.cells #[.int .i64 (nth l 0)] 3) = W := ⟨_, rfl⟩
  have hb0 : Below w.heap.size w W := by rw [← hW]; exact (Below.refl _ _).alloc (Nat.le_refl _) _
  have CI := hid (indexFunc9_any (some ⟨b, off, none⟩) n c l w.heap.size W _ (hs.on hb0) (by rw [← hW]; exact cell_one_new w (.int .i64 (nth l 0)) 3 0 _ rfl))
  obtain ⟨y, hy⟩ : ∃ y, nth l 0 = y := ⟨_, rfl⟩
  rw [hy] at hc0 hW
  clear hy hs
  have hsn : w.alloc (.cells #[.int .i64 y] 3) = W := hW
  go_enter Try.func50, Try.ntmps50
  go_wp2_with (go_at_call 58; (try rw [hsn]); refine CI.out.mono ?_; rintro e w' ⟨⟨i, rfl, hi⟩, rfl⟩)
  · go_ret
    refine ⟨ret_int ?_, hb0⟩
    rcases hi with ⟨_, h⟩ | ⟨k, rfl, _, h⟩
    · rw [h]
    · omega
  · go_ret
    refine ⟨ret_int ?_, hb0⟩
    rcases hi with ⟨_, h⟩ | ⟨k, rfl, _, h⟩
    · omega
    · rw [h]

theorem before_spec (l : List Int) : (∃ k, k < l.length ∧ beforeN l = k ∧ nth l 0 < nth l k ∧ ∀ j, j < k → nth l j ≤ nth l 0) ∨ (beforeN l = l.length ∧ ∀ j, j < l.length → nth l j ≤ nth l 0) := by
  rcases hf : (List.range l.length).find? (fun k => decide (nth l 0 < nth l k)) with _ | k
  · right
    rw [List.find?_eq_none] at hf
    have h := fun j hj => hf j (List.mem_range.2 hj)
    have h2 : ∀ j, j < l.length → nth l j ≤ nth l 0 := fun j hj => by simpa using h j hj
    exact ⟨before_all h2, h2⟩
  · left
    rw [List.find?_range_eq_some] at hf
    obtain ⟨h1, h2, h3⟩ := hf
    have h4 : nth l 0 < nth l k := by simpa using h1
    have h5 : ∀ j, j < k → nth l j ≤ nth l 0 := fun j hj => by simpa using h3 j hj
    exact ⟨k, List.mem_range.1 h2, before_at (List.mem_range.1 h2) h4 h5, h4, h5⟩
theorem rf_ne {l : List Int} (ha : apart l) {j t : Nat} (hj : j < l.length) (h0 : 0 < t) (ht : t < l.length) : rf l (j + t) ≠ rf l j := by
  intro h
  unfold rf at h
  have := ha _ _ (Nat.mod_lt _ (by omega)) (Nat.mod_lt _ (by omega)) h
  rw [Nat.mod_eq_of_lt hj] at this
  exact mod_ne hj h0 ht this
/-- What is counted in a ring that is begun at a place is how far that place's number goes. -/
theorem before_rot {l : List Int} (ha : apart l) {p : Nat} (hp : p < l.length) : beforeN (rotL l p) = reachN l p := by
  have hlen := rot_len (l := l) (a := p) (by omega)
  have h0 : nth (rotL l p) 0 = rf l p := by rw [nth_rot hp (by omega), Nat.zero_add]
  rcases before_spec (rotL l p) with ⟨k, hk, he, hg, hl⟩ | ⟨he, hl⟩
  · rw [hlen] at hk
    rw [h0, nth_rot hp hk] at hg
    have hk0 : 1 ≤ k := by
      rcases Nat.eq_zero_or_pos k with rfl | h
      · rw [Nat.zero_add] at hg; omega
      · exact h
    rw [he]
    refine (reach_is (by omega) hk0 (by omega) (surv_iff.2 fun t ht => ?_) (.inr ?_)).symm
    · have h := hl (t + 1) (by omega)
      rw [h0, nth_rot hp (by omega), show t + 1 + p = p + (t + 1) by omega] at h
      have := rf_ne ha hp (show 0 < t + 1 by omega) (by omega)
      rw [show p + t + 1 = p + (t + 1) by omega]
      omega
    · rw [Bool.eq_false_iff]
      intro h
      have := surv_iff.1 h (k - 1) (by omega)
      rw [show p + (k - 1) + 1 = k + p by omega] at this
      omega
  · rw [he, hlen]
    rw [hlen] at hl
    refine (reach_is (by omega) (by omega) (Nat.le_refl _) (surv_iff.2 fun t ht => ?_) (.inl rfl)).symm
    have h := hl (t + 1) (by omega)
    rw [h0, nth_rot hp (by omega), show t + 1 + p = p + (t + 1) by omega] at h
    have := rf_ne ha hp (show 0 < t + 1 by omega) (by omega)
    rw [show p + t + 1 = p + (t + 1) by omega]
    omega

/-- A list of which the first ones stand, the others are 0 yet. -/
def fillL (T : List Int) (k : Nat) : List Int := T.take k ++ List.replicate (T.length - k) 0
theorem fill_start (T : List Int) : fillL T 0 = List.replicate T.length 0 := by simp [fillL]
theorem fill_end {T : List Int} {k : Nat} (h : T.length = k) : fillL T k = T := by
  subst h
  simp [fillL, List.take_of_length_le]
theorem fill_len {T : List Int} {k : Nat} (h : k ≤ T.length) : (fillL T k).length = T.length := by
  simp only [fillL, List.length_append, List.length_take, List.length_replicate]; omega
theorem fill_set {T : List Int} {k : Nat} (h : k < T.length) : (fillL T k).set k (nth T k) = fillL T (k + 1) := by
  have hm : T.length - k = (T.length - (k + 1)) + 1 := by omega
  have hlen : (T.take k).length = k := by rw [List.length_take]; omega
  unfold fillL
  rw [hm, List.replicate_succ, List.set_append_right _ _ (by omega), hlen, Nat.sub_self, List.set_cons_zero, take_nth h, List.append_assoc]
  rfl

set_option maxHeartbeats 1600000 in
theorem reachI_any (A : Option Addr) (n c : Nat) (l : List Int) (w : World) (hs : Sl w w.heap.size A n l) (hc : n ≤ c) (hcm : c ≤ maxLen) :
    Calls Try.prog 30 #[.slice A n c] w fun e w' => ∃ A2 m c2, e = .returned (.slice A2 m c2) ∧ w'.ownsRow w.heap.size 3 1 (.slice A2 m c2) m (ints (reachOut l)) ∧ m ≤ 12 ∧ Below w.heap.size w w' := by
  obtain ⟨i0, hi, hz0, hz1, hz2⟩ := info_parts info_int
  have HL := hid hs.len
  have CK := hid (ringI_any A n c l w _ hs hc hcm)
  cases hk : ringOk l with
  | false =>
    have HV := hid (show reachOut l = [] from by unfold reachOut; rw [hk]; rfl)
    rw [hk] at CK
    clear hk
    go_enter Try.func30, Try.ntmps30
    go_wp2_with (go_at_call 16; refine CK.out.mono ?_; rintro e w' ⟨rfl, rfl⟩)
    go_ret
    exact ⟨_, 0, 0, rfl, by rw [HV.out]; exact World.ownsRow_nil _ _ _ _, by omega, Below.refl _ _⟩
  | true =>
    obtain ⟨_, _, h1, h2⟩ := ringOk_iff.1 hk
    rw [HL.out] at h1 h2
    have HA := hid (ring_apart hk)
    have HV := hid (show reachOut l = reachL l from by unfold reachOut; rw [if_pos hk])
    rw [hk] at CK
    have HS := hid hs
    have HCC := hid hc
    have HCM := hid hcm
    have HRL := hid (show (reachL l).length = n from by rw [reachL_len, HL.out])
    clear hk hs hc hcm
    go_enter Try.func30, Try.ntmps30
    go_wp2_with (first
      | (go_at_call 16; refine CK.out.mono ?_; clear CK; rintro e w' ⟨rfl, rfl⟩)
      | (refine wpList_make_full _ rfl (.tmp 9) (.tmp 9) 23 rfl w.heap.size 3 i0 _ 1 Try.underlying23 hi hz0 hz1 .i64 .i64 (n : Int) (n : Int) n rfl rfl (by omega) (by omega) (by rw [hz2]; omega) (by simp only [maxLen]; omega) (Nat.le_refl _) ?_; intro w1 o1 g1; rw [madeInts] at o1))
    have o2 := hid (show w1.ownsRow w.heap.size 3 1 (.slice (some ⟨w.heap.size, 0, none⟩) n n) n (ints (fillL (reachL l) 0)) from by
      rw [fill_start, HRL.out]
      simpa [ints] using o1)
    have HB := hid (below_grown g1)
    clear o1 g1
    go_loopw [13] (fun i wr => ∃ k : Nat, i = .int .i64 k ∧ k ≤ n ∧ Hid (wr.ownsRow w.heap.size 3 1 (.slice (some ⟨w.heap.size, 0, none⟩) n n) n (ints (fillL (reachL l) k))) ∧ Hid (Below w.heap.size w wr)) (fun i _ => n - (intOf i).toNat)
    case atStart => exact ⟨0, rfl, Nat.zero_le _, o2, HB⟩
    case round =>
      clear o2 HB
      obtain ⟨k, rfl, hk, o2, HB⟩ := hrel
      by_cases hlt : k < n
      · have hlti : (k : Int) < (n : Int) := by omega
        have CB := hid (begunAt_any A n c l k wr (HS.out.on HB.out) HCC.out HCM.out hlt h2)
        have HX := hid (show beforeN (rotL l k) = reachN l k from before_rot HA.out (by rw [HL.out]; exact hlt))
        go_wp2_with fail
        with_reducible refine Calls.mono CB.out ?_
        rintro e w3 ⟨A3, c3, rfl, o3, b3⟩
        have o4 := own_on o2.out b3
        have CX := hid (beforeGreater_any A3 n c3 (rotL l k) w3 (Sl.of_own o3) h1)
        rw [HX.out] at CX
        have O4 := hid o4
        have B3 := hid (HB.out.trans (b3.mono HB.out.size))
        clear o3 b3 o2 o4 CB HB
        go_wp2_with fail
        with_reducible refine Calls.mono CX.out ?_
        rintro e w5 ⟨rfl, b5⟩
        have B5 := hid (B3.out.trans (b5.mono B3.out.size))
        have o5 := own_on O4.out b5
        have hx5 := own_cell o5 (show (fillL (reachL l) k).length = n by rw [fill_len (by rw [HRL.out]; omega), HRL.out]) hlt
        have hf5 := o5.frozenAt k
        obtain ⟨p1, p2⟩ := o5.stored k (.int .i64 (reachN l k))
        rw [ints_set, show ((reachN l k : Nat) : Int) = nth (reachL l) k from (nth_reachL (by rw [HL.out]; exact hlt)).symm, fill_set (by rw [HRL.out]; exact hlt), nth_reachL (by rw [HL.out]; exact hlt)] at p1
        have P1 := hid p1
        have B6 := hid (B5.out.grown p2 B5.out.size (by intro j hj; cases hj; exact Nat.le_refl _))
        clear p1 p2 o5 b5 B3 O4 CX
        go_wp2
        go_roundw
        case rel => exact ⟨k + 1, by go_num, by omega, P1, B6⟩
        case measure => simp [intOf]; omega
      · obtain rfl : k = n := by omega
        have HO := hid (show wr.ownsRow w.heap.size 3 1 (.slice (some ⟨w.heap.size, 0, none⟩) k k) k (ints (reachL l)) from by rw [← fill_end HRL.out]; exact o2.out)
        clear o2
        go_wp2
        go_ret
        exact ⟨_, k, _, rfl, by rw [HV.out]; exact HO.out, h2, HB.out⟩
end Go.Proofs.Ytegmkacapldnoaa
