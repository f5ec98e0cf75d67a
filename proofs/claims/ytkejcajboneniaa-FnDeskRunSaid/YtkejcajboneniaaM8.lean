/-
  Texts put together: K12p K12q K12m DkQ K12n K12u. No statement is proved here.
-/
import Derived.Test.YtkejcajboneniaaM7
import Derived.Lib.AppendZerosOnto
import Derived.Deep.RegionHeld3
import Derived.Laws.AppendOwnNone
import Derived.Test.YtkejcajboneniaaM6
import Derived.Test.YtkejcajboneniaaM4
import Derived.Test.YtkejcajboneniaaM5
import Derived.Test.YtkejcajboneniaaM3
import Derived.BigQuiet
import Derived.Deep.QuietTactic
namespace Go.Proofs.Ytkejcajboneniaa
open Go.RowKit
set_option linter.unusedVariables false
set_option linter.unusedSimpArgs false

theorem wpList_append_zerosK {P : Program} (w : World) {ops : Array Oper} {rest : List Oper} {o : Oper} {a : Act} {Q : Exit → Act → World → Prop} (hgd : o.guard = none) (s x : Operand) (t tn : TypeId)
    (ho : o.op = .call { callee := .builtin .append, args := #[s, x], argTypes := #[t, tn] })
    (e : TypeId) (i : TypeInfo) (z : Value) (kn : IntKind) (ht : P.underlying t = some (.slice e)) (htn : P.underlying tn = some (.int kn)) (hi : P.info? e = some i) (hz : i.zero = some z)
    (hs1 : i.size = 1) (hzc : z.cells = #[z]) (k : Nat) (kq : IntKind) (K : Int) (hs : a.eval s = .slice none 0 0) (hx : a.eval x = .int kq K) (hK : K = k) (h0 : 0 < k) (hk : k ≤ 1000000) (hb : i.bytes ≤ 1000)
    (h : ∀ c w', (∃ cur, w'.heap[w.heap.size]? = some (.cells cur e (0, 0)) ∧ cur.size = c) → k ≤ c → c ≤ maxLen → w.grownBy w' none → wpList P ops Q rest (a.put o.dst (.slice (some ⟨w.heap.size, 0, none⟩) k c)) w') : wpList P ops Q (o :: rest) a w := by
  refine wpList_plain hgd fun _ hKK => ?_
  subst hK
  have hold : (Builtin.firstCells i.size 0 (.slice none 0 0)).run P w.drew = .ok #[] w.drew := run_firstCells_none w.drew i.size 0 0 0
  have hmul : k * i.bytes ≤ 1000000 * 1000 := Nat.mul_le_mul hk hb
  have hr := Lib.run_append_grow_zeros (P := P) w t tn o.type e i z kq kn ht htn hi hz none 0 0 [] hold k h0 (by omega) (by omega) (by omega) (by omega) (growslice_fits (by omega) (by rw [Nat.zero_add]; omega))
  rw [Nat.zero_add] at hr
  unfold Oper.wp execOp
  simp only [ho, resolve, invoke, builtin, Sem.run_bind, Sem.run_pure, Result.andThen_ok, List.map_toArray, List.map_cons, List.map_nil, hs, hx, hr]
  refine hKK _ _ (h _ _ ⟨_, heap_alloc_new w.drew _, ?_⟩ (grownCap_ge w k 0 e) (grownCap_le_maxLen w k 0 e (by simp only [maxLen]; omega)) ⟨rfl, rfl, rfl, by simp, fun j hj _ => Below.heap_alloc w.drew _ j hj⟩)
  have := grownCap_ge w k 0 e
  simp only [Array.size_append, List.size_toArray, size_zeroCells, hzc]
  simp
  omega

set_option maxRecDepth 100000 in
set_option maxHeartbeats 800000 in
theorem growK_any (k : Nat) (w : World) (h1 : 1 ≤ k) (hk : k ≤ 16) :
    Calls Try.prog 106 #[.slice none 0 0, .int .i64 k] w fun e w' => ∃ c, e = .returned (.slice (some ⟨w.heap.size, 0, none⟩) 0 c) ∧ k ≤ c ∧ w'.ownsRow w.heap.size 3 1 (.slice (some ⟨w.heap.size, 0, none⟩) 0 c) 0 (ints []) ∧ Below w.heap.size w w' := by
  obtain ⟨i0, hi, hz0, hz1, hz2⟩ := info_parts info_int
  have q1 : ¬ ((k : Int) < 0) := by omega
  have q2 : (0 : Int) < (k : Int) := by omega
  go_enter Try.func106, Try.ntmps106
  go_wp2_with (at_builtin; refine wpList_append_zerosK _ rfl _ _ 23 3 rfl 3 i0 (.int .i64 0) .i64 Try.underlying23 Try.underlying3 hi hz0 hz1 rfl k .i64 _ rfl rfl rfl (by omega) (by omega) (by omega) ?_; intro c w2 hcur hkc hcm g2)
  go_ret
  obtain ⟨cur, hcur, hcs⟩ := hcur
  exact ⟨c, rfl, hkc, ⟨by simp [ints], .inr ⟨w.heap.size, c, cur, rfl, Nat.le_refl _, hcur, by omega, hcm, by omega, by simp [ints]⟩⟩, below_grown g2⟩

set_option maxRecDepth 100000 in
set_option maxHeartbeats 3200000 in
/-- Two slices of ints, one behind the other, in memory of its own. -/
theorem concatK_any (q b1 f1 b2 f2 : Nat) (n1 c1 n2 c2 : Nat) (m zs : List Int) (w : World) (hq : q < w.heap.size) (y0 : w.cell? ⟨q, 0, none⟩ = some (.slice (some ⟨b1, f1, none⟩) n1 c1)) (y1 : w.cell? ⟨q, 1, none⟩ = some (.slice (some ⟨b2, f2, none⟩) n2 c2))
    (hs1 : Sl w w.heap.size (some ⟨b1, f1, none⟩) n1 m) (hs2 : Sl w w.heap.size (some ⟨b2, f2, none⟩) n2 zs) (h1 : 1 ≤ n1) (h16 : n1 + n2 ≤ 16) :
    Calls Try.prog 96 #[.slice (some ⟨q, 0, none⟩) 2 2] w fun e w' => ∃ A3 k c3, e = .returned (.slice A3 k c3) ∧ k = n1 + n2 ∧ w'.ownsRow w.heap.size 3 1 (.slice A3 k c3) k (ints (m ++ zs)) ∧ Below w.heap.size w w' := by
  obtain ⟨i0, hi, hz0, hz1, hz2⟩ := info_parts info_int
  have HL1 := hid hs1.len
  have HL2 := hid hs2.len
  have HS1 := hid hs1
  have HS2 := hid hs2
  clear hs1 hs2
  have GC := hid (growK_any (n1 + n2) w (by omega) (by omega))
  rw [show (((n1 + n2 : Nat) : Int)) = (n1 : Int) + (n2 : Int) from by omega] at GC
  have w1 : IntKind.i64.wrap ((n1 : Int) + (n2 : Int)) = (n1 : Int) + (n2 : Int) := IntWalk.i64_in _ (by omega)
  have p0 : ¬ ((n1 : Int) < 0) := by omega
  have p1 : ¬ ((n1 : Int) + (n2 : Int) < 0) := by omega
  go_enter Try.func96, Try.ntmps96
  go_wp2
  go_loop [3, 11] (fun s i => (s = .int .i64 0 ∧ i = .int .i64 0) ∨ (s = .int .i64 n1 ∧ i = .int .i64 1) ∨ (s = .int .i64 ((n1 : Int) + (n2 : Int)) ∧ i = .int .i64 2)) (fun _ i => 2 - (intOf i).toNat)
  case atStart => exact .inl ⟨rfl, rfl⟩
  case round =>
    rcases hrel with ⟨rfl, rfl⟩ | ⟨rfl, rfl⟩ | ⟨rfl, rfl⟩
    · go_wp2
      go_round
      case rel => exact .inr (.inl ⟨by go_num, rfl⟩)
      case measure => simp [intOf]
    · go_wp2
      go_round
      case rel => exact .inr (.inr ⟨rfl, rfl⟩)
      case measure => simp [intOf]
    · go_wp2_with fail
      with_reducible refine Calls.mono GC.out ?_
      rintro e w2 ⟨c, rfl, hkc, o2, b2⟩
      have O2 := hid o2
      have B2 := hid b2
      have e0 := (b2.cell (p := ⟨q, 0, none⟩) hq).trans y0
      have e1 := (b2.cell (p := ⟨q, 1, none⟩) hq).trans y1
      clear o2 b2
      go_wp2_with fail
      go_loopw [6, 27] (fun v i wr => ∃ (A3 : Option Addr) (k c3 : Nat) (L : List Int), v = .slice A3 k c3 ∧ Hid (wr.ownsRow w.heap.size 3 1 (.slice A3 k c3) k (ints L)) ∧ Hid (Below w.heap.size w wr) ∧ ((i = .int .i64 0 ∧ k = 0 ∧ Hid (L = [])) ∨ (i = .int .i64 1 ∧ n1 = k ∧ Hid (L = m)) ∨ (i = .int .i64 2 ∧ k = n1 + n2 ∧ Hid (L = m ++ zs)))) (fun _ i _ => 2 - (intOf i).toNat)
      case atStart => exact ⟨_, 0, c, [], rfl, O2, B2, .inl ⟨rfl, rfl, hid rfl⟩⟩
      case round =>
        clear O2 B2 e0 e1
        obtain ⟨A3, k, c3, L, rfl, HO, HB, hcase⟩ := hrel
        have hbw := HB.out.size
        have e0 := (HB.out.cell (p := ⟨q, 0, none⟩) hq).trans y0
        have e1 := (HB.out.cell (p := ⟨q, 1, none⟩) hq).trans y1
        rcases hcase with ⟨rfl, rfl, HL⟩ | ⟨rfl, rfl, HL⟩ | ⟨rfl, rfl, HL⟩
        · have ho := HO.out
          rw [HL.out] at ho
          have HBK := hid (own_blk ho)
          have hc1 := hid (HS1.out.below HB.out).cellsAt
          clear HO HL
          go_wp2_with (at_builtin; refine wpList_append_own _ rfl _ _ 23 rfl w.heap.size 3 i0 (.int .i64 0) 1 8 Try.underlying23 hi hz0 hz1 hz2 rfl (by decide) (.slice A3 0 c3) _ _ rfl ho ⟨b1, f1, none⟩ n1 c1 (ints m) rfl (by rw [List.length_map, HL1.out, Nat.mul_one]) hc1.out (ints_one m) (by simp only [maxLen]; omega) (by omega) hbw ?_; intro v2 w3 o3 g3 _; rw [Nat.zero_add, show ints [] ++ ints m = ints m from rfl] at o3; obtain ⟨gA, cA, rfl, hbA, hltA⟩ := own_shape1 o3 (by omega); have O3 := hid o3; have B3 := hid (HB.out.grown g3 hbw (by intro j hj; rcases HBK.out with h | ⟨i, h, hi⟩; rw [h] at hj; cases hj; rw [h] at hj; cases hj; exact hi)); clear o3 g3 ho)
          go_roundw
          case rel => exact ⟨_, n1, cA, m, rfl, O3, B3, .inr (.inl ⟨rfl, rfl, hid rfl⟩)⟩
          case measure => simp [intOf]
        · have ho := HO.out
          rw [HL.out] at ho
          have HBK := hid (own_blk ho)
          have hc2 := hid (HS2.out.below HB.out).cellsAt
          clear HO HL
          go_wp2_with (at_builtin; refine wpList_append_own _ rfl _ _ 23 rfl w.heap.size 3 i0 (.int .i64 0) 1 8 Try.underlying23 hi hz0 hz1 hz2 rfl (by decide) (.slice A3 n1 c3) _ _ rfl ho ⟨b2, f2, none⟩ n2 c2 (ints zs) rfl (by rw [List.length_map, HL2.out, Nat.mul_one]) hc2.out (ints_one zs) (by simp only [maxLen]; omega) (by omega) hbw ?_; intro v2 w3 o3 g3 _; rw [show ints m ++ ints zs = ints (m ++ zs) from by simp [ints]] at o3; obtain ⟨gA, cA, rfl, hbA, hltA⟩ := own_shape1 o3 (by omega); have O3 := hid o3; have B3 := hid (HB.out.grown g3 hbw (by intro j hj; rcases HBK.out with h | ⟨i, h, hi⟩; rw [h] at hj; cases hj; rw [h] at hj; cases hj; exact hi)); clear o3 g3 ho)
          go_roundw
          case rel => exact ⟨_, n1 + n2, cA, m ++ zs, rfl, O3, B3, .inr (.inr ⟨rfl, rfl, hid rfl⟩)⟩
          case measure => simp [intOf]
        · go_wp2
          go_ret
          exact ⟨A3, _, c3, rfl, rfl, by rw [← HL.out]; exact HO.out, HB.out⟩


set_option maxRecDepth 100000 in
set_option maxHeartbeats 3200000 in
theorem begunK_any (A : Option Addr) (n c : Nat) (l : List Int) (F : Nat) (w : World) (hs : Sl w w.heap.size A n l) (hc : n ≤ c) (hcm : c ≤ maxLen) (hFn : F < n) (h2 : n ≤ 16) :
    Calls Try.prog 86 #[.slice A n c, .int .i64 F] w fun e w' => ∃ A2 c2, e = .returned (.slice A2 n c2) ∧ w'.ownsRow w.heap.size 3 1 (.slice A2 n c2) n (ints (roundL l F)) ∧ Below w.heap.size w w' := by
  have HL := hid hs.len
  have hmx := hs.max
  have HS := hid hs
  obtain ⟨bl, off, rfl, hbl, hcc⟩ := hs.2.2 (by omega)
  simp only [maxLen] at hcm
  have e1 : (F : Int) ≤ (n : Int) := by omega
  have e2 : (F : Int) ≤ (c : Int) := by omega
  have e3 : (n : Int) ≤ (c : Int) := by omega
  have e4 : F ≤ c := by omega
  have e5 : F ≤ n := by omega
  have e6 : (0 : Int) ≤ (F : Int) := by omega
  clear hcc hs
  obtain ⟨wd, hwd⟩ : ∃ W, w.drew = W := ⟨_, rfl⟩
  have bd : Below w.heap.size w wd := by rw [← hwd]; exact (Below.refl w.heap.size w).drew
  have hzd := bd.size
  obtain ⟨W2, hW2⟩ : ∃ W2, wd.alloc (.cells #[.slice (some ⟨bl, off + F, none⟩) (n - F) (c - F), .slice (some ⟨bl, off, none⟩) F c] 23) = W2 := ⟨_, rfl⟩
  have hb0 : Below w.heap.size w W2 := by rw [← hW2]; exact bd.alloc hzd _
  have CC := hid (concatK_any wd.heap.size bl (off + F) bl off (n - F) (c - F) F c (l.drop F) (l.take F) W2 (by rw [← hW2]; simp) (by rw [← hW2]; simp) (by rw [← hW2]; simp) (Sl.dropK (HS.out.on hb0) e5) (Sl.takeK (HS.out.on hb0) e5) (by omega) (by omega))
  rw [show n - F + F = n from by omega] at CC
  go_enter Try.func86, Try.ntmps86
  go_wp2_with fail
  refine wp_region_held_drew (S := (fun _ => True)) (by kernel_rfl) (by intros; trivial) (fun hHeld => ?_)
  rw [hwd]
  refine wpAnyH_take (i := 0) (v := ?v0) rfl (by kernel_rfl) (by kernel_rfl) (by kernel_rfl) (fun _ _ _ h => h) (Or.inl ⟨by rfl, ?y0⟩) (by assumption) ?r0
  case y0 => (intro w hSw; (try dsimp only at hSw); go_simp; try with_reducible rfl)
  try simp only [List.getElem_toArray, List.getElem_cons_zero, List.getElem_cons_succ, Act.put, List.setIfInBounds_toArray, List.set_cons_zero, List.set_cons_succ]
  refine wpAnyH_take (i := 1) (v := ?v1) rfl (by kernel_rfl) (by kernel_rfl) (by kernel_rfl) (fun _ _ _ h => h) (Or.inl ⟨by rfl, ?y1⟩) (by assumption) ?r1
  case y1 => (intro w hSw; (try dsimp only at hSw); go_simp; try with_reducible rfl)
  try simp only [List.getElem_toArray, List.getElem_cons_zero, List.getElem_cons_succ, Act.put, List.setIfInBounds_toArray, List.set_cons_zero, List.set_cons_succ]
  refine wpAnyH_take (i := 2) (v := ?v2) rfl (by kernel_rfl) (by kernel_rfl) (by kernel_rfl) (fun _ _ _ h => h) (Or.inl ⟨by rfl, ?y2⟩) (by assumption) ?r2
  case y2 => (intro w hSw; (try dsimp only at hSw); go_simp; try with_reducible rfl)
  try simp only [List.getElem_toArray, List.getElem_cons_zero, List.getElem_cons_succ, Act.put, List.setIfInBounds_toArray, List.set_cons_zero, List.set_cons_succ]
  refine wpAnyH_take (i := 3) (v := ?v3) rfl (by kernel_rfl) (by kernel_rfl) (by kernel_rfl) (fun _ _ _ h => h) (Or.inl ⟨by rfl, ?y3⟩) (by assumption) ?r3
  case y3 => (intro w hSw; (try dsimp only at hSw); go_simp; try with_reducible rfl)
  try simp only [List.getElem_toArray, List.getElem_cons_zero, List.getElem_cons_succ, Act.put, List.setIfInBounds_toArray, List.set_cons_zero, List.set_cons_succ]
  refine wpAnyH_take (i := 4) (v := ?v4) rfl (by kernel_rfl) (by kernel_rfl) (by kernel_rfl) (fun _ _ _ h => h) (Or.inl ⟨by rfl, ?y4⟩) (by assumption) ?r4
  case y4 => (intro w hSw; (try dsimp only at hSw); go_simp; try with_reducible rfl)
  try simp only [List.getElem_toArray, List.getElem_cons_zero, List.getElem_cons_succ, Act.put, List.setIfInBounds_toArray, List.set_cons_zero, List.set_cons_succ]
  refine wpAnyH_take (i := 5) (v := ?v5) rfl (by kernel_rfl) (by kernel_rfl) (by kernel_rfl) (fun _ _ _ h => h) (Or.inl ⟨by rfl, ?y5⟩) (by assumption) ?r5
  case y5 => (intro w hSw; (try dsimp only at hSw); go_simp; try with_reducible rfl)
  try simp only [List.getElem_toArray, List.getElem_cons_zero, List.getElem_cons_succ, Act.put, List.setIfInBounds_toArray, List.set_cons_zero, List.set_cons_succ]
  refine wpAnyH_ready (rs := [6]) (by kernel_rfl) (by simp) ?_
  refine AllReadyH.cons rfl (fun Kr hKr => ?_) AllReadyH.nil
  go_simp
  try go_wp2_with fail
  refine hKr.out _ _ trivial (fun hHeld => ?_)
  clear hKr Kr
  try simp only [List.getElem_toArray, List.getElem_cons_zero, List.getElem_cons_succ, Act.put, List.setIfInBounds_toArray, List.set_cons_zero, List.set_cons_succ]
  refine wpAnyH_ready (rs := [7]) (by kernel_rfl) (by simp) ?_
  refine AllReadyH.cons rfl (fun Kr hKr => ?_) AllReadyH.nil
  go_simp
  try go_wp2_with fail
  with_reducible refine Calls.mono CC.out ?_
  rintro e w4 ⟨A3, k, c3, rfl, hk, o4, b4⟩
  subst hk
  have O4 := hid (own_mono (base' := w.heap.size) o4 hb0.size)
  have hb4 := hid (hb0.trans (b4.mono hb0.size))
  clear o4 b4
  refine hKr.out _ _ trivial (fun hHeld => ?_)
  clear hKr Kr
  try simp only [List.getElem_toArray, List.getElem_cons_zero, List.getElem_cons_succ, Act.put, List.setIfInBounds_toArray, List.set_cons_zero, List.set_cons_succ]
  refine wpAnyH_take (i := 8) (v := ?v8) rfl (by kernel_rfl) (by kernel_rfl) (by kernel_rfl) (fun _ _ _ h => h) (Or.inl ⟨by rfl, ?y8⟩) (by assumption) ?r8
  case y8 => (intro w hSw; (try dsimp only at hSw); go_simp; try with_reducible rfl)
  try simp only [List.getElem_toArray, List.getElem_cons_zero, List.getElem_cons_succ, Act.put, List.setIfInBounds_toArray, List.set_cons_zero, List.set_cons_succ]
  refine wpAnyH_done (by kernel_rfl) ?_ _
  go_wp2
  go_ret
  exact ⟨_, _, rfl, O4.out, hb4.out⟩


theorem wpList_append_own_noneK {P : Program} {w : World} {ops : Array Oper} {rest : List Oper} {o : Oper} {a : Act} {Q : Exit → Act → World → Prop} (hgd : o.guard = none) (s x : Operand) (t : TypeId)
    (ho : o.op = .call { callee := .builtin .append, args := #[s, x], argTypes := #[t, t] })
    (base : Nat) (e : TypeId) (i : TypeInfo) (size : Nat) (ht : P.underlying t = some (.slice e)) (hi : P.info? e = some i)
    (v : Value) (n : Nat) (xs : List Value) (hs : a.eval s = v) (hown : w.ownsRow base e size v n xs) (c : Nat) (hx : a.eval x = .slice none 0 c)
    (h : wpList P ops Q rest (a.put o.dst v) w) : wpList P ops Q (o :: rest) a w := by
  refine wpList_plain hgd fun K hK => ?_
  have hrun : (Builtin.append_ #[t, t] o.type #[v, .slice none 0 c]).run P w = .ok v w := by
    rcases hown.2 with ⟨rfl, rfl⟩ | ⟨g, cap, cur, rfl, _, _, hnc, _⟩
    · simp [Builtin.append_, run_underlying ht, sizeOf, typeInfo, hi, Builtin.lenOf, Builtin.firstCells]
    · simp [Builtin.append_, run_underlying ht, sizeOf, typeInfo, hi, Builtin.lenOf, Builtin.firstCells, hnc, storeCells]
  unfold Oper.wp
  simp [execOp, ho, resolve, invoke, builtin, hs, hx, hrun, Result.andThen]
  exact hK _ _ h
/-- append of what reads as vs, nil or not, onto a row of one's own. -/
theorem wpList_append_out {P : Program} {w : World} {ops : Array Oper} {rest : List Oper} {o : Oper} {a : Act} {Q : Exit → Act → World → Prop} (hgd : o.guard = none) (s x : Operand) (t : TypeId)
    (ho : o.op = .call { callee := .builtin .append, args := #[s, x], argTypes := #[t, t] })
    (base : Nat) (e : TypeId) (i : TypeInfo) (z : Value) (bytes : Nat) (ht : P.underlying t = some (.slice e)) (hi : P.info? e = some i) (hz : i.zero = some z)
    (hsize : i.size = 1) (hby : i.bytes = bytes) (hzs : z.cells.size = 1)
    (v : Value) (n : Nat) (xs : List Value) (hs : a.eval s = v) (hown : w.ownsRow base e 1 v n xs)
    (A : Option Addr) (m c B : Nat) (vs : List Value) (hx : a.eval x = .slice A m c) (hO : Out w B A m vs) (h1 : ∀ u ∈ vs, u.oneCell' = true)
    (h63 : n + m ≤ maxLen) (hbytes : (n + m) * bytes ≤ 140737488355328) (hbase : base ≤ w.heap.size)
    (h : ∀ v' w', w'.ownsRow base e 1 v' (n + m) (xs ++ vs) → w.grownBy w' v.ownBlock → wpList P ops Q rest (a.put o.dst v') w') : wpList P ops Q (o :: rest) a w := by
  by_cases hm : 0 < m
  · obtain ⟨b, off, rfl, hb, hc⟩ := hO.2.2 hm
    exact wpList_append_own _ hgd s x t ho base e i z 1 bytes ht hi hz hsize hby hzs (by omega) v n xs hs hown ⟨b, off, none⟩ m c vs hx (by rw [hO.1, Nat.mul_one]) (fun j u hj => by rw [Addr.add_lit]; exact hc j u hj) h1 h63 hbytes hbase fun v' w' h2 h3 _ => h v' w' h2 h3
  · obtain rfl : m = 0 := by omega
    have hvs : vs = [] := List.eq_nil_of_length_eq_zero hO.1
    subst hvs
    rcases A with _ | ad
    · exact wpList_append_own_noneK hgd s x t ho base e i 1 ht hi v n xs hs hown c hx (h v w (by simpa using hown) ⟨rfl, rfl, rfl, Nat.le_refl _, fun _ _ _ => rfl⟩)
    · exact wpList_append_own _ hgd s x t ho base e i z 1 bytes ht hi hz hsize hby hzs (by omega) v n xs hs hown ad 0 c [] hx rfl (by simp) (by simp) h63 hbytes hbase fun v' w' h2 h3 _ => h v' w' h2 h3

set_option maxRecDepth 100000 in
set_option maxHeartbeats 800000 in
theorem growR_any (k : Nat) (w : World) (h1 : 1 ≤ k) (hk : k ≤ 16) :
    Calls Try.prog 99 #[.slice none 0 0, .int .i64 k] w fun e w' => ∃ c, e = .returned (.slice (some ⟨w.heap.size, 0, none⟩) 0 c) ∧ k ≤ c ∧ w'.ownsRow w.heap.size 23 1 (.slice (some ⟨w.heap.size, 0, none⟩) 0 c) 0 [] ∧ Below w.heap.size w w' := by
  obtain ⟨i0, hi, hz0, hz1, hz2⟩ := info_rows
  have q1 : ¬ ((k : Int) < 0) := by omega
  have q2 : (0 : Int) < (k : Int) := by omega
  go_enter Try.func99, Try.ntmps99
  go_wp2_with (at_builtin; refine wpList_append_zerosK _ rfl _ _ 24 3 rfl 23 i0 (.slice none 0 0) .i64 Try.underlying24 Try.underlying3 hi hz0 hz1 rfl k .i64 _ rfl rfl rfl (by omega) (by omega) (by omega) ?_; intro c w2 hcur hkc hcm g2)
  go_ret
  obtain ⟨cur, hcur, hcs⟩ := hcur
  exact ⟨c, rfl, hkc, ⟨by simp, .inr ⟨w.heap.size, c, cur, rfl, Nat.le_refl _, hcur, by omega, hcm, by omega, by simp⟩⟩, below_grown g2⟩

set_option maxRecDepth 100000 in
set_option maxHeartbeats 3200000 in
/-- Slices of slices of ints, the second of one alone, one behind the other, in memory of its own. -/
theorem concatR_any (q : Nat) (A1 : Option Addr) (m c1 b2 : Nat) (vs : List Value) (x : Value) (w : World) (hq : q < w.heap.size) (y0 : w.cell? ⟨q, 0, none⟩ = some (.slice A1 m c1)) (y1 : w.cell? ⟨q, 1, none⟩ = some (.slice (some ⟨b2, 0, none⟩) 1 1))
    (hO : Out w w.heap.size A1 m vs) (hb2 : b2 < w.heap.size) (y2 : w.cell? ⟨b2, 0, none⟩ = some x) (hx : x.oneCell' = true) (hv : ∀ u ∈ vs, u.oneCell' = true) (h8 : m ≤ 8) :
    Calls Try.prog 88 #[.slice (some ⟨q, 0, none⟩) 2 2] w fun e w' => ∃ g c3, e = .returned (.slice (some ⟨g, 0, none⟩) (m + 1) c3) ∧ w'.ownsRow w.heap.size 23 1 (.slice (some ⟨g, 0, none⟩) (m + 1) c3) (m + 1) (vs ++ [x]) ∧ Below w.heap.size w w' := by
  obtain ⟨i0, hi, hz0, hz1, hz2⟩ := info_rows
  have HO := hid hO
  have HV := hid hv
  have HX := hid hx
  have GC := hid (growR_any (m + 1) w (by omega) (by omega))
  rw [show (((m + 1 : Nat) : Int)) = (m : Int) + 1 from by omega] at GC
  have w1 : IntKind.i64.wrap ((m : Int) + 1) = (m : Int) + 1 := IntWalk.i64_in _ (by omega)
  have p0 : ¬ ((m : Int) < 0) := by omega
  have p1 : ¬ ((m : Int) + 1 < 0) := by omega
  clear hO hv hx
  go_enter Try.func88, Try.ntmps88
  go_wp2
  go_loop [3, 11] (fun s i => (s = .int .i64 0 ∧ i = .int .i64 0) ∨ (s = .int .i64 m ∧ i = .int .i64 1) ∨ (s = .int .i64 ((m : Int) + 1) ∧ i = .int .i64 2)) (fun _ i => 2 - (intOf i).toNat)
  case atStart => exact .inl ⟨rfl, rfl⟩
  case round =>
    rcases hrel with ⟨rfl, rfl⟩ | ⟨rfl, rfl⟩ | ⟨rfl, rfl⟩
    · go_wp2
      go_round
      case rel => exact .inr (.inl ⟨by go_num, rfl⟩)
      case measure => simp [intOf]
    · go_wp2
      go_round
      case rel => exact .inr (.inr ⟨rfl, rfl⟩)
      case measure => simp [intOf]
    · go_wp2_with fail
      with_reducible refine Calls.mono GC.out ?_
      rintro e w2 ⟨c, rfl, hkc, o2, b2'⟩
      have O2 := hid o2
      have B2 := hid b2'
      have e0 := (b2'.cell (p := ⟨q, 0, none⟩) hq).trans y0
      have e1 := (b2'.cell (p := ⟨q, 1, none⟩) hq).trans y1
      clear o2 b2'
      go_wp2_with fail
      go_loopw [6, 27] (fun v i wr => ∃ (A3 : Option Addr) (k c3 : Nat) (L : List Value), v = .slice A3 k c3 ∧ Hid (wr.ownsRow w.heap.size 23 1 (.slice A3 k c3) k L) ∧ Hid (Below w.heap.size w wr) ∧ ((i = .int .i64 0 ∧ k = 0 ∧ Hid (L = [])) ∨ (i = .int .i64 1 ∧ m = k ∧ Hid (L = vs)) ∨ (i = .int .i64 2 ∧ k = m + 1 ∧ Hid (L = vs ++ [x])))) (fun _ i _ => 2 - (intOf i).toNat)
      case atStart => exact ⟨_, 0, c, [], rfl, O2, B2, .inl ⟨rfl, rfl, hid rfl⟩⟩
      case round =>
        clear O2 B2 e0 e1
        obtain ⟨A3, k, c3, L, rfl, HO3, HB, hcase⟩ := hrel
        have hbw := HB.out.size
        have e0 := (HB.out.cell (p := ⟨q, 0, none⟩) hq).trans y0
        have e1 := (HB.out.cell (p := ⟨q, 1, none⟩) hq).trans y1
        have e2 := (HB.out.cell (p := ⟨b2, 0, none⟩) hb2).trans y2
        rcases hcase with ⟨rfl, rfl, HL⟩ | ⟨rfl, rfl, HL⟩ | ⟨rfl, rfl, HL⟩
        · have ho := HO3.out
          rw [HL.out] at ho
          have HBK := hid (own_blk ho)
          have hc1 := hid (HO.out.keep (w' := wr) (Nat.le_refl _) fun p hp => HB.out.cell hp)
          clear HO3 HL
          go_wp2_with (at_builtin; refine wpList_append_out rfl _ _ 24 rfl w.heap.size 23 i0 (.slice none 0 0) 24 Try.underlying24 hi hz0 hz1 hz2 rfl (.slice A3 0 c3) _ _ rfl ho A1 m c1 w.heap.size vs rfl hc1.out HV.out (by simp only [maxLen]; omega) (by omega) hbw ?_; intro v2 w3 o3 g3; rw [Nat.zero_add, List.nil_append] at o3; have HSh := hid (show ∃ A9 c9, v2 = .slice A9 m c9 from by (rcases o3.2 with ⟨h, h0⟩ | ⟨g, cap, cur, h, _⟩); exact ⟨_, _, by rw [h, h0]⟩; exact ⟨_, _, h⟩); refine Hid.out ?_)
          refine hid ?_
          obtain ⟨A9, c9, rfl⟩ := HSh.out
          have O3 := hid o3
          have B3 := hid (HB.out.grown g3 hbw (by intro j hj; rcases HBK.out with h | ⟨i, h, hi⟩; rw [h] at hj; cases hj; rw [h] at hj; cases hj; exact hi))
          clear o3 g3 ho
          go_wp2
          go_roundw
          case rel => exact ⟨_, m, c9, vs, rfl, O3, B3, .inr (.inl ⟨rfl, rfl, hid rfl⟩)⟩
          case measure => simp [intOf]
        · have ho := HO3.out
          rw [HL.out] at ho
          have HBK := hid (own_blk ho)
          clear HO3 HL
          go_wp2_with (at_builtin; refine wpList_append_own _ rfl _ _ 24 rfl w.heap.size 23 i0 (.slice none 0 0) 1 24 Try.underlying24 hi hz0 hz1 hz2 rfl (by decide) (.slice A3 m c3) _ _ rfl ho ⟨b2, 0, none⟩ 1 1 [x] rfl rfl (by intro j u hj; rcases j with _ | j; simp at hj; subst hj; exact e2; simp at hj) (by intro u hu; simp at hu; subst hu; exact HX.out) (by simp only [maxLen]; omega) (by omega) hbw ?_; intro v2 w3 o3 g3 _; obtain ⟨gA, cA, rfl, hbA, hltA⟩ := own_shape1 o3 (by omega); have O3 := hid o3; have B3 := hid (HB.out.grown g3 hbw (by intro j hj; rcases HBK.out with h | ⟨i, h, hi⟩; rw [h] at hj; cases hj; rw [h] at hj; cases hj; exact hi)); clear o3 g3 ho)
          go_roundw
          case rel => exact ⟨_, m + 1, cA, vs ++ [x], rfl, O3, B3, .inr (.inr ⟨rfl, rfl, hid rfl⟩)⟩
          case measure => simp [intOf]
        · have ho := HO3.out
          rw [HL.out] at ho
          obtain ⟨gA, cA, hv, hbA, hltA⟩ := own_shape1 ho (by omega)
          injection hv with h1 h2 h3
          subst h1
          have O3 := hid ho
          clear ho
          go_wp2
          go_ret
          exact ⟨gA, cA, rfl, by rw [← h3]; exact O3.out, HB.out⟩
end Go.Proofs.Ytkejcajboneniaa

namespace Go.Proofs.Ytkejcajboneniaa
open Go.RowKit
set_option linter.unusedVariables false
set_option linter.unusedSimpArgs false

theorem apart_snoc {u : Value} {vs : List Value} (h : Apart vs) (hu : ∀ v ∈ vs, v.ownBlock = none ∨ v.ownBlock ≠ u.ownBlock) : Apart (vs ++ [u]) := by
  intro i j x y hx hy hne
  have hi := (List.getElem?_eq_some_iff.1 hx).1
  have hj := (List.getElem?_eq_some_iff.1 hy).1
  simp at hi hj
  by_cases h1 : i < vs.length
  · rw [List.getElem?_append_left h1] at hx
    by_cases h2 : j < vs.length
    · rw [List.getElem?_append_left h2] at hy
      exact h i j x y hx hy hne
    · obtain rfl : j = vs.length := by omega
      simp at hy
      subst hy
      exact hu x (List.mem_of_getElem? hx)
  · obtain rfl : i = vs.length := by omega
    have h2 : j < vs.length := by omega
    rw [List.getElem?_append_left h2] at hy
    simp at hx
    subst hx
    rcases hu y (List.mem_of_getElem? hy) with h3 | h3
    · rcases hq : u.ownBlock with _ | q
      · exact .inl rfl
      · exact .inr (by rw [h3]; simp)
    · exact .inr fun e => h3 e.symm

/-- A desk reads, whatever its capacities. -/
structure DkS (w : World) (A : Option Addr) (n : Nat) (A2 : Option Addr) (m : Nat) (D : Dk) : Prop where
  now : Sl w w.heap.size A n D.now
  past : SlS w w.heap.size A2 m D.past
theorem DkS.on {w w' : World} {A A2 : Option Addr} {n m : Nat} {D : Dk} (h : DkS w A n A2 m D) (hb : Below w.heap.size w w') : DkS w' A n A2 m D := ⟨h.now.on hb, h.past.on hb⟩
theorem DkR.s {w : World} {A A2 : Option Addr} {n c m c2 : Nat} {D : Dk} (h : DkR w w.heap.size A n c A2 m c2 D) : DkS w A n A2 m D := ⟨h.now, h.past⟩

set_option maxRecDepth 100000 in
set_option maxHeartbeats 3200000 in
/-- A desk (DeskOk) in memory of its own. -/
theorem copied_any (A : Option Addr) (n c : Nat) (A2 : Option Addr) (m c2 : Nat) (D : Dk) (w : World) (h : DkS w A n A2 m D) (hok : deskOk D = true) :
    Calls Try.prog 51 #[dsk A n c A2 m c2] w fun e w' => ∃ A3 n3 c3 A4 m4 c4, e = .returned (dsk A3 n3 c3 A4 m4 c4) ∧ DkY w' w.heap.size A3 n3 c3 A4 m4 c4 D ∧ Below w.heap.size w w' := by
  obtain ⟨j0, hj, hjz0, hjz1, hjz2⟩ := info_rows
  obtain ⟨hp, hnow, hlen⟩ := deskOk_iff.1 hok
  obtain ⟨_, hn1, hn2⟩ := bitsOk_iff.1 hnow
  rw [h.now.len] at hn1 hn2
  rw [h.past.len] at hlen
  have HP := hid hp
  have HLM := hid h.past.len
  clear hp hnow hok
  have z1 : (w.alloc (.cells #[.slice A n c, .slice A2 m c2] 26)).heap.size = w.heap.size + 1 := by simp
  have g1 := grown_alloc (w.alloc (.cells #[.slice A n c, .slice A2 m c2] 26)) (.cells #[.slice none 0 0, .slice none 0 0] 26) none
  have X0 := (Db.new w (.slice A n c) (.slice A2 m c2)).on (row := none) g1 (by simp)
  have XR := Db.new (w.alloc (.cells #[.slice A n c, .slice A2 m c2] 26)) (.slice none 0 0) (.slice none 0 0)
  rw [z1] at XR
  have B0 := ((Below.refl w.heap.size w).alloc (Nat.le_refl _) (.cells #[.slice A n c, .slice A2 m c2] 26)).alloc (by simp) (.cells #[.slice none 0 0, .slice none 0 0] 26)
  obtain ⟨w0, e0⟩ : ∃ W, (w.alloc (.cells #[.slice A n c, .slice A2 m c2] 26)).alloc (.cells #[.slice none 0 0, .slice none 0 0] 26) = W := ⟨_, rfl⟩
  have hz0 : w0.heap.size = w.heap.size + 2 := by rw [← e0]; simp
  go_enter Try.func51, Try.ntmps51
  rw [e0] at X0 XR B0
  have c0 := X0.c0
  have c1 := X0.c1
  have mx2 := h.past.max
  have HH := hid (h.on B0)
  have HX0 := hid X0
  have HXR := hid XR
  have HB0 := hid B0
  have o0 := World.ownsRow_nil w0 w0.heap.size 23 1
  clear g1 X0 XR B0 z1 h
  go_wp2
  go_loopw [3, 9] (fun s i wr => ∃ (k : Nat) (A4 : Option Addr) (c4 : Nat) (vs : List Value), s = .slice A4 k c4 ∧ i = .int .i64 k ∧ k ≤ m ∧ Hid (wr.ownsRow w0.heap.size 23 1 (.slice A4 k c4) k vs) ∧ Hid (Rows wr w0.heap.size vs (D.past.take k)) ∧ Hid (Apart vs) ∧ Hid (Below w0.heap.size w0 wr)) (fun _ i _ => m - (intOf i).toNat)
  case atStart => exact ⟨0, none, 0, [], rfl, rfl, Nat.zero_le _, hid o0, hid (Rows.nil _ _), hid (fun i j u v hu => by simp at hu), hid (Below.refl _ _)⟩
  case round =>
    clear o0
    obtain ⟨k, A4, c4, vs, rfl, rfl, hk, HO, HR, HA, BB⟩ := hrel
    have hbw := BB.out.size
    by_cases hlt : k < m
    · obtain ⟨b5, off5, A5, n5, c5, e5, hb5, hc5, s5⟩ := (HH.out.on BB.out).past.at hlt
      have hbits := bitsOk_iff.1 (HP.out (D.past.getD k []) (by rw [List.getD_eq_getElem?_getD, List.getElem?_eq_getElem (by rw [HLM.out]; exact hlt)]; exact List.getElem_mem _))
      have hl5 := s5.len
      rw [hl5] at hbits
      obtain ⟨-, h51, h52⟩ := hbits
      have hki : (k : Int) < (m : Int) := by omega
      have p7 : (0 : Int) ≤ (k : Int) := by omega
      obtain ⟨lk, hlke⟩ : ∃ lk, D.past.getD k [] = lk := ⟨_, rfl⟩
      have HLK := hid (show D.past.take (k + 1) = D.past.take k ++ [lk] from by
        rw [List.take_succ_eq_append_getElem (by rw [HLM.out]; exact hlt), ← hlke]
        simp [List.getD, List.getElem?_eq_getElem (show k < D.past.length by rw [HLM.out]; exact hlt)])
      rw [hlke] at s5 hl5
      have CC := hid (clone_any A5 n5 c5 lk wr s5 h51 h52)
      subst e5
      clear hlke s5 hl5
      go_wp2_with fail
      with_reducible refine Calls.mono CC.out ?_
      rintro e w5 ⟨g5, c6, rfl, o5, b5'⟩
      have O5 := own_on HO.out b5'
      have R5 := HR.out.on b5'
      have hg5 := o5.lt g5 rfl
      have B5 := BB.out.trans (b5'.mono hbw)
      have hw5 := b5'.size
      have ga := grown_alloc w5 (.cells #[.slice (some ⟨g5, 0, none⟩) n5 c6] 23) none
      have O6 := own_kept_none O5 ga
      have R6 := (R5.onto ga).snoc ⟨_, _, _, rfl, own_mono (base' := w0.heap.size) (own_kept_none o5 ga) hbw⟩
      rw [← HLK.out] at R6
      have HR6 := hid R6
      have HB6 := hid (B5.alloc (by omega) (.cells #[.slice (some ⟨g5, 0, none⟩) n5 c6] 23))
      have HA6 := hid (apart_snoc (u := .slice (some ⟨g5, 0, none⟩) n5 c6) HA.out (fun v hv => by
        rcases hob : v.ownBlock with _ | q
        · exact .inl rfl
        · right
          have hq := rows_hi HR.out v hv q hob
          simp [Value.ownBlock]
          omega))
      have HBK := hid (own_blk O6)
      clear O5 R5 R6 o5 b5' ga B5
      have hz6 := HB6.out.size
      go_wp2_with (at_builtin; refine wpList_append_own _ rfl _ _ 24 rfl w0.heap.size 23 j0 (.slice none 0 0) 1 24 Try.underlying24 hj hjz0 hjz1 hjz2 rfl (by decide) (.slice A4 k c4) _ _ rfl O6 ⟨w5.heap.size, 0, none⟩ 1 1 [.slice (some ⟨g5, 0, none⟩) n5 c6] rfl rfl (cell_one_new w5 _ _) (by simp [Value.oneCell']) (by simp only [maxLen]; omega) (by omega) hz6 ?_; intro v6 w7 o7 g7 _; obtain ⟨gA, cA, rfl, hbA, hltA⟩ := own_shape1 o7 (by omega); have QO := hid o7; have QR := hid (HR6.out.beside O6 g7); have QB := hid (HB6.out.grown g7 hz6 (by intro j hj; rcases HBK.out with h | ⟨i, h, hi⟩; rw [h] at hj; cases hj; rw [h] at hj; cases hj; exact hi)); clear o7 g7 O6)
      go_roundw
      case rel => exact ⟨k + 1, _, cA, vs ++ [.slice (some ⟨g5, 0, none⟩) n5 c6], rfl, by go_num, by omega, QO, QR, HA6, QB⟩
      case measure => simp [intOf]; omega
    · obtain rfl : k = m := by omega
      have hRm := HR.out
      rw [List.take_of_length_le (by rw [HLM.out]; exact Nat.le_refl _)] at hRm
      have HR2 := hid hRm
      have X1 := HX0.out.below BB.out (by omega)
      have YR := HXR.out.below BB.out (by omega)
      have x0 := X1.c0
      have CC := hid (clone_any A n c D.now wr (HH.out.on BB.out).now hn1 hn2)
      have HYR := hid YR
      clear hRm X1 YR HR
      go_wp2_with fail
      with_reducible refine Calls.mono CC.out ?_
      rintro e w5 ⟨g5, c6, rfl, o5, b5⟩
      have Y5 := HYR.out.below b5 (by omega)
      have y0 := Y5.c0
      have y1 := Y5.c1
      have f0 := Y5.fz 0
      have f1 := Y5.fz 1
      have O5 := own_on HO.out b5
      have R5 := HR2.out.on b5
      have o6 := own_mono (base' := w0.heap.size) o5 hbw
      have hg5 := o5.lt g5 rfl
      have HA6 := apart_cons (u := .slice (some ⟨g5, 0, none⟩) n c6) HA.out (fun v hv => by
        right
        intro e
        have h1 : v.ownBlock = some g5 := by rw [← e]; rfl
        have hq := rows_hi HR2.out v hv g5 h1
        omega)
      have HY := hid (show DkY w5 w.heap.size (some ⟨g5, 0, none⟩) n c6 A4 k c4 D from by
        refine ⟨own_mono o6 (by omega), own_capK O5, ?_⟩
        by_cases hk0 : 0 < k
        · obtain ⟨gA, cA, hv, hbA, hltA⟩ := own_shape1 O5 hk0
          injection hv with h1 h2 h3
          subst h1; subst h3
          refine .inr ⟨gA, 0, k, c4, vs, rfl, own_mono O5 (by omega), by omega, ?_, ?_⟩
          · rw [List.drop_zero, List.take_of_length_le (by have := O5.1; omega)]
            exact R5.mono (by omega)
          · rw [List.drop_zero, List.take_of_length_le (by have := O5.1; omega)]
            exact HA6
        · have hp0 : D.past = [] := List.eq_nil_of_length_eq_zero (by rw [HLM.out]; omega)
          have hv0 : vs = [] := List.eq_nil_of_length_eq_zero (by have := O5.1; omega)
          rcases A4 with _ | a4
          · exact .inl ⟨rfl, by omega, hp0⟩
          · rcases O5.2 with ⟨hh, _⟩ | ⟨g, cap, cur, hh, hr⟩
            · injection hh with h1; cases h1
            · injection hh with h1 h2 h3
              cases h1; subst h3
              refine .inr ⟨g, 0, k, c4, vs, rfl, own_mono O5 (by omega), by omega, ?_, ?_⟩
              · rw [hv0, hp0]; simp; exact Rows.nil _ _
              · rw [hv0] at HA6 ⊢; simpa using HA6)
      have HB5 := hid (HB0.out.trans ((BB.out.trans (b5.mono hbw)).mono (by omega)))
      have HY5 := hid Y5
      clear Y5 O5 R5 o5 o6 b5 HA6
      go_wp2
      (try simp only [Exit.inBlock, Exit.then])
      refine bodyPost_ret (results_cell_row rfl _ _ (w.heap.size + 1) 26 _ (0, 0) _ (by simp [Act.put]) (HY5.out.set _ _) Try.underlying26 rfl size_desk) rfl ?_
      refine ⟨_, _, _, _, _, _, rfl, HY.out.box2 HY5.out _ _, ?_⟩
      exact (HB5.out.setCell (p := ⟨w.heap.size + 1, 0, none⟩) (by simp) _).setCell (p := ⟨w.heap.size + 1, 1, none⟩) (by simp) _
end Go.Proofs.Ytkejcajboneniaa

namespace Go.Proofs.Ytkejcajboneniaa
open Go.RowKit
set_option linter.unusedVariables false
set_option linter.unusedSimpArgs false

theorem ne_empty {l : List Int} (h : 1 ≤ l.length) : (!l.isEmpty) = true := by
  cases l with
  | nil => simp at h
  | cons a l => rfl
theorem ok_len {l : List Int} (h : bitsOk l = true) : 1 ≤ l.length := (bitsOk_iff.1 h).2.1
theorem made_sums {l : List Int} (h : bitsOk l = true) : madeL l 0 0 = sumOut l ∧ (!(madeL l 0 0).isEmpty) = true := by
  have e : madeL l 0 0 = sumOut l := by unfold madeL; simp
  refine ⟨e, ?_⟩
  rw [e]; unfold sumOut; rw [if_pos h]
  exact ne_empty (ok_len (sumL_ok h))
theorem made_cars {l : List Int} (h : bitsOk l = true) : madeL l 1 0 = drivenOut l ∧ (!(madeL l 1 0).isEmpty) = true := by
  have e : madeL l 1 0 = drivenOut l := by unfold madeL; simp
  refine ⟨e, ?_⟩
  rw [e]; unfold drivenOut; rw [if_pos h]
  exact ne_empty (ok_len (driveL_ok h))
theorem made_votes {l : List Int} (h : bitsOk l = true) : madeL l 2 0 = votedOut l ∧ (!(madeL l 2 0).isEmpty) = true := by
  obtain ⟨hb, h1, h2⟩ := bitsOk_iff.1 h
  have e : madeL l 2 0 = votedOut l := by unfold madeL; simp
  refine ⟨e, ?_⟩
  have hv : votesOk l = true := votesOk_iff.2 ⟨⟨h1, by omega⟩, hb⟩
  rw [e]; unfold votedOut; rw [if_pos hv]
  exact ne_empty (by rw [voteL_len]; exact h1)
theorem made_free {l : List Int} (h : bitsOk l = true) : madeL l 5 0 = freeOut l ∧ (!(madeL l 5 0).isEmpty) = true := by
  have e : madeL l 5 0 = freeOut l := by unfold madeL; simp
  refine ⟨e, ?_⟩
  rw [e]; unfold freeOut; rw [if_pos h]
  exact ne_empty (ok_len (freeL_ok h))
theorem made_flip {l : List Int} {F : Nat} (hF : F < l.length) : madeL l 3 F = flipL l F ∧ (!(madeL l 3 F).isEmpty) = true := by
  have hw : within (F : Int) 0 ((l.length : Int) - 1) = true := within_iff.2 (by omega)
  have e : madeL l 3 F = flipL l F := by unfold madeL; rw [hw]; simp
  refine ⟨e, ?_⟩
  rw [e]
  exact ne_empty (by simp [flipL]; omega)
theorem made_round {l : List Int} {F : Nat} (hF : F < l.length) : madeL l 4 F = roundL l F ∧ (!(madeL l 4 F).isEmpty) = true := by
  have hw : within (F : Int) 0 ((l.length : Int) - 1) = true := within_iff.2 (by omega)
  have e : madeL l 4 F = roundL l F := by unfold madeL; rw [hw]; simp
  refine ⟨e, ?_⟩
  rw [e]
  exact ne_empty (by simp [roundL]; omega)
theorem made_out {l : List Int} {k N : Int} (hk : k = 3 ∨ k = 4) (hN : N < 0 ∨ (l.length : Int) ≤ N) : madeL l k N = [] := by
  have hw : within N 0 ((l.length : Int) - 1) = false := by
    rw [Bool.eq_false_iff]
    intro h
    have := within_iff.1 h
    omega
  unfold madeL
  rw [hw]
  rcases hk with rfl | rfl <;> simp
theorem made_other {l : List Int} {k N : Int} (h0 : k ≠ 0) (h1 : k ≠ 1) (h2 : k ≠ 2) (h3 : k ≠ 3) (h4 : k ≠ 4) (h5 : k ≠ 5) : madeL l k N = [] := by
  unfold madeL
  simp [h0, h1, h2, h3, h4, h5]
theorem made_zero {l : List Int} {k N : Int} (hk : placed k = false) (hN : N ≠ 0) : madeL l k N = [] := by
  have h34 : ¬ (k = 3 ∨ k = 4) := by simpa [placed] using hk
  have h3 : k ≠ 3 := fun h => h34 (.inl h)
  have h4 : k ≠ 4 := fun h => h34 (.inr h)
  unfold madeL
  simp [hN, h3, h4]

set_option maxRecDepth 100000 in
set_option maxHeartbeats 3200000 in
theorem ringAfter_any (A : Option Addr) (n c : Nat) (l : List Int) (k N : Int) (w : World) (hs : Sl w w.heap.size A n l) (hcap : n ≤ c ∧ c ≤ 9223372036854775807) (hok : bitsOk l = true) (hN : N = 0 ∨ placed k = true) :
    Calls Try.prog 73 #[deed k N, .slice A n c] w fun e w' => ∃ A2 m c2, e = .returned (.tuple #[.slice A2 m c2, .bool (!(madeL l k N).isEmpty)]) ∧ w'.ownsRow w.heap.size 3 1 (.slice A2 m c2) m (ints (madeL l k N)) ∧ Below w.heap.size w w' := by
  obtain ⟨hbits, h1, h2⟩ := bitsOk_iff.1 hok
  have HL := hid hs.len
  rw [HL.out] at h1 h2
  have XA := heap_alloc_new w (.cells #[.int .i64 k, .int .i64 N] 45)
  have B0 := (Below.refl w.heap.size w).alloc (Nat.le_refl _) (.cells #[.int .i64 k, .int .i64 N] 45)
  obtain ⟨w0, e0⟩ : ∃ W, w.alloc (.cells #[.int .i64 k, .int .i64 N] 45) = W := ⟨_, rfl⟩
  have hz0 : w0.heap.size = w.heap.size + 1 := by rw [← e0]; simp
  rw [e0] at XA B0
  have a0 : w0.cell? ⟨w.heap.size, 0, none⟩ = some (.int .i64 k) := cell_of_row _ _ 0 _ _ _ XA
  have a1 : w0.cell? ⟨w.heap.size, 1, none⟩ = some (.int .i64 N) := cell_of_row _ _ 1 _ _ _ XA
  have HS := hid hs
  have HB0 := hid B0
  have HXA := hid XA
  have CN := hid (namesPlace_any k N w0)
  have HOK := hid hok
  clear hs B0 XA hok
  by_cases hk0 : k = 0
  · subst hk0
    obtain rfl : N = 0 := by rcases hN with h | h; exact h; exact absurd h (by decide)
    have HV := hid (made_sums HOK.out)
    have CF := hid (fun (W : World) (hW : Below w.heap.size w W) => implSummedOf_any A n c l W (HS.out.on hW))
    rw [show placed 0 = false from by decide] at CN
    go_enter Try.func73, Try.ntmps73

    go_wp2_with fail
    with_reducible refine Calls.mono CN.out ?_
    rintro e w2 ⟨rfl, b2⟩
    have HB2 := hid (HB0.out.trans (b2.mono HB0.out.size))
    have XB := (b2.block w.heap.size (by omega)).trans HXA.out
    have a0 : w2.cell? ⟨w.heap.size, 0, none⟩ = some (.int .i64 0) := cell_of_row _ _ 0 _ _ _ XB
    have a1 : w2.cell? ⟨w.heap.size, 1, none⟩ = some (.int .i64 0) := cell_of_row _ _ 1 _ _ _ XB
    clear b2 XB
    go_wp2_with fail
    with_reducible refine Calls.mono (CF.out _ HB2.out) ?_
    rintro e w3 ⟨A2, m, c3, rfl, o3, hm, b3⟩
    have O3 := hid (own_mono (base' := w.heap.size) o3 HB2.out.size)
    have B3 := hid (HB2.out.trans (b3.mono HB2.out.size))
    clear o3 b3
    go_wp2
    go_ret2
    exact ⟨_, _, _, by rw [HV.out.2]; rfl, by rw [HV.out.1]; exact O3.out, B3.out⟩
  by_cases hk1 : k = 1
  · subst hk1
    obtain rfl : N = 0 := by rcases hN with h | h; exact h; exact absurd h (by decide)
    have HV := hid (made_cars HOK.out)
    have CF := hid (fun (W : World) (hW : Below w.heap.size w W) => implDrivenOf_any A n c l W (HS.out.on hW))
    rw [show placed 1 = false from by decide] at CN
    go_enter Try.func73, Try.ntmps73

    go_wp2_with fail
    with_reducible refine Calls.mono CN.out ?_
    rintro e w2 ⟨rfl, b2⟩
    have HB2 := hid (HB0.out.trans (b2.mono HB0.out.size))
    have XB := (b2.block w.heap.size (by omega)).trans HXA.out
    have a0 : w2.cell? ⟨w.heap.size, 0, none⟩ = some (.int .i64 1) := cell_of_row _ _ 0 _ _ _ XB
    have a1 : w2.cell? ⟨w.heap.size, 1, none⟩ = some (.int .i64 0) := cell_of_row _ _ 1 _ _ _ XB
    clear b2 XB
    go_wp2_with fail
    with_reducible refine Calls.mono (CF.out _ HB2.out) ?_
    rintro e w3 ⟨A2, m, c3, rfl, o3, hm, b3⟩
    have O3 := hid (own_mono (base' := w.heap.size) o3 HB2.out.size)
    have B3 := hid (HB2.out.trans (b3.mono HB2.out.size))
    clear o3 b3
    go_wp2
    go_ret2
    exact ⟨_, _, _, by rw [HV.out.2]; rfl, by rw [HV.out.1]; exact O3.out, B3.out⟩
  by_cases hk2 : k = 2
  · subst hk2
    obtain rfl : N = 0 := by rcases hN with h | h; exact h; exact absurd h (by decide)
    have HV := hid (made_votes HOK.out)
    have CF := hid (fun (W : World) (hW : Below w.heap.size w W) => implVotedOf_any A n c l W (HS.out.on hW))
    rw [show placed 2 = false from by decide] at CN
    go_enter Try.func73, Try.ntmps73

    go_wp2_with fail
    with_reducible refine Calls.mono CN.out ?_
    rintro e w2 ⟨rfl, b2⟩
    have HB2 := hid (HB0.out.trans (b2.mono HB0.out.size))
    have XB := (b2.block w.heap.size (by omega)).trans HXA.out
    have a0 : w2.cell? ⟨w.heap.size, 0, none⟩ = some (.int .i64 2) := cell_of_row _ _ 0 _ _ _ XB
    have a1 : w2.cell? ⟨w.heap.size, 1, none⟩ = some (.int .i64 0) := cell_of_row _ _ 1 _ _ _ XB
    clear b2 XB
    go_wp2_with fail
    with_reducible refine Calls.mono (CF.out _ HB2.out) ?_
    rintro e w3 ⟨A2, m, c3, rfl, o3, hm, b3⟩
    have O3 := hid (own_mono (base' := w.heap.size) o3 HB2.out.size)
    have B3 := hid (HB2.out.trans (b3.mono HB2.out.size))
    clear o3 b3
    go_wp2
    go_ret2
    exact ⟨_, _, _, by rw [HV.out.2]; rfl, by rw [HV.out.1]; exact O3.out, B3.out⟩
  by_cases hk5 : k = 5
  · subst hk5
    obtain rfl : N = 0 := by rcases hN with h | h; exact h; exact absurd h (by decide)
    have HV := hid (made_free HOK.out)
    have CF := hid (fun (W : World) (hW : Below w.heap.size w W) => implFreeAs_any A n c l W (HS.out.on hW))
    rw [show placed 5 = false from by decide] at CN
    go_enter Try.func73, Try.ntmps73

    go_wp2_with fail
    with_reducible refine Calls.mono CN.out ?_
    rintro e w2 ⟨rfl, b2⟩
    have HB2 := hid (HB0.out.trans (b2.mono HB0.out.size))
    have XB := (b2.block w.heap.size (by omega)).trans HXA.out
    have a0 : w2.cell? ⟨w.heap.size, 0, none⟩ = some (.int .i64 5) := cell_of_row _ _ 0 _ _ _ XB
    have a1 : w2.cell? ⟨w.heap.size, 1, none⟩ = some (.int .i64 0) := cell_of_row _ _ 1 _ _ _ XB
    clear b2 XB
    go_wp2_with fail
    with_reducible refine Calls.mono (CF.out _ HB2.out) ?_
    rintro e w3 ⟨A2, m, c3, rfl, o3, hm, b3⟩
    have O3 := hid (own_mono (base' := w.heap.size) o3 HB2.out.size)
    have B3 := hid (HB2.out.trans (b3.mono HB2.out.size))
    clear o3 b3
    go_wp2
    go_ret2
    exact ⟨_, _, _, by rw [HV.out.2]; rfl, by rw [HV.out.1]; exact O3.out, B3.out⟩
  by_cases hk3 : k = 3
  · subst hk3
    rw [show placed 3 = true from by decide] at CN
    by_cases hneg : N < 0
    · have HV := hid (made_out (l := l) (N := N) (k := 3) (by omega) (.inl hneg))
      go_enter Try.func73, Try.ntmps73

      go_wp2_with fail
      with_reducible refine Calls.mono CN.out ?_
      rintro e w2 ⟨rfl, b2⟩
      have HB2 := hid (HB0.out.trans (b2.mono HB0.out.size))
      have XB := (b2.block w.heap.size (by omega)).trans HXA.out
      have a0 : w2.cell? ⟨w.heap.size, 0, none⟩ = some (.int .i64 3) := cell_of_row _ _ 0 _ _ _ XB
      have a1 : w2.cell? ⟨w.heap.size, 1, none⟩ = some (.int .i64 N) := cell_of_row _ _ 1 _ _ _ XB
      clear b2 XB
      go_wp2
      go_ret2
      exact ⟨_, 0, _, by rw [HV.out]; rfl, by rw [HV.out]; exact World.ownsRow_nil _ _ _ _, HB2.out⟩
    · obtain ⟨F, rfl⟩ : ∃ F : Nat, N = F := Int.eq_ofNat_of_zero_le (by omega)
      have hneg' : ¬ ((F : Int) < 0) := by omega
      by_cases hF : F < n
      · have HV := hid (made_flip (l := l) (F := F) (by rw [HL.out]; exact hF))
        have hge : ¬ ((n : Int) ≤ (F : Int)) := by omega
        have CF := hid (fun (W : World) (hW : Below w.heap.size w W) => flippedAt_any A n c l F W (HS.out.on hW) hF h2 hbits)
        go_enter Try.func73, Try.ntmps73

        go_wp2_with fail
        with_reducible refine Calls.mono CN.out ?_
        rintro e w2 ⟨rfl, b2⟩
        have HB2 := hid (HB0.out.trans (b2.mono HB0.out.size))
        have XB := (b2.block w.heap.size (by omega)).trans HXA.out
        have a0 : w2.cell? ⟨w.heap.size, 0, none⟩ = some (.int .i64 3) := cell_of_row _ _ 0 _ _ _ XB
        have a1 : w2.cell? ⟨w.heap.size, 1, none⟩ = some (.int .i64 F) := cell_of_row _ _ 1 _ _ _ XB
        clear b2 XB
        go_wp2_with fail
        with_reducible refine Calls.mono (CF.out _ HB2.out) ?_
        rintro e w3 ⟨A2, c3, rfl, o3, b3⟩
        have O3 := hid (own_mono (base' := w.heap.size) o3 HB2.out.size)
        have B3 := hid (HB2.out.trans (b3.mono HB2.out.size))
        clear o3 b3
        go_wp2
        go_ret2
        exact ⟨_, _, _, by rw [HV.out.2]; rfl, by rw [HV.out.1]; exact O3.out, B3.out⟩
      · have HV := hid (made_out (l := l) (N := F) (k := 3) (by omega) (.inr (by rw [HL.out]; omega)))
        have hge : (n : Int) ≤ (F : Int) := by omega
        go_enter Try.func73, Try.ntmps73

        go_wp2_with fail
        with_reducible refine Calls.mono CN.out ?_
        rintro e w2 ⟨rfl, b2⟩
        have HB2 := hid (HB0.out.trans (b2.mono HB0.out.size))
        have XB := (b2.block w.heap.size (by omega)).trans HXA.out
        have a0 : w2.cell? ⟨w.heap.size, 0, none⟩ = some (.int .i64 3) := cell_of_row _ _ 0 _ _ _ XB
        have a1 : w2.cell? ⟨w.heap.size, 1, none⟩ = some (.int .i64 F) := cell_of_row _ _ 1 _ _ _ XB
        clear b2 XB
        go_wp2
        go_ret2
        exact ⟨_, 0, _, by rw [HV.out]; rfl, by rw [HV.out]; exact World.ownsRow_nil _ _ _ _, HB2.out⟩
  by_cases hk4 : k = 4
  · subst hk4
    rw [show placed 4 = true from by decide] at CN
    by_cases hneg : N < 0
    · have HV := hid (made_out (l := l) (N := N) (k := 4) (by omega) (.inl hneg))
      go_enter Try.func73, Try.ntmps73

      go_wp2_with fail
      with_reducible refine Calls.mono CN.out ?_
      rintro e w2 ⟨rfl, b2⟩
      have HB2 := hid (HB0.out.trans (b2.mono HB0.out.size))
      have XB := (b2.block w.heap.size (by omega)).trans HXA.out
      have a0 : w2.cell? ⟨w.heap.size, 0, none⟩ = some (.int .i64 4) := cell_of_row _ _ 0 _ _ _ XB
      have a1 : w2.cell? ⟨w.heap.size, 1, none⟩ = some (.int .i64 N) := cell_of_row _ _ 1 _ _ _ XB
      clear b2 XB
      go_wp2
      go_ret2
      exact ⟨_, 0, _, by rw [HV.out]; rfl, by rw [HV.out]; exact World.ownsRow_nil _ _ _ _, HB2.out⟩
    · obtain ⟨F, rfl⟩ : ∃ F : Nat, N = F := Int.eq_ofNat_of_zero_le (by omega)
      have hneg' : ¬ ((F : Int) < 0) := by omega
      by_cases hF : F < n
      · have HV := hid (made_round (l := l) (F := F) (by rw [HL.out]; exact hF))
        have hge : ¬ ((n : Int) ≤ (F : Int)) := by omega
        have CF := hid (fun (W : World) (hW : Below w.heap.size w W) => begunK_any A n c l F W (HS.out.on hW) hcap.1 (by simpa [maxLen] using hcap.2) hF h2)
        go_enter Try.func73, Try.ntmps73

        go_wp2_with fail
        with_reducible refine Calls.mono CN.out ?_
        rintro e w2 ⟨rfl, b2⟩
        have HB2 := hid (HB0.out.trans (b2.mono HB0.out.size))
        have XB := (b2.block w.heap.size (by omega)).trans HXA.out
        have a0 : w2.cell? ⟨w.heap.size, 0, none⟩ = some (.int .i64 4) := cell_of_row _ _ 0 _ _ _ XB
        have a1 : w2.cell? ⟨w.heap.size, 1, none⟩ = some (.int .i64 F) := cell_of_row _ _ 1 _ _ _ XB
        clear b2 XB
        go_wp2_with fail
        with_reducible refine Calls.mono (CF.out _ HB2.out) ?_
        rintro e w3 ⟨A2, c3, rfl, o3, b3⟩
        have O3 := hid (own_mono (base' := w.heap.size) o3 HB2.out.size)
        have B3 := hid (HB2.out.trans (b3.mono HB2.out.size))
        clear o3 b3
        go_wp2
        go_ret2
        exact ⟨_, _, _, by rw [HV.out.2]; rfl, by rw [HV.out.1]; exact O3.out, B3.out⟩
      · have HV := hid (made_out (l := l) (N := F) (k := 4) (by omega) (.inr (by rw [HL.out]; omega)))
        have hge : (n : Int) ≤ (F : Int) := by omega
        go_enter Try.func73, Try.ntmps73

        go_wp2_with fail
        with_reducible refine Calls.mono CN.out ?_
        rintro e w2 ⟨rfl, b2⟩
        have HB2 := hid (HB0.out.trans (b2.mono HB0.out.size))
        have XB := (b2.block w.heap.size (by omega)).trans HXA.out
        have a0 : w2.cell? ⟨w.heap.size, 0, none⟩ = some (.int .i64 4) := cell_of_row _ _ 0 _ _ _ XB
        have a1 : w2.cell? ⟨w.heap.size, 1, none⟩ = some (.int .i64 F) := cell_of_row _ _ 1 _ _ _ XB
        clear b2 XB
        go_wp2
        go_ret2
        exact ⟨_, 0, _, by rw [HV.out]; rfl, by rw [HV.out]; exact World.ownsRow_nil _ _ _ _, HB2.out⟩
  have HV := hid (made_other (l := l) (N := N) hk0 hk1 hk2 hk3 hk4 hk5)
  have hp : placed k = false := by simp [placed, hk3, hk4]
  obtain rfl : N = 0 := by rcases hN with h | h; exact h; rw [hp] at h; cases h
  rw [hp] at CN
  have q0 : (k == 0) = false := by simpa using hk0
  have q1 : (k == 1) = false := by simpa using hk1
  have q2 : (k == 2) = false := by simpa using hk2
  have q3 : (k == 3) = false := by simpa using hk3
  have q4 : (k == 4) = false := by simpa using hk4
  have q5 : (k == 5) = false := by simpa using hk5
  go_enter Try.func73, Try.ntmps73

  go_wp2_with fail
  with_reducible refine Calls.mono CN.out ?_
  rintro e w2 ⟨rfl, b2⟩
  have HB2 := hid (HB0.out.trans (b2.mono HB0.out.size))
  have XB := (b2.block w.heap.size (by omega)).trans HXA.out
  have a0 : w2.cell? ⟨w.heap.size, 0, none⟩ = some (.int .i64 k) := cell_of_row _ _ 0 _ _ _ XB
  have a1 : w2.cell? ⟨w.heap.size, 1, none⟩ = some (.int .i64 0) := cell_of_row _ _ 1 _ _ _ XB
  clear b2 XB
  go_wp2
  go_ret2
  exact ⟨_, 0, _, by rw [HV.out]; rfl, by rw [HV.out]; exact World.ownsRow_nil _ _ _ _, HB2.out⟩
end Go.Proofs.Ytkejcajboneniaa

namespace Go.Proofs.Ytkejcajboneniaa
open Go.RowKit
set_option linter.unusedVariables false
set_option linter.unusedSimpArgs false

def InQ (P : Nat → Prop) (A : Option Addr) (n : Nat) : Prop := 0 < n → ∃ b off, A = some ⟨b, off, none⟩ ∧ P b
def SlQ (w : World) (P : Nat → Prop) (A : Option Addr) (n : Nat) (l : List Int) : Prop := Sl w w.heap.size A n l ∧ InQ P A n
def OutQ (w : World) (P : Nat → Prop) (A : Option Addr) (m : Nat) (vs : List Value) : Prop := Out w w.heap.size A m vs ∧ InQ P A m
def RowsQ (w : World) (P : Nat → Prop) (vs : List Value) (ls : List (List Int)) : Prop := vs.length = ls.length ∧ ∀ (j : Nat) v l, vs[j]? = some v → ls[j]? = some l → ∃ A n c, v = .slice A n c ∧ SlQ w P A n l ∧ n ≤ c ∧ c ≤ 9223372036854775807
structure DkQ (w : World) (P : Nat → Prop) (A : Option Addr) (n c : Nat) (A2 : Option Addr) (m c2 : Nat) (D : Dk) : Prop where
  now : SlQ w P A n D.now
  past : ∃ vs, OutQ w P A2 m vs ∧ RowsQ w P vs D.past
  cap : n ≤ c ∧ c ≤ 9223372036854775807
  cap2 : m ≤ c2 ∧ c2 ≤ 9223372036854775807
section
variable {w W : World} {P P' : Nat → Prop} {A A2 : Option Addr} {n c m c2 B b : Nat} {l : List Int} {vs : List Value} {ls : List (List Int)} {D : Dk}
theorem InQ.mono (h : InQ P A n) (hP : ∀ b, P b → P' b) : InQ P' A n := fun hn => by
  obtain ⟨b, off, e, hb⟩ := h hn
  exact ⟨b, off, e, hP b hb⟩
theorem SlQ.keep (h : SlQ w P A n l) (hs : w.heap.size ≤ W.heap.size) (hk : ∀ p : Addr, P p.block → p.block < w.heap.size → W.cell? p = w.cell? p) : SlQ W P A n l := by
  refine ⟨⟨h.1.1, h.1.2.1, fun hn => ?_⟩, h.2⟩
  obtain ⟨b, off, e, hb, hc⟩ := h.1.2.2 hn
  obtain ⟨b', off', e', hb'⟩ := h.2 hn
  rw [e] at e'
  injection e' with e'
  injection e' with e1 e2 e3
  subst e1; subst e2
  exact ⟨b, off, e, by omega, fun j hj => (hk _ hb' hb).trans (hc j hj)⟩
theorem OutQ.keep (h : OutQ w P A m vs) (hs : w.heap.size ≤ W.heap.size) (hk : ∀ p : Addr, P p.block → p.block < w.heap.size → W.cell? p = w.cell? p) : OutQ W P A m vs := by
  refine ⟨⟨h.1.1, h.1.2.1, fun hn => ?_⟩, h.2⟩
  obtain ⟨b, off, e, hb, hc⟩ := h.1.2.2 hn
  obtain ⟨b', off', e', hb'⟩ := h.2 hn
  rw [e] at e'
  injection e' with e'
  injection e' with e1 e2 e3
  subst e1; subst e2
  exact ⟨b, off, e, by omega, fun j v hv => (hk _ hb' hb).trans (hc j v hv)⟩
theorem RowsQ.keep (h : RowsQ w P vs ls) (hs : w.heap.size ≤ W.heap.size) (hk : ∀ p : Addr, P p.block → p.block < w.heap.size → W.cell? p = w.cell? p) : RowsQ W P vs ls :=
  ⟨h.1, fun j v l h1 h2 => by
    obtain ⟨A, n, c, e, hsq, hc⟩ := h.2 j v l h1 h2
    exact ⟨A, n, c, e, hsq.keep hs hk, hc⟩⟩
theorem DkQ.keep (h : DkQ w P A n c A2 m c2 D) (hs : w.heap.size ≤ W.heap.size) (hk : ∀ p : Addr, P p.block → p.block < w.heap.size → W.cell? p = w.cell? p) : DkQ W P A n c A2 m c2 D :=
  ⟨h.now.keep hs hk, h.past.elim fun vs k => ⟨vs, k.1.keep hs hk, k.2.keep hs hk⟩, h.cap, h.cap2⟩
theorem SlQ.mono (h : SlQ w P A n l) (hP : ∀ b, P b → P' b) : SlQ w P' A n l := ⟨h.1, h.2.mono hP⟩
theorem OutQ.mono (h : OutQ w P A m vs) (hP : ∀ b, P b → P' b) : OutQ w P' A m vs := ⟨h.1, h.2.mono hP⟩
theorem RowsQ.mono (h : RowsQ w P vs ls) (hP : ∀ b, P b → P' b) : RowsQ w P' vs ls :=
  ⟨h.1, fun j v l h1 h2 => by
    obtain ⟨A, n, c, e, hsq, hc⟩ := h.2 j v l h1 h2
    exact ⟨A, n, c, e, hsq.mono hP, hc⟩⟩
theorem DkQ.mono (h : DkQ w P A n c A2 m c2 D) (hP : ∀ b, P b → P' b) : DkQ w P' A n c A2 m c2 D :=
  ⟨h.now.mono hP, h.past.elim fun vs k => ⟨vs, k.1.mono hP, k.2.mono hP⟩, h.cap, h.cap2⟩
/-- What lies in blocks that are there lies in those of P that are there. -/
theorem SlQ.here (h : SlQ w P A n l) : SlQ w (fun b => P b ∧ b < w.heap.size) A n l := ⟨h.1, fun hn => by
  obtain ⟨b, off, e, hb, _⟩ := h.1.2.2 hn
  obtain ⟨b', off', e', hb'⟩ := h.2 hn
  rw [e] at e'
  injection e' with e'
  injection e' with e1 e2 e3
  subst e1
  exact ⟨b, off, e, hb', hb⟩⟩
theorem OutQ.here (h : OutQ w P A m vs) : OutQ w (fun b => P b ∧ b < w.heap.size) A m vs := ⟨h.1, fun hn => by
  obtain ⟨b, off, e, hb, _⟩ := h.1.2.2 hn
  obtain ⟨b', off', e', hb'⟩ := h.2 hn
  rw [e] at e'
  injection e' with e'
  injection e' with e1 e2 e3
  subst e1
  exact ⟨b, off, e, hb', hb⟩⟩
theorem DkQ.here (h : DkQ w P A n c A2 m c2 D) : DkQ w (fun b => P b ∧ b < w.heap.size) A n c A2 m c2 D :=
  ⟨h.now.here, h.past.elim fun vs k => ⟨vs, k.1.here, k.2.1, fun j v l h1 h2 => by
    obtain ⟨A, n, c, e, hsq, hc⟩ := k.2.2 j v l h1 h2
    exact ⟨A, n, c, e, hsq.here, hc⟩⟩, h.cap, h.cap2⟩
theorem SlQ.on (h : SlQ w P A n l) (hb : Below w.heap.size w W) : SlQ W P A n l := h.keep hb.size fun _ _ hp => hb.cell hp
theorem DkQ.on (h : DkQ w P A n c A2 m c2 D) (hb : Below w.heap.size w W) : DkQ W P A n c A2 m c2 D := h.keep hb.size fun _ _ hp => hb.cell hp
theorem DkQ.read (h : DkQ w P A n c A2 m c2 D) : DkR w w.heap.size A n c A2 m c2 D :=
  ⟨h.now.1, h.past.elim fun vs k => ⟨vs, k.1.1, k.2.1, fun j v l h1 h2 => by
    obtain ⟨A, n, c, e, hsq, hc⟩ := k.2.2 j v l h1 h2
    exact ⟨A, n, c, e, hsq.1, hc⟩⟩, h.cap, h.cap2⟩
theorem SlQ.of (h : Sl w B A n l) (hB : B ≤ w.heap.size) (hP : ∀ b, b < B → P b) : SlQ w P A n l :=
  ⟨h.more hB, fun hn => by
    obtain ⟨b, off, e, hb, _⟩ := h.2.2 hn
    exact ⟨b, off, e, hP b hb⟩⟩
theorem DkQ.of (h : DkR w B A n c A2 m c2 D) (hB : B ≤ w.heap.size) (hP : ∀ b, b < B → P b) : DkQ w P A n c A2 m c2 D := by
  obtain ⟨vs, h1, h2⟩ := h.past
  refine ⟨.of h.now hB hP, ⟨vs, ⟨h1.keep hB (fun _ _ => rfl), fun hm => ?_⟩, h2.1, fun j v l hv hl => ?_⟩, h.cap, h.cap2⟩
  · obtain ⟨b, off, e, hb, _⟩ := h1.2.2 hm
    exact ⟨b, off, e, hP b hb⟩
  · obtain ⟨A, n, c, e, hs, hc⟩ := h2.2 j v l hv hl
    exact ⟨A, n, c, e, .of hs hB hP, hc⟩
theorem SlQ.of_own {cc : Nat} (h : w.ownsRow B 3 1 (.slice A n cc) n (ints l)) (hP : ∀ b, B ≤ b → P b) : SlQ w P A n l :=
  ⟨Sl.of_own h, fun hn => by
    obtain ⟨g, cap, hv, hg, _⟩ := own_shape1 h hn
    injection hv with h1 h2 h3
    exact ⟨g, 0, h1, hP g hg⟩⟩
theorem cell_put2 (w : World) (b : Nat) (x y : Value) (p : Addr) (hp : p.block ≠ b) : ((w.setCell ⟨b, 0, none⟩ x).setCell ⟨b, 1, none⟩ y).cell? p = w.cell? p := by
  have h1 := heap_setCell_other w ⟨b, 0, none⟩ p.block x hp
  have h2 := heap_setCell_other (w.setCell ⟨b, 0, none⟩ x) ⟨b, 1, none⟩ p.block y hp
  unfold World.cell?
  rw [h2, h1]
theorem DkQ.put2 (h : DkQ w P A n c A2 m c2 D) (hb : ¬ P b) (x y : Value) : DkQ ((w.setCell ⟨b, 0, none⟩ x).setCell ⟨b, 1, none⟩ y) P A n c A2 m c2 D :=
  h.keep (by simp [World.setCell]) fun p hp _ => cell_put2 w b x y p (fun e => hb (e ▸ hp))
end
theorem OutQ.cut {w : World} {P : Nat → Prop} {A : Option Addr} {m k : Nat} {vs : List Value} (h : OutQ w P A m vs) (hk : k ≤ m) : OutQ w P A k (vs.take k) := by
  refine ⟨⟨by rw [List.length_take, h.1.1]; omega, Nat.le_trans hk h.1.2.1, fun h0 => ?_⟩, fun h0 => h.2 (by omega)⟩
  obtain ⟨b, off, e, hb, hc⟩ := h.1.2.2 (by omega)
  exact ⟨b, off, e, hb, fun j v hv => hc j v (by rw [List.getElem?_take] at hv; split at hv; exact hv; cases hv)⟩
theorem RowsQ.cut {w : World} {P : Nat → Prop} {k : Nat} {vs : List Value} {ls : List (List Int)} (h : RowsQ w P vs ls) : RowsQ w P (vs.take k) (ls.take k) := by
  refine ⟨by rw [List.length_take, List.length_take, h.1], fun j v l hv hl => ?_⟩
  rw [List.getElem?_take] at hv hl
  split at hv
  · rename_i hj
    rw [if_pos hj] at hl
    exact h.2 j v l hv hl
  · cases hv
theorem OutQ.tail {w : World} {P : Nat → Prop} {b off m : Nat} {vs : List Value} (h : OutQ w P (some ⟨b, off, none⟩) (m + 1) vs) : OutQ w P (some ⟨b, off + 1, none⟩) m (vs.drop 1) := by
  refine ⟨⟨by rw [List.length_drop, h.1.1]; omega, by have := h.1.2.1; omega, fun h0 => ?_⟩, fun h0 => ?_⟩
  · obtain ⟨b', off', e, hb, hc⟩ := h.1.2.2 (by omega)
    injection e with e
    injection e with e1 e2 e3
    subst e1; subst e2
    refine ⟨b, off + 1, rfl, hb, fun j v hv => ?_⟩
    rw [List.getElem?_drop] at hv
    rw [show off + 1 + j = off + (1 + j) by omega]
    exact hc (1 + j) v hv
  · obtain ⟨b', off', e, hb⟩ := h.2 (by omega)
    injection e with e
    injection e with e1 e2 e3
    subst e1
    exact ⟨b, off + 1, rfl, hb⟩
theorem RowsQ.tail {w : World} {P : Nat → Prop} {vs : List Value} {ls : List (List Int)} (h : RowsQ w P vs ls) : RowsQ w P (vs.drop 1) (ls.drop 1) :=
  ⟨by rw [List.length_drop, List.length_drop, h.1], fun j v l hv hl => by
    rw [List.getElem?_drop] at hv hl
    exact h.2 (1 + j) v l hv hl⟩
theorem RowsQ.snoc {w : World} {P : Nat → Prop} {vs : List Value} {ls : List (List Int)} {A : Option Addr} {n c : Nat} {l : List Int} (h : RowsQ w P vs ls) (hs : SlQ w P A n l) (hc : n ≤ c ∧ c ≤ 9223372036854775807) : RowsQ w P (vs ++ [.slice A n c]) (ls ++ [l]) := by
  refine ⟨by simp [h.1], fun j v l' hv hl => ?_⟩
  by_cases hj : j < vs.length
  · rw [List.getElem?_append_left hj] at hv
    rw [List.getElem?_append_left (by rw [← h.1]; exact hj)] at hl
    exact h.2 j v l' hv hl
  · have h1 := (List.getElem?_eq_some_iff.1 hv).1
    simp at h1
    obtain rfl : j = vs.length := by omega
    have h3 : v = .slice A n c := by simpa using hv.symm
    have h4 : l' = l := by rw [h.1] at hl; simpa using hl.symm
    subst h3; subst h4
    exact ⟨A, n, c, rfl, hs, hc⟩
theorem RowsQ.one {w : World} {P : Nat → Prop} {vs : List Value} {ls : List (List Int)} (h : RowsQ w P vs ls) : ∀ u ∈ vs, u.oneCell' = true := by
  intro u hu
  obtain ⟨j, hj, rfl⟩ := List.getElem_of_mem hu
  obtain ⟨A, n, c, e, _⟩ := h.2 j _ _ (List.getElem?_eq_getElem hj) (List.getElem?_eq_getElem (by rw [← h.1]; exact hj))
  rw [e]; rfl
theorem Out.of_own {w : World} {B m c : Nat} {A : Option Addr} {vs : List Value} {e : TypeId} (h : w.ownsRow B e 1 (.slice A m c) m vs) : Out w w.heap.size A m vs := by
  have hl : vs.length = m := by have := h.1; omega
  refine ⟨hl, by have := (own_capK h); simp only [maxLen]; omega, fun hm => ?_⟩
  obtain ⟨g, cap, hv, _, hlt⟩ := own_shape1 h hm
  injection hv with h1 h2 h3
  subst h1; subst h3
  exact ⟨g, 0, rfl, hlt, fun j v hj => by rw [Nat.zero_add, h.cellAt j (by have := (List.getElem?_eq_some_iff.1 hj).1; omega)]; exact hj⟩
end Go.Proofs.Ytkejcajboneniaa

namespace Go.Proofs.Ytkejcajboneniaa
open Go.RowKit
set_option linter.unusedVariables false
set_option linter.unusedSimpArgs false

def backL (D : Dk) : Dk := if D.past.isEmpty then D else ⟨D.past.getLast?.getD [], D.past.dropLast⟩
def hasPast (D : Dk) : Bool := !D.past.isEmpty
set_option maxRecDepth 100000 in
set_option maxHeartbeats 1600000 in
/-- The last ring of before put back. -/
theorem back_any (P : Nat → Prop) (A : Option Addr) (n c : Nat) (A2 : Option Addr) (m c2 : Nat) (D : Dk) (w : World) (h : DkQ w P A n c A2 m c2 D) :
    Calls Try.prog 72 #[dsk A n c A2 m c2] w fun e w' => ∃ A3 n3 c3 A4 m4 c4, e = .returned (.tuple #[dsk A3 n3 c3 A4 m4 c4, .bool (hasPast D)]) ∧ DkQ w' P A3 n3 c3 A4 m4 c4 (backL D) ∧ Below w.heap.size w w' := by
  have mx2 := h.read.past.max
  have hcap2 := h.cap2
  have HLM := hid h.read.past.len
  have z1 : (w.alloc (.cells #[.slice A n c, .slice A2 m c2] 26)).heap.size = w.heap.size + 1 := by simp
  have g1 := grown_alloc (w.alloc (.cells #[.slice A n c, .slice A2 m c2] 26)) (.cells #[.slice none 0 0, .slice none 0 0] 26) none
  have X0 := (Db.new w (.slice A n c) (.slice A2 m c2)).on (row := none) g1 (by simp)
  have XR := Db.new (w.alloc (.cells #[.slice A n c, .slice A2 m c2] 26)) (.slice none 0 0) (.slice none 0 0)
  rw [z1] at XR
  have B0 := ((Below.refl w.heap.size w).alloc (Nat.le_refl _) (.cells #[.slice A n c, .slice A2 m c2] 26)).alloc (by simp) (.cells #[.slice none 0 0, .slice none 0 0] 26)
  obtain ⟨w0, e0⟩ : ∃ W, (w.alloc (.cells #[.slice A n c, .slice A2 m c2] 26)).alloc (.cells #[.slice none 0 0, .slice none 0 0] 26) = W := ⟨_, rfl⟩
  have hz0 : w0.heap.size = w.heap.size + 2 := by rw [← e0]; simp
  rw [e0] at X0 XR B0
  have c0 := X0.c0
  have c1 := X0.c1
  have r0 := XR.c0
  have r1 := XR.c1
  have f0 := XR.fz 0
  have f1 := XR.fz 1
  have wm : IntKind.i64.wrap ((m : Int) - 1) = (m : Int) - 1 := IntWalk.i64_in _ (by omega)
  have HX0 := hid X0
  have HXR := hid XR
  have HB0 := hid B0
  have HH := hid h
  clear g1 X0 XR B0 z1 h
  by_cases hm : 0 < m
  · obtain ⟨vs, hO, hRq⟩ := HH.out.past
    obtain ⟨b5, off5, e5, hb5, hcs⟩ := hO.1.2.2 hm
    have hvl : vs.length = m := hO.1.1
    have hlk : D.past[m - 1]? = some (D.past.getD (m - 1) []) := by rw [List.getD_eq_getElem?_getD, List.getElem?_eq_getElem (by rw [HLM.out]; omega)]; rfl
    obtain ⟨A5, n5, c5, ev5, s5, hcap5⟩ := hRq.2 (m - 1) _ _ (List.getElem?_eq_getElem (show m - 1 < vs.length by omega)) hlk
    have hc5 := hcs (m - 1) _ (List.getElem?_eq_getElem (show m - 1 < vs.length by omega))
    rw [ev5] at hc5
    have HOQ := hid (show ∃ vs, OutQ w P A2 m vs ∧ RowsQ w P vs D.past from HH.out.past)
    clear hO hRq hcs hvl hlk ev5
    have hc6 := (HB0.out.cell (p := ⟨b5, off5 + (m - 1), none⟩) hb5).trans hc5
    have hcw := hc5
    have hcw := hc5
    have hcw := hc5
    have hne : D.past.isEmpty = false := by
      rw [List.isEmpty_eq_false_iff]
      intro h
      have := HLM.out
      rw [h] at this
      simp at this; omega
    obtain ⟨q, lq, hq1, hq2, hq3⟩ := last_getD hne
    have hgd : D.past.getD (m - 1) [] = lq := by
      have h1 := HLM.out
      rw [hq1, List.length_append, List.length_singleton] at h1
      rw [hq1, show m - 1 = q.length from by omega]
      simp [List.getD]
    rw [hgd] at s5
    have HS5 := hid s5
    have HV := hid (show hasPast D = true from by unfold hasPast; rw [hne]; rfl)
    have HD := hid (show backL D = ⟨lq, D.past.take (m - 1)⟩ from by
      unfold backL
      rw [hne, hq2, hq3]
      have h1 := HLM.out
      rw [hq1, List.length_append, List.length_singleton] at h1
      rw [hq1, show m - 1 = q.length from by omega]
      simp)
    have HCA := hid hcap5
    subst e5
    obtain ⟨m1, hm1⟩ : ∃ m1, m - 1 = m1 := ⟨_, rfl⟩
    rw [hm1] at hc6 hcw
    have hmi : (m : Int) - 1 = (m1 : Int) := by omega
    rw [hmi] at wm
    have hneg : ¬ ((m1 : Int) < 0) := by omega
    have hlt1 : (m1 : Int) < (m : Int) := by omega
    have hle1 : (m1 : Int) ≤ (c2 : Int) := by omega
    have hle2 : m1 ≤ c2 := by omega
    have hge1 : (0 : Int) ≤ (m1 : Int) := by omega
    have HM1 := hid hm1
    clear hne hq1 hq2 hq3 hgd s5 hc5 hcap5 hm1
    go_enter Try.func72, Try.ntmps72
    -- REGION
    obtain ⟨wd, hwd⟩ : ∃ W, w0.drew = W := ⟨_, rfl⟩
    have DB : Below w0.heap.size w0 wd := by rw [← hwd]; exact (Below.refl _ _).drew
    have X1 := HX0.out.below DB (by omega)
    have XR1 := HXR.out.below DB (by omega)
    have c1 := X1.c1
    have hc6 := (DB.cell (p := ⟨b5, off5 + m1, none⟩) (by show b5 < w0.heap.size; omega)).trans hc6
    have f0 := XR1.fz 0
    have f1 := XR1.fz 1
    have r0 := XR1.c0
    have r1 := XR1.c1
    have q1 := ((X1.other (g := w.heap.size + 1) (by omega) 0 (.slice A5 n5 c5)).other (g := w.heap.size + 1) (by omega) 1 (.slice (some ⟨b5, off5, none⟩) m1 c2)).c1
    have BQ := ((HB0.out.trans (DB.mono (by omega))).setCell (p := ⟨w.heap.size + 1, 0, none⟩) (by simp) (.slice A5 n5 c5)).setCell (p := ⟨w.heap.size + 1, 1, none⟩) (by simp) (.slice (some ⟨b5, off5, none⟩) m1 c2)
    have q2 := (BQ.cell (p := ⟨b5, off5 + m1, none⟩) hb5).trans hcw
    have HBQ := hid BQ
    have HXQ := hid (XR1.set (.slice A5 n5 c5) (.slice (some ⟨b5, off5, none⟩) m1 c2))
    clear BQ DB X1 XR1
    go_wp2
    refine wp_region_held_drew (S := fun W => W.cell? ⟨w.heap.size, 1, none⟩ = some (.slice (some ⟨b5, off5, none⟩) m c2) ∧ W.cell? ⟨b5, off5 + m1, none⟩ = some (.slice A5 n5 c5)) (by kernel_rfl) (by rw [hwd]; exact ⟨c1, hc6⟩) (fun hHeld => ?_)
    rw [hwd] at hHeld ⊢
    refine wpAnyH_take (i := 0) (v := ?v0b) rfl (by kernel_rfl) (by kernel_rfl) (by kernel_rfl) (fun _ _ _ h => h) (Or.inl ⟨by rfl, ?y0b⟩) (by assumption) ?r0b
    case y0b => (intro w hSw; (try dsimp only at hSw); go_simp; try with_reducible rfl)
    try simp only [List.getElem_toArray, List.getElem_cons_zero, List.getElem_cons_succ, Act.put, List.setIfInBounds_toArray, List.set_cons_zero, List.set_cons_succ]
    refine wpAnyH_take (i := 1) (v := ?v1b) rfl (by kernel_rfl) (by kernel_rfl) (by kernel_rfl) (fun _ _ _ h => h) (Or.inl ⟨by rfl, ?y1b⟩) (by assumption) ?r1b
    case y1b => (intro w hSw; (try dsimp only at hSw); go_simp; try with_reducible rfl)
    try simp only [List.getElem_toArray, List.getElem_cons_zero, List.getElem_cons_succ, Act.put, List.setIfInBounds_toArray, List.set_cons_zero, List.set_cons_succ]
    refine wpAnyH_take (i := 2) (v := ?v2b) rfl (by kernel_rfl) (by kernel_rfl) (by kernel_rfl) (fun _ _ _ h => h) (Or.inl ⟨by rfl, ?y2b⟩) (by assumption) ?r2b
    case y2b => (intro w hSw; (try dsimp only at hSw); go_simp; try with_reducible rfl)
    try simp only [List.getElem_toArray, List.getElem_cons_zero, List.getElem_cons_succ, Act.put, List.setIfInBounds_toArray, List.set_cons_zero, List.set_cons_succ]
    refine wpAnyH_take (i := 3) (v := ?v3b) rfl (by kernel_rfl) (by kernel_rfl) (by kernel_rfl) (fun _ _ _ h => h) (Or.inl ⟨by rfl, ?y3b⟩) (by assumption) ?r3b
    case y3b => (intro w hSw; (try dsimp only at hSw); go_simp; try with_reducible rfl)
    try simp only [List.getElem_toArray, List.getElem_cons_zero, List.getElem_cons_succ, Act.put, List.setIfInBounds_toArray, List.set_cons_zero, List.set_cons_succ]
    refine wpAnyH_take (i := 4) (v := ?v4b) rfl (by kernel_rfl) (by kernel_rfl) (by kernel_rfl) (fun _ _ _ h => h) (Or.inl ⟨by rfl, ?y4b⟩) (by assumption) ?r4b
    case y4b => (intro w hSw; (try dsimp only at hSw); go_simp; try with_reducible rfl)
    try simp only [List.getElem_toArray, List.getElem_cons_zero, List.getElem_cons_succ, Act.put, List.setIfInBounds_toArray, List.set_cons_zero, List.set_cons_succ]
    refine wpAnyH_take (i := 5) (v := ?v5b) rfl (by kernel_rfl) (by kernel_rfl) (by kernel_rfl) (fun _ _ _ h => h) (Or.inl ⟨by rfl, ?y5b⟩) (by assumption) ?r5b
    case y5b => (intro w hSw; (try dsimp only at hSw); go_simp; try with_reducible rfl)
    try simp only [List.getElem_toArray, List.getElem_cons_zero, List.getElem_cons_succ, Act.put, List.setIfInBounds_toArray, List.set_cons_zero, List.set_cons_succ]
    refine wpAnyH_take (i := 6) (v := ?v6b) rfl (by kernel_rfl) (by kernel_rfl) (by kernel_rfl) (fun _ _ _ h => h) (Or.inl ⟨by rfl, ?y6b⟩) (by assumption) ?r6b
    case y6b => (intro w hSw; (try dsimp only at hSw); go_simp; try with_reducible rfl)
    try simp only [List.getElem_toArray, List.getElem_cons_zero, List.getElem_cons_succ, Act.put, List.setIfInBounds_toArray, List.set_cons_zero, List.set_cons_succ]
    refine wpAnyH_take (i := 7) (v := ?v7b) rfl (by kernel_rfl) (by kernel_rfl) (by kernel_rfl) (fun _ _ _ h => h) (Or.inl ⟨by rfl, ?y7b⟩) (by assumption) ?r7b
    case y7b => (intro w hSw; (try dsimp only at hSw); go_simp; try with_reducible rfl)
    try simp only [List.getElem_toArray, List.getElem_cons_zero, List.getElem_cons_succ, Act.put, List.setIfInBounds_toArray, List.set_cons_zero, List.set_cons_succ]
    refine wpAnyH_take (i := 8) (v := ?v8b) rfl (by kernel_rfl) (by kernel_rfl) (by kernel_rfl) (fun _ _ _ h => h) (Or.inl ⟨by rfl, ?y8b⟩) (by assumption) ?r8b
    case y8b => (intro w hSw; (try dsimp only at hSw); go_simp; try with_reducible rfl)
    try simp only [List.getElem_toArray, List.getElem_cons_zero, List.getElem_cons_succ, Act.put, List.setIfInBounds_toArray, List.set_cons_zero, List.set_cons_succ]
    refine wpAnyH_take (i := 9) (v := ?v9b) rfl (by kernel_rfl) (by kernel_rfl) (by kernel_rfl) (fun _ _ _ h => h) (Or.inl ⟨by rfl, ?y9b⟩) (by assumption) ?r9b
    case y9b => (intro w hSw; (try dsimp only at hSw); go_simp; try with_reducible rfl)
    try simp only [List.getElem_toArray, List.getElem_cons_zero, List.getElem_cons_succ, Act.put, List.setIfInBounds_toArray, List.set_cons_zero, List.set_cons_succ]
    refine wpAnyH_ready (rs := [10]) (by kernel_rfl) (by simp) ?_
    refine AllReadyH.cons rfl (fun Kr hKr => ?_) AllReadyH.nil
    go_simp
    try go_wp2_with fail
    refine hKr.out _ _ ⟨q1, q2⟩ (fun hHeld => ?_)
    clear hKr Kr
    try simp only [List.getElem_toArray, List.getElem_cons_zero, List.getElem_cons_succ, Act.put, List.setIfInBounds_toArray, List.set_cons_zero, List.set_cons_succ]
    refine wpAnyH_take (i := 11) (v := ?v11b) rfl (by kernel_rfl) (by kernel_rfl) (by kernel_rfl) (fun _ _ _ h => h) (Or.inl ⟨by rfl, ?y11b⟩) (by assumption) ?r11b
    case y11b => (intro w hSw; (try dsimp only at hSw); go_simp; try with_reducible rfl)
    try simp only [List.getElem_toArray, List.getElem_cons_zero, List.getElem_cons_succ, Act.put, List.setIfInBounds_toArray, List.set_cons_zero, List.set_cons_succ]
    refine wpAnyH_done (by kernel_rfl) ?_ _
    go_wp2
    (try simp only [Exit.inBlock, Exit.then])
    refine bodyPost_ret (results_db rfl _ _ (w.heap.size + 1) 26 _ (0, 0) _ (by simp [Act.put]) HXQ.out Try.underlying26 rfl size_desk) rfl ?_
    refine ⟨A5, n5, c5, some ⟨b5, off5, none⟩, m1, c2, by rw [HV.out]; rfl, ?_, HBQ.out⟩
    rw [HD.out]
    refine DkQ.on ?_ HBQ.out
    obtain ⟨vs, h1, h2⟩ := HOQ.out
    exact ⟨HS5.out, ⟨vs.take m1, h1.cut (by omega), by rw [HM1.out]; exact h2.cut⟩, HCA.out, by omega⟩
  · obtain rfl : m = 0 := by omega
    have hne : D.past.isEmpty = true := by
      rw [List.isEmpty_iff]
      exact List.eq_nil_of_length_eq_zero HLM.out
    have HV := hid (show hasPast D = false from by unfold hasPast; rw [hne]; rfl)
    have HD := hid (show backL D = D from by unfold backL; rw [if_pos hne])
    clear hne
    go_enter Try.func72, Try.ntmps72
    go_wp2
    (try simp only [Exit.inBlock, Exit.then])
    refine bodyPost_ret (results_db rfl _ _ (w.heap.size + 1) 26 _ (0, 0) _ (by simp [Act.put]) (HXR.out.set _ _) Try.underlying26 rfl size_desk) rfl ?_
    have BQ := (HB0.out.setCell (p := ⟨w.heap.size + 1, 0, none⟩) (by simp) (.slice A n c)).setCell (p := ⟨w.heap.size + 1, 1, none⟩) (by simp) (.slice A2 0 c2)
    exact ⟨_, _, _, _, _, _, by first | rfl | (rw [HV.out]; rfl), by first | exact HH.out.on BQ | (rw [HD.out]; exact HH.out.on BQ), BQ⟩

set_option maxRecDepth 100000 in
set_option maxHeartbeats 1600000 in
/-- Another ring, the one that was there behind those of before. -/
theorem moved_any (P : Nat → Prop) (A : Option Addr) (n c : Nat) (A2 : Option Addr) (m c2 : Nat) (D : Dk) (A1 : Option Addr) (n1 c1 : Nat) (l1 : List Int) (w : World) (h : DkQ w P A n c A2 m c2 D) (hs1 : SlQ w P A1 n1 l1) (hcap1 : n1 ≤ c1 ∧ c1 ≤ 9223372036854775807) (h8 : m ≤ 8) :
    Calls Try.prog 75 #[dsk A n c A2 m c2, .slice A1 n1 c1] w fun e w' => ∃ A4 m4 c4, e = .returned (dsk A1 n1 c1 A4 m4 c4) ∧ DkQ w' (fun b => P b ∨ w.heap.size ≤ b) A1 n1 c1 A4 m4 c4 ⟨l1, trimL (D.past ++ [D.now])⟩ ∧ Below w.heap.size w w' := by
  have HLM := hid h.read.past.len
  have z1 : (w.alloc (.cells #[.slice A n c, .slice A2 m c2] 26)).heap.size = w.heap.size + 1 := by simp
  have g1 := grown_alloc (w.alloc (.cells #[.slice A n c, .slice A2 m c2] 26)) (.cells #[.slice none 0 0, .slice none 0 0] 26) none
  have X0 := (Db.new w (.slice A n c) (.slice A2 m c2)).on (row := none) g1 (by simp)
  have XR := Db.new (w.alloc (.cells #[.slice A n c, .slice A2 m c2] 26)) (.slice none 0 0) (.slice none 0 0)
  rw [z1] at XR
  have B0 := ((Below.refl w.heap.size w).alloc (Nat.le_refl _) (.cells #[.slice A n c, .slice A2 m c2] 26)).alloc (by simp) (.cells #[.slice none 0 0, .slice none 0 0] 26)
  obtain ⟨w0, e0⟩ : ∃ W, (w.alloc (.cells #[.slice A n c, .slice A2 m c2] 26)).alloc (.cells #[.slice none 0 0, .slice none 0 0] 26) = W := ⟨_, rfl⟩
  have hz0 : w0.heap.size = w.heap.size + 2 := by rw [← e0]; simp
  rw [e0] at X0 XR B0
  have c0 := X0.c0
  have c1' := X0.c1
  -- the one that was there, as a slice of one; the two, as a slice of two
  have B1 := B0.alloc (by omega) (.cells #[.slice A n c] 23)
  obtain ⟨w1, e1⟩ : ∃ W, w0.alloc (.cells #[.slice A n c] 23) = W := ⟨_, rfl⟩
  have hz1 : w1.heap.size = w.heap.size + 3 := by rw [← e1]; simp; omega
  have y2 : w1.cell? ⟨w0.heap.size, 0, none⟩ = some (.slice A n c) := by rw [← e1]; simp
  have DB1 : Below w0.heap.size w0 w1 := by rw [← e1]; exact (Below.refl _ _).alloc (Nat.le_refl _) _
  have DB2 := DB1.alloc (by omega) (.cells #[.slice A2 m c2, .slice (some ⟨w0.heap.size, 0, none⟩) 1 1] 24)
  have yq0 : (w1.alloc (.cells #[.slice A2 m c2, .slice (some ⟨w0.heap.size, 0, none⟩) 1 1] 24)).cell? ⟨w1.heap.size, 0, none⟩ = some (.slice A2 m c2) := by simp
  have yq1 : (w1.alloc (.cells #[.slice A2 m c2, .slice (some ⟨w0.heap.size, 0, none⟩) 1 1] 24)).cell? ⟨w1.heap.size, 1, none⟩ = some (.slice (some ⟨w0.heap.size, 0, none⟩) 1 1) := by simp
  have yq2 : (w1.alloc (.cells #[.slice A2 m c2, .slice (some ⟨w0.heap.size, 0, none⟩) 1 1] 24)).cell? ⟨w0.heap.size, 0, none⟩ = some (.slice A n c) := ((Below.refl w1.heap.size w1).alloc (Nat.le_refl _) (.cells #[.slice A2 m c2, .slice (some ⟨w0.heap.size, 0, none⟩) 1 1] 24)).cell (p := ⟨w0.heap.size, 0, none⟩) (show w0.heap.size < w1.heap.size by omega) |>.trans y2
  obtain ⟨w2, e2⟩ : ∃ W, w1.alloc (.cells #[.slice A2 m c2, .slice (some ⟨w0.heap.size, 0, none⟩) 1 1] 24) = W := ⟨_, rfl⟩
  have hz2 : w2.heap.size = w.heap.size + 4 := by rw [← e2]; simp; omega
  rw [e2] at yq0 yq1 yq2 DB2
  have B2 := B0.trans (DB2.mono (by omega))
  obtain ⟨vs, HOut0, HRows0⟩ := h.past
  have HOut := (HOut0.keep (W := w2) B2.size (fun p _ hp => B2.cell hp)).1
  have CC := hid (concatR_any w1.heap.size A2 m c2 w0.heap.size vs (.slice A n c) w2 (by omega) yq0 yq1 HOut (by omega) yq2 rfl HRows0.one h8)
  have HX0 := hid X0
  have HXR := hid (XR.below DB2 (by omega))
  have HB2 := hid B2
  have HRS := hid (HRows0.snoc h.now h.cap)
  have HS1 := hid hs1
  rw [hz1] at CC
  rw [hz0] at e2
  clear g1 X0 XR B0 B1 z1 h hs1 DB1 DB2 B2 HOut HOut0 HRows0 yq0 yq1 yq2 y2
  go_enter Try.func75, Try.ntmps75
  go_wp2_with fail
  with_reducible refine Calls.mono CC.out ?_
  rintro e w3 ⟨g, c3, rfl, o3, b3⟩
  have YR := HXR.out.below b3 (by omega)
  have r0 := YR.c0
  have r1 := YR.c1
  have f0 := YR.fz 0
  have f1 := YR.fz 1
  have HB3 := hid (HB2.out.trans (b3.mono (by omega)))
  have HO3 := hid o3
  have hgB := (o3.lt g rfl).1
  have HC3 := hid (own_capK o3)
  have hcc := own_capK o3
  have HYR := hid YR
  clear YR o3 b3
  by_cases h7 : m = 8
  · subst h7
    have wm : max (0 : Int) (((8 : Nat) : Int) + 1 - 8) = 1 := by decide
    have HT := hid (show trimL (D.past ++ [D.now]) = (D.past ++ [D.now]).drop 1 from by
      unfold trimL; rw [if_pos (by simp [HLM.out])])
    go_wp2
    (try simp only [Exit.inBlock, Exit.then])
    refine bodyPost_ret (results_cell_row rfl _ _ (w.heap.size + 1) 26 _ (0, 0) _ (by simp [Act.put]) (HYR.out.set _ _) Try.underlying26 rfl size_desk) rfl ?_
    have BQ := (HB3.out.setCell (p := ⟨w.heap.size + 1, 0, none⟩) (by simp) (.slice A1 n1 c1)).setCell (p := ⟨w.heap.size + 1, 1, none⟩) (by simp) (.slice (some ⟨g, 0 + 1, none⟩) (8 + 1 - 1) (c3 - 1))
    have DQ := ((Below.refl (w.heap.size + 1) w3).setCell (p := ⟨w.heap.size + 1, 0, none⟩) (by simp) (.slice A1 n1 c1)).setCell (p := ⟨w.heap.size + 1, 1, none⟩) (by simp) (.slice (some ⟨g, 0 + 1, none⟩) (8 + 1 - 1) (c3 - 1))
    refine ⟨_, _, _, rfl, ?_, BQ⟩
    rw [HT.out]
    have O5 := own_box (k := 1) (.slice (some ⟨g, 0 + 1, none⟩) (8 + 1 - 1) (c3 - 1)) (own_box (k := 0) (.slice A1 n1 c1) HO3.out (HYR.out.ne_row HO3.out)) ((HYR.out.set0 (.slice A1 n1 c1)).ne_row (own_box (k := 0) (.slice A1 n1 c1) HO3.out (HYR.out.ne_row HO3.out)))
    exact ⟨(HS1.out.on BQ).mono (fun b hb => .inl hb), ⟨_, OutQ.tail ⟨Out.of_own O5, fun _ => ⟨g, 0, rfl, .inr (by omega)⟩⟩, ((HRS.out.keep BQ.size (fun p _ hp => BQ.cell hp)).mono (fun b hb => .inl hb)).tail⟩, hcap1, by have := HC3.out; omega⟩
  · have hlt : m ≤ 7 := by omega
    have wm : max (0 : Int) ((m : Int) + 1 - 8) = 0 := by omega
    have w8 : IntKind.i64.wrap ((m : Int) + 1 - 8) = (m : Int) + 1 - 8 := IntWalk.i64_in _ (by omega)
    have HT := hid (show trimL (D.past ++ [D.now]) = D.past ++ [D.now] from by
      unfold trimL; rw [if_neg (by simp [HLM.out]; omega)])
    go_wp2
    (try simp only [Exit.inBlock, Exit.then])
    refine bodyPost_ret (results_cell_row rfl _ _ (w.heap.size + 1) 26 _ (0, 0) _ (by simp [Act.put]) (HYR.out.set _ _) Try.underlying26 rfl size_desk) rfl ?_
    have BQ := (HB3.out.setCell (p := ⟨w.heap.size + 1, 0, none⟩) (by simp) (.slice A1 n1 c1)).setCell (p := ⟨w.heap.size + 1, 1, none⟩) (by simp) (.slice (some ⟨g, 0, none⟩) (m + 1) c3)
    refine ⟨_, _, _, rfl, ?_, BQ⟩
    rw [HT.out]
    have O5 := own_box (k := 1) (.slice (some ⟨g, 0, none⟩) (m + 1) c3) (own_box (k := 0) (.slice A1 n1 c1) HO3.out (HYR.out.ne_row HO3.out)) ((HYR.out.set0 (.slice A1 n1 c1)).ne_row (own_box (k := 0) (.slice A1 n1 c1) HO3.out (HYR.out.ne_row HO3.out)))
    exact ⟨(HS1.out.on BQ).mono (fun b hb => .inl hb), ⟨_, ⟨Out.of_own O5, fun _ => ⟨g, 0, rfl, .inr (by omega)⟩⟩, (HRS.out.keep BQ.size (fun p _ hp => BQ.cell hp)).mono (fun b hb => .inl hb)⟩, hcap1, HC3.out⟩
end Go.Proofs.Ytkejcajboneniaa

namespace Go.Proofs.Ytkejcajboneniaa
open Go.RowKit
set_option linter.unusedVariables false
set_option linter.unusedSimpArgs false

theorem do_zero {D : Dk} {k N : Int} (h : deskOk D = true) (hk : placed k = false) (hN : N ≠ 0) : deskDo D (k, N) = (D, false) := by
  unfold deskDo
  rw [if_pos h, if_neg (by unfold undoB; simp [hN]), if_pos (by unfold stayB; rw [made_zero hk hN]; rfl)]
theorem do_six {D : Dk} (h : deskOk D = true) : deskDo D (6, 0) = (backL D, hasPast D) := by
  unfold deskDo backL hasPast
  rw [if_pos h]
  cases hp : D.past.isEmpty with
  | true => rw [if_neg (by unfold undoB; simp [hp]), if_pos (by unfold stayB madeL; simp)]; simp
  | false => rw [if_pos (by unfold undoB; simp [hp])]; simp
theorem do_none {D : Dk} {k N : Int} (h : deskOk D = true) (hk : k ≠ 6) (hm : (madeL D.now k N).isEmpty = true) : deskDo D (k, N) = (D, false) := by
  unfold deskDo
  rw [if_pos h, if_neg (by unfold undoB; simp [hk]), if_pos (by unfold stayB; rw [hm]; rfl)]
theorem do_same {D : Dk} {k N : Int} (h : deskOk D = true) (hk : k ≠ 6) (hm : madeL D.now k N = D.now) : deskDo D (k, N) = (D, false) := by
  unfold deskDo
  rw [if_pos h, if_neg (by unfold undoB; simp [hk]), if_pos (by unfold stayB; simp [hm])]
theorem do_new {D : Dk} {k N : Int} (h : deskOk D = true) (hk : k ≠ 6) (hm : (madeL D.now k N).isEmpty = false) (hne : madeL D.now k N ≠ D.now) : deskDo D (k, N) = (⟨madeL D.now k N, trimL (D.past ++ [D.now])⟩, true) := by
  unfold deskDo
  rw [if_pos h, if_neg (by unfold undoB; simp [hk]), if_neg (by unfold stayB; simp [hm, hne])]

set_option maxRecDepth 100000 in
set_option maxHeartbeats 3200000 in
theorem after_any (P : Nat → Prop) (A : Option Addr) (n c : Nat) (A2 : Option Addr) (m c2 : Nat) (D : Dk) (k N : Int) (w : World) (hq : DkQ w P A n c A2 m c2 D) (hok : deskOk D = true) :
    Calls Try.prog 58 #[dsk A n c A2 m c2, deed k N] w fun e w' => ∃ A3 n3 c3 A4 m4 c4, e = .returned (.tuple #[dsk A3 n3 c3 A4 m4 c4, .bool (deskDo D (k, N)).2]) ∧ DkQ w' (fun b => P b ∨ w.heap.size ≤ b) A3 n3 c3 A4 m4 c4 (deskDo D (k, N)).1 ∧ Below w.heap.size w w' := by
  have h := hq.read
  have HQ := hid (hq.here.mono (P' := fun b => (P b ∧ b < w.heap.size) ∨ w.heap.size + 3 ≤ b) (fun b hb => .inl hb))
  have HPP : ∀ b, ((P b ∧ b < w.heap.size) ∨ w.heap.size + 3 ≤ b) → (P b ∨ w.heap.size ≤ b) := fun b hb => hb.elim (fun h => .inl h.1) (fun h => .inr (by omega))
  replace HPP := hid HPP
  clear hq
  obtain ⟨hp, hnow, hlen⟩ := deskOk_iff.1 hok
  rw [h.past.len] at hlen
  have z1 : (w.alloc (.cells #[.slice A n c, .slice A2 m c2] 26)).heap.size = w.heap.size + 1 := by simp
  have z2 : ((w.alloc (.cells #[.slice A n c, .slice A2 m c2] 26)).alloc (.cells #[.int .i64 k, .int .i64 N] 45)).heap.size = w.heap.size + 2 := by simp
  have g1 := grown_alloc (w.alloc (.cells #[.slice A n c, .slice A2 m c2] 26)) (.cells #[.int .i64 k, .int .i64 N] 45) none
  have g2 := grown_alloc ((w.alloc (.cells #[.slice A n c, .slice A2 m c2] 26)).alloc (.cells #[.int .i64 k, .int .i64 N] 45)) (.cells #[.slice none 0 0, .slice none 0 0] 26) none
  have X0 := ((Db.new w (.slice A n c) (.slice A2 m c2)).on (row := none) g1 (by simp)).on (row := none) g2 (by simp)
  have XA := (g2.block (w.heap.size + 1) (by simp) (by simp)).trans (show ((w.alloc (.cells #[.slice A n c, .slice A2 m c2] 26)).alloc (.cells #[.int .i64 k, .int .i64 N] 45)).heap[w.heap.size + 1]? = some (.cells #[.int .i64 k, .int .i64 N] 45 (0, 0)) from by rw [← z1]; exact heap_alloc_new _ _)
  have XR := Db.new ((w.alloc (.cells #[.slice A n c, .slice A2 m c2] 26)).alloc (.cells #[.int .i64 k, .int .i64 N] 45)) (.slice none 0 0) (.slice none 0 0)
  rw [z2] at XR
  have B0 := (((Below.refl w.heap.size w).alloc (Nat.le_refl _) (.cells #[.slice A n c, .slice A2 m c2] 26)).alloc (by simp) (.cells #[.int .i64 k, .int .i64 N] 45)).alloc (by simp; omega) (.cells #[.slice none 0 0, .slice none 0 0] 26)
  obtain ⟨w0, e0⟩ : ∃ W, ((w.alloc (.cells #[.slice A n c, .slice A2 m c2] 26)).alloc (.cells #[.int .i64 k, .int .i64 N] 45)).alloc (.cells #[.slice none 0 0, .slice none 0 0] 26) = W := ⟨_, rfl⟩
  have hz0 : w0.heap.size = w.heap.size + 3 := by rw [← e0]; simp
  rw [e0] at X0 XA XR B0
  obtain ⟨a0, a1, _, _⟩ := pairCells XA
  have c0 := X0.c0
  have c1 := X0.c1
  have r0 := XR.c0
  have r1 := XR.c1
  have f0 := XR.fz 0
  have f1 := XR.fz 1
  have CN := hid (namesPlace_any k N w0)
  have HH := hid h
  have HX0 := hid X0
  have HXA := hid XA
  have HXR := hid XR
  have HB0 := hid B0
  have HOK := hid hok
  have HNW := hid hnow
  clear g1 g2 X0 XA XR B0 z1 z2 h hok hnow hp
  by_cases hN : N = 0
  · subst hN
    by_cases hk6 : k = 6
    · subst hk6
      have HV := hid (do_six HOK.out)
      have CB := hid (back_any _ A n c A2 m c2 D w0 (HQ.out.on HB0.out))
      go_enter Try.func58, Try.ntmps58
      go_wp2_with fail
      with_reducible refine Calls.mono CB.out ?_
      rintro e w5 ⟨A8, n8, c8, A9, m9, c9, rfl, d5, b5⟩
      have HDK := hid d5
      clear d5
      have Z0 := HX0.out.below b5 (by have := HX0.out.lt; omega)
      have ZA := (b5.block (w.heap.size + 1) (by omega)).trans HXA.out
      have ZR := HXR.out.below b5 (by have := HXR.out.lt; omega)
      obtain ⟨a0, a1, _, _⟩ := pairCells ZA
      have c0 := Z0.c0
      have c1 := Z0.c1
      have r0 := ZR.c0
      have r1 := ZR.c1
      have f0 := ZR.fz 0
      have f1 := ZR.fz 1
      have hzn := b5.size
      have HB_w5 := hid (HB0.out.trans (b5.mono (by omega)))
      have HX0_w5 := hid Z0
      have HXA_w5 := hid ZA
      have HXR_w5 := hid ZR
      clear Z0 ZA ZR b5
      go_wp2
      (try simp only [Exit.inBlock, Exit.then])
      refine bodyPost_ret (results_db rfl _ _ (w.heap.size + 2) 26 _ (0, 0) _ (by simp [Act.put]) (HXR_w5.out.set _ _) Try.underlying26 rfl size_desk) rfl ?_
      have BQ := (HB_w5.out.setCell (p := ⟨w.heap.size + 2, 0, none⟩) (by simp) (.slice A8 n8 c8)).setCell (p := ⟨w.heap.size + 2, 1, none⟩) (by simp) (.slice A9 m9 c9)
      have DQ := (HDK.out.put2 (b := w.heap.size + 2) (by omega) (.slice A8 n8 c8) (.slice A9 m9 c9)).mono HPP.out
      exact ⟨_, _, _, _, _, _, by rw [HV.out]; rfl, by rw [HV.out]; exact DQ, BQ⟩
    · have hN' : (0 : Int) = 0 ∨ placed k = true := .inl rfl
      have hk6' : (k == 6) = false := by simpa using hk6
      have CR := hid (ringAfter_any A n c D.now k 0 w0 (HH.out.now.on HB0.out) HH.out.cap HNW.out hN')
      obtain ⟨M, hM⟩ : ∃ M, madeL D.now k 0 = M := ⟨_, rfl⟩
      rw [hM] at CR
      cases hE : M.isEmpty with
      | true =>
        have HV := hid (do_none HOK.out hk6 (by rw [hM]; exact hE))
        rw [hE, Bool.not_true] at CR
        clear hE hM
        go_enter Try.func58, Try.ntmps58
        go_wp2_with fail
        with_reducible refine Calls.mono CR.out ?_
        rintro e w5 ⟨A5, m5, c5, rfl, o5, b5⟩
        have Z0 := HX0.out.below b5 (by have := HX0.out.lt; omega)
        have ZA := (b5.block (w.heap.size + 1) (by omega)).trans HXA.out
        have ZR := HXR.out.below b5 (by have := HXR.out.lt; omega)
        obtain ⟨a0, a1, _, _⟩ := pairCells ZA
        have c0 := Z0.c0
        have c1 := Z0.c1
        have r0 := ZR.c0
        have r1 := ZR.c1
        have f0 := ZR.fz 0
        have f1 := ZR.fz 1
        have hzn := b5.size
        have HB_w5 := hid (HB0.out.trans (b5.mono (by omega)))
        have HX0_w5 := hid Z0
        have HXA_w5 := hid ZA
        have HXR_w5 := hid ZR
        clear Z0 ZA ZR b5
        go_wp2
        (try simp only [Exit.inBlock, Exit.then])
        refine bodyPost_ret (results_db rfl _ _ (w.heap.size + 2) 26 _ (0, 0) _ (by simp [Act.put]) (HXR_w5.out.set _ _) Try.underlying26 rfl size_desk) rfl ?_
        have BQ := (HB_w5.out.setCell (p := ⟨w.heap.size + 2, 0, none⟩) (by simp) (.slice A n c)).setCell (p := ⟨w.heap.size + 2, 1, none⟩) (by simp) (.slice A2 m c2)
        exact ⟨_, _, _, _, _, _, by rw [HV.out]; rfl, by rw [HV.out]; exact (HQ.out.on BQ).mono HPP.out, BQ⟩
      | false =>
        rw [hE, Bool.not_false] at CR
        by_cases hEq : M = D.now
        · have HV := hid (do_same HOK.out hk6 (by rw [hM]; exact hEq))
          have HEQ := hid (show decide (M = D.now) = true from by simpa using hEq)
          clear hE hM hEq
          go_enter Try.func58, Try.ntmps58
          go_wp2_with fail
          with_reducible refine Calls.mono CR.out ?_
          rintro e w5 ⟨A5, m5, c5, rfl, o5, b5⟩
          have HS5 := hid (Sl.of_own o5)
          have HB5 := hid (HB0.out.trans (b5.mono (by omega)))
          have CE := hid (equal_any A5 m5 c5 M A n c D.now w5 HS5.out (HH.out.now.on HB5.out))
          rw [HEQ.out] at CE
          clear o5
          have Z0 := HX0.out.below b5 (by have := HX0.out.lt; omega)
          have ZA := (b5.block (w.heap.size + 1) (by omega)).trans HXA.out
          have ZR := HXR.out.below b5 (by have := HXR.out.lt; omega)
          obtain ⟨a0, a1, _, _⟩ := pairCells ZA
          have c0 := Z0.c0
          have c1 := Z0.c1
          have r0 := ZR.c0
          have r1 := ZR.c1
          have f0 := ZR.fz 0
          have f1 := ZR.fz 1
          have hzn := b5.size
          have HB_w5 := hid (HB0.out.trans (b5.mono (by omega)))
          have HX0_w5 := hid Z0
          have HXA_w5 := hid ZA
          have HXR_w5 := hid ZR
          clear Z0 ZA ZR b5
          go_wp2_with fail
          with_reducible refine Calls.mono CE.out ?_
          rintro e w6 ⟨rfl, b6⟩
          have Z0 := HX0_w5.out.below b6 (by have := HX0_w5.out.lt; omega)
          have ZA := (b6.block (w.heap.size + 1) (by omega)).trans HXA_w5.out
          have ZR := HXR_w5.out.below b6 (by have := HXR_w5.out.lt; omega)
          obtain ⟨a0, a1, _, _⟩ := pairCells ZA
          have c0 := Z0.c0
          have c1 := Z0.c1
          have r0 := ZR.c0
          have r1 := ZR.c1
          have f0 := ZR.fz 0
          have f1 := ZR.fz 1
          have hzn := b6.size
          have HB_w6 := hid (HB_w5.out.trans (b6.mono (by omega)))
          have HX0_w6 := hid Z0
          have HXA_w6 := hid ZA
          have HXR_w6 := hid ZR
          clear Z0 ZA ZR b6
          go_wp2
          (try simp only [Exit.inBlock, Exit.then])
          refine bodyPost_ret (results_db rfl _ _ (w.heap.size + 2) 26 _ (0, 0) _ (by simp [Act.put]) (HXR_w6.out.set _ _) Try.underlying26 rfl size_desk) rfl ?_
          have BQ := (HB_w6.out.setCell (p := ⟨w.heap.size + 2, 0, none⟩) (by simp) (.slice A n c)).setCell (p := ⟨w.heap.size + 2, 1, none⟩) (by simp) (.slice A2 m c2)
          exact ⟨_, _, _, _, _, _, by rw [HV.out]; rfl, by rw [HV.out]; exact (HQ.out.on BQ).mono HPP.out, BQ⟩
        · have HV := hid (do_new HOK.out hk6 (by rw [hM]; exact hE) (by rw [hM]; exact hEq))
          have HEQ := hid (show decide (M = D.now) = false from by simpa using hEq)
          have HM := hid hM
          rw [hM] at HV
          clear hE hM hEq
          go_enter Try.func58, Try.ntmps58
          go_wp2_with fail
          with_reducible refine Calls.mono CR.out ?_
          rintro e w5 ⟨A5, m5, c5, rfl, o5, b5⟩
          have HS5 := hid (Sl.of_own o5)
          have HSQ := hid (SlQ.of_own (P := fun b => (P b ∧ b < w.heap.size) ∨ w.heap.size + 3 ≤ b) o5 (fun b hb => .inr (by omega)))
          have HC5 := hid (own_capK o5)
          have HB5 := hid (HB0.out.trans (b5.mono (by omega)))
          have CE := hid (equal_any A5 m5 c5 M A n c D.now w5 HS5.out (HH.out.now.on HB5.out))
          rw [HEQ.out] at CE
          clear o5
          have Z0 := HX0.out.below b5 (by have := HX0.out.lt; omega)
          have ZA := (b5.block (w.heap.size + 1) (by omega)).trans HXA.out
          have ZR := HXR.out.below b5 (by have := HXR.out.lt; omega)
          obtain ⟨a0, a1, _, _⟩ := pairCells ZA
          have c0 := Z0.c0
          have c1 := Z0.c1
          have r0 := ZR.c0
          have r1 := ZR.c1
          have f0 := ZR.fz 0
          have f1 := ZR.fz 1
          have hzn := b5.size
          have HB_w5 := hid (HB0.out.trans (b5.mono (by omega)))
          have HX0_w5 := hid Z0
          have HXA_w5 := hid ZA
          have HXR_w5 := hid ZR
          clear Z0 ZA ZR b5
          go_wp2_with fail
          with_reducible refine Calls.mono CE.out ?_
          rintro e w6 ⟨rfl, b6⟩
          have CM := hid (moved_any _ A n c A2 m c2 D A5 m5 c5 M w6 (HQ.out.on (HB_w5.out.trans (b6.mono HB_w5.out.size))) (HSQ.out.on b6) HC5.out hlen)
          have hz6 : w.heap.size + 3 ≤ w6.heap.size := by have := HB_w5.out.size; have := b6.size; omega
          have Z0 := HX0_w5.out.below b6 (by have := HX0_w5.out.lt; omega)
          have ZA := (b6.block (w.heap.size + 1) (by omega)).trans HXA_w5.out
          have ZR := HXR_w5.out.below b6 (by have := HXR_w5.out.lt; omega)
          obtain ⟨a0, a1, _, _⟩ := pairCells ZA
          have c0 := Z0.c0
          have c1 := Z0.c1
          have r0 := ZR.c0
          have r1 := ZR.c1
          have f0 := ZR.fz 0
          have f1 := ZR.fz 1
          have hzn := b6.size
          have HB_w6 := hid (HB_w5.out.trans (b6.mono (by omega)))
          have HX0_w6 := hid Z0
          have HXA_w6 := hid ZA
          have HXR_w6 := hid ZR
          clear Z0 ZA ZR b6
          go_wp2_with fail
          with_reducible refine Calls.mono CM.out ?_
          rintro e w7 ⟨A9, m9, c9, rfl, d7, b7⟩
          have HDK := hid (d7.mono (P' := fun b => (P b ∧ b < w.heap.size) ∨ w.heap.size + 3 ≤ b) (fun b hb => hb.elim id (fun h => .inr (by omega))))
          clear d7
          have Z0 := HX0_w6.out.below b7 (by have := HX0_w6.out.lt; omega)
          have ZA := (b7.block (w.heap.size + 1) (by omega)).trans HXA_w6.out
          have ZR := HXR_w6.out.below b7 (by have := HXR_w6.out.lt; omega)
          obtain ⟨a0, a1, _, _⟩ := pairCells ZA
          have c0 := Z0.c0
          have c1 := Z0.c1
          have r0 := ZR.c0
          have r1 := ZR.c1
          have f0 := ZR.fz 0
          have f1 := ZR.fz 1
          have hzn := b7.size
          have HB_w7 := hid (HB_w6.out.trans (b7.mono (by omega)))
          have HX0_w7 := hid Z0
          have HXA_w7 := hid ZA
          have HXR_w7 := hid ZR
          clear Z0 ZA ZR b7
          go_wp2
          (try simp only [Exit.inBlock, Exit.then])
          refine bodyPost_ret (results_db rfl _ _ (w.heap.size + 2) 26 _ (0, 0) _ (by simp [Act.put]) (HXR_w7.out.set _ _) Try.underlying26 rfl size_desk) rfl ?_
          have BQ := (HB_w7.out.setCell (p := ⟨w.heap.size + 2, 0, none⟩) (by simp) (.slice A5 m5 c5)).setCell (p := ⟨w.heap.size + 2, 1, none⟩) (by simp) (.slice A9 m9 c9)
          have DQ := (HDK.out.put2 (b := w.heap.size + 2) (by omega) (.slice A5 m5 c5) (.slice A9 m9 c9)).mono HPP.out
          exact ⟨_, _, _, _, _, _, by rw [HV.out]; rfl, by rw [HV.out]; exact DQ, BQ⟩
  · have hN0 : (N == 0) = false := by simpa using hN
    have hN1 : (N != 0) = true := by simpa using hN
    cases hpl : placed k with
    | false =>
      have HV := hid (do_zero HOK.out hpl hN)
      rw [hpl] at CN
      clear hpl
      go_enter Try.func58, Try.ntmps58
      go_wp2_with fail
      with_reducible refine Calls.mono CN.out ?_
      rintro e w4 ⟨rfl, b4⟩
      have Z0 := HX0.out.below b4 (by have := HX0.out.lt; omega)
      have ZA := (b4.block (w.heap.size + 1) (by omega)).trans HXA.out
      have ZR := HXR.out.below b4 (by have := HXR.out.lt; omega)
      obtain ⟨a0, a1, _, _⟩ := pairCells ZA
      have c0 := Z0.c0
      have c1 := Z0.c1
      have r0 := ZR.c0
      have r1 := ZR.c1
      have f0 := ZR.fz 0
      have f1 := ZR.fz 1
      have hzn := b4.size
      have HB_w4 := hid (HB0.out.trans (b4.mono (by omega)))
      have HX0_w4 := hid Z0
      have HXA_w4 := hid ZA
      have HXR_w4 := hid ZR
      clear Z0 ZA ZR b4
      go_wp2
      (try simp only [Exit.inBlock, Exit.then])
      refine bodyPost_ret (results_db rfl _ _ (w.heap.size + 2) 26 _ (0, 0) _ (by simp [Act.put]) (HXR_w4.out.set _ _) Try.underlying26 rfl size_desk) rfl ?_
      have BQ := (HB_w4.out.setCell (p := ⟨w.heap.size + 2, 0, none⟩) (by simp) (.slice A n c)).setCell (p := ⟨w.heap.size + 2, 1, none⟩) (by simp) (.slice A2 m c2)
      exact ⟨_, _, _, _, _, _, by rw [HV.out]; rfl, by rw [HV.out]; exact (HQ.out.on BQ).mono HPP.out, BQ⟩
    | true =>
      have hk6 : k ≠ 6 := by rintro rfl; revert hpl; decide
      have hN' : N = 0 ∨ placed k = true := .inr hpl
      have hk6' : (k == 6) = false := by simpa using hk6
      rw [hpl] at CN
      clear hpl
      go_enter Try.func58, Try.ntmps58
      go_wp2_with fail
      with_reducible refine Calls.mono CN.out ?_
      rintro e w4 ⟨rfl, b4⟩
      have Z0 := HX0.out.below b4 (by have := HX0.out.lt; omega)
      have ZA := (b4.block (w.heap.size + 1) (by omega)).trans HXA.out
      have ZR := HXR.out.below b4 (by have := HXR.out.lt; omega)
      obtain ⟨a0, a1, _, _⟩ := pairCells ZA
      have c0 := Z0.c0
      have c1 := Z0.c1
      have r0 := ZR.c0
      have r1 := ZR.c1
      have f0 := ZR.fz 0
      have f1 := ZR.fz 1
      have hzn := b4.size
      have HB_w4 := hid (HB0.out.trans (b4.mono (by omega)))
      have HX0_w4 := hid Z0
      have HXA_w4 := hid ZA
      have HXR_w4 := hid ZR
      clear Z0 ZA ZR b4
      have CR := hid (ringAfter_any A n c D.now k N w4 (HH.out.now.on HB_w4.out) HH.out.cap HNW.out hN')
      obtain ⟨M, hM⟩ : ∃ M, madeL D.now k N = M := ⟨_, rfl⟩
      rw [hM] at CR
      cases hE : M.isEmpty with
      | true =>
        have HV := hid (do_none HOK.out hk6 (by rw [hM]; exact hE))
        rw [hE, Bool.not_true] at CR
        clear hE hM
        go_wp2_with fail
        with_reducible refine Calls.mono CR.out ?_
        rintro e w5 ⟨A5, m5, c5, rfl, o5, b5⟩
        have Z0 := HX0_w4.out.below b5 (by have := HX0_w4.out.lt; omega)
        have ZA := (b5.block (w.heap.size + 1) (by omega)).trans HXA_w4.out
        have ZR := HXR_w4.out.below b5 (by have := HXR_w4.out.lt; omega)
        obtain ⟨a0, a1, _, _⟩ := pairCells ZA
        have c0 := Z0.c0
        have c1 := Z0.c1
        have r0 := ZR.c0
        have r1 := ZR.c1
        have f0 := ZR.fz 0
        have f1 := ZR.fz 1
        have hzn := b5.size
        have HB_w5 := hid (HB_w4.out.trans (b5.mono (by omega)))
        have HX0_w5 := hid Z0
        have HXA_w5 := hid ZA
        have HXR_w5 := hid ZR
        clear Z0 ZA ZR b5
        go_wp2
        (try simp only [Exit.inBlock, Exit.then])
        refine bodyPost_ret (results_db rfl _ _ (w.heap.size + 2) 26 _ (0, 0) _ (by simp [Act.put]) (HXR_w5.out.set _ _) Try.underlying26 rfl size_desk) rfl ?_
        have BQ := (HB_w5.out.setCell (p := ⟨w.heap.size + 2, 0, none⟩) (by simp) (.slice A n c)).setCell (p := ⟨w.heap.size + 2, 1, none⟩) (by simp) (.slice A2 m c2)
        exact ⟨_, _, _, _, _, _, by rw [HV.out]; rfl, by rw [HV.out]; exact (HQ.out.on BQ).mono HPP.out, BQ⟩
      | false =>
        rw [hE, Bool.not_false] at CR
        by_cases hEq : M = D.now
        · have HV := hid (do_same HOK.out hk6 (by rw [hM]; exact hEq))
          have HEQ := hid (show decide (M = D.now) = true from by simpa using hEq)
          clear hE hM hEq
          go_wp2_with fail
          with_reducible refine Calls.mono CR.out ?_
          rintro e w5 ⟨A5, m5, c5, rfl, o5, b5⟩
          have HS5 := hid (Sl.of_own o5)
          have HB5 := hid (HB_w4.out.trans (b5.mono (by omega)))
          have CE := hid (equal_any A5 m5 c5 M A n c D.now w5 HS5.out (HH.out.now.on HB5.out))
          rw [HEQ.out] at CE
          clear o5
          have Z0 := HX0_w4.out.below b5 (by have := HX0_w4.out.lt; omega)
          have ZA := (b5.block (w.heap.size + 1) (by omega)).trans HXA_w4.out
          have ZR := HXR_w4.out.below b5 (by have := HXR_w4.out.lt; omega)
          obtain ⟨a0, a1, _, _⟩ := pairCells ZA
          have c0 := Z0.c0
          have c1 := Z0.c1
          have r0 := ZR.c0
          have r1 := ZR.c1
          have f0 := ZR.fz 0
          have f1 := ZR.fz 1
          have hzn := b5.size
          have HB_w5 := hid (HB_w4.out.trans (b5.mono (by omega)))
          have HX0_w5 := hid Z0
          have HXA_w5 := hid ZA
          have HXR_w5 := hid ZR
          clear Z0 ZA ZR b5
          go_wp2_with fail
          with_reducible refine Calls.mono CE.out ?_
          rintro e w6 ⟨rfl, b6⟩
          have Z0 := HX0_w5.out.below b6 (by have := HX0_w5.out.lt; omega)
          have ZA := (b6.block (w.heap.size + 1) (by omega)).trans HXA_w5.out
          have ZR := HXR_w5.out.below b6 (by have := HXR_w5.out.lt; omega)
          obtain ⟨a0, a1, _, _⟩ := pairCells ZA
          have c0 := Z0.c0
          have c1 := Z0.c1
          have r0 := ZR.c0
          have r1 := ZR.c1
          have f0 := ZR.fz 0
          have f1 := ZR.fz 1
          have hzn := b6.size
          have HB_w6 := hid (HB_w5.out.trans (b6.mono (by omega)))
          have HX0_w6 := hid Z0
          have HXA_w6 := hid ZA
          have HXR_w6 := hid ZR
          clear Z0 ZA ZR b6
          go_wp2
          (try simp only [Exit.inBlock, Exit.then])
          refine bodyPost_ret (results_db rfl _ _ (w.heap.size + 2) 26 _ (0, 0) _ (by simp [Act.put]) (HXR_w6.out.set _ _) Try.underlying26 rfl size_desk) rfl ?_
          have BQ := (HB_w6.out.setCell (p := ⟨w.heap.size + 2, 0, none⟩) (by simp) (.slice A n c)).setCell (p := ⟨w.heap.size + 2, 1, none⟩) (by simp) (.slice A2 m c2)
          exact ⟨_, _, _, _, _, _, by rw [HV.out]; rfl, by rw [HV.out]; exact (HQ.out.on BQ).mono HPP.out, BQ⟩
        · have HV := hid (do_new HOK.out hk6 (by rw [hM]; exact hE) (by rw [hM]; exact hEq))
          have HEQ := hid (show decide (M = D.now) = false from by simpa using hEq)
          have HM := hid hM
          rw [hM] at HV
          clear hE hM hEq
          go_wp2_with fail
          with_reducible refine Calls.mono CR.out ?_
          rintro e w5 ⟨A5, m5, c5, rfl, o5, b5⟩
          have HS5 := hid (Sl.of_own o5)
          have HSQ := hid (SlQ.of_own (P := fun b => (P b ∧ b < w.heap.size) ∨ w.heap.size + 3 ≤ b) o5 (fun b hb => .inr (by omega)))
          have HC5 := hid (own_capK o5)
          have HB5 := hid (HB_w4.out.trans (b5.mono (by omega)))
          have CE := hid (equal_any A5 m5 c5 M A n c D.now w5 HS5.out (HH.out.now.on HB5.out))
          rw [HEQ.out] at CE
          clear o5
          have Z0 := HX0_w4.out.below b5 (by have := HX0_w4.out.lt; omega)
          have ZA := (b5.block (w.heap.size + 1) (by omega)).trans HXA_w4.out
          have ZR := HXR_w4.out.below b5 (by have := HXR_w4.out.lt; omega)
          obtain ⟨a0, a1, _, _⟩ := pairCells ZA
          have c0 := Z0.c0
          have c1 := Z0.c1
          have r0 := ZR.c0
          have r1 := ZR.c1
          have f0 := ZR.fz 0
          have f1 := ZR.fz 1
          have hzn := b5.size
          have HB_w5 := hid (HB_w4.out.trans (b5.mono (by omega)))
          have HX0_w5 := hid Z0
          have HXA_w5 := hid ZA
          have HXR_w5 := hid ZR
          clear Z0 ZA ZR b5
          go_wp2_with fail
          with_reducible refine Calls.mono CE.out ?_
          rintro e w6 ⟨rfl, b6⟩
          have CM := hid (moved_any _ A n c A2 m c2 D A5 m5 c5 M w6 (HQ.out.on (HB_w5.out.trans (b6.mono HB_w5.out.size))) (HSQ.out.on b6) HC5.out hlen)
          have hz6 : w.heap.size + 3 ≤ w6.heap.size := by have := HB_w5.out.size; have := b6.size; omega
          have Z0 := HX0_w5.out.below b6 (by have := HX0_w5.out.lt; omega)
          have ZA := (b6.block (w.heap.size + 1) (by omega)).trans HXA_w5.out
          have ZR := HXR_w5.out.below b6 (by have := HXR_w5.out.lt; omega)
          obtain ⟨a0, a1, _, _⟩ := pairCells ZA
          have c0 := Z0.c0
          have c1 := Z0.c1
          have r0 := ZR.c0
          have r1 := ZR.c1
          have f0 := ZR.fz 0
          have f1 := ZR.fz 1
          have hzn := b6.size
          have HB_w6 := hid (HB_w5.out.trans (b6.mono (by omega)))
          have HX0_w6 := hid Z0
          have HXA_w6 := hid ZA
          have HXR_w6 := hid ZR
          clear Z0 ZA ZR b6
          go_wp2_with fail
          with_reducible refine Calls.mono CM.out ?_
          rintro e w7 ⟨A9, m9, c9, rfl, d7, b7⟩
          have HDK := hid (d7.mono (P' := fun b => (P b ∧ b < w.heap.size) ∨ w.heap.size + 3 ≤ b) (fun b hb => hb.elim id (fun h => .inr (by omega))))
          clear d7
          have Z0 := HX0_w6.out.below b7 (by have := HX0_w6.out.lt; omega)
          have ZA := (b7.block (w.heap.size + 1) (by omega)).trans HXA_w6.out
          have ZR := HXR_w6.out.below b7 (by have := HXR_w6.out.lt; omega)
          obtain ⟨a0, a1, _, _⟩ := pairCells ZA
          have c0 := Z0.c0
          have c1 := Z0.c1
          have r0 := ZR.c0
          have r1 := ZR.c1
          have f0 := ZR.fz 0
          have f1 := ZR.fz 1
          have hzn := b7.size
          have HB_w7 := hid (HB_w6.out.trans (b7.mono (by omega)))
          have HX0_w7 := hid Z0
          have HXA_w7 := hid ZA
          have HXR_w7 := hid ZR
          clear Z0 ZA ZR b7
          go_wp2
          (try simp only [Exit.inBlock, Exit.then])
          refine bodyPost_ret (results_db rfl _ _ (w.heap.size + 2) 26 _ (0, 0) _ (by simp [Act.put]) (HXR_w7.out.set _ _) Try.underlying26 rfl size_desk) rfl ?_
          have BQ := (HB_w7.out.setCell (p := ⟨w.heap.size + 2, 0, none⟩) (by simp) (.slice A5 m5 c5)).setCell (p := ⟨w.heap.size + 2, 1, none⟩) (by simp) (.slice A9 m9 c9)
          have DQ := (HDK.out.put2 (b := w.heap.size + 2) (by omega) (.slice A5 m5 c5) (.slice A9 m9 c9)).mono HPP.out
          exact ⟨_, _, _, _, _, _, by rw [HV.out]; rfl, by rw [HV.out]; exact DQ, BQ⟩
end Go.Proofs.Ytkejcajboneniaa
