/-
  Texts put together: K12h K12p K12q. No statement is proved here.
-/
import Derived.Test.YtkejcajboneniabGreatDoorQK12c
import Derived.Test.YtkejcajboneniabGreatDoorQMs
import Derived.Test.YtkejcajboneniabGreatDoorQMa
import Derived.BigQuiet
import Derived.Lib.SliceRun
import Derived.Deep.QuietTactic
import Derived.Lib.AppendZerosOnto
import Derived.Deep.RegionHeld3
import Derived.Laws.AppendOwnNone
import Derived.Test.YtkejcajboneniabGreatDoorQMn
set_option linter.unusedVariables false
set_option linter.unusedSimpArgs false
namespace Go.Proofs.YtkejcajboneniabGreatDoor
open Go.RowKit

set_option maxRecDepth 100000 in
set_option maxHeartbeats 800000 in
/-- A copy of a slice of ints that is not empty. -/
theorem clone_any (A : Option Addr) (n c : Nat) (l : List Int) (w : World) (hs : Sl w w.heap.size A n l) (h1 : 1 ≤ n) (h16 : n ≤ 16) :
    Calls Tryz.prog 99 #[.slice A n c] w fun e w' => ∃ g c2, e = .returned (.slice (some ⟨g, 0, none⟩) n c2) ∧ w'.ownsRow w.heap.size 3 1 (.slice (some ⟨g, 0, none⟩) n c2) n (ints l) ∧ Below w.heap.size w w' := by
  obtain ⟨i0, hi, hz0, hz1, hz2⟩ := info_parts info_int
  have q22 : ∀ (w : World) (a : Option Addr) (n c n' c' : Nat), (binOp .eql 28 (.slice a n c) (.slice none n' c')).run Tryz.prog w = .ok (.bool a.isNone) w := fun w a n c n' c' => Lib.run_eql_slice_nil w _ _ a n c n' c' Tryz.underlying28
  have HL := hid hs.len
  obtain ⟨bl, off, rfl, hbl, -⟩ := hs.2.2 (by omega)
  have hB := (Below.refl w.heap.size w).alloc (Nat.le_refl _) (.cells #[] 3)
  have CL := World.ownsRow_lit (base := w.heap.size) (e := 3) (size := 1) w #[] 0 (Nat.le_refl _) (by simp [maxLen]) rfl
  rw [show (#[] : Array Value).toList = ints [] from rfl] at CL
  have HB := hid hB
  have HC := hid (hs.on hB).cellsAt
  have hbw := hB.size
  clear hB hs
  go_enter Tryz.func99, Tryz.ntmps99
  go_wp2_with (at_builtin; refine wpList_append_own _ rfl _ _ 28 rfl w.heap.size 3 i0 (.int .i64 0) 1 8 Tryz.underlying28 hi hz0 hz1 hz2 rfl (by decide) (.slice (some ⟨w.heap.size, 0, none⟩) 0 0) _ _ rfl CL ⟨bl, off, none⟩ n c (ints l) rfl (by rw [List.length_map, HL.out, Nat.mul_one]) HC.out (ints_one l) (by simp only [maxLen]; omega) (by omega) hbw ?_; intro v2 w3 o3 g3 _; rw [Nat.zero_add, show ints [] ++ ints l = ints l from rfl] at o3; obtain ⟨gA, cA, rfl, hbA, hltA⟩ := own_shape1 o3 (by omega); have O3 := hid o3; have B3 := hid (HB.out.grown g3 hbw (by intro j hj; simp [Value.ownBlock] at hj; omega)); clear o3 g3)
  go_ret
  exact ⟨gA, cA, rfl, O3.out, B3.out⟩

set_option maxRecDepth 100000 in
set_option maxHeartbeats 1600000 in
theorem equalN_any (A A2 : Option Addr) (n c n2 c2 : Nat) (l l2 : List Int) (w : World) (B B2 : Nat) (hs : Sl w B A n l) (hs2 : Sl w B2 A2 n2 l2) :
    Calls Tryz.prog 103 #[.slice A n c, .slice A2 n2 c2] w fun e w' => e = .returned (.bool (decide (l = l2))) ∧ ∃ m, w' = w.drewN m := by
  have hm := hs.max
  have hm2 := hs2.max
  have hl := hs.len
  have hl2 := hs2.len
  by_cases hne : n = n2
  · subst hne
    have HL := hid hl; clear hl
    have HL2 := hid hl2; clear hl2
    have e1 : ((n : Int) != (n : Int)) = false := by simp
    go_enter Tryz.func103, Tryz.ntmps103
    go_wp2
    go_loopw [13] (fun i wr => ∃ k m : Nat, k ≤ n ∧ i = .int .i64 k ∧ wr = w.drewN m ∧ l.take k = l2.take k) (fun i _ => n - (intOf i).toNat)
    case atStart => exact ⟨0, 0, Nat.zero_le _, rfl, rfl, rfl⟩
    case round =>
      obtain ⟨k, m, hk, rfl, rfl, htk⟩ := hrel
      have HT := hid htk; clear htk
      by_cases hlt : k < n
      · obtain ⟨b, off, rfl, _, hc⟩ := hs.2.2 (by omega)
        obtain ⟨b2, off2, rfl, _, hc2⟩ := hs2.2.2 (by omega)
        have hck := hc k hlt
        have hck2 := hc2 k hlt
        clear hc hc2
        have hlti : (k : Int) < (n : Int) := by omega
        have t1 := take_nth (l := l) (k := k) (by rw [HL.out]; exact hlt)
        have t2 := take_nth (l := l2) (k := k) (by rw [HL2.out]; exact hlt)
        have T1 := hid t1; clear t1
        have T2 := hid t2; clear t2
        by_cases heq : nth l k = nth l2 k
        · have HE := hid heq
          have heb : (nth l k != nth l2 k) = false := by simp [heq]
          have heb2 : (nth l k == nth l2 k) = true := by simp [heq]
          clear heq
          go_wp2
          go_quiet (fail)
          go_wp2
          go_roundw
          case rel => exact ⟨k + 1, _, by omega, by go_num, rfl, by rw [T1.out, T2.out, HT.out, HE.out]⟩
          case measure => simp [intOf]; omega
        · have heb : (nth l k != nth l2 k) = true := by simp [heq]
          have heb2 : (nth l k == nth l2 k) = false := by simp [heq]
          have HE := hid heq; clear heq
          go_wp2
          go_quiet (fail)
          go_wp2
          go_ret
          refine ⟨ret_bool ?_, _, World.drewN_drewN _ _ _⟩
          symm
          rw [decide_eq_false_iff_not]
          rintro rfl
          exact HE.out rfl
      · go_wp2
        go_ret
        refine ⟨ret_bool ?_, _, rfl⟩
        symm
        rw [decide_eq_true_iff]
        have := HT.out
        rwa [List.take_of_length_le (by rw [HL.out]; omega), List.take_of_length_le (by rw [HL2.out]; omega)] at this
  · have e1 : ((n : Int) != (n2 : Int)) = true := by simp; omega
    have e2 : ((n : Int) == (n2 : Int)) = false := by simp; omega
    have hfin : decide (l = l2) = false := by
      rw [decide_eq_false_iff_not]
      rintro rfl
      omega
    have HF := hid hfin; clear hfin hl hl2 hne
    go_enter Tryz.func103, Tryz.ntmps103
    go_wp2
    go_ret
    exact ⟨ret_bool HF.out.symm, 0, rfl⟩
theorem equal_any (A : Option Addr) (n c : Nat) (l : List Int) (A1 : Option Addr) (n1 c1 : Nat) (m : List Int) (w : World) (hs : Sl w w.heap.size A n l) (hs1 : Sl w w.heap.size A1 n1 m) :
    Calls Tryz.prog 103 #[.slice A n c, .slice A1 n1 c1] w fun e w' => e = .returned (.bool (decide (l = m))) ∧ Below w.heap.size w w' :=
  (equalN_any A A1 n c n1 c1 l m w _ _ hs hs1).mono fun e w' ⟨h, m, hm⟩ => ⟨h, hm ▸ below_drewN (Below.refl _ _) m⟩

set_option maxHeartbeats 800000 in
theorem flippedAt_any (A : Option Addr) (n c : Nat) (l : List Int) (F : Nat) (w : World) (hs : Sl w w.heap.size A n l) (hF : F < n) (h16 : n ≤ 16) (hb : ∀ x ∈ l, x = 0 ∨ x = 1) :
    Calls Tryz.prog 122 #[.slice A n c, .int .i64 F] w fun e w' => ∃ A2 c2, e = .returned (.slice A2 n c2) ∧ w'.ownsRow w.heap.size 3 1 (.slice A2 n c2) n (ints (flipL l F)) ∧ Below w.heap.size w w' := by
  have HL := hid hs.len
  have CC := hid (clone_any A n c l w hs (by omega) h16)
  have HB := hid (bit_nth hb F)
  clear hs hb
  have p0 : (0 : Int) ≤ (F : Int) := by omega
  have p1 : (F : Int) < (n : Int) := by omega
  obtain ⟨x, hx⟩ : ∃ x, nth l F = x := ⟨_, rfl⟩
  rw [hx] at HB
  have HX := hid hx
  have hxx := HB.out
  have wx : IntKind.i64.wrap (1 - x) = 1 - x := IntWalk.i64_in _ (by omega)
  clear hx hxx
  go_enter Tryz.func122, Tryz.ntmps122
  go_wp2_with fail
  with_reducible refine Calls.mono CC.out ?_
  rintro e w1 ⟨g, c2, rfl, o1, b1⟩
  have hlt := own_hi o1 g rfl
  have hc := o1.cellAt F (by omega)
  have hf := o1.frozenAt F
  obtain ⟨o2, g2⟩ := o1.stored F (.int .i64 (1 - x))
  have hg := o1.lt g rfl
  rw [show (ints l)[F]? = some (.int .i64 x) from by rw [← HX.out]; simp [ints, nth, List.getD, List.getElem?_eq_getElem (show F < l.length by rw [HL.out]; exact hF)]] at hc
  have HO := hid (show (w1.setCell ⟨g, F, none⟩ (.int .i64 (1 - x))).ownsRow w.heap.size 3 1 (.slice (some ⟨g, 0, none⟩) n c2) n (ints (flipL l F)) from by
    unfold flipL
    rw [HX.out, show ints (l.set F (1 - x)) = (ints l).set F (.int .i64 (1 - x)) from by simp [ints, List.map_set]]
    exact o2)
  have HB1 := hid (b1.grown g2 b1.size (by intro j hj; simp [Value.ownBlock] at hj; omega))
  clear o1 o2 g2 b1
  go_wp2
  go_ret
  exact ⟨_, _, rfl, HO.out, HB1.out⟩
end Go.Proofs.YtkejcajboneniabGreatDoor
namespace Go.Proofs.YtkejcajboneniabGreatDoor
open Go.RowKit

theorem wpList_append_zerosK {P : Program} (w : World) {ops : Array Oper} {rest : List Oper} {o : Oper} {a : Act} {Q : Exit → Act → World → Prop} (hgd : o.guard = none) (s x : Operand) (t tn : TypeId)
    (ho : o.op = .call { callee := .builtin .append, args := #[s, x], argTypes := #[t, tn] })
    (e : TypeId) (i : TypeInfo) (z : Value) (kn : IntKind) (ht : P.underlying t = some (.slice e)) (htn : P.underlying tn = some (.int kn)) (hi : P.info? e = some i) (hz : i.zero = some z)
    (hs1 : i.size = 1) (hzc : z.cells = #[z]) (k : Nat) (kq : IntKind) (K : Int) (hs : a.eval s = .slice none 0 0) (hx : a.eval x = .int kq K) (hK : K = k) (h0 : 0 < k) (hk : k ≤ 1000000) (hb : i.bytes ≤ 1000)
    (h : ∀ c w', (∃ cur, w'.heap[w.heap.size]? = some (.cells cur e (0, 0)) ∧ cur.size = c) → k ≤ c → c ≤ maxLen → w.grownBy w' none → wpList P ops Q rest (a.put o.dst (.slice (some ⟨w.heap.size, 0, none⟩) k c)) w') : wpList P ops Q (o :: rest) a w := by
  refine wpList_plain hgd fun _ hKK => ?_
  subst hK
  have hold : (Builtin.firstCells i.size 0 (.slice none 0 0)).run P w.drew = .ok #[] w.drew := run_firstCells_none w.drew i.size 0 0 0
  have hmul : k * i.bytes ≤ 1000000 * 1000 := Nat.mul_le_mul hk hb
  have hr := Lib.run_append_grow_zeros (P := P) w t tn o.type e i z kq kn ht htn hi hz none 0 0 [] hold k h0 (by omega) (by omega) (by omega) (by omega) (growslice_fits (by omega) (by rw [Nat.zero_add]; omega))
  rw [Nat.zero_add] at hr
  unfold Oper.wp execOp
  simp only [ho, resolve, invoke, builtin, Sem.run_bind, Sem.run_pure, Result.andThen_ok, List.map_toArray, List.map_cons, List.map_nil, hs, hx, hr]
  refine hKK _ _ (h _ _ ⟨_, heap_alloc_new w.drew _, ?_⟩ (grownCap_ge w k 0 e) (grownCap_le_maxLen w k 0 e (by simp only [maxLen]; omega)) ⟨rfl, rfl, rfl, by simp, fun j hj _ => Below.heap_alloc w.drew _ j hj⟩)
  have := grownCap_ge w k 0 e
  simp only [Array.size_append, List.size_toArray, size_zeroCells, hzc]
  simp
  omega

set_option maxRecDepth 100000 in
set_option maxHeartbeats 800000 in
theorem growK_any (k : Nat) (w : World) (h1 : 1 ≤ k) (hk : k ≤ 16) :
    Calls Tryz.prog 194 #[.slice none 0 0, .int .i64 k] w fun e w' => ∃ c, e = .returned (.slice (some ⟨w.heap.size, 0, none⟩) 0 c) ∧ k ≤ c ∧ w'.ownsRow w.heap.size 3 1 (.slice (some ⟨w.heap.size, 0, none⟩) 0 c) 0 (ints []) ∧ Below w.heap.size w w' := by
  obtain ⟨i0, hi, hz0, hz1, hz2⟩ := info_parts info_int
  have q1 : ¬ ((k : Int) < 0) := by omega
  have q2 : (0 : Int) < (k : Int) := by omega
  go_enter Tryz.func194, Tryz.ntmps194
  go_wp2_with (at_builtin; refine wpList_append_zerosK _ rfl _ _ 28 3 rfl 3 i0 (.int .i64 0) .i64 Tryz.underlying28 Tryz.underlying3 hi hz0 hz1 rfl k .i64 _ rfl rfl rfl (by omega) (by omega) (by omega) ?_; intro c w2 hcur hkc hcm g2)
  go_ret
  obtain ⟨cur, hcur, hcs⟩ := hcur
  exact ⟨c, rfl, hkc, ⟨by simp [ints], .inr ⟨w.heap.size, c, cur, rfl, Nat.le_refl _, hcur, by omega, hcm, by omega, by simp [ints]⟩⟩, below_grown g2⟩

set_option maxRecDepth 100000 in
set_option maxHeartbeats 3200000 in
/-- Two slices of ints, one behind the other, in memory of its own. -/
theorem concatK_any (q b1 f1 b2 f2 : Nat) (n1 c1 n2 c2 : Nat) (m zs : List Int) (w : World) (hq : q < w.heap.size) (y0 : w.cell? ⟨q, 0, none⟩ = some (.slice (some ⟨b1, f1, none⟩) n1 c1)) (y1 : w.cell? ⟨q, 1, none⟩ = some (.slice (some ⟨b2, f2, none⟩) n2 c2))
    (hs1 : Sl w w.heap.size (some ⟨b1, f1, none⟩) n1 m) (hs2 : Sl w w.heap.size (some ⟨b2, f2, none⟩) n2 zs) (h1 : 1 ≤ n1) (h16 : n1 + n2 ≤ 16) :
    Calls Tryz.prog 157 #[.slice (some ⟨q, 0, none⟩) 2 2] w fun e w' => ∃ A3 k c3, e = .returned (.slice A3 k c3) ∧ k = n1 + n2 ∧ w'.ownsRow w.heap.size 3 1 (.slice A3 k c3) k (ints (m ++ zs)) ∧ Below w.heap.size w w' := by
  obtain ⟨i0, hi, hz0, hz1, hz2⟩ := info_parts info_int
  have HL1 := hid hs1.len
  have HL2 := hid hs2.len
  have HS1 := hid hs1
  have HS2 := hid hs2
  clear hs1 hs2
  have GC := hid (growK_any (n1 + n2) w (by omega) (by omega))
  rw [show (((n1 + n2 : Nat) : Int)) = (n1 : Int) + (n2 : Int) from by omega] at GC
  have w1 : IntKind.i64.wrap ((n1 : Int) + (n2 : Int)) = (n1 : Int) + (n2 : Int) := IntWalk.i64_in _ (by omega)
  have p0 : ¬ ((n1 : Int) < 0) := by omega
  have p1 : ¬ ((n1 : Int) + (n2 : Int) < 0) := by omega
  go_enter Tryz.func157, Tryz.ntmps157
  go_wp2
  go_loop [3, 11] (fun s i => (s = .int .i64 0 ∧ i = .int .i64 0) ∨ (s = .int .i64 n1 ∧ i = .int .i64 1) ∨ (s = .int .i64 ((n1 : Int) + (n2 : Int)) ∧ i = .int .i64 2)) (fun _ i => 2 - (intOf i).toNat)
  case atStart => exact .inl ⟨rfl, rfl⟩
  case round =>
    rcases hrel with ⟨rfl, rfl⟩ | ⟨rfl, rfl⟩ | ⟨rfl, rfl⟩
    · go_wp2
      go_round
      case rel => exact .inr (.inl ⟨by go_num, rfl⟩)
      case measure => simp [intOf]
    · go_wp2
      go_round
      case rel => exact .inr (.inr ⟨rfl, rfl⟩)
      case measure => simp [intOf]
    · go_wp2_with fail
      with_reducible refine Calls.mono GC.out ?_
      rintro e w2 ⟨c, rfl, hkc, o2, b2⟩
      have O2 := hid o2
      have B2 := hid b2
      have e0 := (b2.cell (p := ⟨q, 0, none⟩) hq).trans y0
      have e1 := (b2.cell (p := ⟨q, 1, none⟩) hq).trans y1
      clear o2 b2
      go_wp2_with fail
      go_loopw [6, 27] (fun v i wr => ∃ (A3 : Option Addr) (k c3 : Nat) (L : List Int), v = .slice A3 k c3 ∧ Hid (wr.ownsRow w.heap.size 3 1 (.slice A3 k c3) k (ints L)) ∧ Hid (Below w.heap.size w wr) ∧ ((i = .int .i64 0 ∧ k = 0 ∧ Hid (L = [])) ∨ (i = .int .i64 1 ∧ n1 = k ∧ Hid (L = m)) ∨ (i = .int .i64 2 ∧ k = n1 + n2 ∧ Hid (L = m ++ zs)))) (fun _ i _ => 2 - (intOf i).toNat)
      case atStart => exact ⟨_, 0, c, [], rfl, O2, B2, .inl ⟨rfl, rfl, hid rfl⟩⟩
      case round =>
        clear O2 B2 e0 e1
        obtain ⟨A3, k, c3, L, rfl, HO, HB, hcase⟩ := hrel
        have hbw := HB.out.size
        have e0 := (HB.out.cell (p := ⟨q, 0, none⟩) hq).trans y0
        have e1 := (HB.out.cell (p := ⟨q, 1, none⟩) hq).trans y1
        rcases hcase with ⟨rfl, rfl, HL⟩ | ⟨rfl, rfl, HL⟩ | ⟨rfl, rfl, HL⟩
        · have ho := HO.out
          rw [HL.out] at ho
          have HBK := hid (own_blk ho)
          have hc1 := hid (HS1.out.below HB.out).cellsAt
          clear HO HL
          go_wp2_with (at_builtin; refine wpList_append_own _ rfl _ _ 28 rfl w.heap.size 3 i0 (.int .i64 0) 1 8 Tryz.underlying28 hi hz0 hz1 hz2 rfl (by decide) (.slice A3 0 c3) _ _ rfl ho ⟨b1, f1, none⟩ n1 c1 (ints m) rfl (by rw [List.length_map, HL1.out, Nat.mul_one]) hc1.out (ints_one m) (by simp only [maxLen]; omega) (by omega) hbw ?_; intro v2 w3 o3 g3 _; rw [Nat.zero_add, show ints [] ++ ints m = ints m from rfl] at o3; obtain ⟨gA, cA, rfl, hbA, hltA⟩ := own_shape1 o3 (by omega); have O3 := hid o3; have B3 := hid (HB.out.grown g3 hbw (by intro j hj; rcases HBK.out with h | ⟨i, h, hi⟩; rw [h] at hj; cases hj; rw [h] at hj; cases hj; exact hi)); clear o3 g3 ho)
          go_roundw
          case rel => exact ⟨_, n1, cA, m, rfl, O3, B3, .inr (.inl ⟨rfl, rfl, hid rfl⟩)⟩
          case measure => simp [intOf]
        · have ho := HO.out
          rw [HL.out] at ho
          have HBK := hid (own_blk ho)
          have hc2 := hid (HS2.out.below HB.out).cellsAt
          clear HO HL
          go_wp2_with (at_builtin; refine wpList_append_own _ rfl _ _ 28 rfl w.heap.size 3 i0 (.int .i64 0) 1 8 Tryz.underlying28 hi hz0 hz1 hz2 rfl (by decide) (.slice A3 n1 c3) _ _ rfl ho ⟨b2, f2, none⟩ n2 c2 (ints zs) rfl (by rw [List.length_map, HL2.out, Nat.mul_one]) hc2.out (ints_one zs) (by simp only [maxLen]; omega) (by omega) hbw ?_; intro v2 w3 o3 g3 _; rw [show ints m ++ ints zs = ints (m ++ zs) from by simp [ints]] at o3; obtain ⟨gA, cA, rfl, hbA, hltA⟩ := own_shape1 o3 (by omega); have O3 := hid o3; have B3 := hid (HB.out.grown g3 hbw (by intro j hj; rcases HBK.out with h | ⟨i, h, hi⟩; rw [h] at hj; cases hj; rw [h] at hj; cases hj; exact hi)); clear o3 g3 ho)
          go_roundw
          case rel => exact ⟨_, n1 + n2, cA, m ++ zs, rfl, O3, B3, .inr (.inr ⟨rfl, rfl, hid rfl⟩)⟩
          case measure => simp [intOf]
        · go_wp2
          go_ret
          exact ⟨A3, _, c3, rfl, rfl, by rw [← HL.out]; exact HO.out, HB.out⟩


set_option maxRecDepth 100000 in
set_option maxHeartbeats 3200000 in
theorem begunK_any (A : Option Addr) (n c : Nat) (l : List Int) (F : Nat) (w : World) (hs : Sl w w.heap.size A n l) (hc : n ≤ c) (hcm : c ≤ maxLen) (hFn : F < n) (h2 : n ≤ 16) :
    Calls Tryz.prog 123 #[.slice A n c, .int .i64 F] w fun e w' => ∃ A2 c2, e = .returned (.slice A2 n c2) ∧ w'.ownsRow w.heap.size 3 1 (.slice A2 n c2) n (ints (roundL l F)) ∧ Below w.heap.size w w' := by
  have HL := hid hs.len
  have hmx := hs.max
  have HS := hid hs
  obtain ⟨bl, off, rfl, hbl, hcc⟩ := hs.2.2 (by omega)
  simp only [maxLen] at hcm
  have e1 : (F : Int) ≤ (n : Int) := by omega
  have e2 : (F : Int) ≤ (c : Int) := by omega
  have e3 : (n : Int) ≤ (c : Int) := by omega
  have e4 : F ≤ c := by omega
  have e5 : F ≤ n := by omega
  have e6 : (0 : Int) ≤ (F : Int) := by omega
  clear hcc hs
  obtain ⟨wd, hwd⟩ : ∃ W, w.drew = W := ⟨_, rfl⟩
  have bd : Below w.heap.size w wd := by rw [← hwd]; exact (Below.refl w.heap.size w).drew
  have hzd := bd.size
  obtain ⟨W2, hW2⟩ : ∃ W2, wd.alloc (.cells #[.slice (some ⟨bl, off + F, none⟩) (n - F) (c - F), .slice (some ⟨bl, off, none⟩) F c] 28) = W2 := ⟨_, rfl⟩
  have hb0 : Below w.heap.size w W2 := by rw [← hW2]; exact bd.alloc hzd _
  have CC := hid (concatK_any wd.heap.size bl (off + F) bl off (n - F) (c - F) F c (l.drop F) (l.take F) W2 (by rw [← hW2]; simp) (by rw [← hW2]; simp) (by rw [← hW2]; simp) (Sl.dropK (HS.out.on hb0) e5) (Sl.takeK (HS.out.on hb0) e5) (by omega) (by omega))
  rw [show n - F + F = n from by omega] at CC
  go_enter Tryz.func123, Tryz.ntmps123
  go_wp2_with fail
  refine wp_region_held_drew (S := (fun _ => True)) (by kernel_rfl) (by intros; trivial) (fun hHeld => ?_)
  rw [hwd]
  refine wpAnyH_take (i := 0) (v := ?v0) rfl (by kernel_rfl) (by kernel_rfl) (by kernel_rfl) (fun _ _ _ h => h) (Or.inl ⟨by rfl, ?y0⟩) (by assumption) ?r0
  case y0 => (intro w hSw; (try dsimp only at hSw); go_simp; try with_reducible rfl)
  try simp only [List.getElem_toArray, List.getElem_cons_zero, List.getElem_cons_succ, Act.put, List.setIfInBounds_toArray, List.set_cons_zero, List.set_cons_succ]
  refine wpAnyH_take (i := 1) (v := ?v1) rfl (by kernel_rfl) (by kernel_rfl) (by kernel_rfl) (fun _ _ _ h => h) (Or.inl ⟨by rfl, ?y1⟩) (by assumption) ?r1
  case y1 => (intro w hSw; (try dsimp only at hSw); go_simp; try with_reducible rfl)
  try simp only [List.getElem_toArray, List.getElem_cons_zero, List.getElem_cons_succ, Act.put, List.setIfInBounds_toArray, List.set_cons_zero, List.set_cons_succ]
  refine wpAnyH_take (i := 2) (v := ?v2) rfl (by kernel_rfl) (by kernel_rfl) (by kernel_rfl) (fun _ _ _ h => h) (Or.inl ⟨by rfl, ?y2⟩) (by assumption) ?r2
  case y2 => (intro w hSw; (try dsimp only at hSw); go_simp; try with_reducible rfl)
  try simp only [List.getElem_toArray, List.getElem_cons_zero, List.getElem_cons_succ, Act.put, List.setIfInBounds_toArray, List.set_cons_zero, List.set_cons_succ]
  refine wpAnyH_take (i := 3) (v := ?v3) rfl (by kernel_rfl) (by kernel_rfl) (by kernel_rfl) (fun _ _ _ h => h) (Or.inl ⟨by rfl, ?y3⟩) (by assumption) ?r3
  case y3 => (intro w hSw; (try dsimp only at hSw); go_simp; try with_reducible rfl)
  try simp only [List.getElem_toArray, List.getElem_cons_zero, List.getElem_cons_succ, Act.put, List.setIfInBounds_toArray, List.set_cons_zero, List.set_cons_succ]
  refine wpAnyH_take (i := 4) (v := ?v4) rfl (by kernel_rfl) (by kernel_rfl) (by kernel_rfl) (fun _ _ _ h => h) (Or.inl ⟨by rfl, ?y4⟩) (by assumption) ?r4
  case y4 => (intro w hSw; (try dsimp only at hSw); go_simp; try with_reducible rfl)
  try simp only [List.getElem_toArray, List.getElem_cons_zero, List.getElem_cons_succ, Act.put, List.setIfInBounds_toArray, List.set_cons_zero, List.set_cons_succ]
  refine wpAnyH_take (i := 5) (v := ?v5) rfl (by kernel_rfl) (by kernel_rfl) (by kernel_rfl) (fun _ _ _ h => h) (Or.inl ⟨by rfl, ?y5⟩) (by assumption) ?r5
  case y5 => (intro w hSw; (try dsimp only at hSw); go_simp; try with_reducible rfl)
  try simp only [List.getElem_toArray, List.getElem_cons_zero, List.getElem_cons_succ, Act.put, List.setIfInBounds_toArray, List.set_cons_zero, List.set_cons_succ]
  refine wpAnyH_ready (rs := [6]) (by kernel_rfl) (by simp) ?_
  refine AllReadyH.cons rfl (fun Kr hKr => ?_) AllReadyH.nil
  go_simp
  try go_wp2_with fail
  refine hKr.out _ _ trivial (fun hHeld => ?_)
  clear hKr Kr
  try simp only [List.getElem_toArray, List.getElem_cons_zero, List.getElem_cons_succ, Act.put, List.setIfInBounds_toArray, List.set_cons_zero, List.set_cons_succ]
  refine wpAnyH_ready (rs := [7]) (by kernel_rfl) (by simp) ?_
  refine AllReadyH.cons rfl (fun Kr hKr => ?_) AllReadyH.nil
  go_simp
  try go_wp2_with fail
  with_reducible refine Calls.mono CC.out ?_
  rintro e w4 ⟨A3, k, c3, rfl, hk, o4, b4⟩
  subst hk
  have O4 := hid (own_mono (base' := w.heap.size) o4 hb0.size)
  have hb4 := hid (hb0.trans (b4.mono hb0.size))
  clear o4 b4
  refine hKr.out _ _ trivial (fun hHeld => ?_)
  clear hKr Kr
  try simp only [List.getElem_toArray, List.getElem_cons_zero, List.getElem_cons_succ, Act.put, List.setIfInBounds_toArray, List.set_cons_zero, List.set_cons_succ]
  refine wpAnyH_take (i := 8) (v := ?v8) rfl (by kernel_rfl) (by kernel_rfl) (by kernel_rfl) (fun _ _ _ h => h) (Or.inl ⟨by rfl, ?y8⟩) (by assumption) ?r8
  case y8 => (intro w hSw; (try dsimp only at hSw); go_simp; try with_reducible rfl)
  try simp only [List.getElem_toArray, List.getElem_cons_zero, List.getElem_cons_succ, Act.put, List.setIfInBounds_toArray, List.set_cons_zero, List.set_cons_succ]
  refine wpAnyH_done (by kernel_rfl) ?_ _
  go_wp2
  go_ret
  exact ⟨_, _, rfl, O4.out, hb4.out⟩


theorem wpList_append_own_noneK {P : Program} {w : World} {ops : Array Oper} {rest : List Oper} {o : Oper} {a : Act} {Q : Exit → Act → World → Prop} (hgd : o.guard = none) (s x : Operand) (t : TypeId)
    (ho : o.op = .call { callee := .builtin .append, args := #[s, x], argTypes := #[t, t] })
    (base : Nat) (e : TypeId) (i : TypeInfo) (size : Nat) (ht : P.underlying t = some (.slice e)) (hi : P.info? e = some i)
    (v : Value) (n : Nat) (xs : List Value) (hs : a.eval s = v) (hown : w.ownsRow base e size v n xs) (c : Nat) (hx : a.eval x = .slice none 0 c)
    (h : wpList P ops Q rest (a.put o.dst v) w) : wpList P ops Q (o :: rest) a w := by
  refine wpList_plain hgd fun K hK => ?_
  have hrun : (Builtin.append_ #[t, t] o.type #[v, .slice none 0 c]).run P w = .ok v w := by
    rcases hown.2 with ⟨rfl, rfl⟩ | ⟨g, cap, cur, rfl, _, _, hnc, _⟩
    · simp [Builtin.append_, run_underlying ht, sizeOf, typeInfo, hi, Builtin.lenOf, Builtin.firstCells]
    · simp [Builtin.append_, run_underlying ht, sizeOf, typeInfo, hi, Builtin.lenOf, Builtin.firstCells, hnc, storeCells]
  unfold Oper.wp
  simp [execOp, ho, resolve, invoke, builtin, hs, hx, hrun, Result.andThen]
  exact hK _ _ h
/-- append of what reads as vs, nil or not, onto a row of one's own. -/
theorem wpList_append_out {P : Program} {w : World} {ops : Array Oper} {rest : List Oper} {o : Oper} {a : Act} {Q : Exit → Act → World → Prop} (hgd : o.guard = none) (s x : Operand) (t : TypeId)
    (ho : o.op = .call { callee := .builtin .append, args := #[s, x], argTypes := #[t, t] })
    (base : Nat) (e : TypeId) (i : TypeInfo) (z : Value) (bytes : Nat) (ht : P.underlying t = some (.slice e)) (hi : P.info? e = some i) (hz : i.zero = some z)
    (hsize : i.size = 1) (hby : i.bytes = bytes) (hzs : z.cells.size = 1)
    (v : Value) (n : Nat) (xs : List Value) (hs : a.eval s = v) (hown : w.ownsRow base e 1 v n xs)
    (A : Option Addr) (m c B : Nat) (vs : List Value) (hx : a.eval x = .slice A m c) (hO : Out w B A m vs) (h1 : ∀ u ∈ vs, u.oneCell' = true)
    (h63 : n + m ≤ maxLen) (hbytes : (n + m) * bytes ≤ 140737488355328) (hbase : base ≤ w.heap.size)
    (h : ∀ v' w', w'.ownsRow base e 1 v' (n + m) (xs ++ vs) → w.grownBy w' v.ownBlock → wpList P ops Q rest (a.put o.dst v') w') : wpList P ops Q (o :: rest) a w := by
  by_cases hm : 0 < m
  · obtain ⟨b, off, rfl, hb, hc⟩ := hO.2.2 hm
    exact wpList_append_own _ hgd s x t ho base e i z 1 bytes ht hi hz hsize hby hzs (by omega) v n xs hs hown ⟨b, off, none⟩ m c vs hx (by rw [hO.1, Nat.mul_one]) (fun j u hj => by rw [Addr.add_lit]; exact hc j u hj) h1 h63 hbytes hbase fun v' w' h2 h3 _ => h v' w' h2 h3
  · obtain rfl : m = 0 := by omega
    have hvs : vs = [] := List.eq_nil_of_length_eq_zero hO.1
    subst hvs
    rcases A with _ | ad
    · exact wpList_append_own_noneK hgd s x t ho base e i 1 ht hi v n xs hs hown c hx (h v w (by simpa using hown) ⟨rfl, rfl, rfl, Nat.le_refl _, fun _ _ _ => rfl⟩)
    · exact wpList_append_own _ hgd s x t ho base e i z 1 bytes ht hi hz hsize hby hzs (by omega) v n xs hs hown ad 0 c [] hx rfl (by simp) (by simp) h63 hbytes hbase fun v' w' h2 h3 _ => h v' w' h2 h3

set_option maxRecDepth 100000 in
set_option maxHeartbeats 800000 in
theorem growR_any (k : Nat) (w : World) (h1 : 1 ≤ k) (hk : k ≤ 16) :
    Calls Tryz.prog 161 #[.slice none 0 0, .int .i64 k] w fun e w' => ∃ c, e = .returned (.slice (some ⟨w.heap.size, 0, none⟩) 0 c) ∧ k ≤ c ∧ w'.ownsRow w.heap.size 28 1 (.slice (some ⟨w.heap.size, 0, none⟩) 0 c) 0 [] ∧ Below w.heap.size w w' := by
  obtain ⟨i0, hi, hz0, hz1, hz2⟩ := info_rows
  have q1 : ¬ ((k : Int) < 0) := by omega
  have q2 : (0 : Int) < (k : Int) := by omega
  go_enter Tryz.func161, Tryz.ntmps161
  go_wp2_with (at_builtin; refine wpList_append_zerosK _ rfl _ _ 29 3 rfl 28 i0 (.slice none 0 0) .i64 Tryz.underlying29 Tryz.underlying3 hi hz0 hz1 rfl k .i64 _ rfl rfl rfl (by omega) (by omega) (by omega) ?_; intro c w2 hcur hkc hcm g2)
  go_ret
  obtain ⟨cur, hcur, hcs⟩ := hcur
  exact ⟨c, rfl, hkc, ⟨by simp, .inr ⟨w.heap.size, c, cur, rfl, Nat.le_refl _, hcur, by omega, hcm, by omega, by simp⟩⟩, below_grown g2⟩

set_option maxRecDepth 100000 in
set_option maxHeartbeats 3200000 in
/-- Slices of slices of ints, the second of one alone, one behind the other, in memory of its own. -/
theorem concatR_any (q : Nat) (A1 : Option Addr) (m c1 b2 : Nat) (vs : List Value) (x : Value) (w : World) (hq : q < w.heap.size) (y0 : w.cell? ⟨q, 0, none⟩ = some (.slice A1 m c1)) (y1 : w.cell? ⟨q, 1, none⟩ = some (.slice (some ⟨b2, 0, none⟩) 1 1))
    (hO : Out w w.heap.size A1 m vs) (hb2 : b2 < w.heap.size) (y2 : w.cell? ⟨b2, 0, none⟩ = some x) (hx : x.oneCell' = true) (hv : ∀ u ∈ vs, u.oneCell' = true) (h8 : m ≤ 8) :
    Calls Tryz.prog 125 #[.slice (some ⟨q, 0, none⟩) 2 2] w fun e w' => ∃ g c3, e = .returned (.slice (some ⟨g, 0, none⟩) (m + 1) c3) ∧ w'.ownsRow w.heap.size 28 1 (.slice (some ⟨g, 0, none⟩) (m + 1) c3) (m + 1) (vs ++ [x]) ∧ Below w.heap.size w w' := by
  obtain ⟨i0, hi, hz0, hz1, hz2⟩ := info_rows
  have HO := hid hO
  have HV := hid hv
  have HX := hid hx
  have GC := hid (growR_any (m + 1) w (by omega) (by omega))
  rw [show (((m + 1 : Nat) : Int)) = (m : Int) + 1 from by omega] at GC
  have w1 : IntKind.i64.wrap ((m : Int) + 1) = (m : Int) + 1 := IntWalk.i64_in _ (by omega)
  have p0 : ¬ ((m : Int) < 0) := by omega
  have p1 : ¬ ((m : Int) + 1 < 0) := by omega
  clear hO hv hx
  go_enter Tryz.func125, Tryz.ntmps125
  go_wp2
  go_loop [3, 11] (fun s i => (s = .int .i64 0 ∧ i = .int .i64 0) ∨ (s = .int .i64 m ∧ i = .int .i64 1) ∨ (s = .int .i64 ((m : Int) + 1) ∧ i = .int .i64 2)) (fun _ i => 2 - (intOf i).toNat)
  case atStart => exact .inl ⟨rfl, rfl⟩
  case round =>
    rcases hrel with ⟨rfl, rfl⟩ | ⟨rfl, rfl⟩ | ⟨rfl, rfl⟩
    · go_wp2
      go_round
      case rel => exact .inr (.inl ⟨by go_num, rfl⟩)
      case measure => simp [intOf]
    · go_wp2
      go_round
      case rel => exact .inr (.inr ⟨rfl, rfl⟩)
      case measure => simp [intOf]
    · go_wp2_with fail
      with_reducible refine Calls.mono GC.out ?_
      rintro e w2 ⟨c, rfl, hkc, o2, b2'⟩
      have O2 := hid o2
      have B2 := hid b2'
      have e0 := (b2'.cell (p := ⟨q, 0, none⟩) hq).trans y0
      have e1 := (b2'.cell (p := ⟨q, 1, none⟩) hq).trans y1
      clear o2 b2'
      go_wp2_with fail
      go_loopw [6, 27] (fun v i wr => ∃ (A3 : Option Addr) (k c3 : Nat) (L : List Value), v = .slice A3 k c3 ∧ Hid (wr.ownsRow w.heap.size 28 1 (.slice A3 k c3) k L) ∧ Hid (Below w.heap.size w wr) ∧ ((i = .int .i64 0 ∧ k = 0 ∧ Hid (L = [])) ∨ (i = .int .i64 1 ∧ m = k ∧ Hid (L = vs)) ∨ (i = .int .i64 2 ∧ k = m + 1 ∧ Hid (L = vs ++ [x])))) (fun _ i _ => 2 - (intOf i).toNat)
      case atStart => exact ⟨_, 0, c, [], rfl, O2, B2, .inl ⟨rfl, rfl, hid rfl⟩⟩
      case round =>
        clear O2 B2 e0 e1
        obtain ⟨A3, k, c3, L, rfl, HO3, HB, hcase⟩ := hrel
        have hbw := HB.out.size
        have e0 := (HB.out.cell (p := ⟨q, 0, none⟩) hq).trans y0
        have e1 := (HB.out.cell (p := ⟨q, 1, none⟩) hq).trans y1
        have e2 := (HB.out.cell (p := ⟨b2, 0, none⟩) hb2).trans y2
        rcases hcase with ⟨rfl, rfl, HL⟩ | ⟨rfl, rfl, HL⟩ | ⟨rfl, rfl, HL⟩
        · have ho := HO3.out
          rw [HL.out] at ho
          have HBK := hid (own_blk ho)
          have hc1 := hid (HO.out.keep (w' := wr) (Nat.le_refl _) fun p hp => HB.out.cell hp)
          clear HO3 HL
          go_wp2_with (at_builtin; refine wpList_append_out rfl _ _ 29 rfl w.heap.size 28 i0 (.slice none 0 0) 24 Tryz.underlying29 hi hz0 hz1 hz2 rfl (.slice A3 0 c3) _ _ rfl ho A1 m c1 w.heap.size vs rfl hc1.out HV.out (by simp only [maxLen]; omega) (by omega) hbw ?_; intro v2 w3 o3 g3; rw [Nat.zero_add, List.nil_append] at o3; have HSh := hid (show ∃ A9 c9, v2 = .slice A9 m c9 from by (rcases o3.2 with ⟨h, h0⟩ | ⟨g, cap, cur, h, _⟩); exact ⟨_, _, by rw [h, h0]⟩; exact ⟨_, _, h⟩); refine Hid.out ?_)
          refine hid ?_
          obtain ⟨A9, c9, rfl⟩ := HSh.out
          have O3 := hid o3
          have B3 := hid (HB.out.grown g3 hbw (by intro j hj; rcases HBK.out with h | ⟨i, h, hi⟩; rw [h] at hj; cases hj; rw [h] at hj; cases hj; exact hi))
          clear o3 g3 ho
          go_wp2
          go_roundw
          case rel => exact ⟨_, m, c9, vs, rfl, O3, B3, .inr (.inl ⟨rfl, rfl, hid rfl⟩)⟩
          case measure => simp [intOf]
        · have ho := HO3.out
          rw [HL.out] at ho
          have HBK := hid (own_blk ho)
          clear HO3 HL
          go_wp2_with (at_builtin; refine wpList_append_own _ rfl _ _ 29 rfl w.heap.size 28 i0 (.slice none 0 0) 1 24 Tryz.underlying29 hi hz0 hz1 hz2 rfl (by decide) (.slice A3 m c3) _ _ rfl ho ⟨b2, 0, none⟩ 1 1 [x] rfl rfl (by intro j u hj; rcases j with _ | j; simp at hj; subst hj; exact e2; simp at hj) (by intro u hu; simp at hu; subst hu; exact HX.out) (by simp only [maxLen]; omega) (by omega) hbw ?_; intro v2 w3 o3 g3 _; obtain ⟨gA, cA, rfl, hbA, hltA⟩ := own_shape1 o3 (by omega); have O3 := hid o3; have B3 := hid (HB.out.grown g3 hbw (by intro j hj; rcases HBK.out with h | ⟨i, h, hi⟩; rw [h] at hj; cases hj; rw [h] at hj; cases hj; exact hi)); clear o3 g3 ho)
          go_roundw
          case rel => exact ⟨_, m + 1, cA, vs ++ [x], rfl, O3, B3, .inr (.inr ⟨rfl, rfl, hid rfl⟩)⟩
          case measure => simp [intOf]
        · have ho := HO3.out
          rw [HL.out] at ho
          obtain ⟨gA, cA, hv, hbA, hltA⟩ := own_shape1 ho (by omega)
          injection hv with h1 h2 h3
          subst h1
          have O3 := hid ho
          clear ho
          go_wp2
          go_ret
          exact ⟨gA, cA, rfl, by rw [← h3]; exact O3.out, HB.out⟩
end Go.Proofs.YtkejcajboneniabGreatDoor
namespace Go.Proofs.YtkejcajboneniabGreatDoor
open Go.RowKit

theorem apart_snoc {u : Value} {vs : List Value} (h : Apart vs) (hu : ∀ v ∈ vs, v.ownBlock = none ∨ v.ownBlock ≠ u.ownBlock) : Apart (vs ++ [u]) := by
  intro i j x y hx hy hne
  have hi := (List.getElem?_eq_some_iff.1 hx).1
  have hj := (List.getElem?_eq_some_iff.1 hy).1
  simp at hi hj
  by_cases h1 : i < vs.length
  · rw [List.getElem?_append_left h1] at hx
    by_cases h2 : j < vs.length
    · rw [List.getElem?_append_left h2] at hy
      exact h i j x y hx hy hne
    · obtain rfl : j = vs.length := by omega
      simp at hy
      subst hy
      exact hu x (List.mem_of_getElem? hx)
  · obtain rfl : i = vs.length := by omega
    have h2 : j < vs.length := by omega
    rw [List.getElem?_append_left h2] at hy
    simp at hx
    subst hx
    rcases hu y (List.mem_of_getElem? hy) with h3 | h3
    · rcases hq : u.ownBlock with _ | q
      · exact .inl rfl
      · exact .inr (by rw [h3]; simp)
    · exact .inr fun e => h3 e.symm

/-- A desk reads, whatever its capacities. -/
structure DkS (w : World) (A : Option Addr) (n : Nat) (A2 : Option Addr) (m : Nat) (D : Dk) : Prop where
  now : Sl w w.heap.size A n D.now
  past : SlS w w.heap.size A2 m D.past
theorem DkS.on {w w' : World} {A A2 : Option Addr} {n m : Nat} {D : Dk} (h : DkS w A n A2 m D) (hb : Below w.heap.size w w') : DkS w' A n A2 m D := ⟨h.now.on hb, h.past.on hb⟩
theorem DkR.s {w : World} {A A2 : Option Addr} {n c m c2 : Nat} {D : Dk} (h : DkR w w.heap.size A n c A2 m c2 D) : DkS w A n A2 m D := ⟨h.now, h.past⟩

set_option maxRecDepth 100000 in
set_option maxHeartbeats 3200000 in
/-- A desk (DeskOk) in memory of its own. -/
theorem copied_any (A : Option Addr) (n c : Nat) (A2 : Option Addr) (m c2 : Nat) (D : Dk) (w : World) (h : DkS w A n A2 m D) (hok : deskOk D = true) :
    Calls Tryz.prog 52 #[dsk A n c A2 m c2] w fun e w' => ∃ A3 n3 c3 A4 m4 c4, e = .returned (dsk A3 n3 c3 A4 m4 c4) ∧ DkY w' w.heap.size A3 n3 c3 A4 m4 c4 D ∧ Below w.heap.size w w' := by
  obtain ⟨j0, hj, hjz0, hjz1, hjz2⟩ := info_rows
  obtain ⟨hp, hnow, hlen⟩ := deskOk_iff.1 hok
  obtain ⟨_, hn1, hn2⟩ := bitsOk_iff.1 hnow
  rw [h.now.len] at hn1 hn2
  rw [h.past.len] at hlen
  have HP := hid hp
  have HLM := hid h.past.len
  clear hp hnow hok
  have z1 : (w.alloc (.cells #[.slice A n c, .slice A2 m c2] 31)).heap.size = w.heap.size + 1 := by simp
  have g1 := grown_alloc (w.alloc (.cells #[.slice A n c, .slice A2 m c2] 31)) (.cells #[.slice none 0 0, .slice none 0 0] 31) none
  have X0 := (Db.new w (.slice A n c) (.slice A2 m c2)).on (row := none) g1 (by simp)
  have XR := Db.new (w.alloc (.cells #[.slice A n c, .slice A2 m c2] 31)) (.slice none 0 0) (.slice none 0 0)
  rw [z1] at XR
  have B0 := ((Below.refl w.heap.size w).alloc (Nat.le_refl _) (.cells #[.slice A n c, .slice A2 m c2] 31)).alloc (by simp) (.cells #[.slice none 0 0, .slice none 0 0] 31)
  obtain ⟨w0, e0⟩ : ∃ W, (w.alloc (.cells #[.slice A n c, .slice A2 m c2] 31)).alloc (.cells #[.slice none 0 0, .slice none 0 0] 31) = W := ⟨_, rfl⟩
  have hz0 : w0.heap.size = w.heap.size + 2 := by rw [← e0]; simp
  go_enter Tryz.func52, Tryz.ntmps52
  rw [e0] at X0 XR B0
  have c0 := X0.c0
  have c1 := X0.c1
  have mx2 := h.past.max
  have HH := hid (h.on B0)
  have HX0 := hid X0
  have HXR := hid XR
  have HB0 := hid B0
  have o0 := World.ownsRow_nil w0 w0.heap.size 28 1
  clear g1 X0 XR B0 z1 h
  go_wp2
  go_loopw [3, 9] (fun s i wr => ∃ (k : Nat) (A4 : Option Addr) (c4 : Nat) (vs : List Value), s = .slice A4 k c4 ∧ i = .int .i64 k ∧ k ≤ m ∧ Hid (wr.ownsRow w0.heap.size 28 1 (.slice A4 k c4) k vs) ∧ Hid (Rows wr w0.heap.size vs (D.past.take k)) ∧ Hid (Apart vs) ∧ Hid (Below w0.heap.size w0 wr)) (fun _ i _ => m - (intOf i).toNat)
  case atStart => exact ⟨0, none, 0, [], rfl, rfl, Nat.zero_le _, hid o0, hid (Rows.nil _ _), hid (fun i j u v hu => by simp at hu), hid (Below.refl _ _)⟩
  case round =>
    clear o0
    obtain ⟨k, A4, c4, vs, rfl, rfl, hk, HO, HR, HA, BB⟩ := hrel
    have hbw := BB.out.size
    by_cases hlt : k < m
    · obtain ⟨b5, off5, A5, n5, c5, e5, hb5, hc5, s5⟩ := (HH.out.on BB.out).past.at hlt
      have hbits := bitsOk_iff.1 (HP.out (D.past.getD k []) (by rw [List.getD_eq_getElem?_getD, List.getElem?_eq_getElem (by rw [HLM.out]; exact hlt)]; exact List.getElem_mem _))
      have hl5 := s5.len
      rw [hl5] at hbits
      obtain ⟨-, h51, h52⟩ := hbits
      have hki : (k : Int) < (m : Int) := by omega
      have p7 : (0 : Int) ≤ (k : Int) := by omega
      obtain ⟨lk, hlke⟩ : ∃ lk, D.past.getD k [] = lk := ⟨_, rfl⟩
      have HLK := hid (show D.past.take (k + 1) = D.past.take k ++ [lk] from by
        rw [List.take_succ_eq_append_getElem (by rw [HLM.out]; exact hlt), ← hlke]
        simp [List.getD, List.getElem?_eq_getElem (show k < D.past.length by rw [HLM.out]; exact hlt)])
      rw [hlke] at s5 hl5
      have CC := hid (clone_any A5 n5 c5 lk wr s5 h51 h52)
      subst e5
      clear hlke s5 hl5
      go_wp2_with fail
      with_reducible refine Calls.mono CC.out ?_
      rintro e w5 ⟨g5, c6, rfl, o5, b5'⟩
      have O5 := own_on HO.out b5'
      have R5 := HR.out.on b5'
      have hg5 := o5.lt g5 rfl
      have B5 := BB.out.trans (b5'.mono hbw)
      have hw5 := b5'.size
      have ga := grown_alloc w5 (.cells #[.slice (some ⟨g5, 0, none⟩) n5 c6] 28) none
      have O6 := own_kept_none O5 ga
      have R6 := (R5.onto ga).snoc ⟨_, _, _, rfl, own_mono (base' := w0.heap.size) (own_kept_none o5 ga) hbw⟩
      rw [← HLK.out] at R6
      have HR6 := hid R6
      have HB6 := hid (B5.alloc (by omega) (.cells #[.slice (some ⟨g5, 0, none⟩) n5 c6] 28))
      have HA6 := hid (apart_snoc (u := .slice (some ⟨g5, 0, none⟩) n5 c6) HA.out (fun v hv => by
        rcases hob : v.ownBlock with _ | q
        · exact .inl rfl
        · right
          have hq := rows_hi HR.out v hv q hob
          simp [Value.ownBlock]
          omega))
      have HBK := hid (own_blk O6)
      clear O5 R5 R6 o5 b5' ga B5
      have hz6 := HB6.out.size
      go_wp2_with (at_builtin; refine wpList_append_own _ rfl _ _ 29 rfl w0.heap.size 28 j0 (.slice none 0 0) 1 24 Tryz.underlying29 hj hjz0 hjz1 hjz2 rfl (by decide) (.slice A4 k c4) _ _ rfl O6 ⟨w5.heap.size, 0, none⟩ 1 1 [.slice (some ⟨g5, 0, none⟩) n5 c6] rfl rfl (cell_one_new w5 _ _) (by simp [Value.oneCell']) (by simp only [maxLen]; omega) (by omega) hz6 ?_; intro v6 w7 o7 g7 _; obtain ⟨gA, cA, rfl, hbA, hltA⟩ := own_shape1 o7 (by omega); have QO := hid o7; have QR := hid (HR6.out.beside O6 g7); have QB := hid (HB6.out.grown g7 hz6 (by intro j hj; rcases HBK.out with h | ⟨i, h, hi⟩; rw [h] at hj; cases hj; rw [h] at hj; cases hj; exact hi)); clear o7 g7 O6)
      go_roundw
      case rel => exact ⟨k + 1, _, cA, vs ++ [.slice (some ⟨g5, 0, none⟩) n5 c6], rfl, by go_num, by omega, QO, QR, HA6, QB⟩
      case measure => simp [intOf]; omega
    · obtain rfl : k = m := by omega
      have hRm := HR.out
      rw [List.take_of_length_le (by rw [HLM.out]; exact Nat.le_refl _)] at hRm
      have HR2 := hid hRm
      have X1 := HX0.out.below BB.out (by omega)
      have YR := HXR.out.below BB.out (by omega)
      have x0 := X1.c0
      have CC := hid (clone_any A n c D.now wr (HH.out.on BB.out).now hn1 hn2)
      have HYR := hid YR
      clear hRm X1 YR HR
      go_wp2_with fail
      with_reducible refine Calls.mono CC.out ?_
      rintro e w5 ⟨g5, c6, rfl, o5, b5⟩
      have Y5 := HYR.out.below b5 (by omega)
      have y0 := Y5.c0
      have y1 := Y5.c1
      have f0 := Y5.fz 0
      have f1 := Y5.fz 1
      have O5 := own_on HO.out b5
      have R5 := HR2.out.on b5
      have o6 := own_mono (base' := w0.heap.size) o5 hbw
      have hg5 := o5.lt g5 rfl
      have HA6 := apart_cons (u := .slice (some ⟨g5, 0, none⟩) n c6) HA.out (fun v hv => by
        right
        intro e
        have h1 : v.ownBlock = some g5 := by rw [← e]; rfl
        have hq := rows_hi HR2.out v hv g5 h1
        omega)
      have HY := hid (show DkY w5 w.heap.size (some ⟨g5, 0, none⟩) n c6 A4 k c4 D from by
        refine ⟨own_mono o6 (by omega), own_capK O5, ?_⟩
        by_cases hk0 : 0 < k
        · obtain ⟨gA, cA, hv, hbA, hltA⟩ := own_shape1 O5 hk0
          injection hv with h1 h2 h3
          subst h1; subst h3
          refine .inr ⟨gA, 0, k, c4, vs, rfl, own_mono O5 (by omega), by omega, ?_, ?_⟩
          · rw [List.drop_zero, List.take_of_length_le (by have := O5.1; omega)]
            exact R5.mono (by omega)
          · rw [List.drop_zero, List.take_of_length_le (by have := O5.1; omega)]
            exact HA6
        · have hp0 : D.past = [] := List.eq_nil_of_length_eq_zero (by rw [HLM.out]; omega)
          have hv0 : vs = [] := List.eq_nil_of_length_eq_zero (by have := O5.1; omega)
          rcases A4 with _ | a4
          · exact .inl ⟨rfl, by omega, hp0⟩
          · rcases O5.2 with ⟨hh, _⟩ | ⟨g, cap, cur, hh, hr⟩
            · injection hh with h1; cases h1
            · injection hh with h1 h2 h3
              cases h1; subst h3
              refine .inr ⟨g, 0, k, c4, vs, rfl, own_mono O5 (by omega), by omega, ?_, ?_⟩
              · rw [hv0, hp0]; simp; exact Rows.nil _ _
              · rw [hv0] at HA6 ⊢; simpa using HA6)
      have HB5 := hid (HB0.out.trans ((BB.out.trans (b5.mono hbw)).mono (by omega)))
      have HY5 := hid Y5
      clear Y5 O5 R5 o5 o6 b5 HA6
      go_wp2
      (try simp only [Exit.inBlock, Exit.then])
      refine bodyPost_ret (results_cell_row rfl _ _ (w.heap.size + 1) 31 _ (0, 0) _ (by simp [Act.put]) (HY5.out.set _ _) Tryz.underlying31 rfl size_desk) rfl ?_
      refine ⟨_, _, _, _, _, _, rfl, HY.out.box2 HY5.out _ _, ?_⟩
      exact (HB5.out.setCell (p := ⟨w.heap.size + 1, 0, none⟩) (by simp) _).setCell (p := ⟨w.heap.size + 1, 1, none⟩) (by simp) _
end Go.Proofs.YtkejcajboneniabGreatDoor
