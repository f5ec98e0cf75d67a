/-
  Walks of slices.Grow and slices.Concat as the program's ProductOf calls them, and of ProductOf itself. No statement is proved here.
-/
import Derived.Test.YtmkbbkpgdfpcoaaC8w
import Derived.Test.YtmkbbkpgdfpcoaaC8p
import Derived.Lib.AppendZerosOnto
import Derived.Lib.AppendZeros
namespace Go.Proofs.Ytmkbbkpgdfpcoaa
open Go.RowKit
set_option linter.unusedVariables false
set_option linter.unusedSimpArgs false

theorem wpList_append_zeros_nil {P : Program} (w : World) {ops : Array Oper} {rest : List Oper} {o : Oper} {a : Act} {Q : Exit → Act → World → Prop} (hgd : o.guard = none) (s x : Operand) (t tn : TypeId)
    (ho : o.op = .call { callee := .builtin .append, args := #[s, x], argTypes := #[t, tn] })
    (e : TypeId) (i : TypeInfo) (z : Value) (kn : IntKind) (ht : P.underlying t = some (.slice e)) (htn : P.underlying tn = some (.int kn)) (hi : P.info? e = some i) (hz : i.zero = some z)
    (hs1 : i.size = 1) (hzc : z.cells = #[z]) (k : Nat) (kq : IntKind) (K : Int) (hs : a.eval s = .slice none 0 0) (hx : a.eval x = .int kq K) (hK : K = k) (h0 : 0 < k) (hk : k ≤ 1000000) (hb : i.bytes ≤ 1000)
    (h : ∀ c w', (∃ cur, w'.heap[w.heap.size]? = some (.cells cur e (0, 0)) ∧ cur.size = c) → k ≤ c → c ≤ maxLen → w.grownBy w' none → wpList P ops Q rest (a.put o.dst (.slice (some ⟨w.heap.size, 0, none⟩) k c)) w') : wpList P ops Q (o :: rest) a w := by
  refine wpList_plain hgd fun _ hKK => ?_
  subst hK
  have hold : (Builtin.firstCells i.size 0 (.slice none 0 0)).run P w.drew = .ok #[] w.drew := run_firstCells_none w.drew i.size 0 0 0
  have hmul : k * i.bytes ≤ 1000000 * 1000 := Nat.mul_le_mul hk hb
  have hr := Lib.run_append_grow_zeros (P := P) w t tn o.type e i z kq kn ht htn hi hz none 0 0 [] hold k h0 (by omega) (by omega) (by omega) (by omega) (growslice_fits (by omega) (by rw [Nat.zero_add]; omega))
  rw [Nat.zero_add] at hr
  unfold Oper.wp execOp
  simp only [ho, resolve, invoke, builtin, Sem.run_bind, Sem.run_pure, Result.andThen_ok, List.map_toArray, List.map_cons, List.map_nil, hs, hx, hr]
  refine hKK _ _ (h _ _ ⟨_, heap_alloc_new w.drew _, ?_⟩ (grownCap_ge w k 0 e) (grownCap_le_maxLen w k 0 e (by simp only [maxLen]; omega)) ⟨rfl, rfl, rfl, by simp, fun j hj _ => Below.heap_alloc w.drew _ j hj⟩)
  have := grownCap_ge w k 0 e
  simp only [Array.size_append, List.size_toArray, size_zeroCells, hzc]
  simp
  omega

set_option maxHeartbeats 800000 in
theorem grow8_any (k : Nat) (w : World) (h1 : 1 ≤ k) (hk : k ≤ 16) :
    Calls Try.prog 54 #[.slice none 0 0, .int .i64 k] w fun e w' => ∃ c, e = .returned (.slice (some ⟨w.heap.size, 0, none⟩) 0 c) ∧ k ≤ c ∧ w'.ownsRow w.heap.size 3 1 (.slice (some ⟨w.heap.size, 0, none⟩) 0 c) 0 (ints []) ∧ Below w.heap.size w w' := by
  obtain ⟨i0, hi, hz0, hz1, hz2⟩ := info_parts info_int
  have q1 : ¬ ((k : Int) < 0) := by omega
  have q2 : (0 : Int) < (k : Int) := by omega
  go_enter Try.func54, Try.ntmps54
  go_wp2_with (at_builtin; refine wpList_append_zeros_nil _ rfl _ _ 23 3 rfl 3 i0 (.int .i64 0) .i64 Try.underlying23 Try.underlying3 hi hz0 hz1 rfl k .i64 _ rfl rfl rfl (by omega) (by omega) (by omega) ?_; intro c w2 hcur hkc hcm g2)
  go_ret
  obtain ⟨cur, hcur, hcs⟩ := hcur
  exact ⟨c, rfl, hkc, ⟨by simp [ints], .inr ⟨w.heap.size, c, cur, rfl, Nat.le_refl _, hcur, by omega, hcm, by omega, by simp [ints]⟩⟩, below_grown g2⟩

set_option maxRecDepth 100000 in
set_option maxHeartbeats 3200000 in
/-- Two slices of ints, one behind the other, in memory of its own. -/
theorem concat8_any (q b1 f1 b2 f2 : Nat) (n1 c1 n2 c2 : Nat) (m zs : List Int) (w : World) (hq : q < w.heap.size) (y0 : w.cell? ⟨q, 0, none⟩ = some (.slice (some ⟨b1, f1, none⟩) n1 c1)) (y1 : w.cell? ⟨q, 1, none⟩ = some (.slice (some ⟨b2, f2, none⟩) n2 c2))
    (hs1 : Sl w w.heap.size (some ⟨b1, f1, none⟩) n1 m) (hs2 : Sl w w.heap.size (some ⟨b2, f2, none⟩) n2 zs) (h1 : 1 ≤ n1) (h8 : n1 ≤ 8) (k8 : n2 ≤ 8) :
    Calls Try.prog 47 #[.slice (some ⟨q, 0, none⟩) 2 2] w fun e w' => ∃ A3 k c3, e = .returned (.slice A3 k c3) ∧ k = n1 + n2 ∧ w'.ownsRow w.heap.size 3 1 (.slice A3 k c3) k (ints (m ++ zs)) ∧ Below w.heap.size w w' := by
  obtain ⟨i0, hi, hz0, hz1, hz2⟩ := info_parts info_int
  have HL1 := hid hs1.len
  have HL2 := hid hs2.len
  have HS1 := hid hs1
  have HS2 := hid hs2
  clear hs1 hs2
  have GC := hid (grow8_any (n1 + n2) w (by omega) (by omega))
  rw [show (((n1 + n2 : Nat) : Int)) = (n1 : Int) + (n2 : Int) from by omega] at GC
  have w1 : IntKind.i64.wrap ((n1 : Int) + (n2 : Int)) = (n1 : Int) + (n2 : Int) := IntWalk.i64_in _ (by omega)
  have p0 : ¬ ((n1 : Int) < 0) := by omega
  have p1 : ¬ ((n1 : Int) + (n2 : Int) < 0) := by omega
  go_enter Try.func47, Try.ntmps47
  go_wp2
  go_loop [3, 11] (fun s i => (s = .int .i64 0 ∧ i = .int .i64 0) ∨ (s = .int .i64 n1 ∧ i = .int .i64 1) ∨ (s = .int .i64 ((n1 : Int) + (n2 : Int)) ∧ i = .int .i64 2)) (fun _ i => 2 - (intOf i).toNat)
  case atStart => exact .inl ⟨rfl, rfl⟩
  case round =>
    rcases hrel with ⟨rfl, rfl⟩ | ⟨rfl, rfl⟩ | ⟨rfl, rfl⟩
    · go_wp2
      go_round
      case rel => exact .inr (.inl ⟨by go_num, rfl⟩)
      case measure => simp [intOf]
    · go_wp2
      go_round
      case rel => exact .inr (.inr ⟨rfl, rfl⟩)
      case measure => simp [intOf]
    · go_wp2_with fail
      with_reducible refine Calls.mono GC.out ?_
      rintro e w2 ⟨c, rfl, hkc, o2, b2⟩
      have O2 := hid o2
      have B2 := hid b2
      have e0 := (b2.cell (p := ⟨q, 0, none⟩) hq).trans y0
      have e1 := (b2.cell (p := ⟨q, 1, none⟩) hq).trans y1
      clear o2 b2
      go_wp2_with fail
      go_loopw [6, 27] (fun v i wr => ∃ (A3 : Option Addr) (k c3 : Nat) (L : List Int), v = .slice A3 k c3 ∧ Hid (wr.ownsRow w.heap.size 3 1 (.slice A3 k c3) k (ints L)) ∧ Hid (Below w.heap.size w wr) ∧ ((i = .int .i64 0 ∧ k = 0 ∧ Hid (L = [])) ∨ (i = .int .i64 1 ∧ n1 = k ∧ Hid (L = m)) ∨ (i = .int .i64 2 ∧ k = n1 + n2 ∧ Hid (L = m ++ zs)))) (fun _ i _ => 2 - (intOf i).toNat)
      case atStart => exact ⟨_, 0, c, [], rfl, O2, B2, .inl ⟨rfl, rfl, hid rfl⟩⟩
      case round =>
        clear O2 B2 e0 e1
        obtain ⟨A3, k, c3, L, rfl, HO, HB, hcase⟩ := hrel
        have hbw := HB.out.size
        have e0 := (HB.out.cell (p := ⟨q, 0, none⟩) hq).trans y0
        have e1 := (HB.out.cell (p := ⟨q, 1, none⟩) hq).trans y1
        rcases hcase with ⟨rfl, rfl, HL⟩ | ⟨rfl, rfl, HL⟩ | ⟨rfl, rfl, HL⟩
        · have ho := HO.out
          rw [HL.out] at ho
          have HBK := hid (own_blk ho)
          have hc1 := hid (HS1.out.below HB.out).cellsAt
          clear HO HL
          go_wp2_with (at_builtin; refine wpList_append_own _ rfl _ _ 23 rfl w.heap.size 3 i0 (.int .i64 0) 1 8 Try.underlying23 hi hz0 hz1 hz2 rfl (by decide) (.slice A3 0 c3) _ _ rfl ho ⟨b1, f1, none⟩ n1 c1 (ints m) rfl (by rw [List.length_map, HL1.out, Nat.mul_one]) hc1.out (ints_one m) (by simp only [maxLen]; omega) (by omega) hbw ?_; intro v2 w3 o3 g3 _; rw [Nat.zero_add, show ints [] ++ ints m = ints m from rfl] at o3; obtain ⟨gA, cA, rfl, hbA, hltA⟩ := own_shape1 o3 (by omega); have O3 := hid o3; have B3 := hid (HB.out.grown g3 hbw (by intro j hj; rcases HBK.out with h | ⟨i, h, hi⟩; rw [h] at hj; cases hj; rw [h] at hj; cases hj; exact hi)); clear o3 g3 ho)
          go_roundw
          case rel => exact ⟨_, n1, cA, m, rfl, O3, B3, .inr (.inl ⟨rfl, rfl, hid rfl⟩)⟩
          case measure => simp [intOf]
        · have ho := HO.out
          rw [HL.out] at ho
          have HBK := hid (own_blk ho)
          have hc2 := hid (HS2.out.below HB.out).cellsAt
          clear HO HL
          go_wp2_with (at_builtin; refine wpList_append_own _ rfl _ _ 23 rfl w.heap.size 3 i0 (.int .i64 0) 1 8 Try.underlying23 hi hz0 hz1 hz2 rfl (by decide) (.slice A3 n1 c3) _ _ rfl ho ⟨b2, f2, none⟩ n2 c2 (ints zs) rfl (by rw [List.length_map, HL2.out, Nat.mul_one]) hc2.out (ints_one zs) (by simp only [maxLen]; omega) (by omega) hbw ?_; intro v2 w3 o3 g3 _; rw [show ints m ++ ints zs = ints (m ++ zs) from by simp [ints]] at o3; obtain ⟨gA, cA, rfl, hbA, hltA⟩ := own_shape1 o3 (by omega); have O3 := hid o3; have B3 := hid (HB.out.grown g3 hbw (by intro j hj; rcases HBK.out with h | ⟨i, h, hi⟩; rw [h] at hj; cases hj; rw [h] at hj; cases hj; exact hi)); clear o3 g3 ho)
          go_roundw
          case rel => exact ⟨_, n1 + n2, cA, m ++ zs, rfl, O3, B3, .inr (.inr ⟨rfl, rfl, hid rfl⟩)⟩
          case measure => simp [intOf]
        · go_wp2
          go_ret
          exact ⟨A3, _, c3, rfl, rfl, by rw [← HL.out]; exact HO.out, HB.out⟩

set_option maxRecDepth 100000 in
set_option maxHeartbeats 1600000 in
theorem implProductOf_any (A : Option Addr) (n c : Nat) (l : List Int) (A1 : Option Addr) (n1 c1 : Nat) (m : List Int) (w : World) (hs : Sl w w.heap.size A n l) (hs1 : Sl w w.heap.size A1 n1 m) :
    Calls Try.prog 27 #[.slice A n c, .slice A1 n1 c1] w fun e w' => ∃ A2 k c2, e = .returned (.slice A2 k c2) ∧ w'.ownsRow w.heap.size 3 1 (.slice A2 k c2) k (ints (prodOut l m)) ∧ k ≤ 16 ∧ Below w.heap.size w w' := by
  obtain ⟨i0, hi, hz0, hz1, hz2⟩ := info_parts info_int
  have HL := hid hs.len
  have HL1 := hid hs1.len
  have hm0 := hs.max
  have hm1 := hs1.max
  have CT := hid (tapsI_any A n c l w _ hs)
  have CU := hid (tapsI_any A1 n1 c1 m w _ hs1)
  cases hk : tapsOk l with
  | false =>
    have HO := hid (show prodOut l m = [] from by unfold prodOut; rw [hk]; rfl)
    rw [hk] at CT
    clear hk
    go_enter Try.func27, Try.ntmps27
    go_wp2_with (go_at_call 16; refine CT.out.mono ?_; rintro e w' ⟨rfl, rfl⟩)
    go_ret
    exact ⟨none, 0, 0, rfl, by rw [HO.out]; exact World.ownsRow_nil _ _ _ _, by omega, Below.refl _ _⟩
  | true =>
    rw [hk] at CT
    cases hk2 : tapsOk m with
    | false =>
      have HO := hid (show prodOut l m = [] from by unfold prodOut; rw [hk2]; simp)
      rw [hk2] at CU
      clear hk hk2
      go_enter Try.func27, Try.ntmps27
      go_wp2_with (first | (go_at_call 16; refine CT.out.mono ?_; clear CT; rintro e w' ⟨rfl, rfl⟩) | (go_at_call 16; refine CU.out.mono ?_; rintro e w' ⟨rfl, rfl⟩))
      go_ret
      exact ⟨none, 0, 0, rfl, by rw [HO.out]; exact World.ownsRow_nil _ _ _ _, by omega, Below.refl _ _⟩
    | true =>
      have hT := tapsOk_iff.1 hk
      have hU := tapsOk_iff.1 hk2
      have HO := hid (show fedOut l (m ++ List.replicate (n - 1) 0) = prodOut l m from by
        have hin : inOk (m ++ List.replicate (n - 1) 0) = true := by
          rw [inOk_iff]
          refine ⟨fun x hx => ?_, by simp; have := hT.2.2; have := hU.2.2; rw [HL.out] at hT; omega⟩
          rcases List.mem_append.1 hx with h | h
          · have := hU.1 x h; omega
          · have := (List.mem_replicate.1 h).2; omega
        unfold fedOut prodOut
        rw [hk, hin, hk2, ← HL.out, prodL_fed _ _ hT.2.1])
      rw [hk2] at CU
      rw [HL.out] at hT
      rw [HL1.out] at hU
      have h1 := hT.2.1
      have h8 := hT.2.2
      have k1 := hU.2.1
      have k8 := hU.2.2
      clear hk hk2 hT hU
      obtain ⟨b1, off1, rfl, hb1, hc1⟩ := hs1.2.2 (by omega)
      clear hc1
      have HSL := hid hs
      have HSM := hid hs1
      clear hs hs1
      obtain ⟨z, rfl⟩ : ∃ z, n = z + 1 := ⟨n - 1, by omega⟩
      have e1 : ((z + 1 : Nat) : Int) - 1 = (z : Int) := by omega
      rw [Nat.add_sub_cancel] at HO
      go_enter Try.func27, Try.ntmps27
      go_wp2_with (first
        | (go_at_call 16; refine CT.out.mono ?_; clear CT; rintro e w' ⟨rfl, rfl⟩)
        | (go_at_call 16; refine CU.out.mono ?_; clear CU; rintro e w' ⟨rfl, rfl⟩)
        | (refine wpList_make_full _ rfl (.tmp 17) (.tmp 17) 23 rfl w.heap.size 3 i0 _ 1 Try.underlying23 hi hz0 hz1 .i64 .i64 z z z rfl rfl rfl rfl (by rw [hz2]; omega) (by simp only [maxLen]; omega) (Nat.le_refl _) ?_; intro w2 oH gH; rw [madeInts] at oH))
      obtain ⟨W2, hW2⟩ : ∃ W2, w2.alloc (.cells #[.slice (some ⟨b1, off1, none⟩) n1 c1, .slice (some ⟨w.heap.size, 0, none⟩) z z] 23) = W2 := ⟨_, rfl⟩
      have hz : w.heap.size ≤ w2.heap.size := gH.size
      have hb2 := hid (show Below w.heap.size w W2 from by rw [← hW2]; exact (below_grown gH).alloc hz _)
      have oZ : W2.ownsRow w.heap.size 3 1 (.slice (some ⟨w.heap.size, 0, none⟩) z z) z (ints (List.replicate z 0)) := by
        rw [← hW2]
        exact World.ownsRow.alloc (by simpa [ints] using oH) _
      have hq : w2.heap.size < W2.heap.size := by rw [← hW2]; simp
      have y0 : W2.cell? ⟨w2.heap.size, 0, none⟩ = some (.slice (some ⟨b1, off1, none⟩) n1 c1) := by rw [← hW2]; simp
      have y1 : W2.cell? ⟨w2.heap.size, 1, none⟩ = some (.slice (some ⟨w.heap.size, 0, none⟩) z z) := by rw [← hW2]; simp
      have CC := hid (concat8_any w2.heap.size b1 off1 w.heap.size 0 n1 c1 z z m (List.replicate z 0) W2 hq y0 y1 (HSM.out.on hb2.out) (Sl.of_own oZ) k1 k8 (by omega))
      rw [hW2]
      clear hW2 oZ hq y0 y1 oH gH hz
      with_reducible refine Calls.mono CC.out ?_
      rintro e w3 ⟨A3, k, c3, rfl, rfl, o3, b3⟩
      have hb3 := hid (hb2.out.trans (b3.mono hb2.out.size))
      have CF := hid (implFedOf_any A (z + 1) c l A3 (n1 + z) c3 (m ++ List.replicate z 0) w3 (HSL.out.on hb3.out) (Sl.of_own o3))
      rw [HO.out] at CF
      clear o3 b3 CC hb2
      go_wp2_with fail
      with_reducible refine Calls.mono CF.out ?_
      rintro e w5 ⟨A6, k6, c6, rfl, o6, hk6, b6⟩
      have HF := hid (own_mono (base' := w.heap.size) o6 hb3.out.size)
      clear o6
      go_wp2
      go_ret
      exact ⟨_, _, _, rfl, HF.out, hk6, hb3.out.trans (b6.mono hb3.out.size)⟩
end Go.Proofs.Ytmkbbkpgdfpcoaa
