/-
  Walks of the program's fedSums (the iterator, met by whatever the loop over it does), FedOf and BehindOf. No statement is proved here.
-/
import Derived.Test.YtmkbbkpgdfpcoaaRg
import Derived.Test.YtmkbbkpgdfpcoaaRb
import Derived.Test.YtmkbbkpgdfpcoaaC8h
import Derived.RangeFuncBox
import Derived.Maps.AppendAt
namespace Go.Proofs.Ytmkbbkpgdfpcoaa
open Go.RowKit
set_option linter.unusedVariables false
set_option linter.unusedSimpArgs false

section
variable {F : Fence} {n : Nat} {P : Program} {ops : Array Oper} {rest : List Oper} {o : Oper} {a : Act} {w : World} {Q : Exit → Act → World → Prop}
theorem wpListIn_load_row (hgd : o.guard = none) (ty : TypeId) (x : Operand) (ho : o.op = .load ty x) (g : Nat) (hx : a.eval x = .pointer (some ⟨g, 0, none⟩)) (t : TypeId) (cs : Array Value) (fr : Nat × Nat) (d : TypeDesc) (hg : w.heap[g]? = some (.cells cs t fr))
    (hu : P.underlying ty = some d) (hd : (match d with | .struct _ | .array _ _ => true | _ => false) = true) (hi : (P.info? ty).map (·.size) = some cs.size)
    (h : wpListIn F n P ops Q rest (a.put o.dst (.agg cs)) w) : wpListIn F n P ops Q (o :: rest) a w := by
  refine wpListIn_plain hgd fun K hK => ?_
  unfold Oper.wpIn
  refine ⟨?_, ?_⟩
  · simp [Oper.about, ho]
  · rw [Oper.semAt_plain F _ _ (by rw [ho]; intro c hc'; cases hc')]
    simp only [execOp, ho, hx, Instr.loadAt, Instr.sureAddr, Sem.run_bind, Sem.run_pure, Result.andThen_ok, run_loadVar_row w g t ty cs fr d hg hu hd hi]
    exact hK _ _ h
theorem wpListIn_store_row (hgd : o.guard = none) (ty : TypeId) (x y : Operand) (ho : o.op = .store ty x y) (g : Nat) (cells : Array Value) (hx : a.eval x = .pointer (some ⟨g, 0, none⟩)) (hy : a.eval y = .agg cells)
    (t : TypeId) (old : Array Value) (hg : w.heap[g]? = some (.cells old t (0, 0))) (hi : (P.info? ty).map (·.size) = some cells.size) (hold : old.size = cells.size) (h1 : cells.all (·.oneCell') = true)
    (h : wpListIn F n P ops Q rest (a.put o.dst undef) (w.setRow g cells)) : wpListIn F n P ops Q (o :: rest) a w := by
  refine wpListIn_plain hgd fun K hK => ?_
  unfold Oper.wpIn
  refine ⟨?_, ?_⟩
  · simp [Oper.about, ho]
  · rw [Oper.semAt_plain F _ _ (by rw [ho]; intro c hc'; cases hc')]
    simp only [execOp, ho, hx, hy, Instr.storeAt, Instr.sureAddr, Sem.run_bind, Sem.run_pure, Result.andThen_ok, run_storeVar_row w g t ty old cells hg hi hold h1]
    exact hK _ _ h
end

theorem fedSumsF_any (A A1 : Option Addr) (n c n1 c1 : Nat) (w : World) :
    Calls Try.prog 45 #[.slice A n c, .slice A1 n1 c1] w fun e w' =>
      e = .returned (.func (.func 52) #[] #[.pointer (some ⟨w.heap.size, 0, none⟩), .pointer (some ⟨w.heap.size + 1, 0, none⟩)]) ∧
      w' = (w.alloc (.cells #[.slice A n c] 23)).alloc (.cells #[.slice A1 n1 c1] 23) := by
  go_enter Try.func45, Try.ntmps45
  go_wp2
  go_ret
  exact ⟨rfl, rfl⟩

attribute [local go_sem] Oper.semAt_some

theorem MRow.stored {w : World} {b : Nat} {C G : Array Value} (h : MRow w b C) (hs : C.size = G.size) (ha : G.all (·.oneCell') = true) :
    (storeCells ⟨b, 0, none⟩ G.toList).run Try.prog w = .ok () (w.setRow b G) :=
  run_storeCells_from (P := Try.prog) b _ G.toList 0 C w h (by simp; omega) (fun v hv => (Array.all_eq_true_iff_forall_mem.1 ha) v (by simpa using hv))
theorem MRow.setRow {w : World} {b : Nat} {C : Array Value} (h : MRow w b C) (G : Array Value) : MRow (w.setRow b G) b G := setRow_heap w b _ G _ _ h
theorem grown_setRow_own (w : World) (b : Nat) (C : Array Value) : w.grownBy (w.setRow b C) (some b) := ⟨rfl, rfl, rfl, by simp, fun k _ hk => setRow_other w b k C (fun e => hk (by simp [e]))⟩

theorem MRow.not_row {w : World} {b : Nat} {C : Array Value} (h : MRow w b C) {base size k : Nat} {v : Value} {xs : List Value} (hr : w.ownsRow base 3 size v k xs) : some b ≠ v.ownBlock := by
  rcases hr.2 with ⟨h1, _⟩ | ⟨g, cap, cur, h1, _, h2, _⟩
  · subst h1; simp [Value.ownBlock]
  · subst h1
    intro e
    simp only [Value.ownBlock, Option.some.injEq] at e
    subst e
    rw [show w.heap[b]? = _ from h] at h2
    injection h2 with h2
    injection h2 with h3 h4
    exact absurd h4 (by decide)

set_option maxRecDepth 100000 in
set_option maxHeartbeats 3200000 in
/-- The iterator: what goes out is handed over, one by one, to whatever goes on with J. Its own memory is block B. -/
theorem fedSums_in (m l h : Nat) (A A1 : Option Addr) (n c n1 c1 : Nat) (lst xs : List Int) (J : Nat → World → Prop) (W0 : World) (B : Nat) (hB : W0.heap.size = B)
    (hT : tapsOk lst = true) (hI : inOk xs = true)
    (hc1 : W0.cell? ⟨h, 0, none⟩ = some (.slice A n c)) (hc2 : W0.cell? ⟨h + 1, 0, none⟩ = some (.slice A1 n1 c1)) (hh : h + 1 < W0.heap.size)
    (hs0 : Sl W0 W0.heap.size A n lst) (hs1 : Sl W0 W0.heap.size A1 n1 xs)
    (hJs : ∀ k W, J k W → Sl W W.heap.size A n lst ∧ Sl W W.heap.size A1 n1 xs)
    (hJb : ∀ k W W' C, J k W → MRow W B C → W.grownBy W' (some B) → J k W')
    (hY : ∀ k W C, k < n1 → J k W → MRow W B C → YieldAt Fence.wide (m - 1) Try.prog l #[.int .i64 (cF lst (nth xs) k)] W fun e W' => e = .returned (.bool true) ∧ J (k + 1) W' ∧ MRow W' B C)
    (h0 : ∀ W, W0.grownBy W none → J 0 W) :
    CallsIn Fence.wide m Try.prog 52 #[.func (.yield l) #[] #[], .pointer (some ⟨h, 0, none⟩), .pointer (some ⟨h + 1, 0, none⟩)] W0 fun e W' => (∃ v, e = .returned v) ∧ J n1 W' := by
  refine callsIn_of_wp Try.func52 rfl trivial ?_ rfl
  simp only [Try.ntmps52, List.size_toArray, List.length_cons, List.length_nil, Nat.reduceAdd, Nat.reduceSub, Array.replicate_succ, Array.replicate_zero, List.push_toArray, List.append_toArray, List.nil_append, List.cons_append]
  subst hB
  have HL := hid hs0.len
  have HL1 := hid hs1.len
  have hm1 := hs1.max
  have hT' := tapsOk_iff.1 hT
  have hI' := inOk_iff.1 hI
  rw [HL.out] at hT'
  rw [HL1.out] at hI'
  have HLB := hid (nth_bd (l := lst) (M := 9) (by omega) hT'.1)
  have HXB := hid (nth_bd (l := xs) (M := 99) (by omega) hI'.1)
  have HHB := hid (fun t k => heldL_bd (a := lst) (f := nth xs) (M := 99) (by omega) hT'.1 (by rw [HL.out]; exact hT'.2.2) HXB.out t k)
  have h1 : 1 ≤ n := hT'.2.1
  have h8 : n ≤ 8 := hT'.2.2
  have h16 : n1 ≤ 16 := hI'.2
  have HY := hid hY; clear hY
  have HJS := hid hJs; clear hJs
  have HJB := hid hJb; clear hJb
  have HJ0 := hid h0; clear h0
  clear hT hI hT' hI' hs0 hs1
  have hwd : Fence.wide.depth.isSome = false := rfl
  have hf1 : Fence.wide.fn 53 := trivial
  have hc3 : (W0.alloc (.cells (mrow A n c []) 62)).cell? ⟨h + 1, 0, none⟩ = some (.slice A1 n1 c1) := (World.cell?_of_block (Below.heap_alloc W0 _ (h + 1) hh)).trans hc2
  rw [mrow_nil] at hc3
  gi_wp2
  obtain ⟨W1, hW1⟩ : ∃ W1, W0.alloc (.cells #[.slice A n c, .int .i64 0, .int .i64 0, .int .i64 0, .int .i64 0, .int .i64 0, .int .i64 0, .int .i64 0, .int .i64 0, .int .i64 0] 62) = W1 := ⟨_, rfl⟩
  have HM := hid (show MRow W1 W0.heap.size (mrow A n c (heldL lst (nth xs) 0)) from by
    rw [← hW1]
    exact (mrow_ext (h := []) (g := heldL lst (nth xs) 0) (fun k _ => by show (0 : Int) = nth (List.replicate lst.length 0) k; simp [nth, List.getD, List.getElem?_replicate]; split <;> rfl)) ▸ MRow.new W0 _)
  have HJ := hid (show J 0 W1 from HJ0.out _ (by rw [← hW1]; exact World.grownBy_alloc _ _ none))
  rw [hW1]
  clear hW1 hc1 hc2 hc3 HJ0
  gi_loopw [11] (fun i wr => ∃ k : Nat, i = .int .i64 k ∧ k ≤ n1 ∧ Hid (J k wr) ∧ Hid (MRow wr W0.heap.size (mrow A n c (heldL lst (nth xs) k)))) (fun i _ => n1 - (intOf i).toNat)
  case atStart => exact ⟨0, rfl, Nat.zero_le _, HJ, HM⟩
  case round =>
    clear HJ HM
    obtain ⟨k, rfl, hk, HJ, HM⟩ := hrel
    by_cases hlt : k < n1
    · obtain ⟨b, off, rfl, _, hc⟩ := (HJS.out k wr HJ.out).2.2.2 (by omega)
      have x0 := hc k hlt
      have xb := HXB.out k
      clear hc
      have CS := hid (fed_any A n c lst (heldL lst (nth xs) k) (heldL lst (nth xs) (k + 1)) (nth xs k) wr (HJS.out k wr HJ.out).1 h1 h8 HLB.out (fun j => by have := HHB.out k j; omega) xb (by rw [heldL_len, HL.out]) (fun j hj => by rw [heldL_at (by rw [HL.out]; exact hj), Int.add_comm]))
      obtain ⟨M, hM⟩ : ∃ M, mrow A n c (heldL lst (nth xs) k) = M := ⟨_, rfl⟩
      have hMs : M.size = 10 := by rw [← hM]; rfl
      rw [hM] at CS HM
      have hG1 : (mrow A n c (heldL lst (nth xs) (k + 1)))[1 + 0]? = some (.int .i64 (cF lst (nth xs) k)) := by rw [mrow_at _ _ _ _ (by omega), heldL_out (by rw [HL.out]; exact h1)]
      obtain ⟨G, hG⟩ : ∃ G, mrow A n c (heldL lst (nth xs) (k + 1)) = G := ⟨_, rfl⟩
      have hGs : G.size = 10 := by rw [← hG]; rfl
      have hGa : G.all (·.oneCell') = true := by rw [← hG]; exact mrow_all _ _ _ _
      rw [hG] at CS hG1
      have HG := hid hG
      have HY1 := hid (fun W C => HY.out k W C hlt)
      obtain ⟨y, hy⟩ : ∃ y, cF lst (nth xs) k = y := ⟨_, rfl⟩
      obtain ⟨x, hx⟩ : ∃ x, nth xs k = x := ⟨_, rfl⟩
      rw [hy] at hG1 HY1
      rw [hx] at CS x0 xb
      clear hy hx hM hG
      have hlti : (k : Int) < (n1 : Int) := by omega
      gi_wp2_with (first
        | refine wpListIn_load_row rfl 62 _ rfl W0.heap.size rfl _ M (0, 0) _ HM.out rfl rfl (by rw [hMs]; kernel_rfl) ?_
        | (gi_at_call 53; refine (callsIn_wide.2 CS.out).mono ?_; rintro e W3 ⟨rfl, g3⟩; have r3 := HM.out.kept g3 (by simp); have hst := r3.stored (G := G) (by rw [hMs, hGs]) hGa; have r4 := r3.setRow G; have y0 := (r4.cell (1 + 0)).trans hG1; obtain ⟨fn, tmps, assign, body, hy, hRd⟩ := HY1.out _ _ (HJB.out k _ _ _ (HJB.out k _ _ _ HJ.out HM.out ⟨g3.os, g3.tape, g3.output, g3.size, fun i hi _ => g3.block i hi (by simp)⟩) r3 (grown_setRow_own W3 W0.heap.size G)) r4; have HR := hid hRd; clear hRd))
      refine HR.out.mono ?_
      rintro e W4 ⟨rfl, hj, hm⟩
      have HJ4 := hid hj
      have HM4 := hid (show MRow W4 W0.heap.size (mrow A n c (heldL lst (nth xs) (k + 1))) from by rw [HG.out]; exact hm)
      clear hj hm
      gi_wp2
      go_roundw
      case rel => exact ⟨k + 1, by go_num, by omega, HJ4, HM4⟩
      case measure => simp [intOf]; omega
    · obtain rfl : k = n1 := by omega
      gi_wp2
      go_end0
      exact ⟨⟨_, rfl⟩, HJ.out⟩
set_option maxRecDepth 100000 in
set_option maxHeartbeats 3200000 in
theorem fedOf_yes (A A1 : Option Addr) (n c n1 c1 : Nat) (l xs : List Int) (w : World) (hs : Sl w w.heap.size A n l) (hs1 : Sl w w.heap.size A1 n1 xs) (hT : tapsOk l = true) (hI : inOk xs = true) :
    Calls Try.prog 23 #[.slice A n c, .slice A1 n1 c1] w fun e w' => ∃ A2 m c2, e = .returned (.slice A2 m c2) ∧ w'.ownsRow w.heap.size 3 1 (.slice A2 m c2) m (ints (fedL l xs)) ∧ m ≤ 16 ∧ Below w.heap.size w w' := by
  obtain ⟨i0, hi, hz0, hz1, hz2⟩ := info_parts info_int
  have HL1 := hid hs1.len
  have hm1 := hs1.max
  have hI' := inOk_iff.1 hI
  rw [HL1.out] at hI'
  have h16 : n1 ≤ 16 := hI'.2
  clear hI'
  have CT := hid (tapsI_any A n c l w _ hs)
  have CI := hid (inI_any A1 n1 c1 xs w _ hs1)
  rw [hT] at CT
  rw [hI] at CI
  have HT := hid hT
  have HI := hid hI
  have HS := hid hs
  have HS1 := hid hs1
  clear hT hI hs hs1
  refine (callsIn_wide (n := 5)).1 ?_
  have hwd : Fence.wide.depth.isSome = false := rfl
  have hwr : Fence.wide.round = none := rfl
  have hf1 : Fence.wide.fn 16 := trivial
  have hf2 : Fence.wide.fn 20 := trivial
  have hf3 : Fence.wide.fn 45 := trivial
  refine callsIn_of_wp_marks Try.func23 rfl trivial ?_ rfl
  simp only [Try.ntmps23, List.size_toArray, List.length_cons, List.length_nil, Nat.reduceAdd, Nat.reduceSub, Array.replicate_succ, Array.replicate_zero, List.push_toArray, List.append_toArray, List.nil_append, List.cons_append]
  gi_wp2_with (first
    | (gi_at_call 16; refine (callsIn_wide.2 CT.out).mono ?_; rintro e w' ⟨rfl, rfl⟩)
    | (gi_at_call 20; refine (callsIn_wide.2 CI.out).mono ?_; rintro e w' ⟨rfl, rfl⟩)
    | (gi_at_make; refine wpListIn_make_own _ rfl _ _ 23 rfl w.heap.size 3 i0 (.int .i64 0) 1 Try.underlying23 hi hz0 hz1 .i64 .i64 _ n1 rfl rfl rfl (by rw [hz2]; omega) (by simp only [maxLen]; omega) (Nat.le_refl _) ?_; intro w2 o2 g2)
    | (gi_at_call 45; refine (callsIn_wide.2 (fedSumsF_any _ _ _ _ _ _ _)).mono ?_; rintro e w' ⟨rfl, rfl⟩))
  obtain ⟨z, hz⟩ : ∃ z, w2.heap.size = z := ⟨_, rfl⟩
  have hzw : w.heap.size ≤ z := by rw [← hz]; exact g2.size
  rw [hz]
  obtain ⟨W0, hW0⟩ : ∃ W0 : World, ((w2.alloc (.cells #[.slice (some ⟨w.heap.size, 0, none⟩) 0 n1] 23)).alloc (.cells #[.slice A n c] 23)).alloc (.cells #[.slice A1 n1 c1] 23) = W0 := ⟨_, rfl⟩
  rw [hW0]
  have hsz : W0.heap.size = z + 3 := by rw [← hW0, ← hz]; simp
  have hb2 : Below w.heap.size w w2 := below_grown g2
  have hb0 : Below w.heap.size w W0 := by rw [← hW0]; exact ((hb2.alloc (by omega) _).alloc (by simp; omega) _).alloc (by simp; omega) _
  have x0 : Boxed W0 z 23 (.slice (some ⟨w.heap.size, 0, none⟩) 0 n1) := by rw [← hW0, ← hz]; exact ((Boxed.new w2 _ _).alloc _).alloc _
  have x1 : Boxed W0 (z + 1) 23 (.slice A n c) := by
    rw [← hW0, ← hz]
    have h1 := Boxed.new (w2.alloc (.cells #[.slice (some ⟨w.heap.size, 0, none⟩) 0 n1] 23)) 23 (.slice A n c)
    rw [World.size_alloc] at h1
    exact h1.alloc _
  have x2 : Boxed W0 (z + 1 + 1) 23 (.slice A1 n1 c1) := by
    rw [← hW0, ← hz]
    have h1 := Boxed.new ((w2.alloc (.cells #[.slice (some ⟨w.heap.size, 0, none⟩) 0 n1] 23)).alloc (.cells #[.slice A n c] 23)) 23 (.slice A1 n1 c1)
    rw [World.size_alloc, World.size_alloc] at h1
    exact h1
  have r0 : W0.ownsRow w.heap.size 3 1 (.slice (some ⟨w.heap.size, 0, none⟩) 0 n1) 0 (ints []) := by rw [← hW0]; exact ((o2.alloc _).alloc _).alloc _
  clear hW0 hb2 o2 g2 hz CT CI
  have eg : ∀ args w, (callFunc 52 args).run Try.prog w = .ok (.enter 52 args) w := enters_of Try.func52 (by kernel_rfl) rfl
  refine range_bare (n := 5) rfl eg ?_
  intro rc W1 hsz1 hb1 hl1 hd1 hY
  have hbW := hb0.trans (hb1.mono (by omega))
  have HLF := hid (show (fedL l xs).length = n1 from by rw [fedL_len, HL1.out])
  refine (fedSums_in (5 - 1) (W0.heap.size + 1) (z + 1) A A1 n c n1 c1 l xs
    (fun k W => W.heap[W0.heap.size + 1]? = some (.loop (rc .ready none)) ∧ W.heap[W0.heap.size]? = some (.deferred (some [])) ∧
      (∃ v, Boxed W z 23 v ∧ W.ownsRow w.heap.size 3 1 v k (ints ((fedL l xs).take k))) ∧ Below w.heap.size w W) W1 (W0.heap.size + 2) hsz1 HT.out HI.out
    ((hb1.cell (p := ⟨z + 1, 0, none⟩) (by simp; omega)).trans x1.cell) ((hb1.cell (p := ⟨z + 1 + 1, 0, none⟩) (by simp; omega)).trans x2.cell) (by omega)
    (HS.out.on hbW) (HS1.out.on hbW) ?sl ?kept ?yields ?start).mono ?behind
  case sl =>
    rintro k W ⟨_, _, _, hb⟩
    exact ⟨HS.out.on hb, HS1.out.on hb⟩
  case kept =>
    rintro k W W' C ⟨hl, hd, ⟨v, hv, hr⟩, hb⟩ hm hg
    have hlt : W0.heap.size + 2 < W.heap.size := hm.lt
    exact ⟨(hg.block _ (by omega) (by simp)).trans hl, (hg.block _ (by omega) (by simp)).trans hd, ⟨v, hv.kept hg (by simp; omega), hr.kept hg (.inr (hm.not_row hr).symm)⟩, hb.grown hg hb.size (by intro i hi; cases hi; omega)⟩
  case start =>
    intro W hg
    exact ⟨(hg.block _ (by omega) (by simp)).trans hl1, (hg.block _ (by omega) (by simp)).trans hd1, ⟨_, Boxed.kept (W := W1) ((hb1.block _ (by omega)).trans x0) hg (by simp), own_kept_none (own_on r0 hb1) hg⟩, hbW.trans ((below_grown hg).mono hbW.size)⟩
  case yields =>
    rintro k W C hkn ⟨hl, hd, ⟨v, hv, hr⟩, hb⟩ hm
    have hTk := hid (show (fedL l xs).take (k + 1) = (fedL l xs).take k ++ [cF l (nth xs) k] from by rw [take_nth (by rw [HLF.out]; exact hkn), nth_fedL (by rw [HL1.out]; exact hkn)])
    obtain ⟨y, hy⟩ : ∃ y, cF l (nth xs) k = y := ⟨_, rfl⟩
    rw [hy] at hTk ⊢
    clear hy
    refine hY #[.int .i64 y] W _ rfl hl ⟨?a1, ?w1, ?assign, ?ready, ?body⟩
    case assign =>
      intro K hK
      gi_wp2
      exact hK
    case ready => exact hl
    have hsW : w.heap.size ≤ W.heap.size := hb.size
    have hlW : W0.heap.size + 1 < W.heap.size := (Array.getElem?_eq_some_iff.1 hl).1
    obtain ⟨Wb, hWb⟩ : ∃ Wb, W.putObj (W0.heap.size + 1) (.loop (rc .busy none)) = Wb := ⟨_, rfl⟩
    rw [hWb]
    have lb : Wb.heap[W0.heap.size + 1]? = some (.loop (rc .busy none)) := by rw [← hWb]; exact World.putObj_heap_same hlW
    have db : Wb.heap[W0.heap.size]? = some (.deferred (some [])) := by rw [← hWb]; exact (World.putObj_heap_other (by omega)).trans hd
    have vb : Boxed Wb z 23 v := by rw [← hWb]; exact boxed_putX hv _ (by omega)
    have rb : Wb.ownsRow w.heap.size 3 1 v k (ints ((fedL l xs).take k)) := by rw [← hWb]; exact ownsRow_putObj hr _ hl rfl
    have bb : Below w.heap.size w Wb := by rw [← hWb]; exact below_putX hb _ (by omega) hsW
    have mb : MRow Wb (W0.heap.size + 2) C := by rw [← hWb]; exact (World.putObj_heap_other (by omega)).trans hm
    have szb : w.heap.size ≤ Wb.heap.size := bb.size
    have hcv := vb.cell
    have hfv := vb.frozen
    have hmr := hid (mb.not_row rb)
    have HMB := hid mb
    have HSZ := hid hsz
    clear hl hd hv hr hb hWb hm mb hsz
    gi_wp2_with (gi_at_builtin; refine wpListIn_append_own _ rfl _ _ 23 rfl w.heap.size 3 i0 (.int .i64 0) 1 8 Try.underlying23 hi hz0 hz1 hz2 rfl (by decide) _ _ _ rfl (rb.alloc _) ⟨Wb.heap.size, 0, none⟩ 1 1 [.int .i64 y] rfl rfl (cell_one_new _ _ _) (by simp [Value.oneCell']) (by simp only [maxLen]; omega) (by omega) (by simp; omega) ?_; intro v' w1 hown' hgrow _; obtain ⟨g', cap', rfl⟩ := ownsRow_succ hown'; have HGR := hid hgrow; obtain ⟨hv1, hv2, hr2, hk2, hbz⟩ := vb.appended (by decide) rb szb hzw hown' hgrow; have hc1 := hv1.cell; have hf1 := hv1.frozen)
    have hl3 := hk2.same _ _ lb rfl
    have hd3 := hk2.same _ _ db rfl
    have hz3 := HSZ.out
    have m3 : MRow (w1.setCell ⟨z, 0, none⟩ (.slice (some ⟨g', 0, none⟩) (k + 1) cap')) (W0.heap.size + 2) C := ((HMB.out.alloc _).kept HGR.out hmr.out).other (by omega) _ _
    refine ⟨hl3, rfl, ⟨World.putObj_heap_same (Array.getElem?_eq_some_iff.1 hl3).1, (World.putObj_heap_other (by omega)).trans hd3, ⟨_, boxed_putX hv2 _ (by omega), ?_⟩, below_putX (bb.trans hbz) _ (by omega) (bb.trans hbz).size⟩, (World.putObj_heap_other (by omega)).trans m3⟩
    have e3 : ints ((fedL l xs).take k) ++ [.int .i64 y] = List.take (k + 1) (List.map (Value.int .i64) (fedL l xs)) := by rw [← List.map_take, hTk.out]; simp [ints]
    rw [← e3]
    exact ownsRow_putObj hr2 _ hl3 rfl
  case behind =>
    rintro e W' ⟨hv, hl, hd, ⟨v, hv2, hr⟩, hb⟩
    refine ⟨hv, .inl ⟨hl, fun o => ?_⟩⟩
    obtain ⟨W2, hW2⟩ : ∃ W2, W'.putObj (W0.heap.size + 1) o = W2 := ⟨_, rfl⟩
    rw [hW2]
    rw [List.take_of_length_le (by rw [HLF.out]; exact Nat.le_refl _)] at hr
    have hcv : W2.cell? ⟨z, 0, none⟩ = some v := by rw [← hW2]; exact (boxed_putX hv2 _ (by omega)).cell
    have hK2 : W2.heap[W0.heap.size]? = some (.deferred (some [])) := by rw [← hW2]; exact (World.putObj_heap_other (by omega)).trans hd
    have hr2 : W2.ownsRow w.heap.size 3 1 v n1 (ints (fedL l xs)) := by rw [← hW2]; exact ownsRow_putObj hr _ hl rfl
    have hb2 : Below w.heap.size w W2 := by rw [← hW2]; exact below_putX hb _ (by omega) hb.size
    obtain ⟨A3, c3, rfl⟩ : ∃ A c, v = .slice A n1 c := by
      rcases hr2.2 with ⟨h1, h2⟩ | ⟨g, cap, cur, h1, _⟩
      · exact ⟨none, 0, by rw [h1, h2]⟩
      · exact ⟨_, _, h1⟩
    have HR2 := hid hr2
    have HSZ := hid hsz
    clear hW2 hb hl hd hr hv2 hr2 hsz
    gi_wp2
    refine ⟨by simp, .inl ⟨_, _, rfl, run_takeDeferred hK2, ?_⟩⟩
    exact ⟨_, results_tmp rfl _ _ _, A3, n1, c3, rfl, ownsRow_putObj HR2.out _ hK2 rfl, h16, below_putX hb2 _ (by have := HSZ.out; omega) hb2.size⟩

set_option maxHeartbeats 800000 in
theorem implFedOf_any (A : Option Addr) (n c : Nat) (l : List Int) (A1 : Option Addr) (n1 c1 : Nat) (xs : List Int) (w : World) (hs : Sl w w.heap.size A n l) (hs1 : Sl w w.heap.size A1 n1 xs) :
    Calls Try.prog 23 #[.slice A n c, .slice A1 n1 c1] w fun e w' => ∃ A2 m c2, e = .returned (.slice A2 m c2) ∧ w'.ownsRow w.heap.size 3 1 (.slice A2 m c2) m (ints (fedOut l xs)) ∧ m ≤ 16 ∧ Below w.heap.size w w' := by
  have CT := hid (tapsI_any A n c l w _ hs)
  have CI := hid (inI_any A1 n1 c1 xs w _ hs1)
  cases hk : tapsOk l with
  | false =>
    have HO := hid (show fedOut l xs = [] from by unfold fedOut; rw [hk]; rfl)
    rw [hk] at CT
    clear hk hs hs1
    go_enter Try.func23, Try.ntmps23
    go_wp2_with (go_at_call 16; refine CT.out.mono ?_; rintro e w' ⟨rfl, rfl⟩)
    go_ret
    exact ⟨none, 0, 0, rfl, by rw [HO.out]; exact World.ownsRow_nil _ _ _ _, by omega, Below.refl _ _⟩
  | true =>
    cases hk2 : inOk xs with
    | false =>
      have HO := hid (show fedOut l xs = [] from by unfold fedOut; rw [hk2]; simp)
      rw [hk] at CT
      rw [hk2] at CI
      clear hk hk2 hs hs1
      go_enter Try.func23, Try.ntmps23
      go_wp2_with (first | (go_at_call 16; refine CT.out.mono ?_; rintro e w' ⟨rfl, rfl⟩) | (go_at_call 20; refine CI.out.mono ?_; rintro e w' ⟨rfl, rfl⟩))
      go_ret
      exact ⟨none, 0, 0, rfl, by rw [HO.out]; exact World.ownsRow_nil _ _ _ _, by omega, Below.refl _ _⟩
    | true =>
      rw [show fedOut l xs = fedL l xs from by unfold fedOut; rw [hk, hk2]; rfl]
      exact fedOf_yes A A1 n c n1 c1 l xs w hs hs1 hk hk2

set_option maxRecDepth 100000 in
set_option maxHeartbeats 800000 in
theorem implBehindOf_any (A : Option Addr) (n c : Nat) (l : List Int) (A1 : Option Addr) (n1 c1 : Nat) (m : List Int) (A2 : Option Addr) (n2 c2 : Nat) (xs : List Int) (w : World) (hs : Sl w w.heap.size A n l) (hs1 : Sl w w.heap.size A1 n1 m) (hs2 : Sl w w.heap.size A2 n2 xs) :
    Calls Try.prog 31 #[.slice A n c, .slice A1 n1 c1, .slice A2 n2 c2] w fun e w' => ∃ A3 k c3, e = .returned (.slice A3 k c3) ∧ w'.ownsRow w.heap.size 3 1 (.slice A3 k c3) k (ints (behindOut l m xs)) ∧ k ≤ 16 ∧ Below w.heap.size w w' := by
  have CF := hid (implFedOf_any A n c l A2 n2 c2 xs w hs hs2)
  have H1 := hid hs1
  clear hs hs1 hs2
  go_enter Try.func31, Try.ntmps31
  go_wp2_with fail
  with_reducible refine Calls.mono CF.out ?_
  rintro e w1 ⟨A3, k, c3, rfl, o1, hk, b1⟩
  have CG := hid (implFedOf_any A1 n1 c1 m A3 k c3 (fedOut l xs) w1 (H1.out.on b1) (Sl.of_own o1))
  have B1 := hid b1
  clear o1 b1 CF
  go_wp2_with fail
  with_reducible refine Calls.mono CG.out ?_
  rintro e w2 ⟨A4, j, c4, rfl, o2, hj, b2⟩
  have HO := hid (own_mono (base' := w.heap.size) o2 B1.out.size)
  clear o2
  go_wp2
  go_ret
  exact ⟨_, _, _, rfl, HO.out, hj, B1.out.trans (b2.mono B1.out.size)⟩
end Go.Proofs.Ytmkbbkpgdfpcoaa
