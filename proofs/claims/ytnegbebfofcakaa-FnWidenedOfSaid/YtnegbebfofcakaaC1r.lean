/-
  Walks of the program's RunOf and StepOf: a range over the rows after 0, 1, 2 .. steps. No statement is proved here.
-/
import Derived.RangeFuncNested
import Derived.RangeFuncBound
import Derived.RangeFuncCalls
import Derived.RangeFuncLeaves
import Derived.Shelf.Abstract
import Derived.Shelf.RegionOpen
import Derived.WalkKit
import Derived.OwnWalkIn
import Derived.TacticsInMore
import Derived.LoopNIn
import Derived.LoopIn
import Derived.Test.YtnegbebfofcakaaC1i
namespace Go.Proofs.Ytnegbebfofcakaa
open Go.RowKit Go.Shelf
set_option linter.unusedVariables false
set_option linter.unusedSimpArgs false

set_option maxHeartbeats 800000 in
theorem clone_any (b off n c : Nat) (l : List Int) (w : World) (hs : Sl w w.heap.size (some ⟨b, off, none⟩) n l) (hn : n ≤ 100000) (h1 : 1 ≤ n) :
    Calls Try.prog 51 #[.slice (some ⟨b, off, none⟩) n c] w fun e w' => ∃ A3 c3, e = .returned (.slice A3 n c3) ∧ w'.ownsRow w.heap.size 3 1 (.slice A3 n c3) n (ints l) ∧ Below w.heap.size w w' := by
  obtain ⟨i0, hi, hz0, hz1, hz2⟩ := info_parts info_int
  have ho0 : (w.alloc (.cells #[] 3)).ownsRow w.heap.size 3 1 (.slice (some ⟨w.heap.size, 0, none⟩) 0 0) 0 (ints []) := World.ownsRow_lit w #[] 0 (Nat.le_refl _) (by simp [maxLen]) rfl
  have hb0 : Below w.heap.size w (w.alloc (.cells #[] 3)) := (Below.refl _ _).alloc (Nat.le_refl _) _
  have HL := hid hs.len
  have s1 := hs.on hb0
  have hnil := fun W : World => Lib.run_eql_slice_nil (P := Try.prog) W 23 3 (some ⟨b, off, none⟩) n c 0 0 Try.underlying23
  go_enter Try.func51, Try.ntmps51
  go_wp2_with (at_builtin; refine wpList_append_own _ rfl (.tmp 5) (.tmp 6) 23 rfl w.heap.size 3 i0 (.int .i64 0) 1 8 Try.underlying23 hi hz0 hz1 hz2 rfl (by decide) (.slice (some ⟨w.heap.size, 0, none⟩) 0 0) _ _ rfl ho0 ⟨b, off, none⟩ n c (ints l) rfl (by rw [List.length_map, HL.out, Nat.mul_one]) s1.cellsAt (ints_one l) (by simp only [maxLen]; omega) (by omega) hb0.size ?_; intro v2 w2 o2 g2 _; rw [Nat.zero_add] at o2; obtain ⟨g3, c3, rfl, hb3, hlt3⟩ := own_shape1 o2 (by omega))
  have b2 := hb0.grown g2 hb0.size (by intro j hj; simp [Value.ownBlock] at hj; omega)
  go_wp2
  go_ret
  exact ⟨_, _, rfl, o2, b2⟩

set_option maxHeartbeats 800000 in
theorem rowsOf_any (w : World) (A A2 : Option Addr) (n c n2 c2 : Nat) (S T : Int) :
    Calls Try.prog 48 #[.agg #[.slice A2 n2 c2, .int .i64 S], .slice A n c, .int .i64 T] w fun e w' =>
      e = .returned (.func (.func 50) #[] #[.pointer (some ⟨w.heap.size + 1, 0, none⟩), .pointer (some ⟨w.heap.size + 1 + 1, 0, none⟩), .pointer (some ⟨w.heap.size, 0, none⟩)]) ∧
      w' = ((w.alloc (.cells #[.slice A2 n2 c2, .int .i64 S] 53)).alloc (.cells #[.slice A n c] 23)).alloc (.cells #[.int .i64 T] 3) := by
  go_enter Try.func48, Try.ntmps48
  go_wp2
  go_ret
  exact ⟨rfl, rfl⟩

/-- Between two rounds: the loop's record l is ready, the block D for deferred calls is empty, and block h is one cell of a slice. -/
structure Rdy (rec : Loop) (l D h : Nat) (W : World) : Prop where
  loop : W.heap[l]? = some (.loop rec)
  def_ : W.heap[D]? = some (.deferred (some []))
  box : ∃ v, W.heap[h]? = some (.cells #[v] 23 (0, 0))
theorem Rdy.below {rec : Loop} {l D h : Nat} {W W' : World} (r : Rdy rec l D h W) (hb : Below W.heap.size W W') : Rdy rec l D h W' := by
  have hlt : ∀ (k : Nat) (o : Obj), W.heap[k]? = some o → k < W.heap.size := fun k o hk => (Array.getElem?_eq_some_iff.1 hk).1
  obtain ⟨v, hv⟩ := r.box
  exact ⟨(hb.block _ (hlt _ _ r.loop)).trans r.loop, (hb.block _ (hlt _ _ r.def_)).trans r.def_, v, (hb.block _ (hlt _ _ hv)).trans hv⟩

/-- A round has gone: the cell of h is set, the record has been turned; all else is as it was. -/
structure Gone (l h : Nat) (x : Value) (W W' : World) : Prop where
  os : W'.os = W.os
  tape : W'.tape = W.tape
  output : W'.output = W.output
  size : W.heap.size ≤ W'.heap.size
  block : ∀ k, k ≠ l → k ≠ h → k < W.heap.size → W'.heap[k]? = W.heap[k]?
  last : W'.heap[h]? = some (.cells #[x] 23 (0, 0))
theorem Gone.below {l h B : Nat} {x : Value} {W W' : World} (g : Gone l h x W W') (h1 : B ≤ l) (h2 : B ≤ h) (hB : B ≤ W.heap.size) : Below B W W' :=
  ⟨g.os, g.tape, g.output, g.size, fun k hk => g.block k (by omega) (by omega) (by omega)⟩
theorem Gone.own {l h B n : Nat} {x v : Value} {e : TypeId} {xs : List Value} {W W' : World} (g : Gone l h x W W') (ho : W.ownsRow B e 1 v n xs) (h1 : l < B) (h2 : h < B) : W'.ownsRow B e 1 v n xs := by
  refine ⟨ho.1, ?_⟩
  rcases ho.2 with h' | ⟨b, cap, cur, e1, hb, hg, rest⟩
  · exact .inl h'
  · exact .inr ⟨b, cap, cur, e1, hb, (g.block b (by omega) (by omega) (Array.getElem?_eq_some_iff.1 hg).1).trans hg, rest⟩

attribute [local go_sem] Oper.semAt_some

set_option maxRecDepth 100000 in
set_option maxHeartbeats 1600000 in
/-- The iterator: the row after 0, 1, 2 .. T steps is handed over, each one in memory of its own; what the rounds have left is known. -/
theorem rows1_in (m : Nat) (rec : Loop) (l D h hr ht hs : Nat) (A A2 : Option Addr) (n c n2 c2 : Nat) (lst r : List Int) (S T : Nat) (W0 : World)
    (hY : ∀ (A : Option Addr) (q c : Nat) (W : World), Rdy rec l D h W → YieldAt Fence.wide (m - 1) Try.prog l #[.slice A q c] W fun e W' => e = .returned (.bool true) ∧ Rdy rec l D h W' ∧ Gone l h (.slice A q c) W W')
    (hR : Rdy rec l D h W0) (hc1 : W0.cell? ⟨hr, 0, none⟩ = some (.slice A n c)) (hc2 : W0.cell? ⟨hs, 0, none⟩ = some (.int .i64 T)) (hc3 : W0.cell? ⟨ht, 0, none⟩ = some (.slice A2 n2 c2)) (hc4 : W0.cell? ⟨ht, 1, none⟩ = some (.int .i64 S))
    (hb1 : hr < D) (hb2 : hs < D) (hb3 : ht < D) (hb4 : h < D) (hb5 : D < l) (hb6 : l < W0.heap.size) (hn1 : hr ≠ h) (hn2 : hs ≠ h) (hn3 : ht ≠ h)
    (hsl : Sl W0 h A n lst) (hsr : Sl W0 h A2 n2 r) (h1 : 1 ≤ S) (h4 : S ≤ 4) (hcl : Cells lst S) (hcr : Cells r S) (hl1 : 1 ≤ n) (hl2 : n ≤ 40) (hn : n2 = S * S * S) (hT : T ≤ 60) :
    CallsIn Fence.wide m Try.prog 50 #[.func (.yield l) #[] #[], .pointer (some ⟨hr, 0, none⟩), .pointer (some ⟨hs, 0, none⟩), .pointer (some ⟨ht, 0, none⟩)] W0 fun e W' => (∃ v, e = .returned v) ∧
      Rdy rec l D h W' ∧ Below h W0 W' ∧ ∃ A3 c3, W'.heap[h]? = some (.cells #[.slice A3 n c3] 23 (0, 0)) ∧ W'.ownsRow (l + 1) 3 1 (.slice A3 n c3) n (ints (runL lst r S T)) := by
  refine callsIn_of_wp Try.func50 rfl trivial ?_ rfl
  simp only [Try.ntmps50, List.size_toArray, List.length_cons, List.length_nil, Nat.reduceAdd, Nat.reduceSub, Array.replicate_succ, Array.replicate_zero, List.push_toArray, List.append_toArray, List.nil_append, List.cons_append]
  obtain ⟨b, off, rfl, hbh, hcc⟩ := hsl.2.2 (by omega)
  clear hcc
  have hmax : n ≤ 9223372036854775807 := hsl.max
  have HN := hid hn; clear hn
  have hwd : Fence.wide.depth.isSome = false := rfl
  have hf1 : Fence.wide.fn 51 := trivial
  have hf2 : Fence.wide.fn 52 := trivial
  gi_wp2_with (gi_at_call 51; refine (callsIn_wide.2 (clone_any b off n c lst _ (hsl.more (by omega)) (by omega) hl1)).mono ?_; rintro e W1 ⟨A5, c5, rfl, o5, b5⟩; have hc2' : W1.cell? ⟨hs, 0, none⟩ = some (.int .i64 T) := (b5.cell (p := ⟨hs, 0, none⟩) (by simp; omega)).trans hc2)
  have hcb : ∀ (k o : Nat), k < W0.heap.size → W1.cell? ⟨k, o, none⟩ = W0.cell? ⟨k, o, none⟩ := fun k o hk => b5.cell (p := ⟨k, o, none⟩) hk
  have o6 := own_mono (base' := l + 1) o5 (by omega)
  have hd3 : W1.cell? ⟨ht, 0, none⟩ = some (.slice A2 n2 c2) := (hcb _ _ (by omega)).trans hc3
  have hd4 : W1.cell? ⟨ht, 1, none⟩ = some (.int .i64 S) := (hcb _ _ (by omega)).trans hc4
  have r1 := hR.below b5
  have bb1 : Below h W0 W1 := b5.mono (by omega)
  have hsz1 := b5.size
  clear hcb hc1 hc2 hc2' hc3 hc4 hR b5 o5
  gi_loopw [5, 9] (fun v i wr => ∃ (A3 : Option Addr) (c3 k : Nat), v = .slice A3 n c3 ∧ i = .int .i64 k ∧ k ≤ T ∧ wr.ownsRow (l + 1) 3 1 (.slice A3 n c3) n (ints (runL lst r S k)) ∧ Rdy rec l D h wr ∧ Below h W0 wr ∧ l < wr.heap.size ∧ wr.cell? ⟨ht, 0, none⟩ = some (.slice A2 n2 c2) ∧ wr.cell? ⟨ht, 1, none⟩ = some (.int .i64 S))
    (fun _ i _ => T - (intOf i).toNat)
  case atStart => exact ⟨A5, c5, 0, rfl, rfl, Nat.zero_le _, o6, r1, bb1, by omega, hd3, hd4⟩
  case round =>
    obtain ⟨A3, c3, k, rfl, rfl, hk, hown, hrd, hb, hls, he3, he4⟩ := hrel
    clear hd3 hd4 r1 bb1 o6
    obtain ⟨fn, tmps, assign, body, hy, hRd⟩ := hY A3 n c3 wr hrd
    have hcell : ∀ (W3 : World) (o : Nat), Gone l h (.slice A3 n c3) wr W3 → W3.cell? ⟨ht, o, none⟩ = wr.cell? ⟨ht, o, none⟩ := fun W3 o g3 => World.cell?_of_block (g3.block ht (by omega) hn3 (by omega))
    have HC := hid hcell; clear hcell
    have HR := hid hRd; clear hRd
    by_cases hlt : k < T
    · have hlt2 : (k : Int) < (T : Int) := by omega
      gi_wp2
      refine HR.out.mono ?_
      rintro e W3 ⟨rfl, r3, g3⟩
      have hf3 : W3.cell? ⟨ht, 0, none⟩ = some (.slice A2 n2 c2) := (HC.out W3 0 g3).trans he3
      have hf4 : W3.cell? ⟨ht, 1, none⟩ = some (.int .i64 S) := (HC.out W3 1 g3).trans he4
      have o3 := g3.own hown (by omega) (by omega)
      have b3 : Below h W0 W3 := hb.trans (g3.below (by omega) (Nat.le_refl _) (by omega))
      have hls3 : l < W3.heap.size := by have := g3.size; omega
      have hs3 := (hsr.below b3).more (show h ≤ W3.heap.size by omega)
      clear he3 he4 g3 hrd hown hy HC HR
      gi_wp2_with (gi_at_call 52; refine (callsIn_wide.2 (nextOf_any A3 A2 n c3 n2 c2 (runL lst r S k) r S _ (Sl.of_own o3) hs3 h1 h4 (cells_run hcl hcr h1 k) hl2 HN.out)).mono ?_; rintro e W4 ⟨A7, c7, rfl, o7, b7⟩)
      have o8 : W4.ownsRow (l + 1) 3 1 (.slice A7 n c7) n (ints (runL lst r S (k + 1))) := own_mono o7 (by omega)
      have r4 := r3.below b7
      have b4 : Below h W0 W4 := b3.trans (b7.mono (by omega))
      have hg3 := (b7.cell (p := ⟨ht, 0, none⟩) (by simp; omega)).trans hf3
      have hg4 := (b7.cell (p := ⟨ht, 1, none⟩) (by simp; omega)).trans hf4
      have hls4 : l < W4.heap.size := by have := b7.size; omega
      clear o7 b7 o3 b3 r3 hf3 hf4 hs3
      gi_wp2
      go_roundw
      case rel => exact ⟨A7, c7, k + 1, rfl, by go_num, by omega, o8, r4, b4, hls4, hg3, hg4⟩
      case measure => simp [intOf]; omega
    · obtain rfl : k = T := by omega
      gi_wp2
      refine HR.out.mono ?_
      rintro e W3 ⟨rfl, r3, g3⟩
      have o3 := g3.own hown (by omega) (by omega)
      have b3 : Below h W0 W3 := hb.trans (g3.below (by omega) (Nat.le_refl _) (by omega))
      have hlast := g3.last
      clear he3 he4 hrd hown hy HC HR
      gi_wp2
      go_end0
      exact ⟨⟨_, rfl⟩, r3, b3, A3, c3, hlast, o3⟩

/-- A range over a function whose body sets one cell, that of block h, to what it is handed, and goes on: the iterator is met by 'hiter', what stands behind the loop by 'hdone'. -/
theorem range_last {P : Program} {g : Operand} {ps : Array Tmp} {assign body : Code} {Q : Exit → Act → World → Prop} {a : Act} {W0 : World} {n gf h : Nat} {lb : Array Value}
    (hg : a.eval g = .func (.func gf) #[] lb) (eg : ∀ args w, (callFunc gf args).run P w = .ok (.enter gf args) w) (hps : ps.size = 1) (hh : h < W0.heap.size) (v0 : Value) (hbox : W0.heap[h]? = some (.cells #[v0] 23 (0, 0)))
    (a₁ : Value → Act) (Fin : World → Prop)
    (hassign : ∀ (x : Value) (W : World) (K : Act → World → Prop), K (a₁ x) W →
      assign.wpIn (Fence.wide.inRound (W0.heap.size + 1)) (n - 1 - 1) P (Exit.then K (fun _ _ _ => False)) { tmps := (ps.zip #[x]).foldl (fun t (p, v) => t.setIfInBounds p v) a.tmps, defers := [] } W)
    (hbody : ∀ (A : Option Addr) (q c : Nat) (v : Value) (W : World) (K : Exit → Act → World → Prop), W.cell? ⟨h, 0, none⟩ = some v → W.frozen? ⟨h, 0, none⟩ = false → (∀ a', K .normal a' (W.setCell ⟨h, 0, none⟩ (.slice A q c))) →
      body.wpIn (Fence.wide.inRound (W0.heap.size + 1)) (n - 1 - 1) P K (a₁ (.slice A q c)) W)
    (hiter : ∀ (rec : Loop) (W1 : World), Rdy rec (W0.heap.size + 1) W0.heap.size h W1 → Below W0.heap.size W0 W1 → W0.heap.size + 1 < W1.heap.size →
      (∀ (A : Option Addr) (q c : Nat) (W : World), Rdy rec (W0.heap.size + 1) W0.heap.size h W → YieldAt Fence.wide (n - 1 - 1) P (W0.heap.size + 1) #[.slice A q c] W fun e W' => e = .returned (.bool true) ∧ Rdy rec (W0.heap.size + 1) W0.heap.size h W' ∧ Gone (W0.heap.size + 1) h (.slice A q c) W W') →
      CallsIn Fence.wide (n - 1) P gf (#[.func (.yield (W0.heap.size + 1)) #[] #[]] ++ lb) W1 fun e W' => (∃ v, e = .returned v) ∧ Rdy rec (W0.heap.size + 1) W0.heap.size h W' ∧ Fin W')
    (hdone : ∀ (W' : World) (o : Obj), Fin W' → W'.heap[W0.heap.size]? = some (.deferred (some [])) → W0.heap.size + 1 < W'.heap.size →
      Q .normal { a with defers := { target := .collected W0.heap.size, args := #[] } :: a.defers } (W'.putObj (W0.heap.size + 1) o)) :
    (Code.rangeFunc g ps assign body).wpIn Fence.wide n P Q a W0 := by
  refine wpIn_rangeFunc ?_
  intro fn hfn
  rw [show Fence.wide.round = none from rfl]
  obtain ⟨rec, hrec⟩ : ∃ rec : Loop, rec = { state := .ready, pending := none, fn := fn, tmps := a.tmps, params := ps, assign := assign, body := body, defers := W0.heap.size } := ⟨_, rfl⟩
  obtain ⟨W1, hW1⟩ : ∃ W1, (W0.alloc (.deferred (some []))).alloc (.loop rec) = W1 := ⟨_, rfl⟩
  have hsz : W1.heap.size = W0.heap.size + 2 := by rw [← hW1]; simp
  have hbw : Below W0.heap.size W0 W1 := by rw [← hW1]; exact ((Below.refl _ W0).alloc (Nat.le_refl _) _).alloc (by simp) _
  have hrd : Rdy rec (W0.heap.size + 1) W0.heap.size h W1 := by
    refine ⟨?_, ?_, v0, (hbw.block h hh).trans hbox⟩
    · rw [← hW1]
      have := World.alloc_heap_new (W0.alloc (.deferred (some []))) (.loop rec)
      rwa [World.size_alloc] at this
    · rw [← hW1]
      exact (Below.heap_alloc _ _ _ (by simp)).trans (World.alloc_heap_new W0 _)
  refine ⟨W0.heap.size + 1, [{ target := .collected W0.heap.size, args := #[] }], W1, { target := .fn (.func gf) lb, args := #[.func (.yield (W0.heap.size + 1)) #[] #[]] }, W1, gf,
    #[.func (.yield (W0.heap.size + 1)) #[] #[]] ++ lb, W1, ?_, ?_, (fun _ _ => trivial), ?_, (fun h => by cases h), ?_⟩
  · rw [← hW1, hrec]
    exact run_enterLoop_outer _ _ _ _ _
  · simp only [resolve, hg]
    simp [go_sem]
  · simp [invoke, go_sem, eg]
  · refine (hiter rec W1 hrd hbw (by omega) ?_).mono ?_
    · intro A q c W r
      obtain ⟨x, hx⟩ : ∃ x, Value.slice A q c = x := ⟨_, rfl⟩
      have hlt : W0.heap.size + 1 < W.heap.size := (Array.getElem?_eq_some_iff.1 r.loop).1
      obtain ⟨v, hv⟩ := r.box
      rw [hx]
      have hy := run_yield (P := P) (args := #[x]) r.loop (by rw [hrec]; simp [hps])
      rw [hrec] at hy
      refine ⟨fn, _, assign, body, hy, roundIn_of_wpIn hfn (hassign x W _ ⟨_, run_beginRound r.loop (by rw [hrec]), ?_⟩)⟩
      obtain ⟨W2, hW2⟩ : ∃ W2, W.putObj (W0.heap.size + 1) (.loop { rec with state := .busy }) = W2 := ⟨_, rfl⟩
      rw [hW2]
      have hb2 : W2.heap[h]? = some (.cells #[v] 23 (0, 0)) := by rw [← hW2]; exact (World.putObj_heap_other (by omega)).trans hv
      have hl2 : W2.heap[W0.heap.size + 1]? = some (.loop { rec with state := .busy }) := by rw [← hW2]; exact World.putObj_heap_same hlt
      have hd2 : W2.heap[W0.heap.size]? = some (.deferred (some [])) := by rw [← hW2]; exact (World.putObj_heap_other (by omega)).trans r.def_
      have hs2 : W2.heap.size = W.heap.size := by rw [← hW2]; simp [World.putObj]
      have hk2 : ∀ k, k ≠ W0.heap.size + 1 → W2.heap[k]? = W.heap[k]? := fun k hk => by rw [← hW2]; exact World.putObj_heap_other hk
      have ho2 : W2.os = W.os ∧ W2.tape = W.tape ∧ W2.output = W.output := by rw [← hW2]; exact ⟨rfl, rfl, rfl⟩
      have hbody' := hbody A q c v W2
      rw [hx] at hbody'
      refine hbody' _ (cell_of_row W2 h 0 _ _ _ hb2) (frozen_of_row W2 h 0 _ _ hb2) fun a' => ?_
      have hl3 : (W2.setCell ⟨h, 0, none⟩ x).heap[W0.heap.size + 1]? = some (.loop { rec with state := .busy }) := (heap_setCell_other W2 ⟨h, 0, none⟩ _ x (by simp; omega)).trans hl2
      have hb3 : (W2.setCell ⟨h, 0, none⟩ x).heap[h]? = some (.cells #[x] 23 (0, 0)) := by simpa using heap_setCell_same W2 h 0 #[v] _ x hb2
      have hs3 : (W2.setCell ⟨h, 0, none⟩ x).heap.size = W2.heap.size := by simp
      refine ⟨_, _, run_endRound (P := P) none hl3, rfl, ⟨?_, ?_, x, ?_⟩, ⟨?_, ?_, ?_, ?_, ?_, ?_⟩⟩
      · rw [World.putObj_heap_same (by omega)]
        rw [hrec]
        rfl
      · exact (World.putObj_heap_other (by omega)).trans ((heap_setCell_other W2 ⟨h, 0, none⟩ _ x (by simp; omega)).trans hd2)
      · exact (World.putObj_heap_other (by omega)).trans hb3
      · exact ho2.1
      · exact ho2.2.1
      · exact ho2.2.2
      · simp only [World.putObj]
        simp
        omega
      · intro k hk1 hk2' hk3
        exact (World.putObj_heap_other hk1).trans ((heap_setCell_other W2 ⟨h, 0, none⟩ _ x (by simpa using hk2')).trans (hk2 k hk1))
      · exact (World.putObj_heap_other (by omega)).trans hb3
    · rintro e W2 ⟨⟨v, rfl⟩, r, hfin⟩
      have hlt : W0.heap.size + 1 < W2.heap.size := (Array.getElem?_eq_some_iff.1 r.loop).1
      have he := run_endLoop (P := P) r.loop (by rw [hrec]; simp)
      refine ⟨_, _, he, ?_⟩
      rw [hrec]
      exact hdone W2 _ hfin r.def_ hlt

set_option maxRecDepth 100000 in
set_option maxHeartbeats 1600000 in
theorem runOf_yes (A A2 : Option Addr) (n c n2 c2 : Nat) (l r : List Int) (S T : Nat) (w : World) (hs : Sl w w.heap.size A n l) (hs2 : Sl w w.heap.size A2 n2 r)
    (k1 : cellsOk l S = true) (k2 : ruleOk r S = true) (hT : T ≤ 60) :
    Calls Try.prog 32 #[.slice A n c, .slice A2 n2 c2, .int .i64 S, .int .i64 T] w fun e w' => ∃ A3 c3, e = .returned (.slice A3 n c3) ∧ w'.ownsRow w.heap.size 3 1 (.slice A3 n c3) n (ints (runL l r S T)) ∧ Below w.heap.size w w' := by
  refine (callsIn_wide (n := 5)).1 ?_
  have hwd : Fence.wide.depth.isSome = false := rfl
  have hwr : Fence.wide.round = none := rfl
  have hf1 : Fence.wide.fn 16 := trivial
  have hf2 : Fence.wide.fn 22 := trivial
  have hf3 : Fence.wide.fn 48 := trivial
  refine callsIn_of_wp_marks Try.func32 rfl trivial ?_ rfl
  simp only [Try.ntmps32, List.size_toArray, List.length_cons, List.length_nil, Nat.reduceAdd, Nat.reduceSub, Array.replicate_succ, Array.replicate_zero, List.push_toArray, List.append_toArray, List.nil_append, List.cons_append]
  gi_wp2_with (first | (gi_at_call 16; refine (callsIn_wide.2 (cellsOk_any _ _ _ l _ _ _ hs)).mono ?_; rintro e w' ⟨rfl, rfl⟩) | (gi_at_call 22; refine (callsIn_wide.2 (ruleOk_any _ _ _ r _ _ _ hs2)).mono ?_; rintro e w' ⟨rfl, rfl⟩) | (gi_at_call 48; refine (callsIn_wide.2 (rowsOf_any _ A A2 n c n2 c2 S T)).mono ?_; rintro e w' ⟨rfl, rfl⟩))
  obtain ⟨S', e', h1, h4, hr, _⟩ := ruleOk_nat k2
  obtain rfl : S = S' := by omega
  obtain ⟨S'', e'', _, _, hl1, hl2, hcl⟩ := cellsOk_nat k1
  obtain rfl : S = S'' := by omega
  have hcr := cells_rule k2 rfl h1
  rw [hs.len] at hl1 hl2
  rw [hs2.len] at hr
  have HN2 := hid hr; clear hr
  obtain ⟨W0, hW0⟩ : ∃ W0 : World, (((((w.alloc (.cells #[.slice none 0 0] 23)).alloc (.cells #[.slice A2 n2 c2, .int .i64 S] 53)).alloc (.cells #[.slice A2 n2 c2, .int .i64 S] 53)).alloc (.cells #[.slice A n c] 23)).alloc (.cells #[.int .i64 T] 3)) = W0 := ⟨_, rfl⟩
  rw [hW0]
  have hsz : W0.heap.size = w.heap.size + 5 := by rw [← hW0]; simp
  have hb0 : Below w.heap.size w W0 := by rw [← hW0]; exact ((((((Below.refl _ w).alloc (Nat.le_refl _) _).alloc (by simp) _).alloc (by simp; omega) _).alloc (by simp; omega) _).alloc (by simp; omega) _)
  have x0 : W0.heap[w.heap.size]? = some (.cells #[.slice none 0 0] 23 (0, 0)) := by
    rw [← hW0]
    rw [Below.heap_alloc _ _ _ (by simp only [World.size_alloc]; omega), Below.heap_alloc _ _ _ (by simp only [World.size_alloc]; omega), Below.heap_alloc _ _ _ (by simp only [World.size_alloc]; omega), Below.heap_alloc _ _ _ (by simp only [World.size_alloc]; omega)]
    exact heap_alloc_new w _
  have x2 : W0.heap[w.heap.size + 1 + 1]? = some (.cells #[.slice A2 n2 c2, .int .i64 S] 53 (0, 0)) := by
    rw [← hW0]
    rw [Below.heap_alloc _ _ _ (by simp only [World.size_alloc]; omega), Below.heap_alloc _ _ _ (by simp only [World.size_alloc]; omega)]
    exact (by simpa using heap_alloc_new ((w.alloc (.cells #[.slice none 0 0] 23)).alloc (.cells #[.slice A2 n2 c2, .int .i64 S] 53)) (.cells #[.slice A2 n2 c2, .int .i64 S] 53))
  have x3 : W0.heap[w.heap.size + 1 + 1 + 1]? = some (.cells #[.slice A n c] 23 (0, 0)) := by
    rw [← hW0]
    rw [Below.heap_alloc _ _ _ (by simp only [World.size_alloc]; omega)]
    exact (by simpa using heap_alloc_new (((w.alloc (.cells #[.slice none 0 0] 23)).alloc (.cells #[.slice A2 n2 c2, .int .i64 S] 53)).alloc (.cells #[.slice A2 n2 c2, .int .i64 S] 53)) (.cells #[.slice A n c] 23))
  have x4 : W0.heap[w.heap.size + 1 + 1 + 1 + 1]? = some (.cells #[.int .i64 T] 3 (0, 0)) := by
    rw [← hW0]
    exact (by simpa using heap_alloc_new ((((w.alloc (.cells #[.slice none 0 0] 23)).alloc (.cells #[.slice A2 n2 c2, .int .i64 S] 53)).alloc (.cells #[.slice A2 n2 c2, .int .i64 S] 53)).alloc (.cells #[.slice A n c] 23)) (.cells #[.int .i64 T] 3))
  clear hW0 e' e''
  have eg : ∀ args w, (callFunc 50 args).run Try.prog w = .ok (.enter 50 args) w := enters_of Try.func50 (by kernel_rfl) rfl
  refine range_last (n := 5) (h := w.heap.size) rfl eg rfl (by omega) _ x0 ?a1 (fun W' => Below w.heap.size W0 W' ∧ ∃ A3 c3, W'.heap[w.heap.size]? = some (.cells #[.slice A3 n c3] 23 (0, 0)) ∧ W'.ownsRow (W0.heap.size + 1 + 1) 3 1 (.slice A3 n c3) n (ints (runL l r S T))) ?assign ?body ?iter ?done
  case assign =>
    intro x W K hK
    gi_wp2
    exact hK
  case body =>
    intro A5 q5 c5 v W K hc hf hK
    gi_wp2
    exact hK _
  case iter =>
    intro rec W1 hrd hbw hlt hY
    have hB : ∀ k, k < W0.heap.size → W1.heap[k]? = W0.heap[k]? := fun k hk => hbw.block k hk
    refine (rows1_in (5 - 1) rec (W0.heap.size + 1) W0.heap.size w.heap.size (w.heap.size + 1 + 1 + 1) (w.heap.size + 1 + 1) (w.heap.size + 1 + 1 + 1 + 1) A A2 n c n2 c2 l r S T W1 hY hrd
      (cell_of_row W1 _ 0 _ _ _ ((hB _ (by omega)).trans x3)) (cell_of_row W1 _ 0 _ _ _ ((hB _ (by omega)).trans x4)) (cell_of_row W1 _ 0 _ _ _ ((hB _ (by omega)).trans x2)) (cell_of_row W1 _ 1 _ _ _ ((hB _ (by omega)).trans x2))
      (by omega) (by omega) (by omega) (by omega) (by omega) (by omega) (by omega) (by omega) (by omega)
      (hs.below (hb0.trans (hbw.mono (by omega)))) (hs2.below (hb0.trans (hbw.mono (by omega)))) h1 h4 hcl hcr hl1 hl2 HN2.out hT).mono ?_
    rintro e W' ⟨he, h2, h3, h5⟩
    exact ⟨he, h2, (hbw.mono (by omega)).trans h3, h5⟩
  case done =>
    rintro W' o ⟨hb, A3, c3, hlast, hown⟩ hK hlt
    obtain ⟨W2, hW2⟩ : ∃ W2, W'.putObj (W0.heap.size + 1) o = W2 := ⟨_, rfl⟩
    rw [hW2]
    have hl2 : W2.cell? ⟨w.heap.size, 0, none⟩ = some (.slice A3 n c3) := by rw [← hW2]; exact cell_of_row _ _ 0 _ _ _ ((World.putObj_heap_other (by omega)).trans hlast)
    have hK2 : W2.heap[W0.heap.size]? = some (.deferred (some [])) := by rw [← hW2]; exact (World.putObj_heap_other (by omega)).trans hK
    have hown2 : W2.ownsRow (W0.heap.size + 1 + 1) 3 1 (.slice A3 n c3) n (ints (runL l r S T)) := by
      rw [← hW2]
      exact hown.kept (grownBy_putObj' W' _ o) (own_apart (own_lo hown) (own_hi hown) (v := .slice (some ⟨W0.heap.size + 1, 0, none⟩) 0 0) (lv := W0.heap.size + 1) (hv := W0.heap.size + 1 + 1) (by intro k hk; simp [Value.ownBlock] at hk; omega) (by intro k hk; simp [Value.ownBlock] at hk; omega) (by omega))
    have hb2 : Below w.heap.size w W2 := by
      rw [← hW2]
      exact (hb0.trans hb).grown (grownBy_putObj' W' _ o) (by omega) (by intro k hk; cases hk; omega)
    have hs2' : W2.heap.size = W'.heap.size := by rw [← hW2]; simp [World.putObj]
    clear hW2 hb hlast hown hK
    gi_wp2
    refine ⟨by simp, .inl ⟨_, _, rfl, run_takeDeferred hK2, ?_⟩⟩
    refine ⟨_, results_tmp rfl _ _ _, A3, c3, rfl, ?_, ?_⟩
    · exact own_mono (hown2.kept (grownBy_putObj' W2 _ _) (own_apart (own_lo hown2) (own_hi hown2) (v := .slice (some ⟨W0.heap.size, 0, none⟩) 0 0) (lv := W0.heap.size) (hv := W0.heap.size + 1) (by intro k hk; simp [Value.ownBlock] at hk; omega) (by intro k hk; simp [Value.ownBlock] at hk; omega) (by omega))) (by omega)
    · exact hb2.grown (grownBy_putObj' W2 _ _) (by omega) (by intro k hk; cases hk; omega)

set_option maxHeartbeats 1600000 in
theorem runOf_any (A A2 : Option Addr) (n c n2 c2 : Nat) (l r : List Int) (s t : Int) (w : World) (hs : Sl w w.heap.size A n l) (hs2 : Sl w w.heap.size A2 n2 r) :
    Calls Try.prog 32 #[.slice A n c, .slice A2 n2 c2, .int .i64 s, .int .i64 t] w fun e w' => ∃ A3 m c3, e = .returned (.slice A3 m c3) ∧ w'.ownsRow w.heap.size 3 1 (.slice A3 m c3) m (ints (runOut l r s t)) ∧ m ≤ 64 ∧ Below w.heap.size w w' := by
  by_cases k1 : cellsOk l s = true
  · by_cases k2 : ruleOk r s = true
    · by_cases k3 : within t 0 60 = true
      · obtain ⟨S, rfl, h1, h4, hl1, hl2, hcl⟩ := cellsOk_nat k1
        obtain ⟨t0, t1⟩ := within_iff.1 k3
        obtain ⟨T, rfl⟩ := Int.eq_ofNat_of_zero_le t0
        have ht : runOut l r S T = runL l r S T := by rw [runOut, k1, k2, k3]; rfl
        refine (runOf_yes A A2 n c n2 c2 l r S T w hs hs2 k1 k2 (by omega)).mono ?_
        rintro e w' ⟨A3, c3, rfl, ho, hb⟩
        exact ⟨A3, n, c3, rfl, by rw [ht]; exact ho, by rw [← hs.len]; omega, hb⟩
      · have k3' : within t 0 60 = false := by simpa using k3
        have ht : runOut l r s t = [] := by rw [runOut, k1, k2, k3']; rfl
        have HT := hid ht; clear ht
        simp only [within, decide_eq_true_eq] at k3
        clear k3'
        by_cases h0 : t < 0
        · go_enter Try.func32, Try.ntmps32
          go_wp2_with (first | (go_at_call 16; refine (cellsOk_any _ _ _ l _ _ _ hs).mono ?_; rintro e w' ⟨rfl, rfl⟩) | (go_at_call 22; refine (ruleOk_any _ _ _ r _ _ _ hs2).mono ?_; rintro e w' ⟨rfl, rfl⟩))
          go_ret
          exact ⟨_, 0, 0, rfl, by rw [HT.out]; exact World.ownsRow_nil _ _ _ _, by omega, Below.refl _ _⟩
        · have h0' : decide (t < 0) = false := by simpa using h0
          have h6 : 60 < t := by omega
          go_enter Try.func32, Try.ntmps32
          go_wp2_with (first | (go_at_call 16; refine (cellsOk_any _ _ _ l _ _ _ hs).mono ?_; rintro e w' ⟨rfl, rfl⟩) | (go_at_call 22; refine (ruleOk_any _ _ _ r _ _ _ hs2).mono ?_; rintro e w' ⟨rfl, rfl⟩))
          go_ret
          exact ⟨_, 0, 0, rfl, by rw [HT.out]; exact World.ownsRow_nil _ _ _ _, by omega, Below.refl _ _⟩
    · have k2' : ruleOk r s = false := by simpa using k2
      have ht : runOut l r s t = [] := by rw [runOut, k1, k2']; rfl
      have HT := hid ht; clear ht k2
      go_enter Try.func32, Try.ntmps32
      go_wp2_with (first | (go_at_call 16; refine (cellsOk_any _ _ _ l _ _ _ hs).mono ?_; rintro e w' ⟨rfl, rfl⟩) | (go_at_call 22; refine (ruleOk_any _ _ _ r _ _ _ hs2).mono ?_; rintro e w' ⟨rfl, rfl⟩))
      go_ret
      exact ⟨_, 0, 0, rfl, by rw [HT.out]; exact World.ownsRow_nil _ _ _ _, by omega, Below.refl _ _⟩
  · have k1' : cellsOk l s = false := by simpa using k1
    have ht : runOut l r s t = [] := by rw [runOut, k1']; rfl
    have HT := hid ht; clear ht k1
    go_enter Try.func32, Try.ntmps32
    go_wp2_with (first | (go_at_call 16; refine (cellsOk_any _ _ _ l _ _ _ hs).mono ?_; rintro e w' ⟨rfl, rfl⟩) | (go_at_call 22; refine (ruleOk_any _ _ _ r _ _ _ hs2).mono ?_; rintro e w' ⟨rfl, rfl⟩))
    go_ret
    exact ⟨_, 0, 0, rfl, by rw [HT.out]; exact World.ownsRow_nil _ _ _ _, by omega, Below.refl _ _⟩

theorem runOut_one (l r : List Int) (s : Int) : runOut l r s 1 = stepOut l r s := by
  unfold runOut stepOut
  have : within 1 0 60 = true := by decide
  rw [this, Bool.and_true]
  rfl

set_option maxHeartbeats 800000 in
theorem stepOf_any (A A2 : Option Addr) (n c n2 c2 : Nat) (l r : List Int) (s : Int) (w : World) (hs : Sl w w.heap.size A n l) (hs2 : Sl w w.heap.size A2 n2 r) :
    Calls Try.prog 26 #[.slice A n c, .slice A2 n2 c2, .int .i64 s] w fun e w' => ∃ A3 m c3, e = .returned (.slice A3 m c3) ∧ w'.ownsRow w.heap.size 3 1 (.slice A3 m c3) m (ints (stepOut l r s)) ∧ m ≤ 64 ∧ Below w.heap.size w w' := by
  go_enter Try.func26, Try.ntmps26
  go_wp2_with fail
  refine (runOf_any _ _ _ _ _ _ l r s 1 _ hs hs2).mono ?_
  rintro e w1 ⟨A3, m, c3, rfl, o3, hm, b3⟩
  rw [runOut_one] at o3
  go_wp2
  go_ret
  exact ⟨A3, m, c3, rfl, o3, hm, b3⟩

theorem stepOf_x (A : Option Addr) (n c : Nat) (l : List Int) (A2 : Option Addr) (n2 c2 : Nat) (r : List Int) (s : Int) (w : World) (hs : Sl w w.heap.size A n l) (hs2 : Sl w w.heap.size A2 n2 r)  :
    Calls Try.prog 26 #[.slice A n c, .slice A2 n2 c2, .int .i64 s] w fun e w' => ∃ A3 m c3, e = .returned (.slice A3 m c3) ∧ w'.ownsRow w.heap.size 3 1 (.slice A3 m c3) m (ints (stepOut l r s)) ∧ m ≤ 64 ∧ Below w.heap.size w w' :=
  stepOf_any A A2 n c n2 c2 l r s w hs hs2

theorem specStepOf_x (A : Option Addr) (n c : Nat) (l : List Int) (A2 : Option Addr) (n2 c2 : Nat) (r : List Int) (s : Int) (w : World) (hs : Sl w w.heap.size A n l) (hs2 : Sl w w.heap.size A2 n2 r) (hws : (Lit.int .i64 s).wf = true) :
    Calls Try.prog 28 #[.slice A n c, .slice A2 n2 c2, .int .i64 s] w fun e w' => ∃ A3 m c3, e = .returned (.slice A3 m c3) ∧ w'.ownsRow w.heap.size 3 1 (.slice A3 m c3) m (ints (stepOut l r s)) ∧ m ≤ 64 ∧ Below w.heap.size w w' :=
  specStepOf_any A A2 n c n2 c2 l r s w hs hs2 hws

theorem runOf_x (A : Option Addr) (n c : Nat) (l : List Int) (A2 : Option Addr) (n2 c2 : Nat) (r : List Int) (s t : Int) (w : World) (hs : Sl w w.heap.size A n l) (hs2 : Sl w w.heap.size A2 n2 r)  :
    Calls Try.prog 32 #[.slice A n c, .slice A2 n2 c2, .int .i64 s, .int .i64 t] w fun e w' => ∃ A3 m c3, e = .returned (.slice A3 m c3) ∧ w'.ownsRow w.heap.size 3 1 (.slice A3 m c3) m (ints (runOut l r s t)) ∧ m ≤ 64 ∧ Below w.heap.size w w' :=
  runOf_any A A2 n c n2 c2 l r s t w hs hs2

theorem specRunOf_x (A : Option Addr) (n c : Nat) (l : List Int) (A2 : Option Addr) (n2 c2 : Nat) (r : List Int) (s t : Int) (w : World) (hs : Sl w w.heap.size A n l) (hs2 : Sl w w.heap.size A2 n2 r) (hws : (Lit.int .i64 s).wf = true) (hwt : (Lit.int .i64 t).wf = true) :
    Calls Try.prog 33 #[.slice A n c, .slice A2 n2 c2, .int .i64 s, .int .i64 t] w fun e w' => ∃ A3 m c3, e = .returned (.slice A3 m c3) ∧ w'.ownsRow w.heap.size 3 1 (.slice A3 m c3) m (ints (runOut l r s t)) ∧ m ≤ 64 ∧ Below w.heap.size w w' :=
  specRunOf_any A A2 n c n2 c2 l r s t w hs hs2 hws hwt
end Go.Proofs.Ytnegbebfofcakaa
