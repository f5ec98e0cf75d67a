/-
  Counters' boxes, and the walk of the model's CounterOf. No statement is proved here.
-/
import Derived.Test.YtdacjpaaffpfgaaC6b
import Derived.Deep.OwnRows
import Derived.BigRegion
namespace Go.Proofs.Ytdacjpaaffpfgaa
open Go.RowKit
set_option linter.unusedVariables false
set_option linter.unusedSimpArgs false

/-- Block b is a counter's box. -/
def Bk (w : World) (b : Nat) (u v : Value) : Prop := w.heap[b]? = some (.cells #[u, v] 25 (0, 0))
section
variable {w w' : World} {b g : Nat} {x y : Value}
theorem Bk.lt (h : Bk w b x y) : b < w.heap.size := by
  rcases Nat.lt_or_ge b w.heap.size with hlt | hge
  · exact hlt
  · unfold Bk at h; rw [Array.getElem?_eq_none hge] at h; cases h
theorem Bk.new (w : World) (x y : Value) : Bk (w.alloc (.cells #[x, y] 25)) w.heap.size x y := heap_alloc_new w _
theorem Bk.on {row : Option Nat} (h : Bk w b x y) (hg : w.grownBy w' row) (hn : some b ≠ row) : Bk w' b x y := (hg.block b h.lt hn).trans h
theorem Bk.below {B : Nat} (h : Bk w b x y) (hb : Below B w w') (hB : b < B) : Bk w' b x y := (hb.block b hB).trans h
theorem Bk.c0 (h : Bk w b x y) : w.cell? ⟨b, 0, none⟩ = some x := cell_of_row w b 0 _ _ _ h
theorem Bk.c1 (h : Bk w b x y) : w.cell? ⟨b, 1, none⟩ = some y := cell_of_row w b 1 _ _ _ h
theorem Bk.fz (h : Bk w b x y) (i : Nat) : w.frozen? ⟨b, i, none⟩ = false := frozen_of_row w b i _ _ h
theorem Bk.set1 (h : Bk w b x y) (v : Value) : Bk (w.setCell ⟨b, 1, none⟩ v) b x v := by
  have := heap_setCell_same w b 1 _ _ v h
  unfold Bk
  rw [this]
  rfl
theorem Bk.set0 (h : Bk w b x y) (v : Value) : Bk (w.setCell ⟨b, 0, none⟩ v) b v y := by
  have := heap_setCell_same w b 0 _ _ v h
  unfold Bk
  rw [this]
  rfl
theorem Bk.set (h : Bk w b x y) (u v : Value) : Bk ((w.setCell ⟨b, 0, none⟩ u).setCell ⟨b, 1, none⟩ v) b u v := (h.set0 u).set1 v
end
theorem below_put (w : World) (b i : Nat) (v : Value) : Below b w (w.setCell ⟨b, i, none⟩ v) := (Below.refl b w).setCell (p := ⟨b, i, none⟩) (Nat.le_refl _) v
theorem below_put2 (w : World) (b : Nat) (u v : Value) : Below b w ((w.setCell ⟨b, 0, none⟩ u).setCell ⟨b, 1, none⟩ v) :=
  ((Below.refl b w).setCell (p := ⟨b, 0, none⟩) (Nat.le_refl _) u).setCell (p := ⟨b, 1, none⟩) (Nat.le_refl _) v
theorem size_ctr : (Try.prog.info? 25).map (·.size) = some 2 := by kernel_rfl
theorem own_put {w : World} {B n g o : Nat} {v : Value} {e : TypeId} {xs : List Value} (x : Value) (h : w.ownsRow B e 1 v n xs) (hne : ∀ k, v.ownBlock = some k → k ≠ g) : (w.setCell ⟨g, o, none⟩ x).ownsRow B e 1 v n xs := by
  refine ⟨h.1, ?_⟩
  rcases h.2 with h2 | ⟨b, cap, cur, h1, h2, h3, h4⟩
  · exact .inl h2
  · exact .inr ⟨b, cap, cur, h1, h2, (heap_setCell_other _ _ _ _ (hne b (by rw [h1]; rfl))).trans h3, h4⟩
theorem Ctr.putAt {w : World} {B g i : Nat} {A A2 : Option Addr} {n c n2 c2 : Nat} {D C : List Int} (h : Ctr w B A n c A2 n2 c2 D C) (hg : g < B) (x : Value) : Ctr (w.setCell ⟨g, i, Option.none⟩ x) B A n c A2 n2 c2 D C :=
  ⟨own_put x h.d (fun k hk => by have := (h.d.lt k hk).1; omega), own_put x h.e (fun k hk => by have := (h.e.lt k hk).1; omega), h.ap⟩

theorem own_zeros {w : World} {B g n : Nat} (h : w.heap[g]? = some (.cells (madeCells #[.int .i64 0] n) 3 (0, 0))) (hB : B ≤ g) (hm : n ≤ 1000000) : w.ownsRow B 3 1 (.slice (some ⟨g, 0, none⟩) n n) n (ints (List.replicate n 0)) := by
  have e : (madeCells #[.int .i64 0] n).toList = ints (List.replicate n 0) := by
    have := madeInts n
    simpa [Value.cells] using this
  refine ⟨by simp, .inr ⟨g, n, _, rfl, hB, h, Nat.le_refl _, by simp only [maxLen]; omega, ?_, ?_⟩⟩
  · have := congrArg List.length e; simpa using this
  · rw [e]; exact List.take_of_length_le (by simp)
section
variable {P : Program} {fn : Func} {p u : Tmp} {ty : TypeId}
theorem results_k1 (h : fn.results = #[.cell p ty, .tmp u]) (tmps : Array Value) (w : World) (g : Nat) (t : TypeId) (cs : Array Value) (fr : Nat × Nat) (d : TypeDesc)
    (hp : tmps.getD p undef = .pointer (some ⟨g, 0, none⟩)) (hg : w.heap[g]? = some (.cells cs t fr))
    (hu : P.underlying ty = some d) (hd : (match d with | .struct _ | .array _ _ => true | _ => false) = true) (hi : (P.info? ty).map (·.size) = some cs.size) :
    (results fn tmps).run P w = .ok (.tuple #[.agg cs, tmps.getD u undef]) w := by
  have hp' : tmps[p]?.getD undef = .pointer (some ⟨g, 0, none⟩) := by simpa using hp
  simp [results, h, hp', asAddr, run_loadVar_row w g t ty cs fr d hg hu hd hi]
end
theorem two_new (W : World) (o1 o2 : Obj) {s : Nat} (h : W.heap.size = s) : ((W.alloc o1).alloc o2).drew.heap[s]? = some o1 ∧ ((W.alloc o1).alloc o2).drew.heap[s + 1]? = some o2 := by
  subst h
  refine ⟨(Below.heap_alloc (W.alloc o1) o2 W.heap.size (by simp)).trans (heap_alloc_new W o1), ?_⟩
  have := heap_alloc_new (W.alloc o1) o2
  show ((W.alloc o1).alloc o2).heap[W.heap.size + 1]? = some o2
  simpa using this
def zerosOut (n : Int) : List Int := if within n 1 8 = true then List.replicate n.toNat 0 else []

set_option maxRecDepth 100000 in
set_option maxHeartbeats 3200000 in
theorem specCounterOf_any (n : Int) (w : World) (hw : (Lit.int .i64 n).wf = true) :
    Calls Try.prog 21 #[.int .i64 n] w fun e w' => ∃ A n1 c A2 n2 c2, e = .returned (.tuple #[ctr A n1 c A2 n2 c2, .bool (within n 1 8)]) ∧ Ctr w' w.heap.size A n1 c A2 n2 c2 (zerosOut n) (zerosOut n) ∧ Below w.heap.size w w' := by
  have X0 := Bk.new w (.slice none 0 0) (.slice none 0 0)
  have B0 := (Below.refl w.heap.size w).alloc (Nat.le_refl _) (.cells #[.slice none 0 0, .slice none 0 0] 25)
  have hz0 : (w.alloc (.cells #[.slice none 0 0, .slice none 0 0] 25)).heap.size = w.heap.size + 1 := by simp
  have f0 := X0.fz 0
  have f1 := X0.fz 1
  have k0 := X0.c0
  have k1 := X0.c1
  by_cases hn : within n 1 8 = true
  · have hb := within_iff.1 hn
    obtain ⟨N, rfl⟩ : ∃ N : Nat, n = N := Int.eq_ofNat_of_zero_le (by omega)
    have hmk := fun W => run_make_row' (P := Try.prog) 23 3 (.int .i64 0) 8 Try.underlying23 info_int rfl .i64 .i64 N (by omega) (by omega) W
    have HZ := hid (show zerosOut (N : Int) = List.replicate N 0 from by unfold zerosOut; rw [if_pos hn, Int.toNat_natCast])
    have KA := ((Bk.new w (.slice (some ⟨w.heap.size + 1, 0, none⟩) N N) (.slice (some ⟨w.heap.size + 1 + 1, 0, none⟩) N N)).on (row := none) (grown_alloc _ (.cells (madeCells #[.int .i64 0] N) 3) none) (by simp)).on (row := none) (grown_alloc _ (.cells (madeCells #[.int .i64 0] N) 3) none) (by simp)
    have KB := ((Bk.new w (.slice (some ⟨w.heap.size + 1 + 1, 0, none⟩) N N) (.slice (some ⟨w.heap.size + 1, 0, none⟩) N N)).on (row := none) (grown_alloc _ (.cells (madeCells #[.int .i64 0] N) 3) none) (by simp)).on (row := none) (grown_alloc _ (.cells (madeCells #[.int .i64 0] N) 3) none) (by simp)
    go_enter Try.func21, Try.ntmps21
    go_wp2_with (go_at_call 48; refine (l1In_any _ _ _ _).mono ?_; rintro e w' ⟨rfl, rfl⟩)
    go_region
    all_goals
      go_wp2
      (try simp only [Exit.inBlock, Exit.then])
      first
        | (refine bodyPost_ret (results_k1 rfl _ _ w.heap.size 25 _ (0, 0) _ (by simp [Act.put]) KA Try.underlying25 rfl size_ctr) rfl ?_
           refine ⟨_, N, N, _, N, N, by rw [hn]; rfl, ⟨?_, ?_, ?_⟩, ?_⟩
           · rw [HZ.out]; exact own_zeros (two_new _ _ _ (by simp)).1 (by omega) (by omega)
           · rw [HZ.out]; exact own_zeros (two_new _ _ _ (by simp)).2 (by omega) (by omega)
           · intro k hk; simp [Value.ownBlock] at hk ⊢; omega
           · exact ((((Below.refl w.heap.size w).alloc (Nat.le_refl _) _).alloc (by simp) _).alloc (by simp; omega) _).drew)
        | (refine bodyPost_ret (results_k1 rfl _ _ w.heap.size 25 _ (0, 0) _ (by simp [Act.put]) KB Try.underlying25 rfl size_ctr) rfl ?_
           refine ⟨_, N, N, _, N, N, by rw [hn]; rfl, ⟨?_, ?_, ?_⟩, ?_⟩
           · rw [HZ.out]; exact own_zeros (two_new _ _ _ (by simp)).2 (by omega) (by omega)
           · rw [HZ.out]; exact own_zeros (two_new _ _ _ (by simp)).1 (by omega) (by omega)
           · intro k hk; simp [Value.ownBlock] at hk ⊢; omega
           · exact ((((Below.refl w.heap.size w).alloc (Nat.le_refl _) _).alloc (by simp) _).alloc (by simp; omega) _).drew)
  · have hn' : within n 1 8 = false := by simpa using hn
    have HZ := hid (show zerosOut n = [] from by unfold zerosOut; rw [if_neg hn])
    go_enter Try.func21, Try.ntmps21
    go_wp2_with (go_at_call 48; refine (l1In_any _ _ _ _).mono ?_; rintro e w' ⟨rfl, rfl⟩)
    (try simp only [Exit.inBlock, Exit.then])
    refine bodyPost_ret (results_k1 rfl _ _ w.heap.size 25 _ (0, 0) _ (by simp [Act.put]) X0 Try.underlying25 rfl size_ctr) rfl ?_
    exact ⟨_, 0, 0, _, 0, 0, by rw [hn']; rfl, by rw [HZ.out]; exact Ctr.none _ _, B0⟩
end Go.Proofs.Ytdacjpaaffpfgaa
