/-
  Walks of the model's draws of chapter 2. No statement is proved here.
-/
import Derived.Test.YtajjmhfbdknlfaaDr3
namespace Go.Proofs.Ytajjmhfbdknlfaa
open Go.RowKit
set_option linter.unusedVariables false
set_option linter.unusedSimpArgs false

section
variable {P : Program} {fn : Func} {p p2 u v : Tmp} {ty : TypeId}
theorem results_c1 (h : fn.results = #[.cell p ty, .tmp u]) (tmps : Array Value) (w : World) (g : Nat) (t : TypeId) (cs : Array Value) (fr : Nat × Nat) (d : TypeDesc)
    (hp : tmps.getD p undef = .pointer (some ⟨g, 0, none⟩)) (hg : w.heap[g]? = some (.cells cs t fr))
    (hu : P.underlying ty = some d) (hd : (match d with | .struct _ | .array _ _ => true | _ => false) = true) (hi : (P.info? ty).map (·.size) = some cs.size) :
    (results fn tmps).run P w = .ok (.tuple #[.agg cs, tmps.getD u undef]) w := by
  have hp' : tmps[p]?.getD undef = .pointer (some ⟨g, 0, none⟩) := by simpa using hp
  simp [results, h, hp', asAddr, run_loadVar_row w g t ty cs fr d hg hu hd hi]
theorem results_c2 (h : fn.results = #[.cell p ty, .tmp u, .tmp v]) (tmps : Array Value) (w : World) (g : Nat) (t : TypeId) (cs : Array Value) (fr : Nat × Nat) (d : TypeDesc)
    (hp : tmps.getD p undef = .pointer (some ⟨g, 0, none⟩)) (hg : w.heap[g]? = some (.cells cs t fr))
    (hu : P.underlying ty = some d) (hd : (match d with | .struct _ | .array _ _ => true | _ => false) = true) (hi : (P.info? ty).map (·.size) = some cs.size) :
    (results fn tmps).run P w = .ok (.tuple #[.agg cs, tmps.getD u undef, tmps.getD v undef]) w := by
  have hp' : tmps[p]?.getD undef = .pointer (some ⟨g, 0, none⟩) := by simpa using hp
  simp [results, h, hp', asAddr, run_loadVar_row w g t ty cs fr d hg hu hd hi]
theorem results_cc (h : fn.results = #[.cell p ty, .cell p2 ty, .tmp v]) (tmps : Array Value) (w : World) (g g2 : Nat) (t : TypeId) (cs cs2 : Array Value) (fr : Nat × Nat) (d : TypeDesc)
    (hp : tmps.getD p undef = .pointer (some ⟨g, 0, none⟩)) (hg : w.heap[g]? = some (.cells cs t fr)) (hp2 : tmps.getD p2 undef = .pointer (some ⟨g2, 0, none⟩)) (hg2 : w.heap[g2]? = some (.cells cs2 t fr))
    (hu : P.underlying ty = some d) (hd : (match d with | .struct _ | .array _ _ => true | _ => false) = true) (hi : (P.info? ty).map (·.size) = some cs.size) (hi2 : (P.info? ty).map (·.size) = some cs2.size) :
    (results fn tmps).run P w = .ok (.tuple #[.agg cs, .agg cs2, tmps.getD v undef]) w := by
  have hp' : tmps[p]?.getD undef = .pointer (some ⟨g, 0, none⟩) := by simpa using hp
  have hp2' : tmps[p2]?.getD undef = .pointer (some ⟨g2, 0, none⟩) := by simpa using hp2
  simp [results, h, hp', hp2', asAddr, run_loadVar_row w g t ty cs fr d hg hu hd hi, run_loadVar_row w g2 t ty cs2 fr d hg2 hu hd hi2]
end
theorem Bx.off {w : World} {b : Nat} {x y : Int} (h : Bx w b x y) (b' : Nat) (hn : b ≠ b') (u v : Int) : Bx ((w.setCell ⟨b', 0, none⟩ (.int .i64 u)).setCell ⟨b', 1, none⟩ (.int .i64 v)) b x y := by
  unfold Bx
  rw [heap_setCell_other _ _ _ _ hn, heap_setCell_other _ _ _ _ hn]
  exact h

set_option maxHeartbeats 1600000 in
theorem drawSignalOk_any (A : Option Addr) (n c : Nat) (w : World) (hs : By w w.heap.size A n) (hc : n ≤ c) :
    Calls Try.prog 13 #[.slice A n c] w fun e w' => ∃ f d z, e = .returned (.tuple #[sig f d, .int .i64 z]) ∧ -1 ≤ f ∧ f ≤ 53 ∧ -10 ≤ d ∧ d ≤ 10 ∧ -100 ≤ z ∧ z ≤ 100 ∧ Below w.heap.size w w' := by
  have bb : Below w.heap.size w (w.alloc (.cells #[.int .i64 0, .int .i64 0] 24)) := (Below.refl _ _).alloc (Nat.le_refl _) _
  have hs' : By (w.alloc (.cells #[.int .i64 0, .int .i64 0] 24)) (w.alloc (.cells #[.int .i64 0, .int .i64 0] 24)).heap.size A n := hs.on bb
  go_enter Try.func13, Try.ntmps13
  go_wp2_with fail
  refine (open_any A n c _ hs' hc).mono ?_
  rintro e w1 ⟨g, rfl, r1, hg, b1⟩
  have hg : w.heap.size + 1 ≤ g := by simpa using hg
  have X0 := hid ((Bx.new w 0 0).below b1 (by first | (simp; done) | (simp; omega)))
  have b1 : Below w.heap.size w w1 := bb.trans (b1.mono (by first | (simp; done) | (simp; omega)))
  clear bb
  go_wp2_with fail
  refine (last_any g _ _ r1 (by omega)).mono ?_
  rintro e w2 ⟨L, rfl, L0, L1, r2, g2⟩
  have b2 := b1.grown g2 b1.size (by intro k hk; cases hk; omega)
  have X0 := hid (X0.out.on g2 (by simp; omega))
  go_wp2_with fail
  refine (signal_any g _ L 2 _ r2 (by omega) (by omega) (by omega) (by omega) (by omega)).mono ?_
  rintro e w3 ⟨f, d, rfl, f0, f1, d0, d1, r3, g3⟩
  have b3 := b2.grown g3 b2.size (by intro k hk; cases hk; omega)
  have X0 := hid (X0.out.on g3 (by simp; omega))
  go_wp2_with fail
  refine (pick_any g _ 20 _ r3 (by omega) (by omega) (by omega)).mono ?_
  rintro e w4 ⟨x, rfl, x0, x1, r4, g4⟩
  have b4 := b3.grown g4 b3.size (by intro k hk; cases hk; omega)
  have X0 := hid (X0.out.on g4 (by simp; omega))
  have q0 : 0 ≤ x / 19 := Int.ediv_nonneg x0 (by omega)
  have q1 : x / 19 ≤ 1 := by omega
  clear g2 g3 g4
  have bF := b4
  have rF := r4
  have c00 := X0.out.c0
  have c01 := X0.out.c1
  have f00 := X0.out.fz 0
  have f01 := X0.out.fz 1
  have bF := bF.trans (Below.mono (below_set2 w4 w.heap.size (.int .i64 f) (.int .i64 d)) (by omega))
  have X0 := hid (X0.out.set f d)
  have HF := hid bF
  clear bF
  go_wp2
  (try simp only [Exit.inBlock, Exit.then])
  refine bodyPost_ret (results_c1 rfl _ _ w.heap.size 24 _ (0, 0) _ (by simp) X0.out Try.underlying24 rfl size_sig) rfl ?_
  exact ⟨f, d, _, rfl, by omega, by omega, by omega, by omega, by omega, by omega, HF.out⟩

set_option maxHeartbeats 1600000 in
theorem drawRoundOf_any (A : Option Addr) (n c : Nat) (w : World) (hs : By w w.heap.size A n) (hc : n ≤ c) :
    Calls Try.prog 20 #[.slice A n c] w fun e w' => ∃ f d z, e = .returned (.tuple #[sig f d, .int .i64 z]) ∧ -1 ≤ f ∧ f ≤ 53 ∧ -10 ≤ d ∧ d ≤ 10 ∧ -100 ≤ z ∧ z ≤ 100 ∧ Below w.heap.size w w' := by
  have bb : Below w.heap.size w (w.alloc (.cells #[.int .i64 0, .int .i64 0] 24)) := (Below.refl _ _).alloc (Nat.le_refl _) _
  have hs' : By (w.alloc (.cells #[.int .i64 0, .int .i64 0] 24)) (w.alloc (.cells #[.int .i64 0, .int .i64 0] 24)).heap.size A n := hs.on bb
  go_enter Try.func20, Try.ntmps20
  go_wp2_with fail
  refine (open_any A n c _ hs' hc).mono ?_
  rintro e w1 ⟨g, rfl, r1, hg, b1⟩
  have hg : w.heap.size + 1 ≤ g := by simpa using hg
  have X0 := hid ((Bx.new w 0 0).below b1 (by first | (simp; done) | (simp; omega)))
  have b1 : Below w.heap.size w w1 := bb.trans (b1.mono (by first | (simp; done) | (simp; omega)))
  clear bb
  go_wp2_with fail
  refine (last_any g _ _ r1 (by omega)).mono ?_
  rintro e w2 ⟨L, rfl, L0, L1, r2, g2⟩
  have b2 := b1.grown g2 b1.size (by intro k hk; cases hk; omega)
  have X0 := hid (X0.out.on g2 (by simp; omega))
  go_wp2_with fail
  refine (signal_any g _ L 9 _ r2 (by omega) (by omega) (by omega) (by omega) (by omega)).mono ?_
  rintro e w3 ⟨f, d, rfl, f0, f1, d0, d1, r3, g3⟩
  have b3 := b2.grown g3 b2.size (by intro k hk; cases hk; omega)
  have X0 := hid (X0.out.on g3 (by simp; omega))
  clear g2 g3
  have bF := b3
  have rF := r3
  have c00 := X0.out.c0
  have c01 := X0.out.c1
  have f00 := X0.out.fz 0
  have f01 := X0.out.fz 1
  have bF := bF.trans (Below.mono (below_set2 w3 w.heap.size (.int .i64 f) (.int .i64 d)) (by omega))
  have X0 := hid (X0.out.set f d)
  have HF := hid bF
  clear bF
  go_wp2
  (try simp only [Exit.inBlock, Exit.then])
  refine bodyPost_ret (results_c1 rfl _ _ w.heap.size 24 _ (0, 0) _ (by simp) X0.out Try.underlying24 rfl size_sig) rfl ?_
  exact ⟨f, d, _, rfl, by omega, by omega, by omega, by omega, by omega, by omega, HF.out⟩

set_option maxHeartbeats 1600000 in
theorem drawMeetAt_any (A : Option Addr) (n c : Nat) (w : World) (hs : By w w.heap.size A n) (hc : n ≤ c) :
    Calls Try.prog 23 #[.slice A n c] w fun e w' => ∃ f d f2 d2 z, e = .returned (.tuple #[sig f d, sig f2 d2, .int .i64 z]) ∧ -1 ≤ f ∧ f ≤ 53 ∧ -10 ≤ d ∧ d ≤ 10 ∧ -1 ≤ f2 ∧ f2 ≤ 53 ∧ -10 ≤ d2 ∧ d2 ≤ 10 ∧ -100 ≤ z ∧ z ≤ 100 ∧ Below w.heap.size w w' := by
  have bb : Below w.heap.size w ((w.alloc (.cells #[.int .i64 0, .int .i64 0] 24)).alloc (.cells #[.int .i64 0, .int .i64 0] 24)) := ((Below.refl _ _).alloc (Nat.le_refl _) _).alloc (by simp) _
  have hs' : By ((w.alloc (.cells #[.int .i64 0, .int .i64 0] 24)).alloc (.cells #[.int .i64 0, .int .i64 0] 24)) ((w.alloc (.cells #[.int .i64 0, .int .i64 0] 24)).alloc (.cells #[.int .i64 0, .int .i64 0] 24)).heap.size A n := hs.on bb
  go_enter Try.func23, Try.ntmps23
  go_wp2_with fail
  refine (open_any A n c _ hs' hc).mono ?_
  rintro e w1 ⟨g, rfl, r1, hg, b1⟩
  have hg : w.heap.size + 2 ≤ g := by simpa using hg
  have X0 := hid (((Bx.new w 0 0).on (grown_alloc _ (.cells #[.int .i64 0, .int .i64 0] 24) none) (by simp)).below b1 (by first | (simp; done) | (simp; omega)))
  have X1 := hid (((by simpa using Bx.new (w.alloc (.cells #[.int .i64 0, .int .i64 0] 24)) 0 0 : Bx ((w.alloc (.cells #[.int .i64 0, .int .i64 0] 24)).alloc (.cells #[.int .i64 0, .int .i64 0] 24)) (w.heap.size + 1) 0 0)).below b1 (by first | (simp; done) | (simp; omega)))
  have b1 : Below w.heap.size w w1 := bb.trans (b1.mono (by first | (simp; done) | (simp; omega)))
  clear bb
  go_wp2_with fail
  refine (last_any g _ _ r1 (by omega)).mono ?_
  rintro e w2 ⟨L, rfl, L0, L1, r2, g2⟩
  have b2 := b1.grown g2 b1.size (by intro k hk; cases hk; omega)
  have X0 := hid (X0.out.on g2 (by simp; omega))
  have X1 := hid (X1.out.on g2 (by simp; omega))
  go_wp2_with fail
  refine (signal_any g _ L 14 _ r2 (by omega) (by omega) (by omega) (by omega) (by omega)).mono ?_
  rintro e w3 ⟨f, d, rfl, f0, f1, d0, d1, r3, g3⟩
  have b3 := b2.grown g3 b2.size (by intro k hk; cases hk; omega)
  have X0 := hid (X0.out.on g3 (by simp; omega))
  have X1 := hid (X1.out.on g3 (by simp; omega))
  go_wp2_with fail
  refine (signal_any g _ L 14 _ r3 (by omega) (by omega) (by omega) (by omega) (by omega)).mono ?_
  rintro e w4 ⟨h, k, rfl, h0, h1, k0, k1, r4, g4⟩
  have b4 := b3.grown g4 b3.size (by intro k hk; cases hk; omega)
  have X0 := hid (X0.out.on g4 (by simp; omega))
  have X1 := hid (X1.out.on g4 (by simp; omega))
  clear g2 g3 g4
  have bF := b4
  have rF := r4
  have c00 := X0.out.c0
  have c01 := X0.out.c1
  have f00 := X0.out.fz 0
  have f01 := X0.out.fz 1
  have c10 := X1.out.c0
  have c11 := X1.out.c1
  have f10 := X1.out.fz 0
  have f11 := X1.out.fz 1
  have bF := bF.trans (Below.mono (below_set2 w4 w.heap.size (.int .i64 f) (.int .i64 d)) (by omega))
  have X0 := hid (X0.out.set f d)
  have X1 := hid (X1.out.off w.heap.size (by omega) f d)
  have bF := bF.trans (Below.mono (below_set2 ((w4.setCell ⟨w.heap.size, 0, none⟩ (.int .i64 f)).setCell ⟨w.heap.size, 1, none⟩ (.int .i64 d)) (w.heap.size + 1) (.int .i64 h) (.int .i64 k)) (by omega))
  have X0 := hid (X0.out.below (below_set2 ((w4.setCell ⟨w.heap.size, 0, none⟩ (.int .i64 f)).setCell ⟨w.heap.size, 1, none⟩ (.int .i64 d)) (w.heap.size + 1) (.int .i64 h) (.int .i64 k)) (by omega))
  have X1 := hid (X1.out.set h k)
  have HF := hid bF
  clear bF
  go_wp2
  (try simp only [Exit.inBlock, Exit.then])
  refine bodyPost_ret (results_cc rfl _ _ w.heap.size (w.heap.size + 1) 24 _ _ (0, 0) _ (by simp) X0.out (by simp) X1.out Try.underlying24 rfl size_sig size_sig) rfl ?_
  exact ⟨f, d, h, k, _, rfl, by omega, by omega, by omega, by omega, by omega, by omega, by omega, by omega, by omega, by omega, HF.out⟩

set_option maxHeartbeats 1600000 in
theorem drawTimesAt_any (A : Option Addr) (n c : Nat) (w : World) (hs : By w w.heap.size A n) (hc : n ≤ c) :
    Calls Try.prog 26 #[.slice A n c] w fun e w' => ∃ f d z t, e = .returned (.tuple #[sig f d, .int .i64 z, .int .i64 t]) ∧ -1 ≤ f ∧ f ≤ 53 ∧ -10 ≤ d ∧ d ≤ 10 ∧ -100 ≤ z ∧ z ≤ 100 ∧ -10000 ≤ t ∧ t ≤ 10000 ∧ Below w.heap.size w w' := by
  have bb : Below w.heap.size w (w.alloc (.cells #[.int .i64 0, .int .i64 0] 24)) := (Below.refl _ _).alloc (Nat.le_refl _) _
  have hs' : By (w.alloc (.cells #[.int .i64 0, .int .i64 0] 24)) (w.alloc (.cells #[.int .i64 0, .int .i64 0] 24)).heap.size A n := hs.on bb
  go_enter Try.func26, Try.ntmps26
  go_wp2_with fail
  refine (open_any A n c _ hs' hc).mono ?_
  rintro e w1 ⟨g, rfl, r1, hg, b1⟩
  have hg : w.heap.size + 1 ≤ g := by simpa using hg
  have X0 := hid ((Bx.new w 0 0).below b1 (by first | (simp; done) | (simp; omega)))
  have b1 : Below w.heap.size w w1 := bb.trans (b1.mono (by first | (simp; done) | (simp; omega)))
  clear bb
  go_wp2_with fail
  refine (last_any g _ _ r1 (by omega)).mono ?_
  rintro e w2 ⟨L, rfl, L0, L1, r2, g2⟩
  have b2 := b1.grown g2 b1.size (by intro k hk; cases hk; omega)
  have X0 := hid (X0.out.on g2 (by simp; omega))
  go_wp2_with fail
  refine (signal_any g _ L 12 _ r2 (by omega) (by omega) (by omega) (by omega) (by omega)).mono ?_
  rintro e w3 ⟨f, d, rfl, f0, f1, d0, d1, r3, g3⟩
  have b3 := b2.grown g3 b2.size (by intro k hk; cases hk; omega)
  have X0 := hid (X0.out.on g3 (by simp; omega))
  go_wp2_with fail
  refine (pick_any g _ (L + 2) _ r3 (by omega) (by omega) (by omega)).mono ?_
  rintro e w4 ⟨y, rfl, y0, y1, r4, g4⟩
  have b4 := b3.grown g4 b3.size (by intro k hk; cases hk; omega)
  have X0 := hid (X0.out.on g4 (by simp; omega))
  go_wp2_with fail
  refine (pick_any g _ 20 _ r4 (by omega) (by omega) (by omega)).mono ?_
  rintro e w5 ⟨x, rfl, x0, x1, r5, g5⟩
  have b5 := b4.grown g5 b4.size (by intro k hk; cases hk; omega)
  have X0 := hid (X0.out.on g5 (by simp; omega))
  have q0 : 0 ≤ x / 19 := Int.ediv_nonneg x0 (by omega)
  have q1 : x / 19 ≤ 1 := by omega
  clear g2 g3 g4 g5
  have bF := b5
  have rF := r5
  have c00 := X0.out.c0
  have c01 := X0.out.c1
  have f00 := X0.out.fz 0
  have f01 := X0.out.fz 1
  have bF := bF.trans (Below.mono (below_set2 w5 w.heap.size (.int .i64 f) (.int .i64 d)) (by omega))
  have X0 := hid (X0.out.set f d)
  have HF := hid bF
  clear bF
  go_wp2
  (try simp only [Exit.inBlock, Exit.then])
  refine bodyPost_ret (results_c2 rfl _ _ w.heap.size 24 _ (0, 0) _ (by simp) X0.out Try.underlying24 rfl size_sig) rfl ?_
  exact ⟨f, d, _, _, rfl, by omega, by omega, by omega, by omega, by omega, by omega, by omega, by omega, HF.out⟩

end Go.Proofs.Ytajjmhfbdknlfaa
