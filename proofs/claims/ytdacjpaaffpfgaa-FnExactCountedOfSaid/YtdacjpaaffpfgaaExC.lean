/-
  Walks of the laws' helpers on counters: szCounter, toCounter, eqCounter, markCounter, heldCounter. No statement is proved here.
-/
import Derived.Test.YtdacjpaaffpfgaaC6c
import Derived.Test.YtdacjpaaffpfgaaExE
import Derived.Test.YtdacjpaaffpfgaaExS
import Derived.Test.YtdacjpaaffpfgaaExM
import Derived.Test.YtdacjpaaffpfgaaExT
namespace Go.Proofs.Ytdacjpaaffpfgaa
open Go.RowKit
set_option linter.unusedVariables false
set_option linter.unusedSimpArgs false

set_option maxHeartbeats 800000 in
theorem szIntS_ok (A : Option Addr) (n c : Nat) (s : Int) (w : World) (h : (n : Int) ≤ s) (hs : s ≤ 1048576) :
    Calls Try.prog 57 #[.slice A n c, .int .i64 s] w fun e w' => e = .returned (.int .i64 (s - n)) ∧ w = w' := by
  have h1 : decide (s - (n : Int) < 0) = false := by simp; omega
  have h2 : ¬ s - (n : Int) < 0 := by omega
  go_enter Try.func57, Try.ntmps57
  go_wp2
  go_ret
  exact ⟨rfl, rfl⟩
set_option maxHeartbeats 800000 in
theorem szIntS_big (A : Option Addr) (n c : Nat) (s : Int) (w : World) (h : s < (n : Int)) (hs : 0 ≤ s) (hn : n ≤ 9223372036854775807) :
    Calls Try.prog 57 #[.slice A n c, .int .i64 s] w fun e w' => e = .returned (.int .i64 (-1)) ∧ w = w' := by
  have h1 : s - (n : Int) < 0 := by omega
  go_enter Try.func57, Try.ntmps57
  go_wp2
  go_ret
  exact ⟨rfl, rfl⟩

set_option maxHeartbeats 1600000 in
theorem szCounter_any (A : Option Addr) (n c : Nat) (A2 : Option Addr) (n2 c2 : Nat) (w : World) (hn : n ≤ 9223372036854775807) (hn2 : n2 ≤ 9223372036854775807) :
    Calls Try.prog 35 #[ctr A n c A2 n2 c2, .int .i64 1048576] w fun e w' => (∃ s : Int, e = .returned (.int .i64 s) ∧ ((s < 0 ∧ 1048576 < n + n2) ∨ (0 ≤ s ∧ n + n2 ≤ 1048576))) ∧ w.grownBy w' none := by
  have k0 : (w.alloc (.cells #[.slice A n c, .slice A2 n2 c2] 42)).cell? ⟨w.heap.size, 0, none⟩ = some (.slice A n c) := by simp
  have k1 : (w.alloc (.cells #[.slice A n c, .slice A2 n2 c2] 42)).cell? ⟨w.heap.size, 1, none⟩ = some (.slice A2 n2 c2) := by simp
  by_cases h1 : n ≤ 1048576
  · have C1 := hid (fun W : World => szIntS_ok A n c 1048576 W (by omega) (by omega))
    have e1 : decide ((1048576 : Int) - (n : Int) < 0) = false := by simp; omega
    have e2 : ¬ (1048576 : Int) - (n : Int) < 0 := by omega
    by_cases h2 : n + n2 ≤ 1048576
    · have C2 := hid (fun W : World => szIntS_ok A2 n2 c2 ((1048576 : Int) - n) W (by omega) (by omega))
      have e3 : ¬ (1048576 : Int) - (n : Int) - (n2 : Int) < 0 := by omega
      go_enter Try.func35, Try.ntmps35
      go_wp2_with fail
      with_reducible refine Calls.mono (C1.out _) ?_
      rintro e w' ⟨rfl, rfl⟩
      go_wp2_with fail
      with_reducible refine Calls.mono (C2.out _) ?_
      rintro e w' ⟨rfl, rfl⟩
      go_wp2
      go_ret
      exact ⟨⟨_, rfl, .inr ⟨by omega, h2⟩⟩, grown_alloc _ _ _⟩
    · have C2 := hid (fun W : World => szIntS_big A2 n2 c2 ((1048576 : Int) - n) W (by omega) (by omega) hn2)
      go_enter Try.func35, Try.ntmps35
      go_wp2_with fail
      with_reducible refine Calls.mono (C1.out _) ?_
      rintro e w' ⟨rfl, rfl⟩
      go_wp2_with fail
      with_reducible refine Calls.mono (C2.out _) ?_
      rintro e w' ⟨rfl, rfl⟩
      go_wp2
      go_ret
      exact ⟨⟨_, rfl, .inl ⟨by omega, by omega⟩⟩, grown_alloc _ _ _⟩
  · have C1 := hid (fun W : World => szIntS_big A n c 1048576 W (by omega) (by omega) hn)
    go_enter Try.func35, Try.ntmps35
    go_wp2_with fail
    with_reducible refine Calls.mono (C1.out _) ?_
    rintro e w' ⟨rfl, rfl⟩
    go_wp2
    go_ret
    exact ⟨⟨_, rfl, .inl ⟨by omega, by omega⟩⟩, grown_alloc _ _ _⟩

theorem results_b1 {P : Program} {fn : Func} {p : Tmp} {ty : TypeId} (h : fn.results = #[.cell p ty]) (tmps : Array Value) (w : World) (g : Nat) (t : TypeId) (cs : Array Value) (fr : Nat × Nat) (d : TypeDesc)
    (hp : tmps.getD p undef = .pointer (some ⟨g, 0, none⟩)) (hg : w.heap[g]? = some (.cells cs t fr))
    (hu : P.underlying ty = some d) (hd : (match d with | .struct _ | .array _ _ => true | _ => false) = true) (hi : (P.info? ty).map (·.size) = some cs.size) :
    (results fn tmps).run P w = .ok (.agg cs) w := by
  have hp' : tmps[p]?.getD undef = .pointer (some ⟨g, 0, none⟩) := by simpa using hp
  simp [results, h, hp', asAddr, run_loadVar_row w g t ty cs fr d hg hu hd hi]

set_option maxRecDepth 100000 in
set_option maxHeartbeats 3200000 in
theorem toCounter_any (A : Option Addr) (n c : Nat) (A2 : Option Addr) (n2 c2 : Nat) (D C : List Int) (w : World) (h1 : Sl w w.heap.size A n D) (h2 : Sl w w.heap.size A2 n2 C) (hn : n ≤ 1048576) (hn2 : n2 ≤ 1048576) :
    Calls Try.prog 36 #[ctr A n c A2 n2 c2] w fun e w' => ∃ A3 c3 A4 c4, e = .returned (ctr A3 n c3 A4 n2 c4) ∧ Ctr w' w.heap.size A3 n c3 A4 n2 c4 D C ∧ Below w.heap.size w w' := by
  have hz : (w.alloc (.cells #[.slice A n c, .slice A2 n2 c2] 42)).heap.size = w.heap.size + 1 := by simp
  have B1 := (Below.refl w.heap.size w).alloc (Nat.le_refl _) (.cells #[.slice A n c, .slice A2 n2 c2] 42)
  have X1 := Bk.new (w.alloc (.cells #[.slice A n c, .slice A2 n2 c2] 42)) (.slice none 0 0) (.slice none 0 0)
  rw [hz] at X1
  have hz2 : ((w.alloc (.cells #[.slice A n c, .slice A2 n2 c2] 42)).alloc (.cells #[.slice none 0 0, .slice none 0 0] 25)).heap.size = w.heap.size + 1 + 1 := by simp
  have X2 := Bk.new ((w.alloc (.cells #[.slice A n c, .slice A2 n2 c2] 42)).alloc (.cells #[.slice none 0 0, .slice none 0 0] 25)) (.slice none 0 0) (.slice none 0 0)
  rw [hz2] at X2
  have k0 : (((w.alloc (.cells #[.slice A n c, .slice A2 n2 c2] 42)).alloc (.cells #[.slice none 0 0, .slice none 0 0] 25)).alloc (.cells #[.slice none 0 0, .slice none 0 0] 25)).cell? ⟨w.heap.size, 0, none⟩ = some (.slice A n c) := by simp [go_sem]
  have k1 : (((w.alloc (.cells #[.slice A n c, .slice A2 n2 c2] 42)).alloc (.cells #[.slice none 0 0, .slice none 0 0] 25)).alloc (.cells #[.slice none 0 0, .slice none 0 0] 25)).cell? ⟨w.heap.size, 1, none⟩ = some (.slice A2 n2 c2) := by simp [go_sem]
  replace X1 := X1.on (row := none) (grown_alloc _ (.cells #[.slice none 0 0, .slice none 0 0] 25) none) (by simp)
  have B3 := (B1.alloc (by simp) (.cells #[.slice none 0 0, .slice none 0 0] 25)).alloc (by simp; omega) (.cells #[.slice none 0 0, .slice none 0 0] 25)
  have hz3 : (((w.alloc (.cells #[.slice A n c, .slice A2 n2 c2] 42)).alloc (.cells #[.slice none 0 0, .slice none 0 0] 25)).alloc (.cells #[.slice none 0 0, .slice none 0 0] 25)).heap.size = w.heap.size + 3 := by simp
  go_enter Try.func36, Try.ntmps36
  go_wp2_with fail
  obtain ⟨w0, e0⟩ : ∃ W, (((w.alloc (.cells #[.slice A n c, .slice A2 n2 c2] 42)).alloc (.cells #[.slice none 0 0, .slice none 0 0] 25)).alloc (.cells #[.slice none 0 0, .slice none 0 0] 25)) = W := ⟨_, rfl⟩
  rw [e0] at X1 X2 k0 k1 B3 hz3 ⊢
  clear e0 B1 hz hz2
  have C1 := hid (toIntS_any A n c D w0 (h1.on B3) (by omega))
  have C2 := hid (fun (W : World) (hb : Below w.heap.size w W) => toIntS_any A2 n2 c2 C W (h2.on hb) (by omega))
  have HB := hid B3
  clear B3 h1 h2
  with_reducible refine Calls.mono C1.out ?_
  rintro e w1 ⟨g1, rfl, o1, b1⟩
  rw [hz3] at o1 b1
  have Y1 := X1.below b1 (by omega)
  have Y2 := X2.below b1 (by omega)
  have f20 := Y2.fz 0
  have t20 := Y2.c0
  have hg1 := (o1.lt g1 rfl)
  replace k1 : w1.cell? ⟨w.heap.size, 1, none⟩ = some (.slice A2 n2 c2) := (b1.cell (p := ⟨w.heap.size, 1, none⟩) (show w.heap.size < w.heap.size + 3 by omega)).trans k1
  obtain ⟨w2, e2⟩ : ∃ W, w1.setCell ⟨w.heap.size + 1 + 1, 0, none⟩ (.slice (some ⟨g1, 0, none⟩) n n) = W := ⟨_, rfl⟩
  have B2 : Below (w.heap.size + 1 + 1) w0 w2 := by rw [← e2]; exact (b1.mono (by omega)).trans (below_put _ _ _ _)
  have z2 : w1.heap.size = w2.heap.size := by rw [← e2]; simp [World.setCell]
  have Z1 := hid (X1.below B2 (by omega))
  have Z2 : Bk w2 (w.heap.size + 1 + 1) (.slice (some ⟨g1, 0, none⟩) n n) (.slice none 0 0) := by rw [← e2]; exact Y2.set0 _
  have o2 : w2.ownsRow (w.heap.size + 3) 3 1 (.slice (some ⟨g1, 0, none⟩) n n) n (ints D) := by rw [← e2]; exact own_put _ o1 (fun k hk => by simp [Value.ownBlock] at hk; omega)
  have k1' : w2.cell? ⟨w.heap.size, 1, none⟩ = some (.slice A2 n2 c2) := by rw [← e2]; exact ((below_put w1 (w.heap.size + 1 + 1) 0 _).cell (p := ⟨w.heap.size, 1, none⟩) (show w.heap.size < w.heap.size + 1 + 1 by omega)).trans k1
  replace HB := hid (HB.out.trans (B2.mono (by omega)))
  clear b1 Y1 o1 B2 X1 X2 k0
  go_wp2_with fail
  with_reducible refine Calls.mono (C2.out _ HB.out) ?_
  rintro e w3 ⟨g3, rfl, o3, b3⟩
  have hg3 := (o3.lt g3 rfl)
  have Q1 := hid (Z1.out.below b3 Z1.out.lt)
  have Q2 := Z2.below b3 Z2.lt
  have f31 := Q2.fz 1
  have t31 := Q2.c1
  have o4 := own_on o2 b3
  obtain ⟨w4, e4⟩ : ∃ W, w3.setCell ⟨w.heap.size + 1 + 1, 1, none⟩ (.slice (some ⟨g3, 0, none⟩) n2 n2) = W := ⟨_, rfl⟩
  have hzz : w.heap.size + 3 ≤ w2.heap.size := by rw [← z2]; omega
  have B4 : Below (w.heap.size + 1 + 1) w2 w4 := by rw [← e4]; exact (b3.mono (by omega)).trans (below_put _ _ _ _)
  have R1 : Bk w4 (w.heap.size + 1) (.slice none 0 0) (.slice none 0 0) := by rw [← e4]; exact Q1.out.below (below_put w3 (w.heap.size + 1 + 1) _ _) (by omega)
  have R2 : Bk w4 (w.heap.size + 1 + 1) (.slice (some ⟨g1, 0, none⟩) n n) (.slice (some ⟨g3, 0, none⟩) n2 n2) := by rw [← e4]; exact Q2.set1 _
  have RR : Hid (Ctr w4 (w.heap.size + 3) (some ⟨g1, 0, none⟩) n n (some ⟨g3, 0, none⟩) n2 n2 D C) := hid ⟨by rw [← e4]; exact own_put _ o4 (fun k hk => by simp [Value.ownBlock] at hk; omega), by rw [← e4]; exact own_mono (own_put _ o3 (fun k hk => by simp [Value.ownBlock] at hk; omega)) hzz, fun k h h' => by simp [Value.ownBlock] at h h'; omega⟩
  have m0 := R1.c0
  have m1 := R1.c1
  have mf0 := R1.fz 0
  have mf1 := R1.fz 1
  have m2 := R2.c0
  have m3 := R2.c1
  have HR1 := hid R1
  replace HB := hid (HB.out.trans (B4.mono (by omega)))
  clear o3 o4 o2 b3 Q1 Q2 B4 R1 R2 Z1 Z2
  go_wp2
  (try simp only [Exit.inBlock, Exit.then])
  refine bodyPost_ret (results_b1 rfl _ _ (w.heap.size + 1) 25 _ (0, 0) _ (by simp [Act.put]) (HR1.out.set (.slice (some ⟨g1, 0, none⟩) n n) (.slice (some ⟨g3, 0, none⟩) n2 n2)) Try.underlying25 rfl size_ctr) rfl ?_
  exact ⟨_, _, _, _, rfl, ((RR.out.putAt (by omega) _).putAt (by omega) _).mono (by omega), HB.out.trans ((below_put2 _ (w.heap.size + 1) _ _).mono (by omega))⟩
/-- Where a counter's two rows lie. -/
def Span (A : Option Addr) (n c : Nat) (A2 : Option Addr) (n2 c2 : Nat) (lo hi : Nat) : Prop :=
  (∀ k, (Value.slice A n c).ownBlock = some k → lo ≤ k ∧ k < hi) ∧ (∀ k, (Value.slice A2 n2 c2).ownBlock = some k → lo ≤ k ∧ k < hi)
theorem Ctr.span {w : World} {B : Nat} {A A2 : Option Addr} {n c n2 c2 : Nat} {D C : List Int} (h : Ctr w B A n c A2 n2 c2 D C) : Span A n c A2 n2 c2 B w.heap.size := ⟨fun k hk => h.d.lt k hk, fun k hk => h.e.lt k hk⟩
theorem Ctr.kept2 {w wm w' : World} {B : Nat} {A A2 : Option Addr} {n c n2 c2 : Nat} {D C : List Int} {A3 A4 : Option Addr} {n3 c3 n4 c4 l1 h1 l2 h2 : Nat} (h : Ctr w B A n c A2 n2 c2 D C) (s1 : Span A n c A2 n2 c2 l1 h1) (s2 : Span A3 n3 c3 A4 n4 c4 l2 h2) (hd : h1 ≤ l2 ∨ h2 ≤ l1)
    (g1 : w.grownBy wm (Value.slice A3 n3 c3).ownBlock) (g2 : wm.grownBy w' (Value.slice A4 n4 c4).ownBlock) : Ctr w' B A n c A2 n2 c2 D C := by
  have key : ∀ {v u : Value}, (∀ k, v.ownBlock = some k → l1 ≤ k ∧ k < h1) → (∀ k, u.ownBlock = some k → l2 ≤ k ∧ k < h2) → v.ownBlock = Option.none ∨ v.ownBlock ≠ u.ownBlock := by
    intro v u a b
    rcases hv : v.ownBlock with _ | k
    · exact .inl rfl
    · right
      intro e
      have := a k hv
      have := b k e.symm
      omega
  exact ⟨(h.d.kept g1 (key s1.1 s2.1)).kept g2 (key s1.1 s2.2), (h.e.kept g1 (key s1.2 s2.1)).kept g2 (key s1.2 s2.2), h.ap⟩

set_option maxHeartbeats 1600000 in
theorem eqCounter_same (A : Option Addr) (n c : Nat) (A2 : Option Addr) (n2 c2 : Nat) (A3 : Option Addr) (n3 c3 : Nat) (A4 : Option Addr) (n4 c4 : Nat) (D C : List Int) (w : World) (B B2 : Nat) (h1 : Ctr w B A n c A2 n2 c2 D C) (h2 : Ctr w B2 A3 n3 c3 A4 n4 c4 D C) :
    Calls Try.prog 37 #[ctr A n c A2 n2 c2, ctr A3 n3 c3 A4 n4 c4] w fun e w' => e = .returned (.bool true) ∧ Below w.heap.size w w' := by
  have B0 := ((Below.refl w.heap.size w).alloc (Nat.le_refl _) (.cells #[.slice A n c, .slice A2 n2 c2] 25)).alloc (by simp) (.cells #[.slice A3 n3 c3, .slice A4 n4 c4] 25)
  have a0 : ((w.alloc (.cells #[.slice A n c, .slice A2 n2 c2] 25)).alloc (.cells #[.slice A3 n3 c3, .slice A4 n4 c4] 25)).cell? ⟨w.heap.size, 0, none⟩ = some (.slice A n c) := by simp [go_sem]
  have a1 : ((w.alloc (.cells #[.slice A n c, .slice A2 n2 c2] 25)).alloc (.cells #[.slice A3 n3 c3, .slice A4 n4 c4] 25)).cell? ⟨w.heap.size, 1, none⟩ = some (.slice A2 n2 c2) := by simp [go_sem]
  have b0 : ((w.alloc (.cells #[.slice A n c, .slice A2 n2 c2] 25)).alloc (.cells #[.slice A3 n3 c3, .slice A4 n4 c4] 25)).cell? ⟨w.heap.size + 1, 0, none⟩ = some (.slice A3 n3 c3) := by simp [go_sem]
  have b1 : ((w.alloc (.cells #[.slice A n c, .slice A2 n2 c2] 25)).alloc (.cells #[.slice A3 n3 c3, .slice A4 n4 c4] 25)).cell? ⟨w.heap.size + 1, 1, none⟩ = some (.slice A4 n4 c4) := by simp [go_sem]
  go_enter Try.func37, Try.ntmps37
  go_wp2_with fail
  obtain ⟨w0, e0⟩ : ∃ W, ((w.alloc (.cells #[.slice A n c, .slice A2 n2 c2] 25)).alloc (.cells #[.slice A3 n3 c3, .slice A4 n4 c4] 25)) = W := ⟨_, rfl⟩
  have hz : w.heap.size + 2 ≤ w0.heap.size := by rw [← e0]; simp
  rw [e0] at B0 a0 a1 b0 b1 ⊢
  clear e0
  have p1 := h1.on B0
  have p2 := h2.on B0
  refine (eqIntS_b _ _ _ _ _ _ _ _ _ _ _ (Sl.of_own p1.d) (Sl.of_own p2.d)).mono ?_
  rintro e w1 ⟨rfl, s1⟩
  rw [decide_eq_true rfl]
  replace a1 := (s1.cell (p := ⟨w.heap.size, 1, none⟩) (show w.heap.size < w0.heap.size by omega)).trans a1
  replace b1 := (s1.cell (p := ⟨w.heap.size + 1, 1, none⟩) (show w.heap.size + 1 < w0.heap.size by omega)).trans b1
  have q1 := p1.on s1
  have q2 := p2.on s1
  have HB := hid (B0.trans (s1.mono B0.size))
  clear s1 B0 p1 p2 a0 b0
  go_wp2_with fail
  refine (eqIntS_b _ _ _ _ _ _ _ _ _ _ _ (Sl.of_own q1.e) (Sl.of_own q2.e)).mono ?_
  rintro e w2 ⟨rfl, s2⟩
  rw [decide_eq_true rfl]
  replace HB := hid (HB.out.trans (s2.mono HB.out.size))
  clear s2
  go_wp2
  go_ret
  exact ⟨rfl, HB.out⟩

set_option maxHeartbeats 1600000 in
theorem sameCounter_same (A : Option Addr) (n c : Nat) (A2 : Option Addr) (n2 c2 : Nat) (A3 : Option Addr) (n3 c3 : Nat) (A4 : Option Addr) (n4 c4 : Nat) (D C : List Int) (w : World) (B B2 : Nat) (h1 : Ctr w B A n c A2 n2 c2 D C) (h2 : Ctr w B2 A3 n3 c3 A4 n4 c4 D C) :
    Calls Try.prog 22 #[ctr A n c A2 n2 c2, ctr A3 n3 c3 A4 n4 c4] w fun e w' => e = .returned (.bool true) ∧ Below w.heap.size w w' := by
  have B0 := ((Below.refl w.heap.size w).alloc (Nat.le_refl _) (.cells #[.slice A n c, .slice A2 n2 c2] 25)).alloc (by simp) (.cells #[.slice A3 n3 c3, .slice A4 n4 c4] 25)
  have a0 : ((w.alloc (.cells #[.slice A n c, .slice A2 n2 c2] 25)).alloc (.cells #[.slice A3 n3 c3, .slice A4 n4 c4] 25)).cell? ⟨w.heap.size, 0, none⟩ = some (.slice A n c) := by simp [go_sem]
  have a1 : ((w.alloc (.cells #[.slice A n c, .slice A2 n2 c2] 25)).alloc (.cells #[.slice A3 n3 c3, .slice A4 n4 c4] 25)).cell? ⟨w.heap.size, 1, none⟩ = some (.slice A2 n2 c2) := by simp [go_sem]
  have b0 : ((w.alloc (.cells #[.slice A n c, .slice A2 n2 c2] 25)).alloc (.cells #[.slice A3 n3 c3, .slice A4 n4 c4] 25)).cell? ⟨w.heap.size + 1, 0, none⟩ = some (.slice A3 n3 c3) := by simp [go_sem]
  have b1 : ((w.alloc (.cells #[.slice A n c, .slice A2 n2 c2] 25)).alloc (.cells #[.slice A3 n3 c3, .slice A4 n4 c4] 25)).cell? ⟨w.heap.size + 1, 1, none⟩ = some (.slice A4 n4 c4) := by simp [go_sem]
  go_enter Try.func22, Try.ntmps22
  go_wp2_with fail
  obtain ⟨w0, e0⟩ : ∃ W, ((w.alloc (.cells #[.slice A n c, .slice A2 n2 c2] 25)).alloc (.cells #[.slice A3 n3 c3, .slice A4 n4 c4] 25)) = W := ⟨_, rfl⟩
  have hz : w.heap.size + 2 ≤ w0.heap.size := by rw [← e0]; simp
  rw [e0] at B0 a0 a1 b0 b1 ⊢
  clear e0
  have p1 := h1.on B0
  have p2 := h2.on B0
  refine (sameInts_b _ _ _ _ _ _ _ _ _ _ _ (Sl.of_own p1.d) (Sl.of_own p2.d)).mono ?_
  rintro e w1 ⟨rfl, s1⟩
  rw [decide_eq_true rfl]
  replace a1 := (s1.cell (p := ⟨w.heap.size, 1, none⟩) (show w.heap.size < w0.heap.size by omega)).trans a1
  replace b1 := (s1.cell (p := ⟨w.heap.size + 1, 1, none⟩) (show w.heap.size + 1 < w0.heap.size by omega)).trans b1
  have q1 := p1.on s1
  have q2 := p2.on s1
  have HB := hid (B0.trans (s1.mono B0.size))
  clear s1 B0 p1 p2 a0 b0
  go_wp2_with fail
  refine (sameInts_b _ _ _ _ _ _ _ _ _ _ _ (Sl.of_own q1.e) (Sl.of_own q2.e)).mono ?_
  rintro e w2 ⟨rfl, s2⟩
  rw [decide_eq_true rfl]
  replace HB := hid (HB.out.trans (s2.mono HB.out.size))
  clear s2
  go_wp2
  go_ret
  exact ⟨rfl, HB.out⟩

set_option maxHeartbeats 1600000 in
theorem markCounter_any (A : Option Addr) (n c : Nat) (A2 : Option Addr) (n2 c2 : Nat) (D C : List Int) (k0 : Int) (w : World) (B : Nat) (h : Ctr w B A n c A2 n2 c2 D C) (hk0 : 0 ≤ k0) (hk1 : k0 + n + n2 ≤ 100000000) (hB : B ≤ w.heap.size) :
    Calls Try.prog 38 #[ctr A n c A2 n2 c2, .int .i64 k0] w fun e w' => e = .returned (.int .i64 (k0 + n + n2)) ∧ Ctr w' B A n c A2 n2 c2 (marks k0 n) (marks (k0 + n) n2) ∧ ∃ wm, w.grownBy wm (Value.slice A n c).ownBlock ∧ wm.grownBy w' (Value.slice A2 n2 c2).ownBlock := by
  have X := Bk.new w (.slice A n c) (.slice A2 n2 c2)
  have g0 := grown_alloc w (.cells #[.slice A n c, .slice A2 n2 c2] 25) none
  have z0 : (w.alloc (.cells #[.slice A n c, .slice A2 n2 c2] 25)).heap.size = w.heap.size + 1 := by simp
  have od := own_kept_none h.d g0
  have oe := own_kept_none h.e g0
  have hs := h.span
  have ap : (Value.slice A2 n2 c2).ownBlock = none ∨ (Value.slice A2 n2 c2).ownBlock ≠ (Value.slice A n c).ownBlock := by
    rcases h4 : (Value.slice A2 n2 c2).ownBlock with _ | j
    · exact .inl rfl
    · exact .inr (fun e => h.ap j e.symm h4)
  have ap2 : (Value.slice A n c).ownBlock = none ∨ (Value.slice A n c).ownBlock ≠ (Value.slice A2 n2 c2).ownBlock := by
    rcases h4 : (Value.slice A n c).ownBlock with _ | j
    · exact .inl rfl
    · exact .inr (fun e => h.ap j h4 e.symm)
  go_enter Try.func38, Try.ntmps38
  go_wp2_with fail
  refine (markIntS_any _ _ _ B D k0 _ od (by omega) (by omega) (by omega)).mono ?_
  rintro e w1 ⟨rfl, o1, g1⟩
  have oe1 := oe.kept g1 ap
  have k1 : w1.cell? ⟨w.heap.size, 1, none⟩ = some (.slice A2 n2 c2) := g1.cell X.c1 (by
    rcases h4 : (Value.slice A n c).ownBlock with _ | j
    · simp
    · have := (hs.1 j h4).2; simp; omega)
  have gg := hid ((grown_alloc w (.cells #[.slice A n c, .slice A2 n2 c2] 25) (Value.slice A n c).ownBlock).andThen g1 (fun k hk => .inr hk))
  clear g0 g1 X od oe
  go_wp2_with fail
  refine (markIntS_any _ _ _ B C (k0 + n) _ oe1 (by omega) (by omega) (by have := gg.out.size; omega)).mono ?_
  rintro e w2 ⟨rfl, o2, g2⟩
  have o3 := o1.kept g2 ap2
  have R : Hid (Ctr w2 B A n c A2 n2 c2 (marks k0 n) (marks (k0 + n) n2)) := hid ⟨o3, o2, h.ap⟩
  have G2 := hid g2
  clear o1 oe1 o2 o3 g2
  go_wp2
  go_ret
  exact ⟨rfl, R.out, w1, gg.out, G2.out⟩

set_option maxHeartbeats 1600000 in
theorem heldCounter_any (A : Option Addr) (n c : Nat) (A2 : Option Addr) (n2 c2 : Nat) (k0 : Int) (w : World) (B : Nat) (h : Ctr w B A n c A2 n2 c2 (marks k0 n) (marks (k0 + n) n2)) (hk0 : 0 ≤ k0) (hk1 : k0 + n + n2 ≤ 100000000) :
    Calls Try.prog 39 #[ctr A n c A2 n2 c2, .int .i64 k0] w fun e w' => e = .returned (.int .i64 (k0 + n + n2)) ∧ w.grownBy w' none := by
  have X := Bk.new w (.slice A n c) (.slice A2 n2 c2)
  have g0 := grown_alloc w (.cells #[.slice A n c, .slice A2 n2 c2] 25) none
  have od := own_kept_none h.d g0
  have oe := own_kept_none h.e g0
  have k0' := X.c0
  have k1' := X.c1
  have e1 : ¬ k0 + (n : Int) < 0 := by omega
  have e2 : ¬ k0 + (n : Int) + (n2 : Int) < 0 := by omega
  have e3 : decide (k0 + (n : Int) < 0) = false := by simp; omega
  have e4 : decide (k0 + (n : Int) + (n2 : Int) < 0) = false := by simp; omega
  go_enter Try.func39, Try.ntmps39
  go_wp2_with fail
  refine (heldIntS_any _ _ _ k0 _ _ (Sl.of_own od) (by omega) (by omega)).mono ?_
  rintro e w' ⟨rfl, rfl⟩
  go_wp2_with fail
  refine (heldIntS_any _ _ _ (k0 + n) _ _ (Sl.of_own oe) (by omega) (by omega)).mono ?_
  rintro e w' ⟨rfl, rfl⟩
  go_wp2
  go_ret
  exact ⟨rfl, g0⟩

/-- Block b is a box of two values of type T. -/
def Bt (w : World) (T : TypeId) (b : Nat) (u v : Value) : Prop := w.heap[b]? = some (.cells #[u, v] T (0, 0))
section
variable {w w' wm : World} {T : TypeId} {b : Nat} {x y : Value}
theorem Bt.lt (h : Bt w T b x y) : b < w.heap.size := by
  rcases Nat.lt_or_ge b w.heap.size with hlt | hge
  · exact hlt
  · unfold Bt at h; rw [Array.getElem?_eq_none hge] at h; cases h
theorem Bt.new (w : World) (T : TypeId) (x y : Value) : Bt (w.alloc (.cells #[x, y] T)) T w.heap.size x y := heap_alloc_new w _
theorem Bt.on {row : Option Nat} (h : Bt w T b x y) (hg : w.grownBy w' row) (hn : some b ≠ row) : Bt w' T b x y := (hg.block b h.lt hn).trans h
theorem Bt.below (h : Bt w T b x y) (hb : Below w.heap.size w w') : Bt w' T b x y := (hb.block b h.lt).trans h
theorem Bt.c0 (h : Bt w T b x y) : w.cell? ⟨b, 0, Option.none⟩ = some x := cell_of_row w b 0 _ _ _ h
theorem Bt.c1 (h : Bt w T b x y) : w.cell? ⟨b, 1, Option.none⟩ = some y := cell_of_row w b 1 _ _ _ h
theorem bt_ne {v : Value} {B n : Nat} {e : TypeId} {xs : List Value} (h : Bt w T b x y) (ho : w.ownsRow B e 1 v n xs) (hT : T ≠ e) : some b ≠ v.ownBlock := by
  intro hv
  rcases ho.2 with ⟨h1, _⟩ | ⟨g, cap, cur, h1, _, h3, _⟩
  · rw [h1] at hv; simp [Value.ownBlock] at hv
  · rw [h1] at hv
    simp [Value.ownBlock] at hv
    subst hv
    unfold Bt at h
    rw [h] at h3
    injection h3 with h3
    injection h3 with _ h4
    exact hT h4
theorem Bt.ctr {B : Nat} {A A2 : Option Addr} {n c n2 c2 : Nat} {D C : List Int} (h : Bt w T b x y) (hT : T ≠ 3) (ho : Ctr w B A n c A2 n2 c2 D C) (g1 : w.grownBy wm (Value.slice A n c).ownBlock) (g2 : wm.grownBy w' (Value.slice A2 n2 c2).ownBlock) : Bt w' T b x y :=
  (h.on g1 (bt_ne h ho.d hT)).on g2 (bt_ne h ho.e hT)
end
end Go.Proofs.Ytdacjpaaffpfgaa
