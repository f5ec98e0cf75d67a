/-
  The walk of laws.FnReadDeed. No statement is proved here.
-/
import Derived.Test.YtkejcajboneniaaDoorT12t
import Derived.Test.YtkejcajboneniaaDoorT12i
import Derived.Test.YtkejcajboneniaaDoorDs12
import Derived.Test.YtkejcajboneniaaDoorC1a
namespace Go.Proofs.YtkejcajboneniaaDoor
open Go.RowKit
set_option linter.unusedVariables false
set_option linter.unusedSimpArgs false

set_option maxRecDepth 100000 in
set_option maxHeartbeats 3200000 in
theorem fnReadDeed_walk (A : Option Addr) (n c : Nat) (w : World) (hs : By w w.heap.size A n) (hc : n ≤ c) (hT : TabsL w) :
    Calls Tryd.prog 7 #[.slice A n c] w fun e w' => e = .returned (.bool true) ∧ Below w.heap.size w w' := by
  have hm : n ≤ 9223372036854775807 := hs.1
  by_cases hbig : 1048576 < n
  · go_enter Tryd.func7, Tryd.ntmps7
    go_wp2
    go_ret
    exact ⟨rfl, Below.refl _ _⟩
  go_enter Tryd.func7, Tryd.ntmps7
  go_wp2_with fail
  refine (drawReadDeed_any A n c _ hs hc).mono ?_
  rintro e w1 ⟨s, rfl, hsl, b1⟩
  clear hs hc hbig hm
  have CI := hid (fun (W : World) (hW : Below w.heap.size w W) => implReadDeed_any s (by omega) W (hT.below hW))
  have CS := hid (fun W => specReadDeed_any s (by omega) W)
  have CM := hid (fun (W : World) (hW : Below w.heap.size w W) => implReadDeed_any (s ++ [32]) (by rw [List.length_append]; simp; omega) W (hT.below hW))
  rw [read_spaced] at CM
  have hct := fun W => cat_any s [32] (by simp; omega) W
  cases hr : readOut s with
  | none =>
    rw [hr] at CI CS
    have CI2 : Hid (∀ W, Below w.heap.size w W → Calls Tryd.prog 20 #[encStr s] W fun e w' => e = .returned (.tuple #[.agg #[.int .i64 0, .int .i64 0], .bool false]) ∧ Below W.heap.size W w') := CI
    have CS2 : Hid (∀ W, Calls Tryd.prog 23 #[encStr s] W fun e w' => e = .returned (.tuple #[.agg #[.int .i64 0, .int .i64 0], .bool false]) ∧ Below W.heap.size W w') := CS
    clear CI CS CM hct hr
    go_wp2_with fail
    with_reducible refine Calls.mono (CI2.out _ b1) ?_
    rintro e w2 ⟨rfl, b2⟩
    have z2 : w2.heap.size < (w2.alloc (.cells #[.int .i64 0, .int .i64 0] 33)).heap.size := by simp
    have P2 := heap_alloc_new w2 (.cells #[.int .i64 0, .int .i64 0] 33)
    have B2 := (b1.trans (b2.mono b1.size)).alloc (Nat.le_trans b1.size b2.size) (.cells #[.int .i64 0, .int .i64 0] 33)
    go_wp2_with fail
    with_reducible refine Calls.mono (CS2.out _) ?_
    rintro e w3 ⟨rfl, b3⟩
    have P3 := (b3.block _ z2).trans P2
    have B3 := B2.trans (b3.mono B2.size)
    have z3 : w2.heap.size < w3.heap.size := Nat.lt_of_lt_of_le z2 b3.size
    have P4 := (Below.heap_alloc w3 (.cells #[.int .i64 0, .int .i64 0] 33) _ z3).trans P3
    have Q4 := heap_alloc_new w3 (.cells #[.int .i64 0, .int .i64 0] 33)
    have B4 := hid (B3.alloc B3.size (.cells #[.int .i64 0, .int .i64 0] 33))
    obtain ⟨c30, c31, f30, f31⟩ := pairCells P4
    obtain ⟨d30, d31, e30, e31⟩ := pairCells Q4
    clear P2 P3 P4 Q4 B2 B3 b2 b3 b1 CI2 CS2
    go_wp2_with fail
    refine (alive_any _).mono ?_
    rintro e w5 ⟨rfl, b5⟩
    have B5 := hid (B4.out.trans (b5.mono B4.out.size))
    go_wp2
    go_ret
    exact ⟨rfl, B5.out⟩
  | some a =>
    have ht := read_text hr
    rw [hr] at CI CS
    have CI2 : Hid (∀ W, Below w.heap.size w W → Calls Tryd.prog 20 #[encStr s] W fun e w' => e = .returned (.tuple #[.agg #[.int .i64 a.1, .int .i64 a.2], .bool true]) ∧ Below W.heap.size W w') := CI
    have CS2 : Hid (∀ W, Calls Tryd.prog 23 #[encStr s] W fun e w' => e = .returned (.tuple #[.agg #[.int .i64 a.1, .int .i64 a.2], .bool true]) ∧ Below W.heap.size W w') := CS
    have CM2 : Hid (∀ W, Below w.heap.size w W → Calls Tryd.prog 20 #[encStr (s ++ [32])] W fun e w' => e = .returned (.tuple #[.agg #[.int .i64 0, .int .i64 0], .bool false]) ∧ Below W.heap.size W w') := CM
    have CD := hid (fun (W : World) (hW : Below w.heap.size w W) => implDeedText_any a.1 a.2 W (hT.below hW).D)
    rw [show deedB a.1 a.2 = s from ht.1] at CD
    clear CI CS CM hr ht
    have q1 : (a.1 == a.1) = true := by simp
    have q2 : (a.2 == a.2) = true := by simp
    go_wp2_with fail
    with_reducible refine Calls.mono (CI2.out _ b1) ?_
    rintro e w2 ⟨rfl, b2⟩
    obtain ⟨W2, hW2⟩ : ∃ W2, w2.alloc (.cells #[.int .i64 a.1, .int .i64 a.2] 33) = W2 := ⟨_, rfl⟩
    have B2 : Below w.heap.size w W2 := by rw [← hW2]; exact (b1.trans (b2.mono b1.size)).alloc (Nat.le_trans b1.size b2.size) _
    have P2 : W2.heap[w2.heap.size]? = some (.cells #[.int .i64 a.1, .int .i64 a.2] 33 (0, 0)) := by rw [← hW2]; exact heap_alloc_new w2 _
    have s2 : w2.heap.size < W2.heap.size := by rw [← hW2]; simp
    go_wp2_with fail
    with_reducible refine Calls.mono (CS2.out _) ?_
    rintro e w3 ⟨rfl, b3⟩
    obtain ⟨W3, hW3⟩ : ∃ W3, w3.alloc (.cells #[.int .i64 a.1, .int .i64 a.2] 33) = W3 := ⟨_, rfl⟩
    have b3' : Below W2.heap.size W2 W3 := by rw [← hW3]; exact b3.alloc b3.size _
    have B3 := B2.trans (b3'.mono B2.size)
    have P3 := (b3'.block _ s2).trans P2
    have Q3 : W3.heap[w3.heap.size]? = some (.cells #[.int .i64 a.1, .int .i64 a.2] 33 (0, 0)) := by rw [← hW3]; exact heap_alloc_new w3 _
    have s3 : w2.heap.size < W3.heap.size := Nat.lt_of_lt_of_le s2 b3'.size
    obtain ⟨c30, c31, f30, f31⟩ := pairCells P3
    obtain ⟨d30, d31, e30, e31⟩ := pairCells Q3
    go_wp2_with fail
    with_reducible refine Calls.mono (CM2.out _ B3) ?_
    rintro e w4 ⟨rfl, b4⟩
    have B4 := B3.trans (b4.mono B3.size)
    have P4 := (b4.block _ s3).trans P3
    have s4 : w2.heap.size < w4.heap.size := Nat.lt_of_lt_of_le s3 b4.size
    have P5 := (Below.heap_alloc w4 (.cells #[.int .i64 0, .int .i64 0] 33) _ s4).trans P4
    have B5 := hid (B4.alloc B4.size (.cells #[.int .i64 0, .int .i64 0] 33))
    obtain ⟨c50, c51, f50, f51⟩ := pairCells P5
    clear P2 P3 P4 P5 Q3 c30 c31 f30 f31 d30 d31 e30 e31 b4 b3 b3' b2 b1 B2 B3 B4
    go_wp2_with fail
    with_reducible refine Calls.mono (CD.out _ B5.out) ?_
    rintro e w6 ⟨rfl, b6⟩
    go_wp2
    go_ret
    exact ⟨rfl, B5.out.trans (b6.mono B5.out.size)⟩
end Go.Proofs.YtkejcajboneniaaDoor
