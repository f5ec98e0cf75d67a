/-
  The walk of laws.FnDeedText. No statement is proved here.
-/
import Derived.Test.YtkejcajboneniaaDoorT12t
import Derived.Test.YtkejcajboneniaaDoorT12i
import Derived.Test.YtkejcajboneniaaDoorDr12
import Derived.Test.YtkejcajboneniaaDoorC1a
namespace Go.Proofs.YtkejcajboneniaaDoor
open Go.RowKit
set_option linter.unusedVariables false
set_option linter.unusedSimpArgs false

set_option maxRecDepth 100000 in
set_option maxHeartbeats 3200000 in
theorem fnDeedText_walk (A : Option Addr) (n c : Nat) (w : World) (hs : By w w.heap.size A n) (hc : n ≤ c) (hT : TabsL w) :
    Calls Tryd.prog 5 #[.slice A n c] w fun e w' => e = .returned (.bool true) ∧ Below w.heap.size w w' := by
  have hm : n ≤ 9223372036854775807 := hs.1
  by_cases hbig : 1048576 < n
  · go_enter Tryd.func5, Tryd.ntmps5
    go_wp2
    go_ret
    exact ⟨rfl, Below.refl _ _⟩
  go_enter Tryd.func5, Tryd.ntmps5
  go_wp2_with fail
  refine (drawDeedText_any A n c _ hs hc).mono ?_
  rintro e w1 ⟨a, rfl, ha, hb1⟩
  clear hs hc hbig hm
  obtain ⟨W1, hW1⟩ : ∃ W1, w1.alloc (.cells #[.int .i64 a.1, .int .i64 a.2] 33) = W1 := ⟨_, rfl⟩
  have B1 : Below w.heap.size w W1 := by rw [← hW1]; exact hb1.alloc hb1.size _
  have P1 : W1.heap[w1.heap.size]? = some (.cells #[.int .i64 a.1, .int .i64 a.2] 33 (0, 0)) := by rw [← hW1]; exact heap_alloc_new w1 _
  have s1 : w1.heap.size < W1.heap.size := by rw [← hW1]; simp
  have CI := hid (fun (W : World) (hW : Below w.heap.size w W) => implDeedText_any a.1 a.2 W (hT.below hW).D)
  have CS := hid (fun W => specDeedText_any a.1 a.2 W)
  have hlen := deedB_len a.1 a.2
  have HR := hid (read_deed a)
  obtain ⟨s, hsd⟩ : ∃ s, deedB a.1 a.2 = s := ⟨_, rfl⟩
  rw [hsd] at CI CS hlen
  have CR := hid (fun (W : World) (hW : Below w.heap.size w W) => implReadDeed_any s (by omega) W (hT.below hW))
  rw [show deedP a = s from hsd] at HR
  clear hsd
  obtain ⟨c10, c11, f10, f11⟩ := pairCells P1
  go_wp2_with fail
  with_reducible refine Calls.mono (CI.out _ B1) ?_
  rintro e w2 ⟨rfl, b2⟩
  have P2 := (b2.block w1.heap.size s1).trans P1
  have s2 : w1.heap.size < w2.heap.size := Nat.lt_of_lt_of_le s1 b2.size
  obtain ⟨c20, c21, f20, f21⟩ := pairCells P2
  have B2 := hid (B1.trans (b2.mono B1.size))
  go_wp2_with fail
  with_reducible refine Calls.mono (CS.out _) ?_
  rintro e w3 ⟨rfl, b3⟩
  have P3 := (b3.block w1.heap.size s2).trans P2
  have s3 : w1.heap.size < w3.heap.size := Nat.lt_of_lt_of_le s2 b3.size
  have B3 := hid (B2.out.trans (b3.mono B2.out.size))
  clear c10 c11 f10 f11 c20 c21 f20 f21 P1 P2 b2 b3 B1 B2 CI CS
  cases s with
  | nil =>
    go_wp2_with fail
    refine (alive_any _).mono ?_
    rintro e w5 ⟨rfl, st5⟩
    go_wp2
    go_ret
    exact ⟨rfl, B3.out.trans (st5.mono B3.out.size)⟩
  | cons s0 s =>
    rw [HR.out (by simp)] at CR
    have CR2 : Hid (∀ W, Below w.heap.size w W → Calls Tryd.prog 20 #[encStr (s0 :: s)] W fun e w' => e = .returned (.tuple #[deed a.1 a.2, .bool true]) ∧ Below W.heap.size W w') := CR
    clear CR
    have q1 : (a.1 == a.1) = true := by simp
    have q2 : (a.2 == a.2) = true := by simp
    go_wp2_with fail
    with_reducible refine Calls.mono (CR2.out _ B3.out) ?_
    rintro e w5 ⟨rfl, b5⟩
    have P5 := (b5.block w1.heap.size s3).trans P3
    obtain ⟨c50, c51, f50, f51⟩ := pairCells P5
    have s5 : w1.heap.size < w5.heap.size := Nat.lt_of_lt_of_le s3 b5.size
    have B5 := hid (B3.out.trans (b5.mono B3.out.size))
    go_wp2
    go_ret
    exact ⟨rfl, B5.out.alloc B5.out.size _⟩
end Go.Proofs.YtkejcajboneniaaDoor
