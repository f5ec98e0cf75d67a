/-
  The walk of laws.FnVotesOk, written by program (law7v.py). No statement is proved here.
-/
import Derived.Test.YtfmlekcdjjkolaaC7f
import Derived.Test.YtfmlekcdjjkolaaC7i
import Derived.Test.YtfmlekcdjjkolaaDrW
import Derived.Test.YtfmlekcdjjkolaaExS
import Derived.Test.YtfmlekcdjjkolaaC1a
import Derived.IntWalk
import Derived.Deep.OwnRows
namespace Go.Proofs.Ytfmlekcdjjkolaa
open Go.RowKit
set_option linter.unusedVariables false
set_option linter.unusedSimpArgs false

theorem own_zeros {w : World} {B g n : Nat} (h : w.heap[g]? = some (.cells (madeCells #[.int .i64 0] n) 3 (0, 0))) (hB : B ≤ g) (hm : n ≤ 1000000) : w.ownsRow B 3 1 (.slice (some ⟨g, 0, none⟩) n n) n (ints (List.replicate n 0)) := by
  have e : (madeCells #[.int .i64 0] n).toList = ints (List.replicate n 0) := by
    have := madeInts n
    simpa [Value.cells] using this
  refine ⟨by simp, .inr ⟨g, n, _, rfl, hB, h, Nat.le_refl _, by simp only [maxLen]; omega, ?_, ?_⟩⟩
  · have := congrArg List.length e; simpa using this
  · rw [e]; exact List.take_of_length_le (by simp)

set_option maxRecDepth 100000 in
set_option maxHeartbeats 6400000 in
theorem fnVotesOk_walk (A : Option Addr) (n c : Nat) (w : World) (hs : By w w.heap.size A n) (hc : n ≤ c) :
    Calls Try.prog 3 #[.slice A n c] w fun e w' => e = .returned (.bool true) ∧ Below w.heap.size w w' := by
  have hm : n ≤ 9223372036854775807 := hs.1
  by_cases hbig : 1048576 < n
  · go_enter Try.func3, Try.ntmps3
    go_wp2
    go_ret
    exact ⟨rfl, Below.refl _ _⟩
  go_enter Try.func3, Try.ntmps3
  go_wp2_with fail
  refine (drawVotesOk_any A n c _ hs hc).mono ?_
  rintro e w1 ⟨A1, n1, c1, l1, rfl, o1, hn1, hb1⟩
  have HB := hid hb1
  clear hs hc hb1 hbig hm
  replace o1 := own_mono (base' := 0) o1 (Nat.zero_le _)
  have hl1 : l1.length = n1 := by have := o1.1; simpa using this
  have CI := hid (fun (W : World) (hs : Sl W W.heap.size A1 n1 l1) => implVotesOk_any A1 n1 c1 l1 W hs)
  have CS := hid (fun (W : World) (B : Nat) (hs : Sl W B A1 n1 l1) => specVotesOk_any A1 n1 c1 l1 W B hs)
  have CE := hid (fun (W : World) => implVotesOk_any (some ⟨W.heap.size, 0, none⟩) 0 0 [] (W.alloc (.cells #[] 3)) ((Sl.lit W 3 [] (by simp)).more (by simp)))
  have C1 := hid (fun (W : World) => implVotesOk_any (some ⟨W.heap.size, 0, none⟩) 1 1 [1] (W.alloc (.cells #[.int .i64 1] 3)) ((Sl.lit W 3 [1] (by simp)).more (by simp)))
  rw [show votesOk [] = false from by decide] at CE
  rw [show votesOk [1] = true from by decide] at C1
  have GE := hid (fun (W : World) (hb : Below w.heap.size w W) => hb.trans (((Below.refl W.heap.size W).alloc (Nat.le_refl _) (.cells #[] 3)).mono hb.size))
  have G1 := hid (fun (W : World) (hb : Below w.heap.size w W) => hb.trans (((Below.refl W.heap.size W).alloc (Nat.le_refl _) (.cells #[.int .i64 1] 3)).mono hb.size))
  cases hk : votesOk l1 with
  | false =>
    rw [hk] at CI CS
    clear hk
    go_wp2_with fail
    with_reducible refine Calls.mono (CI.out _ (Sl.of_own o1)) ?_
    rintro e w2 ⟨rfl, st2⟩
    replace o1 := own_on o1 st2
    replace HB := hid (HB.out.trans (st2.mono HB.out.size))
    clear st2
    go_wp2_with fail
    with_reducible refine Calls.mono (CS.out _ _ (Sl.of_own o1)) ?_
    rintro e w' ⟨rfl, rfl⟩
    clear CI CS o1
    go_wp2_with fail
    replace HB := hid (GE.out w2 HB.out)
    with_reducible refine Calls.mono (CE.out w2) ?_
    rintro e w3 ⟨rfl, st3⟩
    replace HB := hid (HB.out.trans (st3.mono HB.out.size))
    clear st3
    go_wp2_with fail
    replace HB := hid (G1.out w3 HB.out)
    with_reducible refine Calls.mono (C1.out w3) ?_
    rintro e w4 ⟨rfl, st4⟩
    replace HB := hid (HB.out.trans (st4.mono HB.out.size))
    clear st4
    go_wp2_with fail
    refine (alive_any _).mono ?_
    rintro e w5 ⟨rfl, st5⟩
    replace HB := hid (HB.out.trans (st5.mono HB.out.size))
    clear st5
    go_wp2
    go_ret
    exact ⟨rfl, HB.out⟩
  | true =>
    obtain ⟨h5, _⟩ := votesOk_iff.1 hk
    rw [hl1] at h5
    have hz : votesOk (List.replicate n1 0) = true := votesOk_iff.2 ⟨by simpa using h5, fun v hv => .inl (List.eq_of_mem_replicate hv)⟩
    rw [hk] at CI CS
    have CZ := hid (fun (W : World) (h3 : Sl (W.alloc (.cells (madeCells #[.int .i64 0] n1) 3)) (W.alloc (.cells (madeCells #[.int .i64 0] n1) 3)).heap.size (some ⟨W.heap.size, 0, none⟩) n1 (List.replicate n1 0)) => implVotesOk_any (some ⟨W.heap.size, 0, none⟩) n1 n1 (List.replicate n1 0) _ h3)
    rw [hz] at CZ
    have GZ := hid (fun (W : World) (hb : Below w.heap.size w W) => hb.trans (((Below.refl W.heap.size W).alloc (Nat.le_refl _) (.cells (madeCells #[.int .i64 0] n1) 3)).mono hb.size))
    have hmk := fun W => run_make_row' (P := Try.prog) 23 3 (.int .i64 0) 8 Try.underlying23 info_int rfl .i64 .i64 n1 (by omega) (by omega) W
    clear hz hk
    go_wp2_with fail
    with_reducible refine Calls.mono (CI.out _ (Sl.of_own o1)) ?_
    rintro e w2 ⟨rfl, st2⟩
    replace o1 := own_on o1 st2
    replace HB := hid (HB.out.trans (st2.mono HB.out.size))
    clear st2
    go_wp2_with fail
    with_reducible refine Calls.mono (CS.out _ _ (Sl.of_own o1)) ?_
    rintro e w' ⟨rfl, rfl⟩
    clear CI CS o1
    go_wp2_with fail
    replace HB := hid (GZ.out w2 HB.out)
    with_reducible refine Calls.mono (CZ.out w2 (Sl.of_own (own_zeros (heap_alloc_new w2 (.cells (madeCells #[.int .i64 0] n1) 3)) (Nat.zero_le _) (show n1 ≤ 1000000 by omega)))) ?_
    rintro e w3 ⟨rfl, st3⟩
    replace HB := hid (HB.out.trans (st3.mono HB.out.size))
    clear st3 hmk
    go_wp2_with fail
    replace HB := hid (GE.out w3 HB.out)
    with_reducible refine Calls.mono (CE.out w3) ?_
    rintro e w4 ⟨rfl, st4⟩
    replace HB := hid (HB.out.trans (st4.mono HB.out.size))
    clear st4
    go_wp2_with fail
    replace HB := hid (G1.out w4 HB.out)
    with_reducible refine Calls.mono (C1.out w4) ?_
    rintro e w5 ⟨rfl, st5⟩
    replace HB := hid (HB.out.trans (st5.mono HB.out.size))
    clear st5
    go_wp2_with fail
    refine (alive_any _).mono ?_
    rintro e w6 ⟨rfl, st6⟩
    replace HB := hid (HB.out.trans (st6.mono HB.out.size))
    clear st6
    go_wp2
    go_ret
    exact ⟨rfl, HB.out⟩
end Go.Proofs.Ytfmlekcdjjkolaa
