/-
  The walk of the exact law of PartsAfter. No statement is proved here.
-/
import Derived.Test.YtannfeiogocpeaaDoorC4q
import Derived.Test.YtannfeiogocpeaaDoorTab
import Derived.Test.YtannfeiogocpeaaDoorC4j
import Derived.Test.YtannfeiogocpeaaDoorNestX
namespace Go.Proofs.YtannfeiogocpeaaDoor
open Go.RowKit
set_option linter.unusedVariables false
set_option linter.unusedSimpArgs false

theorem own_belowB {w w' : World} {B B0 n : Nat} {v : Value} {e : TypeId} {xs : List Value} (h : w.ownsRow B0 e 1 v n xs) (hb : Below B w w') (hlt : ∀ k, v.ownBlock = some k → k < B) : w'.ownsRow B0 e 1 v n xs := by
  refine ⟨h.1, ?_⟩
  rcases h.2 with h2 | ⟨g, cap, cur, h1, h2, h3, h4⟩
  · exact .inl h2
  · exact .inr ⟨g, cap, cur, h1, h2, (hb.block g (hlt g (by rw [h1]; rfl))).trans h3, h4⟩
theorem Rows.hi {w : World} {B : Nat} {vs : List Value} {ls : List (List Int)} (h : Rows w B vs ls) : ∀ (j : Nat) v, vs[j]? = some v → ∀ k, v.ownBlock = some k → k < w.heap.size := by
  intro j v hv k hk
  have hj : j < ls.length := by have := (List.getElem?_eq_some_iff.1 hv).1; have := h.1; omega
  obtain ⟨A, n, c, e, ho⟩ := h.2 j v _ hv (List.getElem?_eq_getElem hj)
  rw [e] at hk
  exact own_hi ho k hk
theorem Rows.belowB {w w' : World} {B C : Nat} {vs : List Value} {ls : List (List Int)} (h : Rows w B vs ls) (hb : Below C w w') (hlt : ∀ (j : Nat) v, vs[j]? = some v → ∀ k, v.ownBlock = some k → k < C) : Rows w' B vs ls :=
  ⟨h.1, fun j v l h1 h2 => by
    obtain ⟨A, n, c, e, ho⟩ := h.2 j v l h1 h2
    exact ⟨A, n, c, e, own_belowB ho hb (by rw [← e]; exact hlt j v h1)⟩⟩
theorem pairs_sum (l : List (Int × Int)) : ((pairs l).map List.length).sum = 2 * l.length := by
  induction l with
  | nil => rfl
  | cons a l ih =>
    have e : pairs (a :: l) = [a.1, a.2] :: pairs l := rfl
    rw [e, List.map_cons, List.sum_cons, ih]
    simp
    omega

set_option maxRecDepth 100000 in
set_option maxHeartbeats 3200000 in
theorem fnExactPartsAfter_walk (n r : Int) (w : World) (hw1 : (Lit.int .i64 n).wf = true) (hw2 : (Lit.int .i64 r).wf = true) (hT : Tabs w) :
    Calls Tryd.prog 4 #[.int .i64 n, .int .i64 r] w fun e w' => e = .returned (.bool true) ∧ Below w.heap.size w w' := by
  have CS := hid (fun W : World => specPartsAfter_any n r W hw1 hw2)
  have CI := hid (fun (W : World) (hb : Below w.heap.size w W) => implPartsAfter_any n r W hw1 hw2 (hT.below hb))
  have hsum := pairs_sum (partsOut n r)
  have hplen := pairs_len (partsOut n r)
  obtain ⟨ls, hls⟩ : ∃ ls, pairs (partsOut n r) = ls := ⟨_, rfl⟩
  rw [hls] at CS CI hsum hplen
  clear hls
  obtain ⟨lens, hlens⟩ : ∃ lens, ls.map List.length = lens := ⟨_, rfl⟩
  rw [hlens] at hsum
  go_enter Tryd.func4, Tryd.ntmps4
  go_wp2_with fail
  with_reducible refine Calls.mono (CS.out _) ?_
  rintro e w1 ⟨AW, mW, cW, us, rfl, oW, RW, hmW, b1⟩
  have hiW := hid (own_hi oW)
  have hrW := hid RW.hi
  have BB := hid b1
  have hz1 := b1.size
  have UW := hid RW
  clear RW b1
  go_wp2_with fail
  with_reducible refine Calls.mono (CI.out _ BB.out) ?_
  rintro e w2 ⟨AG, mG, cG, vs, rfl, oG, RG, hap, hmG, b2⟩
  have hlv := outer_len oG
  have hS : lens.sum ≤ 128 := by have := RG.1; omega
  have hz2 := b2.size
  replace UW := hid (UW.out.on b2)
  replace oW := own_on oW b2
  replace BB := hid (BB.out.trans (b2.mono BB.out.size))
  have UG := hid RG
  have HAP := hid hap
  clear RG hap b2
  go_wp2_with fail
  refine (eqIntSS_same AG AW mG cG mW cW _ _ _ _ vs us ls _ oG UG.out oW UW.out (by omega)).mono ?_
  rintro e w3 ⟨rfl, b3⟩
  have hz3 := b3.size
  replace UW := hid (UW.out.on b3)
  replace oW := own_on oW b3
  replace UG := hid (UG.out.on b3)
  replace oG := own_on oG b3
  replace BB := hid (BB.out.trans (b3.mono BB.out.size))
  clear b3
  go_wp2_with fail
  refine (markIntSS_any AG mG cG _ w1.heap.size vs ls 1 _ oG UG.out HAP.out (by omega) (by rw [hlens]; omega) (by omega) (by omega)).mono ?_
  rintro e w4 ⟨rfl, oG4, RG4, b4, hz4⟩
  rw [hlens] at RG4 ⊢
  replace UW := hid (UW.out.belowB b4 hrW.out)
  replace oW := own_belowB oW b4 hiW.out
  replace UG := hid RG4
  replace oG := oG4
  replace BB := hid (BB.out.trans (b4.mono hz1))
  clear b4 RG4 oG4
  go_wp2_with fail
  refine (heldIntSS_any AG mG cG _ _ vs lens 1 _ oG UG.out (by omega) (by omega) (by omega)).mono ?_
  rintro e w' ⟨rfl, rfl⟩
  have hsp : (0 : Int) ≤ 1 + (lens.sum : Int) := by omega
  go_wp2_with fail
  with_reducible refine Calls.mono (CI.out _ BB.out) ?_
  rintro e w5 ⟨AH, mH, cH, xs, rfl, oH, RH, hapH, hmH, b5⟩
  have hz5 := b5.size
  replace UW := hid (UW.out.on b5)
  replace oW := own_on oW b5
  replace UG := hid (UG.out.on b5)
  replace oG := own_on oG b5
  replace BB := hid (BB.out.trans (b5.mono BB.out.size))
  have UH := hid RH
  clear RH hapH b5
  go_wp2_with fail
  refine (eqIntSS_same AH AW mH cH mW cW _ _ _ _ xs us ls _ oH UH.out oW UW.out (by omega)).mono ?_
  rintro e w6 ⟨rfl, b6⟩
  replace UG := hid (UG.out.on b6)
  replace oG := own_on oG b6
  replace BB := hid (BB.out.trans (b6.mono BB.out.size))
  clear b6 oH oW UH UW
  go_wp2_with fail
  refine (heldIntSS_any AG mG cG _ _ vs lens 1 _ oG UG.out (by omega) (by omega) (by omega)).mono ?_
  rintro e w' ⟨rfl, rfl⟩
  clear oG UG
  go_wp2
  go_ret
  exact ⟨rfl, BB.out⟩
end Go.Proofs.YtannfeiogocpeaaDoor
