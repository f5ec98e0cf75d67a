/-
  Walks of laws.eqIntSS, markIntSS and heldIntSS. No statement is proved here.
-/
import Derived.Test.YtannfeiogocpeaaDoorNest
import Derived.Test.YtannfeiogocpeaaDoorExE
import Derived.Test.YtannfeiogocpeaaDoorExM
import Derived.Deep.RegionHeld3
namespace Go.Proofs.YtannfeiogocpeaaDoor
open Go.RowKit
set_option linter.unusedVariables false
set_option linter.unusedSimpArgs false

theorem nest_drew (w : World) : w.grownBy w.drew none := ⟨rfl, rfl, rfl, Nat.le_refl _, fun _ _ _ => rfl⟩
theorem outer_len {w : World} {B m c : Nat} {A : Option Addr} {vs : List Value} (h : w.ownsRow B 29 1 (.slice A m c) m vs) : vs.length = m := by have := h.1; omega
theorem own_addr {w : World} {B m c : Nat} {e : TypeId} {A : Option Addr} {vs : List Value} (h : w.ownsRow B e 1 (.slice A m c) m vs) (h0 : 0 < m) : ∃ g, A = some ⟨g, 0, none⟩ ∧ g < w.heap.size := by
  obtain ⟨m', rfl⟩ : ∃ q, m = q + 1 := ⟨m - 1, by omega⟩
  obtain ⟨g, cg, hs, _, hlt⟩ := own_shape h
  injection hs with e1 e2 e3
  exact ⟨g, e1, hlt⟩
/-- An element of a row of rows. -/
theorem outer_at {w : World} {B B2 m c i : Nat} {g : Nat} {vs : List Value} {ls : List (List Int)} (h : w.ownsRow B 29 1 (.slice (some ⟨g, 0, none⟩) m c) m vs) (R : Rows w B2 vs ls) (hi : i < m) :
    ∃ Ai ni ci l, w.cell? ⟨g, i, none⟩ = some (.slice Ai ni ci) ∧ vs[i]? = some (.slice Ai ni ci) ∧ ls[i]? = some l ∧ w.ownsRow B2 3 1 (.slice Ai ni ci) ni (ints l) := by
  have h1 := outer_len h
  have h2 := R.1
  have hl : ls[i]? = some (ls[i]'(by omega)) := List.getElem?_eq_getElem _
  obtain ⟨Ai, ni, ci, hv, ho⟩ := R.at hl
  refine ⟨Ai, ni, ci, _, ?_, hv, hl, ho⟩
  rw [h.cellAt i (by omega)]
  exact hv

set_option maxHeartbeats 1600000 in
theorem eqIntSS_same (A A2 : Option Addr) (m c m2 c2 B B1 B2 B3 : Nat) (vs us : List Value) (ls : List (List Int)) (w : World) (oA : w.ownsRow B 29 1 (.slice A m c) m vs) (RA : Rows w B1 vs ls) (oB : w.ownsRow B2 29 1 (.slice A2 m2 c2) m2 us) (RB : Rows w B3 us ls) (hm : m ≤ 100000) :
    Calls Tryd.prog 13 #[.slice A m c, .slice A2 m2 c2] w fun e w' => e = .returned (.bool true) ∧ Below w.heap.size w w' := by
  have h1 := outer_len oA
  have h2 := outer_len oB
  obtain rfl : m2 = m := by have := RA.1; have := RB.1; omega
  have e1 : ((m2 : Int) != (m2 : Int)) = false := by simp
  have BB := hid (Below.refl w.heap.size w)
  have HA := hid RA
  have HB := hid RB
  clear RA RB
  go_enter Tryd.func13, Tryd.ntmps13
  go_wp2_with fail
  go_loopw [5] (fun i wr => ∃ k : Nat, i = .int .i64 k ∧ k ≤ m2 ∧ wr.ownsRow B 29 1 (.slice A m2 c) m2 vs ∧ wr.ownsRow B2 29 1 (.slice A2 m2 c2) m2 us ∧ Hid (Rows wr B1 vs ls) ∧ Hid (Rows wr B3 us ls) ∧ Hid (Below w.heap.size w wr)) (fun i _ => m2 - (intOf i).toNat)
  case atStart => exact ⟨0, rfl, Nat.zero_le _, oA, oB, HA, HB, BB⟩
  case round =>
    clear oA oB HA HB BB
    obtain ⟨k, rfl, hk, oA, oB, HA, HB, BB⟩ := hrel
    by_cases hlt : k < m2
    · obtain ⟨g, rfl, hg⟩ := own_addr oA (by omega)
      obtain ⟨g2, rfl, hg2⟩ := own_addr oB (by omega)
      obtain ⟨Ai, ni, ci, l, hc1, _, hl1, o1⟩ := outer_at oA HA.out hlt
      obtain ⟨Aj, nj, cj, l2, hc2, _, hl2, o2⟩ := outer_at oB HB.out hlt
      obtain rfl : l2 = l := by rw [hl1] at hl2; injection hl2 with h; exact h.symm
      have CE := hid (eqIntS_b Ai Aj ni ci nj cj l2 l2 wr.drew wr.drew.heap.size wr.drew.heap.size (Sl.of_own (own_kept_none o1 (nest_drew wr))) (Sl.of_own (own_kept_none o2 (nest_drew wr))))
      rw [decide_eq_true rfl] at CE
      have oA2 := own_kept_none oA (nest_drew wr)
      have oB2 := own_kept_none oB (nest_drew wr)
      have HA2 := hid (HA.out.onto (nest_drew wr))
      have HB2 := hid (HB.out.onto (nest_drew wr))
      have BB2 := hid (BB.out.trans ((below_grown (nest_drew wr)).mono BB.out.size))
      have hki : (k : Int) < (m2 : Int) := by omega
      clear o1 o2 hl1 hl2 oA oB HA HB BB
      go_wp2_with fail
      go_region_held3 (fun w' => w'.cell? ⟨g, k, none⟩ = some (.slice Ai ni ci) ∧ w'.cell? ⟨g2, k, none⟩ = some (.slice Aj nj cj))
        (first
          | go_keep
          | (go_split_ands
             refine ⟨?_, ?_⟩
             · exact (st.cell (p := ⟨g, k, none⟩) (by simp; omega)).trans (by assumption)
             · exact (st.cell (p := ⟨g2, k, none⟩) (by simp; omega)).trans (by assumption)))
        (first
          | (go_at_call 18; with_reducible refine Calls.mono CE.out ?_; rintro r w4 ⟨rfl, st⟩))
      have oA3 := own_on oA2 st
      have oB3 := own_on oB2 st
      have HA3 := hid (HA2.out.on st)
      have HB3 := hid (HB2.out.on st)
      have BB3 := hid (BB2.out.trans (st.mono BB2.out.size))
      clear st oA2 oB2 HA2 HB2 BB2 hc1 hc2
      go_wp2
      go_roundw
      case rel => exact ⟨k + 1, by go_num, by omega, oA3, oB3, HA3, HB3, BB3⟩
      case measure => simp [intOf]; omega
    · obtain rfl : k = m2 := by omega
      go_wp2
      go_ret
      exact ⟨rfl, BB.out⟩

/-- No two of the values lie in one block. -/
def Apart (vs : List Value) : Prop := ∀ (i j : Nat) u v, vs[i]? = some u → vs[j]? = some v → i ≠ j → u.ownBlock = none ∨ u.ownBlock ≠ v.ownBlock
def sumTo (lens : List Nat) (i : Nat) : Nat := (lens.take i).sum
theorem sumTo_succ {lens : List Nat} {i : Nat} (h : i < lens.length) : sumTo lens (i + 1) = sumTo lens i + lens[i] := by
  unfold sumTo
  rw [List.take_succ_eq_append_getElem h, List.sum_append]
  simp
theorem sumTo_le (lens : List Nat) (i : Nat) : sumTo lens i ≤ lens.sum := by
  unfold sumTo
  have h := List.sum_append (l₁ := lens.take i) (l₂ := lens.drop i)
  rw [List.take_append_drop] at h
  omega
/-- The numbers k0, k0 + 1 .. over rows of these lengths. -/
def mkL (k0 : Int) (lens : List Nat) : List (List Int) := (List.range lens.length).map fun i => marks (k0 + (sumTo lens i : Int)) (lens.getD i 0)
theorem mkL_len (k0 : Int) (lens : List Nat) : (mkL k0 lens).length = lens.length := by simp [mkL]
theorem mkL_at {k0 : Int} {lens : List Nat} {i : Nat} (h : i < lens.length) : (mkL k0 lens)[i]? = some (marks (k0 + (sumTo lens i : Int)) (lens[i])) := by
  simp [mkL, h]
/-- The first i rows marked. -/
def partMk (k0 : Int) (ls : List (List Int)) (i : Nat) : List (List Int) := (mkL k0 (ls.map List.length)).take i ++ ls.drop i
theorem partMk_zero (k0 : Int) (ls : List (List Int)) : partMk k0 ls 0 = ls := by simp [partMk]
theorem partMk_all {k0 : Int} {ls : List (List Int)} {m : Nat} (h : ls.length = m) : partMk k0 ls m = mkL k0 (ls.map List.length) := by
  unfold partMk
  rw [List.drop_of_length_le (by omega), List.take_of_length_le (by rw [mkL_len]; simp; omega), List.append_nil]
theorem partMk_at {k0 : Int} {ls : List (List Int)} {i : Nat} (h : i < ls.length) : (partMk k0 ls i)[i]? = some (ls[i]) := by
  unfold partMk
  rw [List.getElem?_append_right (by simp [mkL_len]; omega)]
  simp [mkL_len, Nat.min_eq_left (Nat.le_of_lt h), h]
theorem partMk_set {k0 : Int} {ls : List (List Int)} {i : Nat} (h : i < ls.length) : (partMk k0 ls i).set i (marks (k0 + (sumTo (ls.map List.length) i : Int)) (ls[i]).length) = partMk k0 ls (i + 1) := by
  have hl : i < (mkL k0 (ls.map List.length)).length := by rw [mkL_len]; simpa using h
  have hm := mkL_at (k0 := k0) (lens := ls.map List.length) (i := i) (by simpa using h)
  unfold partMk
  rw [List.set_append_right _ _ (by simp; omega), List.take_succ_eq_append_getElem hl, List.append_assoc]
  congr 1
  have h0 : i - ((mkL k0 (ls.map List.length)).take i).length = 0 := by simp; omega
  rw [h0, show ls.drop i = ls[i] :: ls.drop (i + 1) from List.drop_eq_getElem_cons h]
  rw [List.getElem?_eq_getElem hl] at hm
  injection hm with hm
  rw [hm, List.set_cons_zero, List.getElem_map]
  rfl
theorem Rows.set {w w' : World} {B i : Nat} {vs : List Value} {ls : List (List Int)} {u : Value} {l : List Int} (h : Rows w B vs ls) (hu : vs[i]? = some u) (hap : Apart vs) (hg : w.grownBy w' u.ownBlock) (hr : Row1 w' B u l) : Rows w' B vs (ls.set i l) := by
  refine ⟨by simp [h.1], fun j v l2 hv hl => ?_⟩
  by_cases e : i = j
  · subst e
    rw [hu] at hv
    injection hv with hv
    subst hv
    have hi : i < ls.length := by
      have := (List.getElem?_eq_some_iff.1 hu).1
      have := h.1
      omega
    rw [List.getElem?_set_self hi] at hl
    injection hl with hl
    subst hl
    exact hr
  · rw [List.getElem?_set_ne e] at hl
    obtain ⟨A, n, c, ev, ho⟩ := h.2 j v l2 hv hl
    have ha := hap j i v u hv hu (fun h => e h.symm)
    rw [ev] at ha
    exact ⟨A, n, c, ev, ho.kept hg ha⟩
theorem own_types' {w : World} {B B2 n m : Nat} {v vo : Value} {xs ys : List Value} (h : w.ownsRow B 3 1 v n xs) (ho : w.ownsRow B2 29 1 vo m ys) : vo.ownBlock = none ∨ vo.ownBlock ≠ v.ownBlock := by
  rcases own_types h ho with h1 | h1
  · rcases hb : vo.ownBlock with _ | k
    · exact .inl rfl
    · right; rw [h1]; simp
  · exact .inr fun e => h1 e.symm

set_option maxHeartbeats 1600000 in
theorem markIntSS_any (A : Option Addr) (m c B B1 : Nat) (vs : List Value) (ls : List (List Int)) (k0 : Int) (w : World) (oA : w.ownsRow B 29 1 (.slice A m c) m vs) (RA : Rows w B1 vs ls) (hap : Apart vs) (hk0 : 0 ≤ k0) (hk1 : k0 + ((ls.map List.length).sum : Int) ≤ 1000000) (hm : m ≤ 100000) (hB : B1 ≤ w.heap.size) :
    Calls Tryd.prog 14 #[.slice A m c, .int .i64 k0] w fun e w' => e = .returned (.int .i64 (k0 + ((ls.map List.length).sum : Int))) ∧ w'.ownsRow B 29 1 (.slice A m c) m vs ∧ Rows w' B1 vs (mkL k0 (ls.map List.length)) ∧ Below B1 w w' ∧ w.heap.size ≤ w'.heap.size := by
  have h1 := outer_len oA
  have h2 : ls.length = m := by have := RA.1; omega
  have HA := hid RA
  rw [← partMk_zero k0 ls] at HA
  have HAP := hid hap
  have HL2 := hid h2
  have BB := hid (Below.refl B1 w)
  clear RA hap
  have hz : (k0 : Int) = k0 + (sumTo (ls.map List.length) 0 : Int) := by simp [sumTo]
  have HZ := hid hz
  clear hz
  go_enter Tryd.func14, Tryd.ntmps14
  go_wp2_with fail
  go_loopw [1, 5] (fun x i wr => ∃ k : Nat, x = .int .i64 (k0 + (sumTo (ls.map List.length) k : Int)) ∧ i = .int .i64 k ∧ k ≤ m ∧ wr.ownsRow B 29 1 (.slice A m c) m vs ∧ Hid (Rows wr B1 vs (partMk k0 ls k)) ∧ Hid (Below B1 w wr) ∧ w.heap.size ≤ wr.heap.size) (fun _ i _ => m - (intOf i).toNat)
  case atStart => exact ⟨0, by rw [← HZ.out], rfl, Nat.zero_le _, oA, HA, BB, Nat.le_refl _⟩
  case round =>
    clear oA HA BB HZ
    obtain ⟨k, rfl, rfl, hk, oA, HA, BB, hsz⟩ := hrel
    by_cases hlt : k < m
    · obtain ⟨g, rfl, hg⟩ := own_addr oA (by omega)
      have hkl : k < ls.length := by omega
      obtain ⟨Ai, ni, ci, l, hc1, hv1, hl1, o1⟩ := outer_at oA HA.out hlt
      rw [partMk_at hkl] at hl1
      injection hl1 with hl1
      subst hl1
      have hni : (ls[k]).length = ni := by have := o1.1; simpa using this
      have hs1 := sumTo_le (ls.map List.length) (k + 1)
      rw [sumTo_succ (by simpa using hkl)] at hs1
      have hsE := sumTo_succ (lens := ls.map List.length) (i := k) (by simpa using hkl)
      rw [List.getElem_map, hni] at hs1 hsE
      have hset := partMk_set (k0 := k0) hkl
      rw [hni] at hset
      obtain ⟨s0, hs0⟩ : ∃ s0, sumTo (ls.map List.length) k = s0 := ⟨_, rfl⟩
      rw [hs0] at hs1 hsE hset
      rw [hs0]
      obtain ⟨S0, hS0⟩ : ∃ S0, (ls.map List.length).sum = S0 := ⟨_, rfl⟩
      rw [hS0] at hk1 hs1
      have HE := hid hsE
      have HSET := hid hset
      have hki : (k : Int) < (m : Int) := by omega
      clear hs0 hsE hset hni
      have CM := hid (markIntS_any Ai ni ci B1 (ls[k]) (k0 + (s0 : Int)) wr o1 (by omega) (by omega) (by omega))
      clear hS0
      go_wp2_with fail
      with_reducible refine Calls.mono CM.out ?_
      rintro r w4 ⟨rfl, o4, g4⟩
      have oA4 := oA.kept g4 (own_types' o1 oA)
      have HA4 := hid (HA.out.set hv1 HAP.out g4 ⟨_, _, _, rfl, o4⟩)
      rw [HSET.out] at HA4
      have BB4 := hid (BB.out.grown g4 (by omega) (own_lo o1))
      have hsz4 : w.heap.size ≤ w4.heap.size := Nat.le_trans hsz g4.size
      clear g4 o4 o1 oA HA BB hc1 CM
      go_wp2
      go_roundw
      case rel => exact ⟨k + 1, by rw [HE.out]; simp; omega, by go_num, by omega, oA4, HA4, BB4, hsz4⟩
      case measure => simp [intOf]; omega
    · obtain rfl : k = m := by omega
      have hs : sumTo (ls.map List.length) k = (ls.map List.length).sum := by unfold sumTo; rw [List.take_of_length_le (by simp; omega)]
      rw [partMk_all h2] at HA
      rw [hs]
      clear hs
      go_wp2
      go_ret
      exact ⟨rfl, oA, HA.out, BB.out, hsz⟩

set_option maxHeartbeats 1600000 in
theorem heldIntSS_any (A : Option Addr) (m c B B1 : Nat) (vs : List Value) (lens : List Nat) (k0 : Int) (w : World) (oA : w.ownsRow B 29 1 (.slice A m c) m vs) (RA : Rows w B1 vs (mkL k0 lens)) (hk0 : 0 ≤ k0) (hk1 : k0 + (lens.sum : Int) ≤ 1000000) (hm : m ≤ 100000) :
    Calls Tryd.prog 15 #[.slice A m c, .int .i64 k0] w fun e w' => e = .returned (.int .i64 (k0 + (lens.sum : Int))) ∧ w = w' := by
  have h1 := outer_len oA
  have h2 : lens.length = m := by have := RA.1; rw [mkL_len] at this; omega
  have HZ := hid (show (k0 : Int) = k0 + (sumTo lens 0 : Int) from by simp [sumTo])
  go_enter Tryd.func15, Tryd.ntmps15
  go_wp2_with fail
  go_loopw [1, 5] (fun x i wr => ∃ k : Nat, x = .int .i64 (k0 + (sumTo lens k : Int)) ∧ i = .int .i64 k ∧ k ≤ m ∧ wr = w) (fun _ i _ => m - (intOf i).toNat)
  case atStart => exact ⟨0, by rw [← HZ.out], rfl, Nat.zero_le _, by first | rfl | trivial⟩
  case round =>
    obtain ⟨k, rfl, rfl, hk, rfl⟩ := hrel
    clear HZ
    by_cases hlt : k < m
    · obtain ⟨g, rfl, hg⟩ := own_addr oA (by omega)
      have hkl : k < lens.length := by omega
      obtain ⟨Ai, ni, ci, l, hc1, hv1, hl1, o1⟩ := outer_at oA RA hlt
      rw [mkL_at hkl] at hl1
      injection hl1 with hl1
      subst hl1
      have hni : lens[k] = ni := by have := o1.1; simpa [marks_len] using this
      have hs1 := sumTo_le lens (k + 1)
      have hsE := sumTo_succ hkl
      rw [hsE] at hs1
      rw [hni] at hs1 hsE o1
      have HE := hid hsE
      obtain ⟨s0, hs0⟩ : ∃ s0, sumTo lens k = s0 := ⟨_, rfl⟩
      rw [hs0] at hs1 HE o1
      rw [hs0]
      obtain ⟨S0, hS0⟩ : ∃ S0, lens.sum = S0 := ⟨_, rfl⟩
      have hk1' := hk1
      rw [hS0] at hk1' hs1
      have hki : (k : Int) < (m : Int) := by omega
      have CM := hid (heldIntS_any Ai ni ci (k0 + (s0 : Int)) wr wr.heap.size (Sl.of_own o1) (by omega) (by omega))
      have hpos : 0 ≤ k0 + (s0 : Int) + (ni : Int) := by omega
      clear hS0 hs0 hsE hni
      go_wp2_with fail
      with_reducible refine Calls.mono CM.out ?_
      rintro r w4 ⟨rfl, rfl⟩
      go_wp2
      go_roundw
      case rel => exact ⟨k + 1, by rw [HE.out]; simp; omega, by go_num, by omega, by first | rfl | trivial⟩
      case measure => simp [intOf]; omega
    · obtain rfl : k = m := by omega
      have hs : sumTo lens k = lens.sum := by unfold sumTo; rw [List.take_of_length_le (by omega)]
      rw [hs]
      clear hs
      go_wp2
      go_ret
      exact ⟨rfl, rfl⟩
end Go.Proofs.YtannfeiogocpeaaDoor
