/-
  A law on append of so many noughts, 'append(s, make([]int, k)...)', onto a row of the call's own. No statement is proved here.
-/
import Derived.Test.YtnegbebfofcakaaDr1
import Derived.Lib.AppendZerosOnto
namespace Go.Proofs.Ytnegbebfofcakaa
open Go.RowKit
set_option linter.unusedVariables false
set_option linter.unusedSimpArgs false

theorem zeroCells_ints (k : Nat) : (Builtin.zeroCells (Value.int .i64 0).cells k).toList = ints (List.replicate k 0) := by
  simp only [Builtin.zeroCells, Value.cells, ints, List.map_replicate]
  apply List.ext_getElem?
  intro j
  by_cases h : j < k
  · simp [h, Nat.mod_one]
  · simp [show k ≤ j from by omega]

theorem Sl.cellsAt {w : World} {B n b off : Nat} {l : List Int} (h : Sl w B (some ⟨b, off, none⟩) n l) : ∀ j u, (ints l)[j]? = some u → w.cell? ((⟨b, off, none⟩ : Addr).add j) = some u := by
  intro j u hu
  have hl := h.len
  have hj : j < n := by
    rcases Nat.lt_or_ge j n with h1 | h1
    · exact h1
    · rw [List.getElem?_eq_none (by simpa [ints, hl] using h1)] at hu; cases hu
  obtain ⟨b', off', e, _, hc⟩ := h.2.2 (by omega)
  injection e with e
  injection e with e1 e2
  subst e1
  subst e2
  have e3 : (⟨b, off, none⟩ : Addr).add j = ⟨b, off + j, none⟩ := by
    unfold Addr.add
    by_cases h0 : j = 0 <;> simp [h0]
  rw [e3, hc j hj]
  rw [← hu]
  simp [ints, nth, List.getD, show j < l.length from by omega]
theorem Sl.atSome {w : World} {B n b off : Nat} {l : List Int} (h : Sl w B (some ⟨b, off, none⟩) n l) : ∀ (j : Nat) (a : Int), l[j]? = some a → w.cell? ⟨b, off + j, none⟩ = some (.int .i64 a) := by
  intro j a ha
  have hl := h.len
  have hj : j < n := by
    rcases Nat.lt_or_ge j n with h1 | h1
    · exact h1
    · rw [List.getElem?_eq_none (by omega)] at ha; cases ha
  obtain ⟨b', off', e, _, hc⟩ := h.2.2 (by omega)
  injection e with e
  injection e with e1 e2
  subst e1
  subst e2
  rw [hc j hj]
  simp [nth, List.getD, ha]
theorem ints_one (l : List Int) : ∀ u ∈ ints l, u.oneCell' = true := by simp [ints, Value.oneCell']
theorem own_shape1 {W : World} {base : Nat} {e : TypeId} {size : Nat} {v : Value} {m : Nat} {xs : List Value} (h : W.ownsRow base e size v m xs) (hm : 0 < m) : ∃ g cap, v = .slice (some ⟨g, 0, none⟩) m cap ∧ base ≤ g ∧ g < W.heap.size := by
  obtain ⟨k, rfl⟩ : ∃ k, m = k + 1 := ⟨m - 1, by omega⟩
  exact own_shape h

theorem run_append_zeros_room {P : Program} (w : World) (t tn ty e : TypeId) (i : TypeInfo) (kn : IntKind) (ht : P.underlying t = some (.slice e)) (htn : P.underlying tn = some (.int kn)) (hi : P.info? e = some i) (hz : i.zero = some (.int .i64 0)) (hs : i.size = 1) (hby : i.bytes = 8)
    (g n cap k : Nat) (cur : Array Value) (hg : w.heap[g]? = some (.cells cur e (0, 0))) (hroom : n + k ≤ cap) (hfit : n + k ≤ cur.size) (hk : k ≤ 1000000) :
    (Builtin.append_ #[t, tn] ty #[.slice (some ⟨g, 0, none⟩) n cap, .int .i64 k]).run P w =
      .ok (.slice (some ⟨g, 0, none⟩) (n + k) cap) (w.setRow g (cur.toList.take n ++ ints (List.replicate k 0) ++ cur.toList.drop (n + k)).toArray) := by
  have hw : IntKind.i64.wrap (k : Int) = k := by rw [IntKind.wrap_i64]; omega
  have hneg : ¬ ((k : Int) < 0) := by omega
  have h48i : ¬ (281474976710656 < (k : Int) * 8) := by omega
  have hst := run_storeCells_at P g n e (ints (List.replicate k 0)) 0 cur w hg (by simpa [ints] using hfit) (by simp [ints, Value.oneCell'])
  simp only [Nat.add_zero, List.length_map, List.length_replicate, ints] at hst
  by_cases h0 : k = 0
  · have hk1 := eq_true h0
    have hst0 : (storeCells ⟨g, n, none⟩ [] 0).run P w = .ok () (w.setRow g (cur.toList.take n ++ List.map (Value.int .i64) (List.replicate k 0) ++ cur.toList.drop (n + k)).toArray) := by
      rw [← hst]
      subst h0
      rfl
    clear h0 hst
    simp [Builtin.append_, run_underlying ht, run_underlying htn, sizeOf, typeInfo, zeroValue, hi, hz, hs, hby, asInt, asIntOf, hw, hneg, h48i, hroom, hk1, Addr.add_lit]
    rw [hst0]
    simp
  · simp [Builtin.append_, run_underlying ht, run_underlying htn, sizeOf, typeInfo, zeroValue, hi, hz, hs, hby, asInt, asIntOf, hw, hneg, h48i, hroom, h0, Addr.add_lit]
    rw [zeroCells_ints, ints, hst]
    simp

theorem run_append_zeros_own {P : Program} (w : World) (base : Nat) (t tn ty e : TypeId) (i : TypeInfo) (kn : IntKind) (ht : P.underlying t = some (.slice e)) (htn : P.underlying tn = some (.int kn)) (hi : P.info? e = some i) (hz : i.zero = some (.int .i64 0)) (hs : i.size = 1) (hby : i.bytes = 8)
    (g n cap k : Nat) (l : List Int) (hown : w.ownsRow base e 1 (.slice (some ⟨g, 0, none⟩) n cap) n (ints l)) (hk : n + k ≤ 1000000) (hbase : base ≤ w.heap.size) :
    ∃ v' w', (Builtin.append_ #[t, tn] ty #[.slice (some ⟨g, 0, none⟩) n cap, .int .i64 k]).run P w = .ok v' w' ∧ w'.ownsRow base e 1 v' (n + k) (ints (l ++ List.replicate k 0)) ∧ w.grownBy w' (some g) := by
  have hl : l.length = n := by have := hown.1; simpa using this
  have hll : (ints (l ++ List.replicate k 0)).length = (n + k) * 1 := by simp [ints, hl]
  have hown2 := hown
  rcases hown2.2 with ⟨h, _⟩ | ⟨g', cap', cur, hv, hbg, hg, hnc, hcm, hcs, htake⟩
  · cases h
  · injection hv with e1 e2 e3
    injection e1 with e1
    injection e1 with e1
    subst e1
    subst e3
    by_cases hroom : n + k ≤ cap
    · refine ⟨_, _, run_append_zeros_room w t tn ty e i kn ht htn hi hz hs hby g n cap k cur hg hroom (by omega) (by omega), ?_, ?_⟩
      · refine ⟨hll, .inr ⟨g, cap, _, rfl, hbg, setRow_heap w g cur _ e _ hg, hroom, hcm, ?_, ?_⟩⟩
        · simp [ints]
          omega
        · have ht2 : cur.toList.take n = ints l := by rw [← htake]; simp
          rw [ht2]
          simp only [ints, List.map_append]
          rw [List.take_left' (by simp [hl])]
      · exact ⟨rfl, rfl, rfl, by simp, fun j _ hj => setRow_other w g j _ (fun e => hj (by simp [e]))⟩
    · have hk0 : 0 < k := by omega
      have hfc : (Builtin.firstCells i.size n (.slice (some ⟨g, 0, none⟩) n cap)).run P w.drew = .ok (ints l).toArray w.drew := run_firstCells_some (P := P) w.drew i.size n ⟨g, 0, none⟩ n cap (ints l) (by simp [ints, hl, hs]) (hown.cells (g := g) rfl)
      have hge := grownCap_ge w (n + k) cap e
      refine ⟨_, _, Go.Lib.run_append_grow_zeros w t tn ty e i _ .i64 kn ht htn hi hz (some ⟨g, 0, none⟩) n cap (ints l) hfc k hk0 (by omega) (by omega) (by omega) (by rw [hby]; omega) (by rw [hby]; exact growslice_fits (by omega) (by omega)), ?_, ?_⟩
      · refine ⟨hll, .inr ⟨w.heap.size, _, _, rfl, hbase, heap_alloc_new w.drew _, hge, grownCap_le_maxLen w (n + k) cap e (by simp only [maxLen]; omega), ?_, ?_⟩⟩
        · simp [ints, Builtin.zeroCells, Value.cells, hl]
          omega
        · simp only [Array.toList_append, zeroCells_ints]
          simp only [ints, List.map_append]
          rw [List.take_left' (by simp [hl])]
      · exact ⟨rfl, rfl, rfl, by simp, fun j hj _ => Below.heap_alloc w.drew _ j hj⟩
end Go.Proofs.Ytnegbebfofcakaa
