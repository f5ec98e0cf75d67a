/-
  Texts put together: K12c. No statement is proved here.
-/
import Derived.Test.YtkejcajboneniabGreatDoorQMi
import Derived.Deep.RegionHeld3
set_option linter.unusedVariables false
set_option linter.unusedSimpArgs false
namespace Go.Proofs.YtkejcajboneniabGreatDoor
open Go.RowKit

theorem Sl.takeK {w : World} {B n m : Nat} {A : Option Addr} {l : List Int} (h : Sl w B A n l) (hm : m ≤ n) : Sl w B A m (l.take m) := by
  refine ⟨by rw [List.length_take, h.len]; omega, Nat.le_trans hm h.max, fun h0 => ?_⟩
  obtain ⟨b, off, e, hb, hc⟩ := h.2.2 (by omega)
  refine ⟨b, off, e, hb, fun j hj => ?_⟩
  rw [hc j (by omega)]
  simp [nth, List.getD, hj]
theorem Sl.dropK {w : World} {B n a b off : Nat} {l : List Int} (h : Sl w B (some ⟨b, off, none⟩) n l) (ha : a ≤ n) : Sl w B (some ⟨b, off + a, none⟩) (n - a) (l.drop a) := by
  refine ⟨by rw [List.length_drop, h.len], Nat.le_trans (Nat.sub_le _ _) h.max, fun h0 => ?_⟩
  obtain ⟨b', off', e, hb, hc⟩ := h.2.2 (by omega)
  injection e with e
  injection e with e1 e2
  subst e1
  subst e2
  refine ⟨b, off + a, rfl, hb, fun j hj => ?_⟩
  rw [show off + a + j = off + (a + j) by omega, hc (a + j) (by omega)]
  simp [nth, List.getD]
theorem own_blk_ne {w : World} {B b n : Nat} {v : Value} {e t : TypeId} {cs : Array Value} {fr : Nat × Nat} {xs : List Value} (h : w.heap[b]? = some (.cells cs t fr)) (ho : w.ownsRow B e 1 v n xs) (hT : t ≠ e) : some b ≠ v.ownBlock := by
  rcases ho.2 with ⟨h1, _⟩ | ⟨g, cap, cur, h1, _, h3, _⟩
  · rw [h1]; simp [Value.ownBlock]
  · rw [h1]; intro e'
    have e2 : b = g := by simpa [Value.ownBlock] using e'
    subst e2
    rw [h3] at h
    simp at h
    exact hT h.2.1.symm

set_option maxRecDepth 100000 in
set_option maxHeartbeats 3200000 in
theorem made_any (A : Option Addr) (n c : Nat) (l : List Int) (k N : Int) (w : World) (hs : Sl w w.heap.size A n l) (hcap : n ≤ c ∧ c ≤ 9223372036854775807) (hok : bitsOk l = true) :
    Calls Tryz.prog 108 #[.slice A n c, deed k N] w fun e w' => ∃ A2 m c2, e = .returned (.slice A2 m c2) ∧ w'.ownsRow w.heap.size 3 1 (.slice A2 m c2) m (ints (madeL l k N)) ∧ m ≤ 40 ∧ Below w.heap.size w w' := by
  obtain ⟨i0, hi, hz0, hz1, hz2⟩ := info_parts info_int
  obtain ⟨hbits, h1, h2⟩ := bitsOk_iff.1 hok
  have HL := hid hs.len
  have hB := (Below.refl w.heap.size w).alloc (Nat.le_refl _) (.cells #[.int .i64 k, .int .i64 N] 39)
  have hz : (w.alloc (.cells #[.int .i64 k, .int .i64 N] 39)).heap.size = w.heap.size + 1 := by simp
  rw [HL.out] at h1 h2
  have c0 : (w.alloc (.cells #[.int .i64 k, .int .i64 N] 39)).cell? ⟨w.heap.size, 0, none⟩ = some (.int .i64 k) := by simp
  have c1 : (w.alloc (.cells #[.int .i64 k, .int .i64 N] 39)).cell? ⟨w.heap.size, 1, none⟩ = some (.int .i64 N) := by simp
  have HS := hid (hs.on hB)
  have HB := hid hB
  have CZ := hid (hB.alloc (by simp) (.cells #[] 3))
  have CL := World.ownsRow_lit (base := w.heap.size) (e := 3) (size := 1) (w.alloc (.cells #[.int .i64 k, .int .i64 N] 39)) #[] 0 (by simp) (by simp [maxLen]) rfl
  rw [hz, show (#[] : Array Value).toList = ints [] from rfl] at CL
  replace CL := hid CL
  have wn : IntKind.i64.wrap ((n : Int) - 1) = (n : Int) - 1 := IntWalk.i64_in _ (by omega)
  clear hB
  by_cases hk0 : k = 0
  · subst hk0
    by_cases hN : N = 0
    · subst hN
      have HV := hid (show madeL l 0 0 = sumOut l from by unfold madeL; simp)
      have CF := hid (specSummedOf_any A n c l _ HS.out)
      go_enter Tryz.func108, Tryz.ntmps108
      go_wp2_with fail
      with_reducible refine Calls.mono CF.out ?_
      rintro e w1 ⟨A2, m, c2, rfl, o1, hm, b1⟩
      have O1 := hid (own_mono (base' := w.heap.size) o1 (by simp))
      have B1 := hid (HB.out.trans (b1.mono (by simp)))
      clear o1 b1
      go_wp2
      go_ret
      exact ⟨_, m, _, rfl, by rw [HV.out]; exact O1.out, by omega, B1.out⟩
    · have hN' : (N == 0) = false := by simpa using hN
      have HV := hid (show madeL l 0 N = [] from by unfold madeL; simp [hN])
      go_enter Tryz.func108, Tryz.ntmps108
      go_wp2
      go_ret
      exact ⟨_, 0, _, rfl, by rw [HV.out]; exact CL.out, by omega, CZ.out⟩
  by_cases hk1 : k = 1
  · subst hk1
    by_cases hN : N = 0
    · subst hN
      have HV := hid (show madeL l 1 0 = drivenOut l from by unfold madeL; simp)
      have CF := hid (specDrivenOf_any A n c l _ HS.out)
      go_enter Tryz.func108, Tryz.ntmps108
      go_wp2_with fail
      with_reducible refine Calls.mono CF.out ?_
      rintro e w1 ⟨A2, m, c2, rfl, o1, hm, b1⟩
      have O1 := hid (own_mono (base' := w.heap.size) o1 (by simp))
      have B1 := hid (HB.out.trans (b1.mono (by simp)))
      clear o1 b1
      go_wp2
      go_ret
      exact ⟨_, m, _, rfl, by rw [HV.out]; exact O1.out, by omega, B1.out⟩
    · have hN' : (N == 0) = false := by simpa using hN
      have HV := hid (show madeL l 1 N = [] from by unfold madeL; simp [hN])
      go_enter Tryz.func108, Tryz.ntmps108
      go_wp2
      go_ret
      exact ⟨_, 0, _, rfl, by rw [HV.out]; exact CL.out, by omega, CZ.out⟩
  by_cases hk2 : k = 2
  · subst hk2
    by_cases hN : N = 0
    · subst hN
      have HV := hid (show madeL l 2 0 = votedOut l from by unfold madeL; simp)
      have CF := hid (specVotedOf_any A n c l _ HS.out)
      go_enter Tryz.func108, Tryz.ntmps108
      go_wp2_with fail
      with_reducible refine Calls.mono CF.out ?_
      rintro e w1 ⟨A2, m, c2, rfl, o1, hm, b1⟩
      have O1 := hid (own_mono (base' := w.heap.size) o1 (by simp))
      have B1 := hid (HB.out.trans (b1.mono (by simp)))
      clear o1 b1
      go_wp2
      go_ret
      exact ⟨_, m, _, rfl, by rw [HV.out]; exact O1.out, by omega, B1.out⟩
    · have hN' : (N == 0) = false := by simpa using hN
      have HV := hid (show madeL l 2 N = [] from by unfold madeL; simp [hN])
      go_enter Tryz.func108, Tryz.ntmps108
      go_wp2
      go_ret
      exact ⟨_, 0, _, rfl, by rw [HV.out]; exact CL.out, by omega, CZ.out⟩
  by_cases hk5 : k = 5
  · subst hk5
    by_cases hN : N = 0
    · subst hN
      have HV := hid (show madeL l 5 0 = freeOut l from by unfold madeL; simp)
      have CF := hid (specFreeAs_any A n c l _ HS.out)
      go_enter Tryz.func108, Tryz.ntmps108
      go_wp2_with fail
      with_reducible refine Calls.mono CF.out ?_
      rintro e w1 ⟨A2, m, c2, rfl, o1, hm, b1⟩
      have O1 := hid (own_mono (base' := w.heap.size) o1 (by simp))
      have B1 := hid (HB.out.trans (b1.mono (by simp)))
      clear o1 b1
      go_wp2
      go_ret
      exact ⟨_, m, _, rfl, by rw [HV.out]; exact O1.out, by omega, B1.out⟩
    · have hN' : (N == 0) = false := by simpa using hN
      have HV := hid (show madeL l 5 N = [] from by unfold madeL; simp [hN])
      go_enter Tryz.func108, Tryz.ntmps108
      go_wp2
      go_ret
      exact ⟨_, 0, _, rfl, by rw [HV.out]; exact CL.out, by omega, CZ.out⟩
  by_cases hk3 : k = 3
  · subst hk3
    cases hw : within N 0 ((n : Int) - 1) with
    | false =>
      have HV := hid (show madeL l 3 N = [] from by unfold madeL; rw [HL.out, hw]; simp)
      go_enter Tryz.func108, Tryz.ntmps108
      go_wp2_with (first
        | (go_at_call 97; refine (l1In_any _ _ _ _).mono ?_; rintro e w' ⟨rfl, rfl⟩))
      go_ret
      exact ⟨_, 0, _, rfl, by rw [HV.out]; exact CL.out, by omega, CZ.out⟩
    | true =>
      have hb := within_iff.1 hw
      obtain ⟨q, rfl⟩ : ∃ q : Nat, N = q := Int.eq_ofNat_of_zero_le hb.1
      have HV := hid (show madeL l 3 (q : Int) = flipL l q from by unfold madeL; rw [HL.out, hw]; simp)
      have hqn : q < n := by omega
      have hqi : (q : Int) < (n : Int) := by omega
      have hq0 : (0 : Int) ≤ (q : Int) := by omega
      obtain ⟨bn, offn, rfl, hbn, _⟩ := HS.out.2.2 (by omega)
      have hb1 := CZ.out
      have hg1 := grown_alloc (w.alloc (.cells #[.int .i64 3, .int .i64 (q : Int)] 39)) (.cells #[] 3) none
      have ho0 := CL.out
      have hs1 := HS.out.on (below_grown hg1)
      obtain ⟨w0, e0⟩ : ∃ W, w.alloc (.cells #[.int .i64 3, .int .i64 (q : Int)] 39) = W := ⟨_, rfl⟩
      rw [e0] at hb1 hg1 ho0 hs1 c0 c1 HB hz
      have hbit := bit_nth hbits q
      obtain ⟨x, hx⟩ : ∃ x, nth l q = x := ⟨_, rfl⟩
      rw [hx] at hbit
      have HX := hid hx
      have w1 : IntKind.i64.wrap (1 - x) = 1 - x := IntWalk.i64_in _ (by omega)
      clear hbits CL CZ
      go_enter Tryz.func108, Tryz.ntmps108
      rw [e0] at HS
      go_wp2_with (first
        | (go_at_call 97; refine (l1In_any _ _ _ _).mono ?_; rintro e w' ⟨rfl, rfl⟩)
        | (at_builtin; refine wpList_append_own _ rfl _ _ 28 rfl w.heap.size 3 i0 (.int .i64 0) 1 8 Tryz.underlying28 hi hz0 hz1 hz2 rfl (by decide) (.slice (some ⟨w.heap.size + 1, 0, none⟩) 0 0) _ _ rfl ho0 ⟨bn, offn, none⟩ n c (ints l) rfl (by rw [List.length_map, HL.out, Nat.mul_one]) hs1.cellsAt (ints_one l) (by simp only [maxLen]; omega) (by omega) hb1.size ?_; intro v2 w2 o2 g2 _; rw [Nat.zero_add, show ints [] ++ ints l = ints l from rfl] at o2; obtain ⟨g, c3, rfl, hbg, hlt2⟩ := own_shape1 o2 (by omega); have x1 := g2.cell (hg1.cell c1 (by simp)) (by simp [Value.ownBlock]); have xq := own_cell o2 HL.out hqn; rw [HX.out] at xq; have fq := o2.frozenAt q))
      go_region
      obtain ⟨p1, p2⟩ := (own_kept_none o2 (drewN_gA w2 1)).stored q (.int .i64 (1 - x))
      rw [ints_set] at p1
      have HE := hid (show l.set q (1 - x) = flipL l q from by unfold flipL; rw [HX.out])
      rw [HE.out] at p1
      have P1 := hid p1
      have PB := hid ((((hb1.grown g2 hb1.size (by intro j hj; simp [Value.ownBlock] at hj; omega)).grown (drewN_gA w2 1) (by have := g2.size; simp at this; omega) (by simp)).grown p2 (by have := g2.size; simp at this; show w.heap.size ≤ w2.heap.size; omega) (by intro j hj; cases hj; exact hbg)))
      clear p1 p2 o2 g2 ho0 hb1 hg1 hs1
      go_wp2
      go_ret
      exact ⟨_, n, _, rfl, by rw [HV.out]; exact P1.out, by omega, PB.out⟩
  by_cases hk4 : k = 4
  · subst hk4
    cases hw : within N 0 ((n : Int) - 1) with
    | false =>
      have HV := hid (show madeL l 4 N = [] from by unfold madeL; rw [HL.out, hw]; simp)
      go_enter Tryz.func108, Tryz.ntmps108
      go_wp2_with (first
        | (go_at_call 97; refine (l1In_any _ _ _ _).mono ?_; rintro e w' ⟨rfl, rfl⟩))
      go_ret
      exact ⟨_, 0, _, rfl, by rw [HV.out]; exact CL.out, by omega, CZ.out⟩
    | true =>
      have hb := within_iff.1 hw
      obtain ⟨q, rfl⟩ : ∃ q : Nat, N = q := Int.eq_ofNat_of_zero_le hb.1
      have HV := hid (show madeL l 4 (q : Int) = l.drop q ++ l.take q from by unfold madeL; rw [HL.out, hw]; simp [roundL])
      have hqn : q < n := by omega
      have e1 : (q : Int) ≤ (n : Int) := by omega
      have e2 : (q : Int) ≤ (c : Int) := by omega
      have e3 : (n : Int) ≤ (c : Int) := by omega
      have e4 : q ≤ c := by omega
      have e5 : q ≤ n := by omega
      have e6 : (0 : Int) ≤ (q : Int) := by omega
      obtain ⟨bn, offn, rfl, hbn, _⟩ := HS.out.2.2 (by omega)
      obtain ⟨w0, e0⟩ : ∃ W, w.alloc (.cells #[.int .i64 4, .int .i64 (q : Int)] 39) = W := ⟨_, rfl⟩
      rw [e0] at c0 c1 HB hz HS
      clear hbits CL CZ
      go_enter Tryz.func108, Tryz.ntmps108
      go_wp2_with (first
        | (go_at_call 97; refine (l1In_any _ _ _ _).mono ?_; rintro e w' ⟨rfl, rfl⟩))
      have bd := hid (HB.out.trans (((Below.refl w0.heap.size w0).drew).mono HB.out.size))
      have hdd : w0.grownBy w0.drew none := drewN_gA w0 1
      obtain ⟨wd, hwd⟩ : ∃ W, w0.drew = W := ⟨_, rfl⟩
      rw [hwd] at bd hdd
      have hzd := bd.out.size
      have hzw : wd.heap.size = w.heap.size + 1 := by rw [← hwd]; exact hz
      have x0 : wd.cell? ⟨w.heap.size, 1, none⟩ = some (.int .i64 q) := by rw [← hwd]; exact c1
      have ga := grown_alloc wd (.cells #[] 3) none
      have x1 : (wd.alloc (.cells #[] 3)).cell? ⟨w.heap.size, 1, none⟩ = some (.int .i64 q) := ga.cell x0 (by simp)
      have ho0 : (wd.alloc (.cells #[] 3)).ownsRow w.heap.size 3 1 (.slice (some ⟨wd.heap.size, 0, none⟩) 0 0) 0 (ints []) := World.ownsRow_lit wd #[] 0 hzd (by simp [maxLen]) rfl
      have hb0 : Below w.heap.size w (wd.alloc (.cells #[] 3)) := bd.out.alloc hzd _
      have hs1 := (hs.on hb0).dropK e5
      rw [hzw] at ho0
      have hbx : (wd.alloc (.cells #[] 3)).heap[w.heap.size]? = some (.cells #[.int .i64 4, .int .i64 (q : Int)] 39 (0, 0)) := (ga.block w.heap.size (by omega) (by simp)).trans (by rw [← hwd, ← e0]; exact heap_alloc_new w _)
      refine wp_region_held_drew (S := (fun w' => w'.cell? ⟨w.heap.size, 1, none⟩ = some (.int .i64 q))) (by kernel_rfl) (by go_keep) (fun hHeld => ?_)
      rw [hwd] at hHeld ⊢
      refine wpAnyH_take (i := 1) (v := ?v1r) rfl (by kernel_rfl) (by kernel_rfl) (by kernel_rfl) (fun _ _ _ h => h) (Or.inl ⟨by rfl, ?y1r⟩) (by assumption) ?r1r
      case y1r => (intro w hSw; (try dsimp only at hSw); go_simp; try with_reducible rfl)
      try simp only [List.getElem_toArray, List.getElem_cons_zero, List.getElem_cons_succ, Act.put, List.setIfInBounds_toArray, List.set_cons_zero, List.set_cons_succ]
      refine wpAnyH_take (i := 2) (v := ?v2r) rfl (by kernel_rfl) (by kernel_rfl) (by kernel_rfl) (fun _ _ _ h => h) (Or.inl ⟨by rfl, ?y2r⟩) (by assumption) ?r2r
      case y2r => (intro w hSw; (try dsimp only at hSw); go_simp; try with_reducible rfl)
      try simp only [List.getElem_toArray, List.getElem_cons_zero, List.getElem_cons_succ, Act.put, List.setIfInBounds_toArray, List.set_cons_zero, List.set_cons_succ]
      refine wpAnyH_take (i := 3) (v := ?v3r) rfl (by kernel_rfl) (by kernel_rfl) (by kernel_rfl) (fun _ _ _ h => h) (Or.inl ⟨by rfl, ?y3r⟩) (by assumption) ?r3r
      case y3r => (intro w hSw; (try dsimp only at hSw); go_simp; try with_reducible rfl)
      try simp only [List.getElem_toArray, List.getElem_cons_zero, List.getElem_cons_succ, Act.put, List.setIfInBounds_toArray, List.set_cons_zero, List.set_cons_succ]
      refine wpAnyH_take (i := 4) (v := ?v4r) rfl (by kernel_rfl) (by kernel_rfl) (by kernel_rfl) (fun _ _ _ h => h) (Or.inl ⟨by rfl, ?y4r⟩) (by assumption) ?r4r
      case y4r => (intro w hSw; (try dsimp only at hSw); go_simp; try with_reducible rfl)
      try simp only [List.getElem_toArray, List.getElem_cons_zero, List.getElem_cons_succ, Act.put, List.setIfInBounds_toArray, List.set_cons_zero, List.set_cons_succ]
      refine wpAnyH_take (i := 6) (v := ?v6r) rfl (by kernel_rfl) (by kernel_rfl) (by kernel_rfl) (fun _ _ _ h => h) (Or.inl ⟨by rfl, ?y6r⟩) (by assumption) ?r6r
      case y6r => (intro w hSw; (try dsimp only at hSw); go_simp; try with_reducible rfl)
      try simp only [List.getElem_toArray, List.getElem_cons_zero, List.getElem_cons_succ, Act.put, List.setIfInBounds_toArray, List.set_cons_zero, List.set_cons_succ]
      refine wpAnyH_take (i := 7) (v := ?v7r) rfl (by kernel_rfl) (by kernel_rfl) (by kernel_rfl) (fun _ _ _ h => h) (Or.inl ⟨by rfl, ?y7r⟩) (by assumption) ?r7r
      case y7r => (intro w hSw; (try dsimp only at hSw); go_simp; try with_reducible rfl)
      try simp only [List.getElem_toArray, List.getElem_cons_zero, List.getElem_cons_succ, Act.put, List.setIfInBounds_toArray, List.set_cons_zero, List.set_cons_succ]
      refine wpAnyH_take (i := 8) (v := ?v8r) rfl (by kernel_rfl) (by kernel_rfl) (by kernel_rfl) (fun _ _ _ h => h) (Or.inl ⟨by rfl, ?y8r⟩) (by assumption) ?r8r
      case y8r => (intro w hSw; (try dsimp only at hSw); go_simp; try with_reducible rfl)
      try simp only [List.getElem_toArray, List.getElem_cons_zero, List.getElem_cons_succ, Act.put, List.setIfInBounds_toArray, List.set_cons_zero, List.set_cons_succ]
      refine wpAnyH_take (i := 9) (v := ?v9r) rfl (by kernel_rfl) (by kernel_rfl) (by kernel_rfl) (fun _ _ _ h => h) (Or.inl ⟨by rfl, ?y9r⟩) (by assumption) ?r9r
      case y9r => (intro w hSw; (try dsimp only at hSw); go_simp; try with_reducible rfl)
      try simp only [List.getElem_toArray, List.getElem_cons_zero, List.getElem_cons_succ, Act.put, List.setIfInBounds_toArray, List.set_cons_zero, List.set_cons_succ]
      refine wpAnyH_ready (rs := [0]) (by kernel_rfl) (by simp) ?_
      refine AllReadyH.cons rfl (fun Kr hKr => ?_) AllReadyH.nil
      go_simp
      try go_wp2_with fail
      refine hKr.out _ _ x1 (fun hHeld => ?_)
      clear hKr Kr
      try simp only [List.getElem_toArray, List.getElem_cons_zero, List.getElem_cons_succ, Act.put, List.setIfInBounds_toArray, List.set_cons_zero, List.set_cons_succ]
      refine wpAnyH_ready (rs := [5]) (by kernel_rfl) (by simp) ?_
      refine AllReadyH.cons rfl (fun Kr hKr => ?_) AllReadyH.nil
      rw [if_pos (by simp [Region.wanted])]
      refine wp_append_own _ _ _ 28 rfl w.heap.size 3 i0 (.int .i64 0) 1 8 Tryz.underlying28 hi hz0 hz1 hz2 rfl (by decide) (.slice (some ⟨w.heap.size + 1, 0, none⟩) 0 0) _ _ rfl ho0 ⟨bn, offn + q, none⟩ (n - q) (c - q) (ints (l.drop q)) rfl (by rw [List.length_map, List.length_drop, HL.out, Nat.mul_one]) hs1.cellsAt (ints_one _) (by simp only [maxLen]; omega) (by omega) hb0.size ?_
      intro v2 w2 o2 g2 _
      rw [Nat.zero_add, show ints [] ++ ints (l.drop q) = ints (l.drop q) from rfl] at o2
      obtain ⟨gA, c2, rfl, hbA, hltA⟩ := own_shape1 o2 (by omega)
      have x2 : w2.cell? ⟨w.heap.size, 1, none⟩ = some (.int .i64 q) := g2.cell x1 (by simp [Value.ownBlock])
      have hgz := g2.size
      have hgA : w.heap.size ≠ gA := by
        have := own_blk_ne ((g2.block w.heap.size (by simp; omega) (by simp [Value.ownBlock])).trans hbx) o2 (by decide)
        simpa [Value.ownBlock] using this
      have hb2 := hb0.grown g2 hb0.size (by intro j hj; simp [Value.ownBlock] at hj; omega)
      have hs2 := (hs.on hb2).takeK e5
      clear g2 hb0 ho0 hs1
      refine hKr.out _ _ x2 (fun hHeld => ?_)
      clear hKr Kr
      try simp only [List.getElem_toArray, List.getElem_cons_zero, List.getElem_cons_succ, Act.put, List.setIfInBounds_toArray, List.set_cons_zero, List.set_cons_succ]
      refine wpAnyH_ready (rs := [10]) (by kernel_rfl) (by simp) ?_
      refine AllReadyH.cons rfl (fun Kr hKr => ?_) AllReadyH.nil
      rw [if_pos (by simp [Region.wanted])]
      refine wp_append_own _ _ _ 28 rfl w.heap.size 3 i0 (.int .i64 0) 1 8 Tryz.underlying28 hi hz0 hz1 hz2 rfl (by decide) (.slice (some ⟨gA, 0, none⟩) (n - q) c2) _ _ rfl o2 ⟨bn, offn, none⟩ q c (ints (l.take q)) rfl (by rw [List.length_map, List.length_take, HL.out, Nat.min_eq_left e5, Nat.mul_one]) hs2.cellsAt (ints_one _) (by simp only [maxLen]; omega) (by omega) hb2.size ?_
      intro v4 w4 o4 g4 _
      obtain ⟨gB, c4, rfl, hbB, hltB⟩ := own_shape1 o4 (by omega)
      have x4 : w4.cell? ⟨w.heap.size, 1, none⟩ = some (.int .i64 q) := g4.cell x2 (by simp [Value.ownBlock]; omega)
      have hb4 := hid (hb2.grown g4 hb2.size (by intro j hj; cases hj; exact hbA))
      rw [show ints (l.drop q) ++ ints (l.take q) = ints (madeL l 4 q) from by rw [HV.out]; simp [ints], show n - q + q = n by omega] at o4
      have O4 := hid o4
      clear g4 o4 o2 hb2 hs2
      refine hKr.out _ _ x4 (fun hHeld => ?_)
      clear hKr Kr
      try simp only [List.getElem_toArray, List.getElem_cons_zero, List.getElem_cons_succ, Act.put, List.setIfInBounds_toArray, List.set_cons_zero, List.set_cons_succ]
      refine wpAnyH_take (i := 11) (v := ?v11r) rfl (by kernel_rfl) (by kernel_rfl) (by kernel_rfl) (fun _ _ _ h => h) (Or.inl ⟨by rfl, ?y11r⟩) (by assumption) ?r11r
      case y11r => (intro w hSw; (try dsimp only at hSw); go_simp; try with_reducible rfl)
      try simp only [List.getElem_toArray, List.getElem_cons_zero, List.getElem_cons_succ, Act.put, List.setIfInBounds_toArray, List.set_cons_zero, List.set_cons_succ]
      refine wpAnyH_done (by kernel_rfl) ?_ _
      go_wp2
      go_ret
      exact ⟨_, n, _, rfl, O4.out, by omega, hb4.out⟩
  have q0 : (k == 0) = false := by simpa using hk0
  have q1 : (k == 1) = false := by simpa using hk1
  have q2 : (k == 2) = false := by simpa using hk2
  have q3 : (k == 3) = false := by simpa using hk3
  have q4 : (k == 4) = false := by simpa using hk4
  have q5 : (k == 5) = false := by simpa using hk5
  have HV := hid (show madeL l k N = [] from by unfold madeL; simp [hk0, hk1, hk2, hk3, hk4, hk5])
  go_enter Tryz.func108, Tryz.ntmps108
  go_wp2
  go_ret
  exact ⟨_, 0, _, rfl, by rw [HV.out]; exact CL.out, by omega, CZ.out⟩
end Go.Proofs.YtkejcajboneniabGreatDoor
