/-
  The walks of the exact laws' helpers for slices of deeds. No statement is proved here.
-/
import Derived.Test.YtkejcajboneniabDoorT12g
import Derived.Test.YtkejcajboneniabDoorT12x
import Derived.Test.YtkejcajboneniabDoorExM
namespace Go.Proofs.YtkejcajboneniabDoor
open Go.RowKit
set_option linter.unusedVariables false
set_option linter.unusedSimpArgs false

theorem madeDeeds (n : Nat) : (madeCells (deedV (0, 0)).cells (n * 2)).toList = ints (List.replicate (n * 2) 0) := by
  simp only [madeCells, deedV, Value.cells, ints, List.map_replicate]
  apply List.ext_getElem?
  intro j
  by_cases h : j < n * 2
  · rcases Nat.mod_two_eq_zero_or_one j with h2 | h2 <;> simp [h, h2]
  · simp [show n * 2 ≤ j from by omega]
theorem own_cell2 {w : World} {base g n c j : Nat} {e : TypeId} {l : List Int} (h : w.ownsRow base e 2 (.slice (some ⟨g, 0, none⟩) n c) n (ints l)) (hl : l.length = n * 2) (hj : j < n * 2) :
    w.cell? ⟨g, j, none⟩ = some (.int .i64 (nth l j)) := by
  rw [h.cellAt j (by omega)]
  simp [nth, List.getD, show j < l.length from by omega]
theorem filled_len (l : List Int) {k n : Nat} (h : l.length = n) (hk : k ≤ n) : (filled l k n).length = n := by simp [filled]; omega
theorem flat_len2 (l : List (Int × Int)) : (flat l).length = l.length * 2 := by rw [flat_len]; omega

theorem SlD.of_pairs {w : World} {x : Addr} {n cap : Nat} {q : Nat → Int × Int} (hl : n ≤ cap) (hm : cap ≤ maxLen)
    (hq : ∀ i, i < n → w.cell? (x.add (i * 2)) = some (.int .i64 (q i).1) ∧ w.cell? (x.add (i * 2 + 1)) = some (.int .i64 (q i).2)) : SlD w w.heap.size (some x) n ((List.range n).map q) := by
  refine ⟨by simp, Nat.le_trans hl hm, fun hn => ?_⟩
  obtain ⟨b, off, spot⟩ := x
  have hc0 := (hq 0 hn).1
  have hspot : spot = none := by simpa [Addr.add] using World.cell?_spot hc0
  subst hspot
  have e : ∀ j, (⟨b, off, none⟩ : Addr).add j = ⟨b, off + j, none⟩ := fun j => by
    unfold Addr.add
    by_cases h0 : j = 0 <;> simp [h0]
  refine ⟨b, off, rfl, ?_, fun j hj => ?_⟩
  · rw [e] at hc0
    rcases Nat.lt_or_ge b w.heap.size with hlt | hge
    · exact hlt
    · simp [World.cell?, Array.getElem?_eq_none hge] at hc0
  · have hi : j / 2 < n := by omega
    have hg : ((List.range n).map q).getD (j / 2) (0, 0) = q (j / 2) := by simp [List.getD, hi]
    obtain ⟨h0, h1⟩ := hq (j / 2) hi
    rw [e] at h0 h1
    rcases Nat.mod_two_eq_zero_or_one j with h2 | h2
    · have hj2 : j = j / 2 * 2 := by omega
      rw [hj2, nth_flat0, hg]
      exact h0
    · have hj2 : j = j / 2 * 2 + 1 := by omega
      rw [hj2, nth_flat1, hg]
      exact h1

set_option maxRecDepth 100000 in
set_option maxHeartbeats 1600000 in
theorem szDeedS_any (A : Option Addr) (n c : Nat) (x : Int) (w : World) (hn : n ≤ 9223372036854775807) (h0 : 0 ≤ x) (h1 : x ≤ 9223372036854775807) :
    Calls Tryd.prog 12 #[.slice A n c, .int .i64 x] w fun e w' => e = .returned (.int .i64 (if x - n < 0 then -1 else x - n)) ∧ w = w' := by
  have w1 : IntKind.i64.wrap (x - n) = x - n := IntWalk.i64_in _ (by omega)
  by_cases h : x - n < 0
  · rw [if_pos h]
    go_enter Tryd.func12, Tryd.ntmps12
    go_wp2
    go_ret
    exact ⟨rfl, rfl⟩
  · rw [if_neg h]
    go_enter Tryd.func12, Tryd.ntmps12
    go_wp2
    go_ret
    exact ⟨rfl, rfl⟩

set_option maxRecDepth 100000 in
set_option maxHeartbeats 1600000 in
theorem toDeedS_any (A : Option Addr) (n c : Nat) (l : List (Int × Int)) (w : World) (hs : SlD w w.heap.size A n l) (hn : n ≤ 2000000) :
    Calls Tryd.prog 13 #[.slice A n c] w fun e w' => ∃ g, e = .returned (.slice (some ⟨g, 0, none⟩) n n) ∧ w'.ownsRow w.heap.size 42 2 (.slice (some ⟨g, 0, none⟩) n n) n (ints (flat l)) ∧ Below w.heap.size w w' := by
  obtain ⟨i0, hi, hz0, hz1, hz2⟩ := info_parts info_deed
  have HL := hid hs.len
  have HF := hid (show (flat l).length = n * 2 from by rw [flat_len2, hs.len])
  go_enter Tryd.func13, Tryd.ntmps13
  go_wp2_with (refine wpList_make_full _ rfl (.tmp 6) (.tmp 6) 23 rfl w.heap.size 42 i0 _ 2 Tryd.underlying23 hi hz0 hz1 .i64 .i64 n n n rfl rfl rfl rfl (by rw [hz2]; omega) (by simp only [maxLen]; omega) (Nat.le_refl _) ?_; intro w1 hown1 hg1)
  rw [madeDeeds, ← filled_zero (flat l) (n * 2)] at hown1
  have hbw : Below w.heap.size w w1 := (Below.refl _ _).grown hg1 (Nat.le_refl _) (by simp)
  have hlw : w.heap.size < w1.heap.size := (hown1.lt _ rfl).2
  clear hg1 hi hz0 hz1 hz2
  go_loopw [4] (fun i wr => ∃ k : Nat, k ≤ n ∧ i = .int .i64 k ∧ w.heap.size < wr.heap.size ∧ wr.ownsRow w.heap.size 42 2 (.slice (some ⟨w.heap.size, 0, none⟩) n n) n (ints (filled (flat l) (k * 2) (n * 2))) ∧ Below w.heap.size w wr) (fun i _ => n - (intOf i).toNat)
  case atStart => exact ⟨0, Nat.zero_le _, rfl, hlw, hown1, hbw⟩
  case round =>
    obtain ⟨k, hk, rfl, hlr, hown, hb⟩ := hrel
    clear hown1 hbw hlw
    by_cases hlt : k < n
    · obtain ⟨b, off, rfl, hbl, hc⟩ := (hs.below hb).2.2 (by omega)
      have hc0 := hc (k * 2) (by omega)
      have hc1 := hc (k * 2 + 1) (by omega)
      have s1 := filled_step HF.out (show k * 2 < n * 2 by omega)
      have s2 := filled_step HF.out (show k * 2 + 1 < n * 2 by omega)
      rw [show k * 2 + 1 + 1 = (k + 1) * 2 by omega] at s2
      rw [nth_flat0] at hc0 s1
      rw [nth_flat1] at s2
      rw [nth_flat1, ← Nat.add_assoc] at hc1
      obtain ⟨a, ha⟩ : ∃ a, l.getD k (0, 0) = a := ⟨_, rfl⟩
      rw [ha] at hc0 hc1 s1 s2
      have CT := hid (toDeed_any a.1 a.2 wr)
      have S1 := hid s1
      have S2 := hid s2
      have HO := hid hown
      have HB := hid hb
      clear hc s1 s2 hown ha hb
      go_wp2_with (go_at_call 28; with_reducible refine Calls.mono CT.out ?_; rintro e w5 ⟨rfl, b5⟩; have o5 := own_on2 HO.out b5; have f50 := o5.frozenAt (k * 2); have f51 := o5.frozenAt (k * 2 + 1); have v50 := own_cell2 o5 (filled_len _ HF.out (by omega)) (show k * 2 < n * 2 by omega); have v51 := own_cell2 o5 (filled_len _ HF.out (by omega)) (show k * 2 + 1 < n * 2 by omega))
      have hst := (o5.stored (k * 2) (.int .i64 a.1)).1
      rw [ints_set, S1.out] at hst
      have hst2 := (hst.stored (k * 2 + 1) (.int .i64 a.2)).1
      rw [ints_set, S2.out] at hst2
      have HS := hid hst2
      have B5 := hid (((HB.out.trans (b5.mono HB.out.size)).setCell (p := ⟨w.heap.size, k * 2, none⟩) (Nat.le_refl _) (.int .i64 a.1)).setCell (p := ⟨w.heap.size, k * 2 + 1, none⟩) (Nat.le_refl _) (.int .i64 a.2))
      have hz5 := b5.size
      clear hst hst2 o5 f50 f51 v50 v51
      go_roundw
      case rel => exact ⟨k + 1, by omega, by go_num, by simp; omega, HS.out, B5.out⟩
      case measure => simp [intOf]; omega
    · obtain rfl : k = n := by omega
      rw [filled_all HF.out] at hown
      have HO := hid hown
      clear hown
      go_wp2
      go_ret
      exact ⟨_, rfl, HO.out, hb⟩

set_option maxRecDepth 100000 in
set_option maxHeartbeats 1600000 in
/-- laws.eqDeedS of two slices that read alike. -/
theorem eqDeedS_any (A A2 : Option Addr) (n c n2 c2 : Nat) (l : List (Int × Int)) (w : World) (hs : SlD w w.heap.size A n l) (hs2 : SlD w w.heap.size A2 n2 l) :
    Calls Tryd.prog 14 #[.slice A n c, .slice A2 n2 c2] w fun e w' => e = .returned (.bool true) ∧ Below w.heap.size w w' := by
  obtain rfl : n2 = n := by rw [← hs2.len, hs.len]
  have hm := hs.max
  have hnn : ((n2 : Int) != (n2 : Int)) = false := by simp
  go_enter Tryd.func14, Tryd.ntmps14
  go_wp2
  go_loopw [5] (fun i wr => ∃ k : Nat, k ≤ n2 ∧ i = .int .i64 k ∧ Hid (Below w.heap.size w wr)) (fun i _ => n2 - (intOf i).toNat)
  case atStart => exact ⟨0, Nat.zero_le _, rfl, hid (Below.refl _ _)⟩
  case round =>
    obtain ⟨k, hk, rfl, HB⟩ := hrel
    by_cases hlt : k < n2
    · obtain ⟨b, off, rfl, hbl, hc⟩ := (hs.below HB.out).2.2 (by omega)
      obtain ⟨b2, off2, rfl, hbl2, hc2⟩ := (hs2.below HB.out).2.2 (by omega)
      have x0 := hc (k * 2) (by omega)
      have x1 := hc (k * 2 + 1) (by omega)
      have y0 := hc2 (k * 2) (by omega)
      have y1 := hc2 (k * 2 + 1) (by omega)
      rw [nth_flat0] at x0 y0
      rw [nth_flat1, ← Nat.add_assoc] at x1 y1
      obtain ⟨a, ha⟩ : ∃ a, l.getD k (0, 0) = a := ⟨_, rfl⟩
      rw [ha] at x0 x1 y0 y1
      have CE := hid (fun W => eqDeed_any a a W)
      rw [show decide (a = a) = true from decide_eq_true rfl] at CE
      have hki : (k : Int) < (n2 : Int) := by omega
      have hk0 : (0 : Int) ≤ (k : Int) := by omega
      clear hc hc2 ha
      go_wp2_with fail
      go_region_with (go_at_call 29; with_reducible refine Calls.mono (CE.out _) ?_; rintro e w5 ⟨rfl, b5⟩)
      all_goals
        go_wp2
        have HB5 := hid (HB.out.drew.trans (b5.mono (show w.heap.size ≤ wr.heap.size from HB.out.size)))
        go_roundw
        case rel => exact ⟨k + 1, by omega, by go_num, HB5⟩
        case measure => simp [intOf]; omega
    · go_wp2
      go_ret
      exact ⟨rfl, HB.out⟩

set_option maxRecDepth 100000 in
set_option maxHeartbeats 1600000 in
/-- laws.markDeedS: writes k, k+1 .. into a row of deeds that the call owns. -/
theorem markDeedS_any (A : Option Addr) (n c base : Nat) (l : List (Int × Int)) (k0 : Int) (w : World) (ho : w.ownsRow base 42 2 (.slice A n c) n (ints (flat l))) (hk0 : 0 ≤ k0) (hk1 : k0 + n * 2 ≤ 9223372036854775807) (hb : base ≤ w.heap.size) :
    Calls Tryd.prog 16 #[.slice A n c, .int .i64 k0] w fun e w' => e = .returned (.int .i64 (k0 + n * 2)) ∧ w'.ownsRow base 42 2 (.slice A n c) n (ints (marks k0 (n * 2))) ∧ w.grownBy w' (Value.slice A n c).ownBlock := by
  have HL := hid (show (flat l).length = n * 2 from by have := ho.1; simpa using this)
  go_enter Tryd.func16, Tryd.ntmps16
  go_wp2
  go_loopw [1, 5] (fun x i wr => ∃ k : Nat, k ≤ n ∧ i = .int .i64 k ∧ x = .int .i64 (k0 + k * 2) ∧ wr.ownsRow base 42 2 (.slice A n c) n (ints (marked (flat l) k0 (k * 2))) ∧ w.grownBy wr (Value.slice A n c).ownBlock) (fun _ i _ => n - (intOf i).toNat)
  case atStart => exact ⟨0, Nat.zero_le _, rfl, by simp, by rw [marked_zero]; exact ho, World.grownBy.refl _ _⟩
  case round =>
    obtain ⟨k, hk, rfl, rfl, hown, hg⟩ := hrel
    by_cases hlt : k < n
    · have hown2 := hown
      rcases hown2.2 with ⟨h1, h2⟩ | ⟨g, cap, cur, hv, hbg, hgg, hnc, hcm, hsz, ht⟩
      · omega
      · injection hv with h1 h2 h3
        subst h1
        subst h3
        clear hown2 hgg ht hsz h2
        have hcell := own_cell2 hown (marked_len HL.out (by omega)) (show k * 2 < n * 2 by omega)
        have hcell2 := own_cell2 hown (marked_len HL.out (by omega)) (show k * 2 + 1 < n * 2 by omega)
        have hfz := hown.frozenAt (k * 2)
        have hfz2 := hown.frozenAt (k * 2 + 1)
        obtain ⟨hst1, hst2⟩ := hown.stored (k * 2) (.int .i64 (k0 + k * 2))
        have ms := marked_step (k := k0) HL.out (show k * 2 < n * 2 by omega)
        rw [show k0 + ((k * 2 : Nat) : Int) = k0 + k * 2 by push_cast; rfl] at ms
        rw [ints_set, ms] at hst1
        obtain ⟨hst3, hst4⟩ := hst1.stored (k * 2 + 1) (.int .i64 (k0 + k * 2 + 1))
        have ms2 := marked_step (k := k0) HL.out (show k * 2 + 1 < n * 2 by omega)
        rw [show k0 + ((k * 2 + 1 : Nat) : Int) = k0 + k * 2 + 1 by push_cast; omega, show k * 2 + 1 + 1 = (k + 1) * 2 by omega] at ms2
        rw [ints_set, ms2] at hst3
        have HS := hid hst3
        have HG := hid ((hg.trans hst2).trans hst4)
        have w1 : IntKind.i64.wrap (k0 + (k : Int) * 2 + 1) = k0 + k * 2 + 1 := IntWalk.i64_in _ (by omega)
        have w2 : IntKind.i64.wrap (k0 + (k : Int) * 2 + 1 + 1) = k0 + k * 2 + 1 + 1 := IntWalk.i64_in _ (by omega)
        clear hst1 hst2 hst3 hst4 hown ho ms ms2
        go_wp2
        go_roundw
        case rel => exact ⟨k + 1, by omega, by go_num, by congr 1; push_cast; omega, HS.out, HG.out⟩
        case measure => simp [intOf]; omega
    · obtain rfl : k = n := by omega
      rw [marked_all HL.out] at hown
      have HO := hid hown; clear hown ho
      have HG := hid hg; clear hg
      go_wp2
      go_ret
      exact ⟨rfl, HO.out, HG.out⟩

set_option maxRecDepth 100000 in
set_option maxHeartbeats 1600000 in
/-- laws.heldDeedS: whether the marks are still there. -/
theorem heldDeedS_any (A : Option Addr) (n c base : Nat) (k0 : Int) (w : World) (ho : w.ownsRow base 42 2 (.slice A n c) n (ints (marks k0 (n * 2)))) (hk0 : 0 ≤ k0) (hk1 : k0 + n * 2 ≤ 9223372036854775807) :
    Calls Tryd.prog 17 #[.slice A n c, .int .i64 k0] w fun e w' => e = .returned (.int .i64 (k0 + n * 2)) ∧ w = w' := by
  go_enter Tryd.func17, Tryd.ntmps17
  go_wp2
  go_loop [1, 5] (fun x i => ∃ k : Nat, k ≤ n ∧ i = .int .i64 k ∧ x = .int .i64 (k0 + k * 2)) (fun _ i => n - (intOf i).toNat)
  case atStart => exact ⟨0, Nat.zero_le _, rfl, by simp⟩
  case round =>
    obtain ⟨k, hk, rfl, rfl⟩ := hrel
    by_cases hlt : k < n
    · obtain ⟨g, cap, hv, _, _⟩ := own_shape1 ho (by omega)
      injection hv with h1 h2 h3
      subst h1
      clear h2 h3
      have hck := own_cell2 ho (marks_len _ _) (show k * 2 < n * 2 by omega)
      have hck2 := own_cell2 ho (marks_len _ _) (show k * 2 + 1 < n * 2 by omega)
      rw [nth_marks _ (show k * 2 < n * 2 by omega), show k0 + ((k * 2 : Nat) : Int) = k0 + k * 2 by push_cast; rfl] at hck
      rw [nth_marks _ (show k * 2 + 1 < n * 2 by omega), show k0 + ((k * 2 + 1 : Nat) : Int) = k0 + k * 2 + 1 by push_cast; omega] at hck2
      have e1 : (k0 + (k : Int) * 2 != k0 + (k : Int) * 2) = false := by simp
      have e2 : (k0 + (k : Int) * 2 + 1 != k0 + (k : Int) * 2 + 1) = false := by simp
      have w1 : IntKind.i64.wrap (k0 + (k : Int) * 2 + 1) = k0 + k * 2 + 1 := IntWalk.i64_in _ (by omega)
      have w2 : IntKind.i64.wrap (k0 + (k : Int) * 2 + 1 + 1) = k0 + k * 2 + 1 + 1 := IntWalk.i64_in _ (by omega)
      have hki : (k : Int) < (n : Int) := by omega
      have hk0 : (0 : Int) ≤ (k : Int) := by omega
      clear ho
      go_wp2
      go_round
      case rel => exact ⟨k + 1, by omega, by go_num, by congr 1; push_cast; omega⟩
      case measure => simp [intOf]; omega
    · obtain rfl : k = n := by omega
      go_wp2
      go_ret
      exact ⟨rfl, rfl⟩
end Go.Proofs.YtkejcajboneniabDoor
