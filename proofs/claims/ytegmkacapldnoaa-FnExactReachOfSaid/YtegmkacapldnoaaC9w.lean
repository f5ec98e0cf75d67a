/-
  Walk of the model's WentRound. No statement is proved here.
-/
import Derived.Test.YtegmkacapldnoaaC9
import Derived.Deep.RegionHeld3
namespace Go.Proofs.Ytegmkacapldnoaa
open Go.RowKit
set_option linter.unusedVariables false
set_option linter.unusedSimpArgs false

/-- What WentRound gives. -/
def wentOut (l : List Int) (f : Int) : List Int := if (ringOk l && within f 0 ((l.length : Int) - 1)) = true then rotL l f.toNat else []
theorem Sl.take {w : World} {B n m : Nat} {A : Option Addr} {l : List Int} (h : Sl w B A n l) (hm : m ≤ n) : Sl w B A m (l.take m) := by
  refine ⟨by rw [List.length_take, h.len]; omega, Nat.le_trans hm h.max, fun h0 => ?_⟩
  obtain ⟨b, off, e, hb, hc⟩ := h.2.2 (by omega)
  refine ⟨b, off, e, hb, fun j hj => ?_⟩
  rw [hc j (by omega)]
  simp [nth, List.getD, hj]
theorem Sl.drop {w : World} {B n a b off : Nat} {l : List Int} (h : Sl w B (some ⟨b, off, none⟩) n l) (ha : a ≤ n) : Sl w B (some ⟨b, off + a, none⟩) (n - a) (l.drop a) := by
  refine ⟨by rw [List.length_drop, h.len], Nat.le_trans (Nat.sub_le _ _) h.max, fun h0 => ?_⟩
  obtain ⟨b', off', e, hb, hc⟩ := h.2.2 (by omega)
  injection e with e
  injection e with e1 e2
  subst e1
  subst e2
  refine ⟨b, off + a, rfl, hb, fun j hj => ?_⟩
  rw [show off + a + j = off + (a + j) by omega, hc (a + j) (by omega)]
  simp [nth, List.getD]

set_option maxRecDepth 100000 in
set_option maxHeartbeats 3200000 in
theorem specWentRound_any (A : Option Addr) (n c : Nat) (l : List Int) (f : Int) (w : World) (hs : Sl w w.heap.size A n l) (hc : n ≤ c) (hcm : c ≤ maxLen) (hf : (Lit.int .i64 f).wf = true) :
    Calls Try.prog 35 #[.slice A n c, .int .i64 f] w fun e w' => ∃ A2 m c2, e = .returned (.slice A2 m c2) ∧ w'.ownsRow w.heap.size 3 1 (.slice A2 m c2) m (ints (wentOut l f)) ∧ m ≤ 12 ∧ Below w.heap.size w w' := by
  obtain ⟨i0, hi, hz0, hz1, hz2⟩ := info_parts info_int
  have HL := hid hs.len
  have hmx := hs.max
  have CK := hid (specRingOk_any A n c l w hs)
  simp only [maxLen] at hcm
  have wn : IntKind.i64.wrap ((n : Int) - 1) = (n : Int) - 1 := IntWalk.i64_in _ (by omega)
  cases hok : (ringOk l && within f 0 ((n : Int) - 1)) with
  | false =>
    have HV := hid (show wentOut l f = [] from by unfold wentOut; rw [HL.out, hok]; rfl)
    cases h0 : ringOk l with
    | false =>
      rw [h0] at CK
      clear hok h0
      go_enter Try.func35, Try.ntmps35
      go_wp2_with fail
      with_reducible refine Calls.mono CK.out ?_
      rintro e w1 ⟨rfl, b1⟩
      go_wp2
      go_ret
      exact ⟨_, 0, _, rfl, by rw [HV.out]; exact World.ownsRow_lit w1 #[] 0 b1.size (by simp [maxLen]) rfl, by omega, b1.alloc b1.size _⟩
    | true =>
      rw [h0, Bool.true_and] at hok
      rw [h0] at CK
      clear h0
      go_enter Try.func35, Try.ntmps35
      go_wp2_with fail
      with_reducible refine Calls.mono CK.out ?_
      rintro e w1 ⟨rfl, b1⟩
      go_wp2_with (go_at_call 44; refine (l1In_any _ _ _ _).mono ?_; rintro e w' ⟨rfl, rfl⟩)
      go_ret
      exact ⟨_, 0, _, rfl, by rw [HV.out]; exact World.ownsRow_lit w1 #[] 0 b1.size (by simp [maxLen]) rfl, by omega, b1.alloc b1.size _⟩
  | true =>
    have hok2 : ringOk l = true ∧ within f 0 ((n : Int) - 1) = true := by simpa using hok
    obtain ⟨h0, hws⟩ := hok2
    obtain ⟨_, _, h1, h2⟩ := ringOk_iff.1 h0
    rw [HL.out] at h1 h2
    have hsb := within_iff.1 hws
    obtain ⟨F, rfl⟩ : ∃ F : Nat, f = F := Int.eq_ofNat_of_zero_le hsb.1
    have HV := hid (show wentOut l F = l.drop F ++ l.take F from by unfold wentOut; rw [HL.out, if_pos hok, Int.toNat_natCast]; rfl)
    rw [h0] at CK
    have HS := hid hs
    obtain ⟨bl, off, rfl, hbl, hcc⟩ := hs.2.2 (by omega)
    have hFn : F < n := by omega
    have e1 : (F : Int) ≤ (n : Int) := by omega
    have e2 : (F : Int) ≤ (c : Int) := by omega
    have e3 : (n : Int) ≤ (c : Int) := by omega
    have e4 : F ≤ c := by omega
    have e5 : F ≤ n := by omega
    have e6 : (0 : Int) ≤ (F : Int) := by omega
    clear hok h0 hcc hs
    go_enter Try.func35, Try.ntmps35
    go_wp2_with fail
    with_reducible refine Calls.mono CK.out ?_
    rintro e w1 ⟨rfl, b1⟩
    have hz := b1.size
    go_wp2_with (go_at_call 44; refine (l1In_any _ _ _ _).mono ?_; rintro e w' ⟨rfl, rfl⟩)
    have bd := hid (b1.trans (((Below.refl w1.heap.size w1).drew).mono hz))
    obtain ⟨wd, hwd⟩ : ∃ W, w1.drew = W := ⟨_, rfl⟩
    rw [hwd] at bd
    have hzd := bd.out.size
    have ho0 : (wd.alloc (.cells #[] 3)).ownsRow w.heap.size 3 1 (.slice (some ⟨wd.heap.size, 0, none⟩) 0 0) 0 (ints []) := World.ownsRow_lit wd #[] 0 hzd (by simp [maxLen]) rfl
    have hb0 : Below w.heap.size w (wd.alloc (.cells #[] 3)) := bd.out.alloc hzd _
    have hs1 := (HS.out.on hb0).drop e5
    clear b1
    refine wp_region_held_drew (S := (fun _ => True)) (by kernel_rfl) (by intros; trivial) (fun hHeld => ?_)
    rw [hwd]
    refine wpAnyH_take (i := 1) (v := ?v1) rfl (by kernel_rfl) (by kernel_rfl) (by kernel_rfl) (fun _ _ _ h => h) (Or.inl ⟨by rfl, ?y1⟩) (by assumption) ?r1
    case y1 => (intro w hSw; (try dsimp only at hSw); go_simp; try with_reducible rfl)
    try simp only [List.getElem_toArray, List.getElem_cons_zero, List.getElem_cons_succ, Act.put, List.setIfInBounds_toArray, List.set_cons_zero, List.set_cons_succ]
    refine wpAnyH_take (i := 2) (v := ?v2) rfl (by kernel_rfl) (by kernel_rfl) (by kernel_rfl) (fun _ _ _ h => h) (Or.inl ⟨by rfl, ?y2⟩) (by assumption) ?r2
    case y2 => (intro w hSw; (try dsimp only at hSw); go_simp; try with_reducible rfl)
    try simp only [List.getElem_toArray, List.getElem_cons_zero, List.getElem_cons_succ, Act.put, List.setIfInBounds_toArray, List.set_cons_zero, List.set_cons_succ]
    refine wpAnyH_take (i := 3) (v := ?v3) rfl (by kernel_rfl) (by kernel_rfl) (by kernel_rfl) (fun _ _ _ h => h) (Or.inl ⟨by rfl, ?y3⟩) (by assumption) ?r3
    case y3 => (intro w hSw; (try dsimp only at hSw); go_simp; try with_reducible rfl)
    try simp only [List.getElem_toArray, List.getElem_cons_zero, List.getElem_cons_succ, Act.put, List.setIfInBounds_toArray, List.set_cons_zero, List.set_cons_succ]
    refine wpAnyH_take (i := 5) (v := ?v5) rfl (by kernel_rfl) (by kernel_rfl) (by kernel_rfl) (fun _ _ _ h => h) (Or.inl ⟨by rfl, ?y5⟩) (by assumption) ?r5
    case y5 => (intro w hSw; (try dsimp only at hSw); go_simp; try with_reducible rfl)
    try simp only [List.getElem_toArray, List.getElem_cons_zero, List.getElem_cons_succ, Act.put, List.setIfInBounds_toArray, List.set_cons_zero, List.set_cons_succ]
    refine wpAnyH_take (i := 6) (v := ?v6) rfl (by kernel_rfl) (by kernel_rfl) (by kernel_rfl) (fun _ _ _ h => h) (Or.inl ⟨by rfl, ?y6⟩) (by assumption) ?r6
    case y6 => (intro w hSw; (try dsimp only at hSw); go_simp; try with_reducible rfl)
    try simp only [List.getElem_toArray, List.getElem_cons_zero, List.getElem_cons_succ, Act.put, List.setIfInBounds_toArray, List.set_cons_zero, List.set_cons_succ]
    refine wpAnyH_take (i := 7) (v := ?v7) rfl (by kernel_rfl) (by kernel_rfl) (by kernel_rfl) (fun _ _ _ h => h) (Or.inl ⟨by rfl, ?y7⟩) (by assumption) ?r7
    case y7 => (intro w hSw; (try dsimp only at hSw); go_simp; try with_reducible rfl)
    try simp only [List.getElem_toArray, List.getElem_cons_zero, List.getElem_cons_succ, Act.put, List.setIfInBounds_toArray, List.set_cons_zero, List.set_cons_succ]
    refine wpAnyH_ready (rs := [0]) (by kernel_rfl) (by simp) ?_
    refine AllReadyH.cons rfl (fun Kr hKr => ?_) AllReadyH.nil
    go_simp
    try go_wp2_with fail
    refine hKr.out _ _ trivial (fun hHeld => ?_)
    clear hKr Kr
    try simp only [List.getElem_toArray, List.getElem_cons_zero, List.getElem_cons_succ, Act.put, List.setIfInBounds_toArray, List.set_cons_zero, List.set_cons_succ]
    refine wpAnyH_ready (rs := [4]) (by kernel_rfl) (by simp) ?_
    refine AllReadyH.cons rfl (fun Kr hKr => ?_) AllReadyH.nil
    rw [if_pos (by simp [Region.wanted])]
    refine wp_append_own _ _ _ 23 rfl w.heap.size 3 i0 (.int .i64 0) 1 8 Try.underlying23 hi hz0 hz1 hz2 rfl (by decide) (.slice (some ⟨wd.heap.size, 0, none⟩) 0 0) _ _ rfl ho0 ⟨bl, off + F, none⟩ (n - F) (c - F) (ints (l.drop F)) rfl (by rw [List.length_map, List.length_drop, HL.out, Nat.mul_one]) hs1.cellsAt (ints_one _) (by simp only [maxLen]; omega) (by omega) hb0.size ?_
    intro v2 w2 o2 g2 _
    rw [Nat.zero_add, show ints [] ++ ints (l.drop F) = ints (l.drop F) from rfl] at o2
    obtain ⟨gA, c2, rfl, hbA, hltA⟩ := own_shape1 o2 (by omega)
    have hb2 := hb0.grown g2 hb0.size (by intro j hj; simp [Value.ownBlock] at hj; omega)
    have hs2 := (HS.out.on hb2).take e5
    clear g2 hb0 ho0 hs1
    refine hKr.out _ _ trivial (fun hHeld => ?_)
    clear hKr Kr
    try simp only [List.getElem_toArray, List.getElem_cons_zero, List.getElem_cons_succ, Act.put, List.setIfInBounds_toArray, List.set_cons_zero, List.set_cons_succ]
    refine wpAnyH_ready (rs := [8]) (by kernel_rfl) (by simp) ?_
    refine AllReadyH.cons rfl (fun Kr hKr => ?_) AllReadyH.nil
    rw [if_pos (by simp [Region.wanted])]
    refine wp_append_own _ _ _ 23 rfl w.heap.size 3 i0 (.int .i64 0) 1 8 Try.underlying23 hi hz0 hz1 hz2 rfl (by decide) (.slice (some ⟨gA, 0, none⟩) (n - F) c2) _ _ rfl o2 ⟨bl, off, none⟩ F c (ints (l.take F)) rfl (by rw [List.length_map, List.length_take, HL.out, Nat.min_eq_left e5, Nat.mul_one]) hs2.cellsAt (ints_one _) (by simp only [maxLen]; omega) (by omega) hb2.size ?_
    intro v4 w4 o4 g4 _
    obtain ⟨gB, c4, rfl, hbB, hltB⟩ := own_shape1 o4 (by omega)
    have hb4 := hid (hb2.grown g4 hb2.size (by intro j hj; cases hj; exact hbA))
    rw [show ints (l.drop F) ++ ints (l.take F) = ints (wentOut l F) from by rw [HV.out]; simp [ints], show n - F + F = n by omega] at o4
    have O4 := hid o4
    clear g4 o4 o2 hb2 hs2
    refine hKr.out _ _ trivial (fun hHeld => ?_)
    clear hKr Kr
    try simp only [List.getElem_toArray, List.getElem_cons_zero, List.getElem_cons_succ, Act.put, List.setIfInBounds_toArray, List.set_cons_zero, List.set_cons_succ]
    refine wpAnyH_take (i := 9) (v := ?v9) rfl (by kernel_rfl) (by kernel_rfl) (by kernel_rfl) (fun _ _ _ h => h) (Or.inl ⟨by rfl, ?y9⟩) (by assumption) ?r9
    case y9 => (intro w hSw; (try dsimp only at hSw); go_simp; try with_reducible rfl)
    try simp only [List.getElem_toArray, List.getElem_cons_zero, List.getElem_cons_succ, Act.put, List.setIfInBounds_toArray, List.set_cons_zero, List.set_cons_succ]
    refine wpAnyH_done (by kernel_rfl) ?_ _
    go_wp2
    go_ret
    exact ⟨_, n, _, rfl, O4.out, h2, hb4.out⟩
end Go.Proofs.Ytegmkacapldnoaa
