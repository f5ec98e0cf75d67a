/-
  The walk of the model's FirmOf. No statement is proved here.
-/
import Derived.Test.YtfmlekcdjjkolaaDoorC7b
namespace Go.Proofs.YtfmlekcdjjkolaaDoor
open Go.RowKit
set_option linter.unusedVariables false
set_option linter.unusedSimpArgs false

/-- The places of the machines that are firm. -/
def firmTo (l : List Int) (k : Nat) : List Int := ((List.range k).filter (firmAt l)).map Int.ofNat
def firmOut (l : List Int) : List Int := if votesOk l = true then firmTo l l.length else []
theorem firm_yes {l : List Int} {k : Nat} (h : firmAt l k = true) : firmTo l (k + 1) = firmTo l k ++ [(k : Int)] := by simp [firmTo, List.range_succ, h]
theorem firm_no {l : List Int} {k : Nat} (h : firmAt l k = false) : firmTo l (k + 1) = firmTo l k := by simp [firmTo, List.range_succ, h]
theorem firm_len (l : List Int) (k : Nat) : (firmTo l k).length ≤ k := by
  simp only [firmTo, List.length_map]
  exact Nat.le_trans (List.length_filter_le _ _) (by simp)

set_option maxRecDepth 100000 in
set_option maxHeartbeats 6400000 in
theorem specFirmOf_any (A : Option Addr) (n c : Nat) (l : List Int) (w : World) (hs : Sl w w.heap.size A n l) :
    Calls Tryd.prog 15 #[.slice A n c] w fun e w' => ∃ A2 m c2, e = .returned (.slice A2 m c2) ∧ w'.ownsRow w.heap.size 3 1 (.slice A2 m c2) m (ints (firmOut l)) ∧ m ≤ 40 ∧ Below w.heap.size w w' := by
  obtain ⟨i0, hi, hz0, hz1, hz2⟩ := info_parts info_int
  have HL := hid hs.len
  have hm := hs.max
  have ho0 : (w.alloc (.cells #[] 3)).ownsRow w.heap.size 3 1 (.slice (some ⟨w.heap.size, 0, none⟩) 0 0) 0 (ints []) := World.ownsRow_lit w #[] 0 (Nat.le_refl _) (by simp [maxLen]) rfl
  have hb0 : Below w.heap.size w (w.alloc (.cells #[] 3)) := (Below.refl _ _).alloc (Nat.le_refl _) _
  have CK := hid (fun (W : World) (hb : Below w.heap.size w W) => specVotesOk_any A n c l W w.heap.size (hs.below hb))
  cases hok : votesOk l with
  | false =>
    have HV := hid (show firmOut l = [] from by unfold firmOut; rw [hok]; rfl)
    rw [hok] at CK
    clear hok
    go_enter Tryd.func15, Tryd.ntmps15
    go_wp2
    go_loopw [3, 4] (fun v i wr => v = .slice (some ⟨w.heap.size, 0, none⟩) 0 0 ∧ i = .int .i64 0 ∧ wr = w.alloc (.cells #[] 3)) (fun _ _ _ => 0)
    case atStart => exact ⟨rfl, rfl, rfl⟩
    case round =>
      obtain ⟨rfl, rfl, rfl⟩ := hrel
      by_cases h0 : 0 < n
      · go_wp2_with (go_at_call 25; with_reducible refine Calls.mono (CK.out _ hb0) ?_; rintro e w' ⟨rfl, rfl⟩)
        go_ret
        exact ⟨_, 0, _, rfl, by rw [HV.out]; exact ho0, by omega, hb0⟩
      · obtain rfl : n = 0 := by omega
        go_wp2
        go_ret
        exact ⟨_, 0, _, rfl, by rw [HV.out]; exact ho0, by omega, hb0⟩
  | true =>
    have HV := hid (show firmOut l = firmTo l n from by unfold firmOut; rw [if_pos hok, HL.out])
    obtain ⟨⟨h1, h2⟩, _⟩ := votesOk_iff.1 hok
    rw [HL.out] at h1 h2
    rw [hok] at CK
    clear hok
    go_enter Tryd.func15, Tryd.ntmps15
    go_wp2
    go_loopw [3, 4] (fun v i wr => ∃ (A1 : Option Addr) (m c1 k : Nat), v = .slice A1 m c1 ∧ i = .int .i64 k ∧ k ≤ n ∧ m ≤ k ∧ wr.ownsRow w.heap.size 3 1 (.slice A1 m c1) m (ints (firmTo l k)) ∧ Hid (Below w.heap.size w wr)) (fun _ i _ => n - (intOf i).toNat)
    case atStart => exact ⟨_, 0, _, 0, rfl, rfl, Nat.zero_le _, Nat.le_refl _, ho0, hid hb0⟩
    case round =>
      clear ho0 hb0
      obtain ⟨A1, m, c1, k, rfl, rfl, hk, hmk, ho, HB⟩ := hrel
      by_cases hlt : k < n
      · have hzz := HB.out.size
        have hv := own_blk ho
        have hlti : (k : Int) < (n : Int) := by omega
        by_cases hk0 : k = 0
        · subst hk0
          have HF := hid (show firmAt l 0 = true from firm_iff.2 (.inl rfl))
          go_wp2_with (go_at_call 25; with_reducible refine Calls.mono (CK.out _ HB.out) ?_; rintro e w' ⟨rfl, rfl⟩)
          go_quiet (fail)
          have hod := own_kept_none ho (drewN_g7 wr nq)
          have hbd := below_drewN HB.out nq
          have hzd : (wr.drewN nq).heap.size = wr.heap.size := rfl
          go_wp2_with (at_builtin; refine wpList_append_own _ rfl _ _ 23 rfl w.heap.size 3 i0 (.int .i64 0) 1 8 Tryd.underlying23 hi hz0 hz1 hz2 rfl (by decide) (.slice A1 m c1) _ _ rfl (hod.alloc _) ⟨wr.heap.size, 0, none⟩ 1 1 [.int .i64 0] rfl rfl (cell_one_new (wr.drewN nq) _ _) (by simp [Value.oneCell']) (by simp only [maxLen]; omega) (by omega) (by simp; omega) ?_; intro v2 w2 hown2 hgrow2 _)
          obtain ⟨A2, c2, rfl, o2, b2⟩ := pushedB hbd (Nat.le_refl _) (by omega) hv hown2 hgrow2
          rw [show firmTo l 0 ++ [0] = firmTo l (0 + 1) from by rw [firm_yes HF.out]; rfl] at o2
          have O2 := hid o2
          have B2 := hid b2
          clear hown2 hgrow2 ho hod hbd o2 b2 HB
          go_wp2
          go_roundw
          case rel => exact ⟨A2, m + 1, c2, (0 + 1), rfl, by go_num, by omega, by omega, O2.out, B2⟩
          case measure => simp [intOf]; omega
        obtain ⟨k, rfl⟩ : ∃ j, k = j + 1 := ⟨k - 1, by omega⟩
        have e1 : (((k : Int) + 1) == 0) = false := by simp; omega
        have e1' : ¬ (k : Int) + 1 = 0 := by omega
        by_cases hk1 : k + 1 = n - 1
        · have HF := hid (show firmAt l (k + 1) = true from firm_iff.2 (.inr (.inl (by rw [HL.out]; exact hk1))))
          have e2 : (((k : Int) + 1) == (n : Int) - 1) = true := by simp; omega
          obtain ⟨N, rfl⟩ : ∃ N, n = N + 1 := ⟨n - 1, by omega⟩
          obtain rfl : N = k + 1 := by omega
          clear hk1 e2
          go_wp2_with (go_at_call 25; with_reducible refine Calls.mono (CK.out _ HB.out) ?_; rintro e w' ⟨rfl, rfl⟩)
          go_quiet (fail)
          have hod := own_kept_none ho (drewN_g7 wr nq)
          have hbd := below_drewN HB.out nq
          have hzd : (wr.drewN nq).heap.size = wr.heap.size := rfl
          go_wp2_with (at_builtin; refine wpList_append_own _ rfl _ _ 23 rfl w.heap.size 3 i0 (.int .i64 0) 1 8 Tryd.underlying23 hi hz0 hz1 hz2 rfl (by decide) (.slice A1 m c1) _ _ rfl (hod.alloc _) ⟨wr.heap.size, 0, none⟩ 1 1 [.int .i64 ((k : Int) + 1)] rfl rfl (cell_one_new (wr.drewN nq) _ _) (by simp [Value.oneCell']) (by simp only [maxLen]; omega) (by omega) (by simp; omega) ?_; intro v2 w2 hown2 hgrow2 _)
          obtain ⟨A2, c2, rfl, o2, b2⟩ := pushedB hbd (Nat.le_refl _) (by omega) hv hown2 hgrow2
          rw [show firmTo l (k + 1) ++ [((k : Int) + 1)] = firmTo l (k + 1 + 1) from by rw [firm_yes HF.out]; rfl] at o2
          have O2 := hid o2
          have B2 := hid b2
          clear hown2 hgrow2 ho hod hbd o2 b2 HB
          go_wp2
          go_roundw
          case rel => exact ⟨A2, m + 1, c2, (k + 1 + 1), rfl, by go_num, by omega, by omega, O2.out, B2⟩
          case measure => simp [intOf]; omega
        have e2 : (((k : Int) + 1) == (n : Int) - 1) = false := by simp; omega
        have e2' : ¬ (k : Int) + 1 = (n : Int) - 1 := by omega
        obtain ⟨b, off, rfl, _, hc⟩ := (hs.below HB.out).2.2 (by omega)
        have x0 := hc k (by omega)
        have x1 := hc (k + 1) (by omega)
        have x2 := hc (k + 1 + 1) (by omega)
        have HF0 := hid (show firmAt l (k + 1) = true ↔ (nth l k = nth l (k + 1) ∨ nth l (k + 1 + 1) = nth l (k + 1)) from by
          rw [firm_iff, HL.out, Nat.add_sub_cancel]
          constructor
          · rintro (h | h | h)
            · omega
            · omega
            · exact h
          · intro h; exact .inr (.inr h))
        obtain ⟨x, hx⟩ : ∃ x, nth l k = x := ⟨_, rfl⟩
        obtain ⟨y, hy⟩ : ∃ y, nth l (k + 1) = y := ⟨_, rfl⟩
        obtain ⟨z, hz⟩ : ∃ z, nth l (k + 1 + 1) = z := ⟨_, rfl⟩
        rw [hx] at x0 HF0
        rw [hy] at x1 HF0
        rw [hz] at x2 HF0
        clear hx hy hz hc
        have e3 : ((k : Int) + 1).toNat = k + 1 := by omega
        have e4 : ((k : Int) + 1 + 1).toNat = k + 1 + 1 := by omega
        have e5 : (k : Int) + 1 + 1 < (n : Int) := by omega
        have e6 : (0 : Int) ≤ (k : Int) + 1 + 1 := by omega
        have e7 : (0 : Int) ≤ (k : Int) + 1 := by omega
        have e8 : (k : Int) < (n : Int) := by omega
        have e9 : (k : Int) + 1 < (n : Int) := by omega
        by_cases h3 : x = y
        · have HF := hid (HF0.out.2 (.inl h3))
          have e10 : (x == y) = true := by simpa using h3
          go_wp2_with (go_at_call 25; with_reducible refine Calls.mono (CK.out _ HB.out) ?_; rintro e w' ⟨rfl, rfl⟩)
          go_quiet (fail)
          have hod := own_kept_none ho (drewN_g7 wr nq)
          have hbd := below_drewN HB.out nq
          have hzd : (wr.drewN nq).heap.size = wr.heap.size := rfl
          go_wp2_with (at_builtin; refine wpList_append_own _ rfl _ _ 23 rfl w.heap.size 3 i0 (.int .i64 0) 1 8 Tryd.underlying23 hi hz0 hz1 hz2 rfl (by decide) (.slice A1 m c1) _ _ rfl (hod.alloc _) ⟨wr.heap.size, 0, none⟩ 1 1 [.int .i64 ((k : Int) + 1)] rfl rfl (cell_one_new (wr.drewN nq) _ _) (by simp [Value.oneCell']) (by simp only [maxLen]; omega) (by omega) (by simp; omega) ?_; intro v2 w2 hown2 hgrow2 _)
          obtain ⟨A2, c2, rfl, o2, b2⟩ := pushedB hbd (Nat.le_refl _) (by omega) hv hown2 hgrow2
          rw [show firmTo l (k + 1) ++ [((k : Int) + 1)] = firmTo l (k + 1 + 1) from by rw [firm_yes HF.out]; rfl] at o2
          have O2 := hid o2
          have B2 := hid b2
          clear hown2 hgrow2 ho hod hbd o2 b2 HB
          go_wp2
          go_roundw
          case rel => exact ⟨A2, m + 1, c2, (k + 1 + 1), rfl, by go_num, by omega, by omega, O2.out, B2⟩
          case measure => simp [intOf]; omega
        have e10 : (x == y) = false := by simpa using h3
        by_cases h4 : z = y
        · have HF := hid (HF0.out.2 (.inr h4))
          have e11 : (z == y) = true := by simpa using h4
          go_wp2_with (go_at_call 25; with_reducible refine Calls.mono (CK.out _ HB.out) ?_; rintro e w' ⟨rfl, rfl⟩)
          go_quiet (fail)
          have hod := own_kept_none ho (drewN_g7 wr nq)
          have hbd := below_drewN HB.out nq
          have hzd : (wr.drewN nq).heap.size = wr.heap.size := rfl
          go_wp2_with (at_builtin; refine wpList_append_own _ rfl _ _ 23 rfl w.heap.size 3 i0 (.int .i64 0) 1 8 Tryd.underlying23 hi hz0 hz1 hz2 rfl (by decide) (.slice A1 m c1) _ _ rfl (hod.alloc _) ⟨wr.heap.size, 0, none⟩ 1 1 [.int .i64 ((k : Int) + 1)] rfl rfl (cell_one_new (wr.drewN nq) _ _) (by simp [Value.oneCell']) (by simp only [maxLen]; omega) (by omega) (by simp; omega) ?_; intro v2 w2 hown2 hgrow2 _)
          obtain ⟨A2, c2, rfl, o2, b2⟩ := pushedB hbd (Nat.le_refl _) (by omega) hv hown2 hgrow2
          rw [show firmTo l (k + 1) ++ [((k : Int) + 1)] = firmTo l (k + 1 + 1) from by rw [firm_yes HF.out]; rfl] at o2
          have O2 := hid o2
          have B2 := hid b2
          clear hown2 hgrow2 ho hod hbd o2 b2 HB
          go_wp2
          go_roundw
          case rel => exact ⟨A2, m + 1, c2, (k + 1 + 1), rfl, by go_num, by omega, by omega, O2.out, B2⟩
          case measure => simp [intOf]; omega
        have e11 : (z == y) = false := by simpa using h4
        have HF := hid (show firmAt l (k + 1) = false from by
          rw [Bool.eq_false_iff]
          intro h
          rcases HF0.out.1 h with h | h
          · exact h3 h
          · exact h4 h)
        go_wp2_with (go_at_call 25; with_reducible refine Calls.mono (CK.out _ HB.out) ?_; rintro e w' ⟨rfl, rfl⟩)
        go_quiet (fail)
        have hod := own_kept_none ho (drewN_g7 wr nq)
        have hbd := below_drewN HB.out nq
        have hzd : (wr.drewN nq).heap.size = wr.heap.size := rfl
        rw [← firm_no HF.out] at hod
        have O2 := hid hod
        have B2 := hid hbd
        clear ho hod hbd HB
        go_wp2
        go_roundw
        case rel => exact ⟨A1, m, c1, (k + 1 + 1), rfl, by go_num, by omega, by omega, O2.out, B2⟩
        case measure => simp [intOf]; omega
      · obtain rfl : k = n := by omega
        rw [← HV.out] at ho
        have HO := hid ho
        clear ho
        go_wp2
        go_ret
        exact ⟨A1, m, c1, rfl, HO.out, by omega, HB.out⟩
end Go.Proofs.YtfmlekcdjjkolaaDoor
