/-
  The walk of the model's AddedOf. No statement is proved here.
-/
import Derived.Test.YthncjopbagkdcaaC10a
namespace Go.Proofs.Ythncjopbagkdcaa
open Go.RowKit
set_option linter.unusedVariables false
set_option linter.unusedSimpArgs false

theorem add_take {a b : List Int} {k : Nat} (h : k < a.length) : (addL a b).take (k + 1) = (addL a b).take k ++ [(nth a k + nth b k) % 2] := by
  rw [take_nth (by rw [addL_len]; exact h), nth_addL h]

set_option maxRecDepth 100000 in
set_option maxHeartbeats 3200000 in
theorem specAddedOf_any (A : Option Addr) (n c : Nat) (l : List Int) (A1 : Option Addr) (n1 c1 : Nat) (m : List Int) (w : World) (hs : Sl w w.heap.size A n l) (hs1 : Sl w w.heap.size A1 n1 m) :
    Calls Try.prog 29 #[.slice A n c, .slice A1 n1 c1] w fun e w' => ∃ A2 q c2, e = .returned (.slice A2 q c2) ∧ w'.ownsRow w.heap.size 3 1 (.slice A2 q c2) q (ints (addOut l m)) ∧ q ≤ 16 ∧ Below w.heap.size w w' := by
  obtain ⟨i0, hi, hz0, hz1, hz2⟩ := info_parts info_int
  have ho0 : (w.alloc (.cells #[] 3)).ownsRow w.heap.size 3 1 (.slice (some ⟨w.heap.size, 0, none⟩) 0 0) 0 (ints []) := World.ownsRow_lit w #[] 0 (Nat.le_refl _) (by simp [maxLen]) rfl
  have hb0 : Below w.heap.size w (w.alloc (.cells #[] 3)) := (Below.refl _ _).alloc (Nat.le_refl _) _
  have HL := hid hs.len
  have HM := hid hs1.len
  have hm0 := hs.max
  have hm1 := hs1.max
  have CA := hid (fun (W : World) (hW : Below w.heap.size w W) => specBitsOk_any A n c l W _ (hs.below hW))
  have CB := hid (fun (W : World) (hW : Below w.heap.size w W) => specBitsOk_any A1 n1 c1 m W _ (hs1.below hW))
  cases hok : (bitsOk l && (bitsOk m && decide (l.length = m.length))) with
  | false =>
    have HV := hid (show addOut l m = [] from by unfold addOut; rw [hok]; rfl)
    have HO := hid ho0
    have HB := hid hb0
    clear ho0
    by_cases hn0 : 0 < n
    · have hni : (0 : Int) < (n : Int) := by omega
      cases h0 : bitsOk l with
      | false =>
        rw [h0] at CA
        clear hok h0
        go_enter Try.func29, Try.ntmps29
        go_wp2
        go_loop [5, 6] (fun v i => v = .slice (some ⟨w.heap.size, 0, none⟩) 0 0 ∧ i = .int .i64 0) (fun _ _ => 0)
        case atStart => exact ⟨rfl, rfl⟩
        case round =>
          obtain ⟨rfl, rfl⟩ := hrel
          go_wp2_with (go_at_call 17; with_reducible refine Calls.mono (CA.out _ hb0) ?_; rintro e w' ⟨rfl, rfl⟩)
          go_ret
          exact ⟨_, 0, _, rfl, by rw [HV.out]; exact HO.out, by omega, HB.out⟩
      | true =>
        rw [h0, Bool.true_and] at hok
        rw [h0] at CA
        clear h0
        cases h1 : bitsOk m with
        | false =>
          rw [h1] at CB
          clear hok h1
          go_enter Try.func29, Try.ntmps29
          go_wp2
          go_loop [5, 6] (fun v i => v = .slice (some ⟨w.heap.size, 0, none⟩) 0 0 ∧ i = .int .i64 0) (fun _ _ => 0)
          case atStart => exact ⟨rfl, rfl⟩
          case round =>
            obtain ⟨rfl, rfl⟩ := hrel
            go_wp2_with (first | (go_at_call 17; with_reducible refine Calls.mono (CA.out _ hb0) ?_; rintro e w' ⟨rfl, rfl⟩) | (go_at_call 17; with_reducible refine Calls.mono (CB.out _ hb0) ?_; rintro e w' ⟨rfl, rfl⟩))
            go_ret
            exact ⟨_, 0, _, rfl, by rw [HV.out]; exact HO.out, by omega, HB.out⟩
        | true =>
          rw [h1, Bool.true_and, HL.out, HM.out, decide_eq_false_iff_not] at hok
          rw [h1] at CB
          have hne : ((n : Int) == (n1 : Int)) = false := by simp; omega
          have hne2 : decide ((n : Int) = (n1 : Int)) = false := by simp; omega
          clear h1
          go_enter Try.func29, Try.ntmps29
          go_wp2
          go_loop [5, 6] (fun v i => v = .slice (some ⟨w.heap.size, 0, none⟩) 0 0 ∧ i = .int .i64 0) (fun _ _ => 0)
          case atStart => exact ⟨rfl, rfl⟩
          case round =>
            obtain ⟨rfl, rfl⟩ := hrel
            go_wp2_with (first | (go_at_call 17; with_reducible refine Calls.mono (CA.out _ hb0) ?_; rintro e w' ⟨rfl, rfl⟩) | (go_at_call 17; with_reducible refine Calls.mono (CB.out _ hb0) ?_; rintro e w' ⟨rfl, rfl⟩))
            go_ret
            exact ⟨_, 0, _, rfl, by rw [HV.out]; exact HO.out, by omega, HB.out⟩
    · have hni : decide ((0 : Int) < (n : Int)) = false := by simp; omega
      clear hok
      go_enter Try.func29, Try.ntmps29
      go_wp2
      go_loop [5, 6] (fun v i => v = .slice (some ⟨w.heap.size, 0, none⟩) 0 0 ∧ i = .int .i64 0) (fun _ _ => 0)
      case atStart => exact ⟨rfl, rfl⟩
      case round =>
        obtain ⟨rfl, rfl⟩ := hrel
        go_wp2
        go_ret
        exact ⟨_, 0, _, rfl, by rw [HV.out]; exact HO.out, by omega, HB.out⟩
  | true =>
    have hok2 : bitsOk l = true ∧ bitsOk m = true ∧ l.length = m.length := by simpa using hok
    obtain ⟨h0, h1, hll⟩ := hok2
    have HV := hid (show addOut l m = addL l m from by unfold addOut; rw [if_pos hok])
    obtain ⟨hb, g1, g2⟩ := bitsOk_iff.1 h0
    have hb' := (bitsOk_iff.1 h1).1
    rw [HL.out] at g1 g2
    rw [HL.out, HM.out] at hll
    subst hll
    have HX := hid (fun k => bit_nth hb k)
    have HY := hid (fun k => bit_nth hb' k)
    rw [h0] at CA
    rw [h1] at CB
    obtain ⟨b, off, rfl, hbS, hc⟩ := hs.2.2 (by omega)
    obtain ⟨b', off', rfl, hbS', hc'⟩ := hs1.2.2 (by omega)
    have HC := hid hc
    have HC' := hid hc'
    have een : ((n : Int) == (n : Int)) = true := by simp
    clear hok h0 h1 hb hb' hc hc' hs hs1
    go_enter Try.func29, Try.ntmps29
    go_wp2
    go_loopw [5, 6] (fun v i wr => ∃ (A3 : Option Addr) (c3 k : Nat), v = .slice A3 k c3 ∧ i = .int .i64 k ∧ k ≤ n ∧ wr.ownsRow w.heap.size 3 1 (.slice A3 k c3) k (ints ((addL l m).take k)) ∧ Hid (Below w.heap.size w wr)) (fun _ i _ => n - (intOf i).toNat)
    case atStart => exact ⟨_, _, 0, rfl, rfl, Nat.zero_le _, ho0, hid hb0⟩
    case round =>
      clear ho0 hb0
      obtain ⟨A3, c3, k, rfl, rfl, hk, ho, HB⟩ := hrel
      by_cases hlt : k < n
      · have x0 := (HB.out.cell (p := ⟨b, off + k, none⟩) hbS).trans (HC.out k hlt)
        have x1 := (HB.out.cell (p := ⟨b', off' + k, none⟩) hbS').trans (HC'.out k hlt)
        have b0 := HX.out k
        have b1 := HY.out k
        have HT := hid (add_take (a := l) (b := m) (k := k) (by rw [HL.out]; exact hlt))
        obtain ⟨x, hx⟩ : ∃ x, nth l k = x := ⟨_, rfl⟩
        obtain ⟨y, hy⟩ : ∃ y, nth m k = y := ⟨_, rfl⟩
        rw [hx] at x0 b0 HT
        rw [hy] at x1 b1 HT
        clear hx hy
        have m3 : (x + y).tmod 2 = (x + y) % 2 := Int.tmod_eq_emod_of_nonneg (by omega)
        have hlti : (k : Int) < (n : Int) := by omega
        have w4 : IntKind.i64.wrap (x + y) = x + y := IntWalk.i64_in _ (by omega)
        have w6 : 0 ≤ (x + y) % 2 ∧ (x + y) % 2 ≤ 1 := by omega
        have p7 : (0 : Int) ≤ (k : Int) := by omega
        go_wp2_with (first | (go_at_call 17; with_reducible refine Calls.mono (CA.out _ HB.out) ?_; rintro e w' ⟨rfl, rfl⟩) | (go_at_call 17; with_reducible refine Calls.mono (CB.out _ HB.out) ?_; rintro e w' ⟨rfl, rfl⟩))
        have hzz := HB.out.size
        have hv := own_blk ho
        have hbd := HB.out.drew
        have hod := ho.drew
        obtain ⟨wd, hwd⟩ : ∃ W, wr.drew = W := ⟨_, rfl⟩
        have hx1 : wd.cell? ⟨b, off + k, none⟩ = some (.int .i64 x) := by rw [← hwd]; exact x0
        have hy1 : wd.cell? ⟨b', off' + k, none⟩ = some (.int .i64 y) := by rw [← hwd]; exact x1
        have hbw : b < wd.heap.size ∧ b' < wd.heap.size := by rw [← hwd]; show b < wr.heap.size ∧ b' < wr.heap.size; omega
        rw [hwd] at hbd hod
        have hzd := hbd.size
        have ga := grown_alloc wd (.cells #[.int .i64 ((x + y) % 2)] 3) none
        have ka : (wd.alloc (.cells #[.int .i64 ((x + y) % 2)] 3)).cell? ⟨b, off + k, none⟩ = some (.int .i64 x) := ga.cell hx1 (by simp)
        have kb : (wd.alloc (.cells #[.int .i64 ((x + y) % 2)] 3)).cell? ⟨b', off' + k, none⟩ = some (.int .i64 y) := ga.cell hy1 (by simp)
        refine wp_region_held_drew (S := (fun w' => w'.cell? ⟨b, off + k, none⟩ = some (.int .i64 x) ∧ w'.cell? ⟨b', off' + k, none⟩ = some (.int .i64 y))) (by kernel_rfl) (by go_keep) (fun hHeld => ?_)
        rw [hwd] at hHeld ⊢
        refine wpAnyH_take (i := 0) (v := ?v0) rfl (by kernel_rfl) (by kernel_rfl) (by kernel_rfl) (fun _ _ _ h => h) (Or.inl ⟨by rfl, ?y0⟩) (by assumption) ?r0
        case y0 => (intro w hSw; (try dsimp only at hSw); go_simp; try with_reducible rfl)
        try simp only [List.getElem_toArray, List.getElem_cons_zero, List.getElem_cons_succ, Act.put, List.setIfInBounds_toArray, List.set_cons_zero, List.set_cons_succ]
        refine wpAnyH_take (i := 1) (v := ?v1) rfl (by kernel_rfl) (by kernel_rfl) (by kernel_rfl) (fun _ _ _ h => h) (Or.inl ⟨by rfl, ?y1⟩) (by assumption) ?r1
        case y1 => (intro w hSw; (try dsimp only at hSw); go_simp; try with_reducible rfl)
        try simp only [List.getElem_toArray, List.getElem_cons_zero, List.getElem_cons_succ, Act.put, List.setIfInBounds_toArray, List.set_cons_zero, List.set_cons_succ]
        refine wpAnyH_take (i := 2) (v := ?v2) rfl (by kernel_rfl) (by kernel_rfl) (by kernel_rfl) (fun _ _ _ h => h) (Or.inl ⟨by rfl, ?y2⟩) (by assumption) ?r2
        case y2 => (intro w hSw; (try dsimp only at hSw); go_simp; try with_reducible rfl)
        try simp only [List.getElem_toArray, List.getElem_cons_zero, List.getElem_cons_succ, Act.put, List.setIfInBounds_toArray, List.set_cons_zero, List.set_cons_succ]
        refine wpAnyH_take (i := 3) (v := ?v3) rfl (by kernel_rfl) (by kernel_rfl) (by kernel_rfl) (fun _ _ _ h => h) (Or.inl ⟨by rfl, ?y3⟩) (by assumption) ?r3
        case y3 => (intro w hSw; (try dsimp only at hSw); go_simp; try with_reducible rfl)
        try simp only [List.getElem_toArray, List.getElem_cons_zero, List.getElem_cons_succ, Act.put, List.setIfInBounds_toArray, List.set_cons_zero, List.set_cons_succ]
        refine wpAnyH_take (i := 4) (v := ?v4) rfl (by kernel_rfl) (by kernel_rfl) (by kernel_rfl) (fun _ _ _ h => h) (Or.inl ⟨by rfl, ?y4⟩) (by assumption) ?r4
        case y4 => (intro w hSw; (try dsimp only at hSw); go_simp; try with_reducible rfl)
        try simp only [List.getElem_toArray, List.getElem_cons_zero, List.getElem_cons_succ, Act.put, List.setIfInBounds_toArray, List.set_cons_zero, List.set_cons_succ]
        refine wpAnyH_take (i := 5) (v := ?v5) rfl (by kernel_rfl) (by kernel_rfl) (by kernel_rfl) (fun _ _ _ h => h) (Or.inl ⟨by rfl, ?y5⟩) (by assumption) ?r5
        case y5 => (intro w hSw; (try dsimp only at hSw); go_simp; try with_reducible rfl)
        try simp only [List.getElem_toArray, List.getElem_cons_zero, List.getElem_cons_succ, Act.put, List.setIfInBounds_toArray, List.set_cons_zero, List.set_cons_succ]
        refine wpAnyH_take (i := 6) (v := ?v6) rfl (by kernel_rfl) (by kernel_rfl) (by kernel_rfl) (fun _ _ _ h => h) (Or.inl ⟨by rfl, ?y6⟩) (by assumption) ?r6
        case y6 => (intro w hSw; (try dsimp only at hSw); go_simp; try with_reducible rfl)
        try simp only [List.getElem_toArray, List.getElem_cons_zero, List.getElem_cons_succ, Act.put, List.setIfInBounds_toArray, List.set_cons_zero, List.set_cons_succ]
        refine wpAnyH_take (i := 7) (v := ?v7) rfl (by kernel_rfl) (by kernel_rfl) (by kernel_rfl) (fun _ _ _ h => h) (Or.inl ⟨by rfl, ?y7⟩) (by assumption) ?r7
        case y7 => (intro w hSw; (try dsimp only at hSw); go_simp; try with_reducible rfl)
        try simp only [List.getElem_toArray, List.getElem_cons_zero, List.getElem_cons_succ, Act.put, List.setIfInBounds_toArray, List.set_cons_zero, List.set_cons_succ]
        refine wpAnyH_take (i := 8) (v := ?v8) rfl (by kernel_rfl) (by kernel_rfl) (by kernel_rfl) (fun _ _ _ h => h) (Or.inl ⟨by rfl, ?y8⟩) (by assumption) ?r8
        case y8 => (intro w hSw; (try dsimp only at hSw); go_simp; try with_reducible rfl)
        try simp only [List.getElem_toArray, List.getElem_cons_zero, List.getElem_cons_succ, Act.put, List.setIfInBounds_toArray, List.set_cons_zero, List.set_cons_succ]
        refine wpAnyH_take (i := 9) (v := ?v9) rfl (by kernel_rfl) (by kernel_rfl) (by kernel_rfl) (fun _ _ _ h => h) (Or.inl ⟨by rfl, ?y9⟩) (by assumption) ?r9
        case y9 => (intro w hSw; (try dsimp only at hSw); go_simp; try with_reducible rfl)
        try simp only [List.getElem_toArray, List.getElem_cons_zero, List.getElem_cons_succ, Act.put, List.setIfInBounds_toArray, List.set_cons_zero, List.set_cons_succ]
        refine wpAnyH_take (i := 10) (v := ?v10) rfl (by kernel_rfl) (by kernel_rfl) (by kernel_rfl) (fun _ _ _ h => h) (Or.inl ⟨by rfl, ?y10⟩) (by assumption) ?r10
        case y10 => (intro w hSw; (try dsimp only at hSw); go_simp; try with_reducible rfl)
        try simp only [List.getElem_toArray, List.getElem_cons_zero, List.getElem_cons_succ, Act.put, List.setIfInBounds_toArray, List.set_cons_zero, List.set_cons_succ]
        refine wpAnyH_ready (rs := [11]) (by kernel_rfl) (by simp) ?_
        refine AllReadyH.cons rfl (fun Kr hKr => ?_) AllReadyH.nil
        go_simp
        try go_wp2_with fail
        refine hKr.out _ _ ⟨ka, kb⟩ (fun hHeld => ?_)
        clear hKr Kr
        try simp only [List.getElem_toArray, List.getElem_cons_zero, List.getElem_cons_succ, Act.put, List.setIfInBounds_toArray, List.set_cons_zero, List.set_cons_succ]
        refine wpAnyH_ready (rs := [12]) (by kernel_rfl) (by simp) ?_
        refine AllReadyH.cons rfl (fun Kr hKr => ?_) AllReadyH.nil
        rw [if_pos (by simp [Region.wanted])]
        refine wp_append_own _ _ _ 23 rfl w.heap.size 3 i0 (.int .i64 0) 1 8 Try.underlying23 hi hz0 hz1 hz2 rfl (by decide) (.slice A3 k c3) _ _ rfl (hod.alloc _) ⟨wd.heap.size, 0, none⟩ 1 1 [.int .i64 ((x + y) % 2)] rfl rfl (cell_one_new wd _ _) (by simp [Value.oneCell']) (by simp only [maxLen]; omega) (by omega) (by simp; omega) ?_
        intro v2 w2 hown2 hgrow2 _
        obtain ⟨A2, c2, rfl, o2, b2⟩ := pushedB hbd (Nat.le_refl _) (by omega) hv hown2 hgrow2
        refine hKr.out _ _ ⟨(b2.cell (p := ⟨b, off + k, none⟩) hbS).trans ((hbd.cell (p := ⟨b, off + k, none⟩) hbS).symm.trans hx1), (b2.cell (p := ⟨b', off' + k, none⟩) hbS').trans ((hbd.cell (p := ⟨b', off' + k, none⟩) hbS').symm.trans hy1)⟩ (fun hHeld => ?_)
        clear hKr Kr
        try simp only [List.getElem_toArray, List.getElem_cons_zero, List.getElem_cons_succ, Act.put, List.setIfInBounds_toArray, List.set_cons_zero, List.set_cons_succ]
        refine wpAnyH_take (i := 13) (v := ?v13) rfl (by kernel_rfl) (by kernel_rfl) (by kernel_rfl) (fun _ _ _ h => h) (Or.inl ⟨by rfl, ?y13⟩) (by assumption) ?r13
        case y13 => (intro w hSw; (try dsimp only at hSw); go_simp; try with_reducible rfl)
        try simp only [List.getElem_toArray, List.getElem_cons_zero, List.getElem_cons_succ, Act.put, List.setIfInBounds_toArray, List.set_cons_zero, List.set_cons_succ]
        refine wpAnyH_done (by kernel_rfl) ?_ _
        rw [← HT.out] at o2
        have O2 := hid o2
        have B2 := hid b2
        clear hown2 hgrow2 hod hbd ho o2 b2 HB ka kb ga hx1 hy1
        go_wp2
        go_roundw
        case rel => exact ⟨A2, c2, k + 1, rfl, by go_num, by omega, O2.out, B2⟩
        case measure => simp [intOf]; omega
      · obtain rfl : k = n := by omega
        rw [List.take_of_length_le (by rw [addL_len, HL.out]; omega), ← HV.out] at ho
        have HO := hid ho
        clear ho
        go_wp2
        go_ret
        exact ⟨A3, k, c3, rfl, HO.out, g2, HB.out⟩
end Go.Proofs.Ythncjopbagkdcaa
