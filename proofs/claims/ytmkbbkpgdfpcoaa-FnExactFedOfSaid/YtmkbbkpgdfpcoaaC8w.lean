/-
  The walk of the program's ValueAt (a range over slices.Backward). No statement is proved here.
-/
import Derived.Test.YtmkbbkpgdfpcoaaC8g
import Derived.Test.YtmkbbkpgdfpcoaaC8p
namespace Go.Proofs.Ytmkbbkpgdfpcoaa
open Go.RowKit
set_option linter.unusedVariables false
set_option linter.unusedSimpArgs false

theorem backward_any (A : Option Addr) (n c : Nat) (w : World) :
    Calls Try.prog 48 #[.slice A n c] w fun e w' =>
      e = .returned (.func (.func 55) #[] #[.pointer (some ⟨w.heap.size, 0, none⟩)]) ∧ w' = w.alloc (.cells #[.slice A n c] 23) := by
  go_enter Try.func48, Try.ntmps48
  go_wp2
  go_ret
  exact ⟨rfl, rfl⟩

attribute [local go_sem] Oper.semAt_some

set_option maxRecDepth 100000 in
set_option maxHeartbeats 1600000 in
/-- The iterator: the places of a slice from the last one on, each with its number, to whatever goes on with J. -/
theorem backward_in (m l h b off n c : Nat) (lst : List Int) (J : Nat → World → Prop) (W0 : World) (hn : n ≤ 1000)
    (hJc : ∀ k W, J k W → W.cell? ⟨h, 0, none⟩ = some (.slice (some ⟨b, off, none⟩) n c) ∧ ∀ j, j < n → W.cell? ⟨b, off + j, none⟩ = some (.int .i64 (nth lst j)))
    (hY : ∀ k W, k < n → J (k + 1) W → YieldAt Fence.wide (m - 1) Try.prog l #[.int .i64 k, .int .i64 (nth lst k)] W fun e W' => e = .returned (.bool true) ∧ J k W')
    (h0 : J n W0) :
    CallsIn Fence.wide m Try.prog 55 #[.func (.yield l) #[] #[], .pointer (some ⟨h, 0, none⟩)] W0 fun e W' => (∃ v, e = .returned v) ∧ J 0 W' := by
  refine callsIn_of_wp Try.func55 rfl trivial ?_ rfl
  simp only [Try.ntmps55, List.size_toArray, List.length_cons, List.length_nil, Nat.reduceAdd, Nat.reduceSub, Array.replicate_succ, Array.replicate_zero, List.push_toArray, List.append_toArray, List.nil_append, List.cons_append]
  have HY := hid hY; clear hY
  have HJC := hid hJc; clear hJc
  have HJ0 := hid h0; clear h0
  have hc1 := (HJC.out _ _ HJ0.out).1
  have hwd : Fence.wide.depth.isSome = false := rfl
  gi_wp2
  gi_loopw [3] (fun i wr => ∃ k : Nat, i = .int .i64 ((k : Int) - 1) ∧ k ≤ n ∧ Hid (J k wr)) (fun i _ => (intOf i + 1).toNat)
  case atStart => exact ⟨n, rfl, Nat.le_refl _, HJ0⟩
  case round =>
    obtain ⟨k, rfl, hk, HJ⟩ := hrel
    clear hc1
    by_cases hk0 : k = 0
    · subst hk0
      have HJ0' := hid HJ.out
      gi_wp2
      go_end0
      exact ⟨⟨_, rfl⟩, HJ0'.out⟩
    · obtain ⟨j, rfl⟩ : ∃ j, k = j + 1 := ⟨k - 1, by omega⟩
      have hj : ((j + 1 : Nat) : Int) - 1 = (j : Int) := by omega
      rw [hj]
      obtain ⟨hc1, hcc⟩ := HJ.out |> HJC.out _ _
      have hcj := hcc j (by omega)
      have q1 : (j : Int) < (n : Int) := by omega
      obtain ⟨fn, tmps, assign, body, hy, hRd⟩ := HY.out j _ (by omega) HJ.out
      have HR := hid hRd; clear hRd
      clear hcc hj
      obtain ⟨x, hx⟩ : ∃ x, nth lst j = x := ⟨_, rfl⟩
      rw [hx] at hcj hy
      clear hx
      gi_wp2
      refine HR.out.mono ?_
      rintro e W3 ⟨rfl, hj3⟩
      have HJ3 := hid hj3; clear hj3
      gi_wp2
      go_roundw
      case rel => exact ⟨j, by go_num, by omega, HJ3⟩
      case measure => simp [intOf]

set_option maxRecDepth 100000 in
set_option maxHeartbeats 3200000 in
theorem valueAt_yes (A : Option Addr) (n c : Nat) (l : List Int) (x : Int) (w : World) (hs : Sl w w.heap.size A n l) (hk : tapsOk l = true) (hx : -3 ≤ x ∧ x ≤ 3) :
    Calls Try.prog 29 #[.slice A n c, .int .i64 x] w fun e w' => e = .returned (.tuple #[.int .i64 (valL l x), .bool true]) ∧ Below w.heap.size w w' := by
  have HL := hid hs.len
  have hT := tapsOk_iff.1 hk
  rw [HL.out] at hT
  have HVB := hid (fun k => valL_le hk hx k)
  have HLB := hid (nth_bd (l := l) (M := 9) (by omega) hT.1)
  have h1 := hT.2.1
  have h8 := hT.2.2
  have B0 := (Below.refl w.heap.size w).alloc (Nat.le_refl _) (.cells #[.int .i64 x] 3)
  have CT := hid (tapsI_any A n c l _ _ (hs.on B0))
  rw [hk] at CT
  obtain ⟨b1, o1, rfl, hl1, hc1⟩ := hs.2.2 (by omega)
  have H1 := hid hc1
  have HB0 := hid B0
  clear hk hT hs hc1 B0
  have x0 : Boxed (w.alloc (.cells #[.int .i64 x] 3)) w.heap.size 3 (.int .i64 x) := Boxed.new _ _ _
  have hcx := x0.cell
  refine (callsIn_wide (n := 5)).1 ?_
  have hwd : Fence.wide.depth.isSome = false := rfl
  have hwr : Fence.wide.round = none := rfl
  have hf1 : Fence.wide.fn 16 := trivial
  have hf2 : Fence.wide.fn 48 := trivial
  refine callsIn_of_wp_marks Try.func29 rfl trivial ?_ rfl
  simp only [Try.ntmps29, List.size_toArray, List.length_cons, List.length_nil, Nat.reduceAdd, Nat.reduceSub, Array.replicate_succ, Array.replicate_zero, List.push_toArray, List.append_toArray, List.nil_append, List.cons_append]
  gi_wp2_with (first
    | (gi_at_call 16; refine (callsIn_wide.2 CT.out).mono ?_; rintro e w' ⟨rfl, rfl⟩)
    | (gi_at_call 48; refine (callsIn_wide.2 (backward_any _ _ _ _)).mono ?_; rintro e w' ⟨rfl, rfl⟩))
  obtain ⟨b, hb⟩ : ∃ b, w.heap.size = b := ⟨_, rfl⟩
  rw [hb] at hl1 ⊢
  obtain ⟨W0, hW0⟩ : ∃ W0 : World, ((w.alloc (.cells #[.int .i64 x] 3)).alloc (.cells #[.int .i64 0] 3)).alloc (.cells #[.slice (some ⟨b1, o1, none⟩) n c] 23) = W0 := ⟨_, rfl⟩
  rw [hW0]
  have hsz : W0.heap.size = b + 3 := by rw [← hW0]; simp [hb]
  have hb0 : Below b w W0 := by rw [← hW0, ← hb]; exact (HB0.out.alloc (by simp) _).alloc (by simp; omega) _
  have x1 : Boxed W0 b 3 (.int .i64 x) := by rw [← hW0, ← hb]; exact ((Boxed.new w _ _).alloc _).alloc _
  have x2 : Boxed W0 (b + 1) 3 (.int .i64 0) := by
    rw [← hW0, ← hb]
    have h1 := Boxed.new (w.alloc (.cells #[.int .i64 x] 3)) 3 (.int .i64 0)
    rw [World.size_alloc] at h1
    exact h1.alloc _
  have x3 : Boxed W0 (b + 1 + 1) 23 (.slice (some ⟨b1, o1, none⟩) n c) := by
    rw [← hW0, ← hb]
    have h1 := Boxed.new ((w.alloc (.cells #[.int .i64 x] 3)).alloc (.cells #[.int .i64 0] 3)) 23 (.slice (some ⟨b1, o1, none⟩) n c)
    rw [World.size_alloc, World.size_alloc] at h1
    exact h1
  clear hW0 x0 hcx HB0 CT
  have eg : ∀ args w, (callFunc 55 args).run Try.prog w = .ok (.enter 55 args) w := enters_of Try.func55 (by kernel_rfl) rfl
  refine range_bare (n := 5) rfl eg ?_
  intro rc W1 hz1 hbL hlL hdL hY
  have hbW := hb0.trans (hbL.mono (by omega))
  refine (backward_in (5 - 1) (W0.heap.size + 1) (b + 1 + 1) b1 o1 n c l
    (fun k W => W.heap[W0.heap.size + 1]? = some (.loop (rc .ready none)) ∧ W.heap[W0.heap.size]? = some (.deferred (some [])) ∧
      Boxed W b 3 (.int .i64 x) ∧ Boxed W (b + 1) 3 (.int .i64 (valL (l.drop k) x)) ∧ Boxed W (b + 1 + 1) 23 (.slice (some ⟨b1, o1, none⟩) n c) ∧ Below b w W) W1
    (by omega) ?cells ?yields
    ⟨hlL, hdL, (hbL.block _ (by omega)).trans x1, by rw [List.drop_of_length_le (by rw [HL.out]; exact Nat.le_refl _)]; exact (hbL.block _ (by omega)).trans x2, (hbL.block _ (by omega)).trans x3, hbW⟩).mono ?behind
  case cells =>
    rintro k W ⟨_, _, _, _, g6, g7⟩
    exact ⟨g6.cell, fun j hj => (g7.cell (p := ⟨b1, o1 + j, none⟩) hl1).trans (H1.out j hj)⟩
  case yields =>
    rintro k W hkn ⟨hl, hd, hxb, hv, hsl, hbe⟩
    have q0 := HLB.out k
    have q1 := HVB.out (k + 1)
    have hp := prod3 hx q1
    have HV := hid (show valL (l.drop k) x = valL (l.drop (k + 1)) x * x + nth l k from by rw [List.drop_eq_getElem_cons (show k < l.length by rw [HL.out]; omega), nth_lt (by rw [HL.out]; omega)]; rfl)
    obtain ⟨s, hs⟩ : ∃ s, valL (l.drop (k + 1)) x = s := ⟨_, rfl⟩
    obtain ⟨y, hy⟩ : ∃ y, nth l k = y := ⟨_, rfl⟩
    rw [hs] at HV q1 hp hv
    rw [hy] at HV q0 ⊢
    obtain ⟨p, hpe⟩ : ∃ p, s * x = p := ⟨_, rfl⟩
    have w1 : IntKind.i64.wrap (s * x) = p := by rw [hpe]; exact IntWalk.i64_in _ (by rw [hpe] at hp; omega)
    rw [hpe] at hp HV
    have w2 : IntKind.i64.wrap (p + y) = p + y := IntWalk.i64_in _ (by omega)
    clear hs hy hpe
    refine hY #[.int .i64 k, .int .i64 y] W _ rfl hl ⟨?a1, ?w1, ?assign, ?ready, ?body⟩
    case assign =>
      intro K hK
      gi_wp2
      exact hK
    case ready => exact hl
    have hsW : w.heap.size ≤ W.heap.size := by have := hbe.size; omega
    have hlW : W0.heap.size + 1 < W.heap.size := (Array.getElem?_eq_some_iff.1 hl).1
    obtain ⟨Wb, hWb⟩ : ∃ Wb, W.putObj (W0.heap.size + 1) (.loop (rc .busy none)) = Wb := ⟨_, rfl⟩
    rw [hWb]
    have lb : Wb.heap[W0.heap.size + 1]? = some (.loop (rc .busy none)) := by rw [← hWb]; exact World.putObj_heap_same hlW
    have db : Wb.heap[W0.heap.size]? = some (.deferred (some [])) := by rw [← hWb]; exact (World.putObj_heap_other (by omega)).trans hd
    have xb : Boxed Wb b 3 (.int .i64 x) := by rw [← hWb]; exact boxed_putX hxb _ (by omega)
    have vb : Boxed Wb (b + 1) 3 (.int .i64 s) := by rw [← hWb]; exact boxed_putX hv _ (by omega)
    have sb : Boxed Wb (b + 1 + 1) 23 (.slice (some ⟨b1, o1, none⟩) n c) := by rw [← hWb]; exact boxed_putX hsl _ (by omega)
    have bb : Below b w Wb := by rw [← hWb]; exact below_putX hbe _ (by omega) (by have := hbe.size; omega)
    have xc := xb.cell
    have vc := vb.cell
    have vf := vb.frozen
    have HSZ := hid hsz
    have XB := hid xb
    have VB := hid vb
    have SB := hid sb
    have BB := hid bb
    clear hl hd hxb hv hsl hbe hWb hsz xb vb sb bb
    gi_wp2
    have hz3 := HSZ.out
    have hK3 := KeepsOthers.setCell Wb ⟨b + 1, 0, none⟩ (.int .i64 (p + y))
    have hl3 := hK3.same _ _ lb rfl
    have hd3 := hK3.same _ _ db rfl
    have b3 := BB.out.setCell (p := ⟨b + 1, 0, none⟩) (show b ≤ b + 1 by omega) (.int .i64 (p + y))
    have f3 : Boxed (Wb.setCell ⟨b + 1, 0, none⟩ (.int .i64 (p + y))) b 3 (.int .i64 x) := (heap_setCell_other Wb ⟨b + 1, 0, none⟩ b _ (by simp)).trans XB.out
    have s3 : Boxed (Wb.setCell ⟨b + 1, 0, none⟩ (.int .i64 (p + y))) (b + 1 + 1) 23 (.slice (some ⟨b1, o1, none⟩) n c) := (heap_setCell_other Wb ⟨b + 1, 0, none⟩ (b + 1 + 1) _ (by simp)).trans SB.out
    exact ⟨hl3, rfl, World.putObj_heap_same (Array.getElem?_eq_some_iff.1 hl3).1, (World.putObj_heap_other (by omega)).trans hd3, boxed_putX f3 _ (by omega), by rw [HV.out]; exact boxed_putX (VB.out.set _) _ (by omega), boxed_putX s3 _ (by omega), below_putX b3 _ (by omega) (by have := b3.size; omega)⟩
  case behind =>
    rintro e W' ⟨hv, hl, hd, hxb, hv2, hsl, hbe⟩
    refine ⟨hv, .inl ⟨hl, fun o => ?_⟩⟩
    obtain ⟨W2, hW2⟩ : ∃ W2, W'.putObj (W0.heap.size + 1) o = W2 := ⟨_, rfl⟩
    rw [hW2]
    rw [List.drop_zero] at hv2
    have hcv : W2.cell? ⟨b + 1, 0, none⟩ = some (.int .i64 (valL l x)) := by rw [← hW2]; exact (boxed_putX hv2 _ (by omega)).cell
    have hK2 : W2.heap[W0.heap.size]? = some (.deferred (some [])) := by rw [← hW2]; exact (World.putObj_heap_other (by omega)).trans hd
    have hb2 : Below b w W2 := by rw [← hW2]; exact below_putX hbe _ (by omega) (by have := hbe.size; omega)
    have HSZ := hid hsz
    clear hW2 hbe hl hd hv2 hxb hsl hsz
    gi_wp2
    refine ⟨by simp, .inl ⟨_, _, rfl, run_takeDeferred hK2, ?_⟩⟩
    exact ⟨_, results_tmp2 rfl _ _ _, rfl, below_putX hb2 _ (by rw [HSZ.out]; omega) (by have := hb2.size; omega)⟩

set_option maxHeartbeats 1600000 in
theorem implValueAt_any (A : Option Addr) (n c : Nat) (l : List Int) (x : Int) (w : World) (hs : Sl w w.heap.size A n l) :
    Calls Try.prog 29 #[.slice A n c, .int .i64 x] w fun e w' => e = .returned (valOut l x) ∧ Below w.heap.size w w' := by
  have hb0 := hid (show Below w.heap.size w (w.alloc (.cells #[.int .i64 x] 3)) from (Below.refl _ _).alloc (Nat.le_refl _) _)
  have CT := hid (tapsI_any A n c l _ _ (hs.on hb0.out))
  have hcx := (Boxed.new w 3 (.int .i64 x)).cell
  cases hk : tapsOk l with
  | false =>
    have HO := hid (show valOut l x = .tuple #[.int .i64 0, .bool false] from by unfold valOut valOk; rw [hk]; rfl)
    rw [hk] at CT
    clear hk hs
    go_enter Try.func29, Try.ntmps29
    go_wp2_with (go_at_call 16; refine CT.out.mono ?_; rintro e w' ⟨rfl, rfl⟩)
    go_ret2
    exact ⟨by rw [HO.out]; rfl, hb0.out⟩
  | true =>
    by_cases hx : -3 ≤ x ∧ x ≤ 3
    · rw [show valOut l x = .tuple #[.int .i64 (valL l x), .bool true] from by unfold valOut valOk; rw [hk, within_iff.2 hx]; rfl]
      exact valueAt_yes A n c l x w hs hk hx
    · have HO := hid (show valOut l x = .tuple #[.int .i64 0, .bool false] from by
        have h0 : within x (-3) 3 = false := by cases h : within x (-3) 3 with
          | false => rfl
          | true => exact absurd (within_iff.1 h) hx
        unfold valOut valOk; rw [h0, Bool.and_false]; rfl)
      rw [hk] at CT
      clear hk hs
      by_cases h1 : x < -3
      · have h1' : decide (x < -3) = true := by simpa using h1
        go_enter Try.func29, Try.ntmps29
        go_wp2_with (go_at_call 16; refine CT.out.mono ?_; rintro e w' ⟨rfl, rfl⟩)
        go_ret2
        exact ⟨by rw [HO.out]; rfl, hb0.out⟩
      · have h2 : x > 3 := by omega
        have h2' : decide (3 < x) = true := by simpa using h2
        have h1' : decide (x < -3) = false := by simpa using h1
        go_enter Try.func29, Try.ntmps29
        go_wp2_with (go_at_call 16; refine CT.out.mono ?_; rintro e w' ⟨rfl, rfl⟩)
        go_ret2
        exact ⟨by rw [HO.out]; rfl, hb0.out⟩
end Go.Proofs.Ytmkbbkpgdfpcoaa
