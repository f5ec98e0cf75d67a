/-
  Walks of the model's TapsOk, InOk, l8Step and FedOf. No statement is proved here.
-/
import Derived.Test.YtmkbbkpgdfpcoaaS8
import Derived.Test.YtmkbbkpgdfpcoaaEx0
import Derived.OwnWalk
import Derived.IntWalk
namespace Go.Proofs.Ytmkbbkpgdfpcoaa
open Go.RowKit
set_option linter.unusedVariables false
set_option linter.unusedSimpArgs false

set_option maxHeartbeats 800000 in
theorem specTapsOk_any (A : Option Addr) (n c : Nat) (l : List Int) (w : World) (B : Nat) (hs : Sl w B A n l) :
    Calls Try.prog 17 #[.slice A n c] w fun e w' => e = .returned (.bool (tapsOk l)) ∧ w = w' := by
  have hm := hs.max
  have HL := hid hs.len
  go_enter Try.func17, Try.ntmps17
  go_wp2
  go_loop [3] (fun i => ∃ k : Nat, k ≤ n ∧ i = .int .i64 k ∧ allIn (l.take k) (-9) 9 = true) (fun i => n - (intOf i).toNat)
  case atStart => exact ⟨0, Nat.zero_le _, rfl, rfl⟩
  case round =>
    obtain ⟨k, hk, rfl, hall⟩ := hrel
    have HA := hid hall; clear hall
    by_cases hlt : k < n
    · obtain ⟨b, off, rfl, _, hc⟩ := hs.2.2 (by omega)
      have hck := hc k hlt
      clear hc
      by_cases h1 : within (nth l k) (-9) 9 = true
      · go_wp2_with (go_at_call 42; refine (l1In_any _ _ _ _).mono ?_; rintro e w' ⟨rfl, rfl⟩)
        go_round
        case rel => exact ⟨k + 1, by omega, by go_num, by rw [take_nth (by rw [HL.out]; exact hlt), allIn_snoc, HA.out]; exact h1⟩
        case measure => simp [intOf]; omega
      · have h1' : within (nth l k) (-9) 9 = false := by simpa using h1
        go_wp2_with (go_at_call 42; refine (l1In_any _ _ _ _).mono ?_; rintro e w' ⟨rfl, rfl⟩)
        go_ret
        refine ⟨ret_bool ?_, rfl⟩
        have : allIn l (-9) 9 = false := by
          apply allIn_take_false (k := k + 1)
          rw [take_nth (by rw [HL.out]; exact hlt), allIn_snoc, HA.out]; exact h1'
        simp [tapsOk, this]
    · have hA : allIn l (-9) 9 = true := by have := HA.out; rwa [List.take_of_length_le (by rw [HL.out]; omega)] at this
      have HF := hid (show tapsOk l = within (n : Int) 1 8 from by unfold tapsOk; rw [hA, HL.out]; rfl)
      clear hA
      go_wp2_with (go_at_call 42; refine (l1In_any _ _ _ _).mono ?_; rintro e w' ⟨rfl, rfl⟩)
      go_ret
      exact ⟨ret_bool HF.out.symm, rfl⟩

set_option maxHeartbeats 800000 in
theorem specInOk_any (A : Option Addr) (n c : Nat) (l : List Int) (w : World) (B : Nat) (hs : Sl w B A n l) :
    Calls Try.prog 21 #[.slice A n c] w fun e w' => e = .returned (.bool (inOk l)) ∧ w = w' := by
  have hm := hs.max
  have HL := hid hs.len
  go_enter Try.func21, Try.ntmps21
  go_wp2
  go_loop [3] (fun i => ∃ k : Nat, k ≤ n ∧ i = .int .i64 k ∧ allIn (l.take k) (-99) 99 = true) (fun i => n - (intOf i).toNat)
  case atStart => exact ⟨0, Nat.zero_le _, rfl, rfl⟩
  case round =>
    obtain ⟨k, hk, rfl, hall⟩ := hrel
    have HA := hid hall; clear hall
    by_cases hlt : k < n
    · obtain ⟨b, off, rfl, _, hc⟩ := hs.2.2 (by omega)
      have hck := hc k hlt
      clear hc
      by_cases h1 : within (nth l k) (-99) 99 = true
      · go_wp2_with (go_at_call 42; refine (l1In_any _ _ _ _).mono ?_; rintro e w' ⟨rfl, rfl⟩)
        go_round
        case rel => exact ⟨k + 1, by omega, by go_num, by rw [take_nth (by rw [HL.out]; exact hlt), allIn_snoc, HA.out]; exact h1⟩
        case measure => simp [intOf]; omega
      · have h1' : within (nth l k) (-99) 99 = false := by simpa using h1
        go_wp2_with (go_at_call 42; refine (l1In_any _ _ _ _).mono ?_; rintro e w' ⟨rfl, rfl⟩)
        go_ret
        refine ⟨ret_bool ?_, rfl⟩
        have : allIn l (-99) 99 = false := by
          apply allIn_take_false (k := k + 1)
          rw [take_nth (by rw [HL.out]; exact hlt), allIn_snoc, HA.out]; exact h1'
        simp [inOk, this]
    · have hA : allIn l (-99) 99 = true := by have := HA.out; rwa [List.take_of_length_le (by rw [HL.out]; omega)] at this
      have HF := hid (show inOk l = decide ((n : Int) ≤ 16) from by unfold inOk; rw [hA, HL.out]; rfl)
      clear hA
      go_wp2
      go_ret
      exact ⟨ret_bool HF.out.symm, rfl⟩

theorem drewN_g8 (w : World) (m : Nat) : w.grownBy (w.drewN m) none := ⟨rfl, rfl, rfl, Nat.le_refl _, fun _ _ _ => rfl⟩
theorem prod9 {t x M : Int} (ht : -9 ≤ t ∧ t ≤ 9) (hx : -M ≤ x ∧ x ≤ M) : -(9 * M) ≤ t * x ∧ t * x ≤ 9 * M := by
  have h1 : t = -9 ∨ t = -8 ∨ t = -7 ∨ t = -6 ∨ t = -5 ∨ t = -4 ∨ t = -3 ∨ t = -2 ∨ t = -1 ∨ t = 0 ∨ t = 1 ∨ t = 2 ∨ t = 3 ∨ t = 4 ∨ t = 5 ∨ t = 6 ∨ t = 7 ∨ t = 8 ∨ t = 9 := by omega
  rcases h1 with rfl | rfl | rfl | rfl | rfl | rfl | rfl | rfl | rfl | rfl | rfl | rfl | rfl | rfl | rfl | rfl | rfl | rfl | rfl <;> omega

set_option maxRecDepth 100000 in
set_option maxHeartbeats 1600000 in
/-- One step of the row: h becomes g. -/
theorem l8Step_any (A A1 : Option Addr) (n c c1 : Nat) (l h g : List Int) (x : Int) (w : World) (hs : Sl w w.heap.size A n l) (hs1 : Sl w w.heap.size A1 n h) (h1 : 1 ≤ n) (hn : n ≤ 8)
    (hl : ∀ k, -9 ≤ nth l k ∧ nth l k ≤ 9) (hh : ∀ k, -7128 ≤ nth h k ∧ nth h k ≤ 7128) (hx : -99 ≤ x ∧ x ≤ 99) (hg : g.length = n) (hgk : ∀ k, k < n → nth g k = nth h (k + 1) + nth l k * x) :
    Calls Try.prog 46 #[.slice A n c, .slice A1 n c1, .int .i64 x] w fun e w' => ∃ A2 c2, e = .returned (.tuple #[.slice A2 n c2, .int .i64 (nth g 0)]) ∧ w'.ownsRow w.heap.size 3 1 (.slice A2 n c2) n (ints g) ∧ Below w.heap.size w w' := by
  obtain ⟨i0, hi, hz0, hz1, hz2⟩ := info_parts info_int
  have ho0 : (w.alloc (.cells #[] 3)).ownsRow w.heap.size 3 1 (.slice (some ⟨w.heap.size, 0, none⟩) 0 0) 0 (ints []) := World.ownsRow_lit w #[] 0 (Nat.le_refl _) (by simp [maxLen]) rfl
  have hb0 := hid (show Below w.heap.size w (w.alloc (.cells #[] 3)) from (Below.refl _ _).alloc (Nat.le_refl _) _)
  have HS := hid hs
  have HS1 := hid hs1
  have HLB := hid hl
  have HHB := hid hh
  have HG := hid hgk
  have HGL := hid hg
  have hm := hs.max
  clear hs hs1 hl hh hgk hg
  go_enter Try.func46, Try.ntmps46
  go_wp2
  go_loopw [8, 9] (fun v i wr => ∃ (A2 : Option Addr) (c2 k : Nat), v = .slice A2 k c2 ∧ i = .int .i64 k ∧ k ≤ n ∧ wr.ownsRow w.heap.size 3 1 (.slice A2 k c2) k (ints (g.take k)) ∧ Hid (Below w.heap.size w wr)) (fun _ i _ => n - (intOf i).toNat)
  case atStart => exact ⟨_, _, 0, rfl, rfl, Nat.zero_le _, ho0, hb0⟩
  case round =>
    clear ho0 hb0
    obtain ⟨A2, c2, k, rfl, rfl, hk, ho, HB⟩ := hrel
    have hbw := HB.out.size
    by_cases hlt : k < n
    · obtain ⟨b, off, rfl, _, hc⟩ := (HS.out.below HB.out).2.2 (by omega)
      obtain ⟨b1, off1, rfl, _, hc1⟩ := (HS1.out.below HB.out).2.2 (by omega)
      have x0 := hc k hlt
      have q0 := HLB.out k
      have q1 := HHB.out (k + 1)
      have hp := prod9 (M := 99) q0 hx
      have HT := hid (show g.take (k + 1) = g.take k ++ [nth h (k + 1) + nth l k * x] from by rw [take_nth (by rw [HGL.out]; exact hlt), HG.out k hlt])
      obtain ⟨t, ht⟩ : ∃ t, nth l k = t := ⟨_, rfl⟩
      rw [ht] at x0 q0 hp HT
      have hlti : (k : Int) < (n : Int) := by omega
      have w1 : IntKind.i64.wrap (t * x) = t * x := IntWalk.i64_in _ (by omega)
      clear ht hc
      by_cases hk1 : k + 1 < n
      · have y0 := hc1 (k + 1) hk1
        obtain ⟨u, hu⟩ : ∃ u, nth h (k + 1) = u := ⟨_, rfl⟩
        rw [hu] at y0 q1 HT
        obtain ⟨p, hpe⟩ : ∃ p, t * x = p := ⟨_, rfl⟩
        rw [hpe] at w1 hp HT
        have hk1i : (k : Int) + 1 < (n : Int) := by omega
        have y0' : wr.cell? ⟨b1, off1 + k + 1, none⟩ = some (.int .i64 u) := by rw [show off1 + k + 1 = off1 + (k + 1) from by omega]; exact y0
        clear hu hc1
        go_wp2_with (at_builtin; refine wpList_append_own _ rfl _ _ 23 rfl w.heap.size 3 i0 (.int .i64 0) 1 8 Try.underlying23 hi hz0 hz1 hz2 rfl (by decide) (.slice A2 k c2) _ _ rfl (ho.alloc _) ⟨wr.heap.size, 0, none⟩ 1 1 [.int .i64 (u + p)] rfl rfl (cell_one_new _ _ _) (by simp [Value.oneCell']) (by simp only [maxLen]; omega) (by omega) (by simp; omega) ?_; intro v2 w4 o4 g4 _)
        obtain ⟨A3, c3, rfl, o5, b5⟩ := pushedB HB.out (Nat.le_refl _) hbw (own_blk ho) o4 g4
        rw [← HT.out] at o5
        have O5 := hid o5
        have B5 := hid b5
        clear o4 g4 ho HB o5 b5
        go_wp2
        go_roundw
        case rel => exact ⟨A3, c3, k + 1, rfl, by go_num, by omega, O5.out, B5⟩
        case measure => simp [intOf]; omega
      · have hz : nth h (k + 1) = 0 := nth_ge (by rw [HS1.out.len]; omega)
        rw [hz, Int.zero_add] at HT
        obtain ⟨p, hpe⟩ : ∃ p, t * x = p := ⟨_, rfl⟩
        rw [hpe] at w1 hp HT
        have hk1i : decide ((k : Int) + 1 < (n : Int)) = false := by simp; omega
        clear hz hc1 q1
        go_wp2_with (at_builtin; refine wpList_append_own _ rfl _ _ 23 rfl w.heap.size 3 i0 (.int .i64 0) 1 8 Try.underlying23 hi hz0 hz1 hz2 rfl (by decide) (.slice A2 k c2) _ _ rfl (ho.alloc _) ⟨wr.heap.size, 0, none⟩ 1 1 [.int .i64 p] rfl rfl (cell_one_new _ _ _) (by simp [Value.oneCell']) (by simp only [maxLen]; omega) (by omega) (by simp; omega) ?_; intro v2 w4 o4 g4 _)
        obtain ⟨A3, c3, rfl, o5, b5⟩ := pushedB HB.out (Nat.le_refl _) hbw (own_blk ho) o4 g4
        rw [← HT.out] at o5
        have O5 := hid o5
        have B5 := hid b5
        clear o4 g4 ho HB o5 b5
        go_wp2
        go_roundw
        case rel => exact ⟨A3, c3, k + 1, rfl, by go_num, by omega, O5.out, B5⟩
        case measure => simp [intOf]; omega
    · obtain rfl : k = n := by omega
      rw [List.take_of_length_le (by rw [HGL.out]; omega)] at ho
      have HO := hid ho
      obtain ⟨k, rfl⟩ : ∃ q, k = q + 1 := ⟨k - 1, by omega⟩
      obtain ⟨gb, cg, hs0, _, _⟩ := own_shape ho
      injection hs0 with e1 e2 e3
      subst e1
      have hc0 := own_cell ho HGL.out (show 0 < k + 1 by omega)
      clear ho e3
      have hk0 : (0 : Int) < (k : Int) + 1 := by omega
      have hk00 : 0 < k + 1 := by omega
      go_wp2
      go_quiet (fail)
      go_wp2
      go_ret2
      exact ⟨_, _, rfl, own_kept_none HO.out (drewN_g8 wr nq), below_drewN HB.out nq⟩

set_option maxRecDepth 100000 in
set_option maxHeartbeats 1600000 in
theorem specFedOf_any (A A1 : Option Addr) (n c n1 c1 : Nat) (l xs : List Int) (w : World) (hs : Sl w w.heap.size A n l) (hs1 : Sl w w.heap.size A1 n1 xs) :
    Calls Try.prog 25 #[.slice A n c, .slice A1 n1 c1] w fun e w' => ∃ A2 m c2, e = .returned (.slice A2 m c2) ∧ w'.ownsRow w.heap.size 3 1 (.slice A2 m c2) m (ints (fedOut l xs)) ∧ m ≤ 16 ∧ Below w.heap.size w w' := by
  obtain ⟨i0, hi, hz0, hz1, hz2⟩ := info_parts info_int
  have ho0 : (w.alloc (.cells #[] 3)).ownsRow w.heap.size 3 1 (.slice (some ⟨w.heap.size, 0, none⟩) 0 0) 0 (ints []) := World.ownsRow_lit w #[] 0 (Nat.le_refl _) (by simp [maxLen]) rfl
  have hb0 : Below w.heap.size w (w.alloc (.cells #[] 3)) := (Below.refl _ _).alloc (Nat.le_refl _) _
  have HL := hid hs.len
  have HL1 := hid hs1.len
  have hm1 := hs1.max
  have hm0 := hs.max
  have CT := hid (specTapsOk_any A n c l (w.alloc (.cells #[] 3)) _ (hs.on hb0))
  have CI := hid (specInOk_any A1 n1 c1 xs (w.alloc (.cells #[] 3)) _ (hs1.on hb0))
  cases hk : tapsOk l with
  | false =>
    have HO := hid (show fedOut l xs = [] from by unfold fedOut; rw [hk]; rfl)
    rw [hk] at CT
    clear hk
    go_enter Try.func25, Try.ntmps25
    go_wp2_with (go_at_call 17; refine CT.out.mono ?_; rintro e w' ⟨rfl, rfl⟩)
    go_ret
    exact ⟨_, 0, _, rfl, by rw [HO.out]; exact ho0, by omega, hb0⟩
  | true =>
    rw [hk] at CT
    cases hk2 : inOk xs with
    | false =>
      have HO := hid (show fedOut l xs = [] from by unfold fedOut; rw [hk2]; simp)
      rw [hk2] at CI
      clear hk hk2
      go_enter Try.func25, Try.ntmps25
      go_wp2_with (first | (go_at_call 17; refine CT.out.mono ?_; rintro e w' ⟨rfl, rfl⟩) | (go_at_call 21; refine CI.out.mono ?_; rintro e w' ⟨rfl, rfl⟩))
      go_ret
      exact ⟨_, 0, _, rfl, by rw [HO.out]; exact ho0, by omega, hb0⟩
    | true =>
      have HO := hid (show fedOut l xs = fedL l xs from by unfold fedOut; rw [hk, hk2]; rfl)
      rw [hk2] at CI
      have hT := tapsOk_iff.1 hk
      have hI := inOk_iff.1 hk2
      rw [HL.out] at hT
      rw [HL1.out] at hI
      have HLB := hid (nth_bd (l := l) (M := 9) (by omega) hT.1)
      have HXB := hid (nth_bd (l := xs) (M := 99) (by omega) hI.1)
      have HHB := hid (fun t k => heldL_bd (a := l) (f := nth xs) (M := 99) (by omega) hT.1 (by rw [HL.out]; exact hT.2.2) HXB.out t k)
      have h1 : 1 ≤ n := hT.2.1
      have h8 : n ≤ 8 := hT.2.2
      have h16 : n1 ≤ 16 := hI.2
      clear hk hk2 hT hI
      go_enter Try.func25, Try.ntmps25
      go_wp2_with (first
        | (go_at_call 17; refine CT.out.mono ?_; rintro e w' ⟨rfl, rfl⟩)
        | (go_at_call 21; refine CI.out.mono ?_; rintro e w' ⟨rfl, rfl⟩)
        | (refine wpList_make_full _ rfl (.tmp 21) (.tmp 21) 23 rfl (w.heap.size + 1) 3 i0 _ 1 Try.underlying23 hi hz0 hz1 .i64 .i64 n n n rfl rfl rfl rfl (by rw [hz2]; omega) (by simp only [maxLen]; omega) (by simp) ?_; intro w2 oH gH; rw [madeInts] at oH))
      have oO := hid (own_kept_none ho0 gH)
      have BO := hid (hb0.grown gH (by simp) (by intro k hk; cases hk))
      have hz2' := gH.size
      have HSP := hid (fun (W : World) (hb : Below w.heap.size w W) => hs.on hb)
      have HSX := hid (fun (W : World) (hb : Below w.heap.size w W) => hs1.on hb)
      have oH2 : w2.ownsRow w.heap.size 3 1 (.slice (some ⟨w.heap.size + 1, 0, none⟩) n n) n (ints (heldL l (nth xs) 0)) := by
        rw [show heldL l (nth xs) 0 = List.replicate n 0 from by rw [← HL.out]; rfl]
        exact own_mono (by simpa using oH) (by omega)
      have OH := hid oH2
      clear ho0 hb0 gH oH oH2 CT CI hs hs1
      go_loopw [5, 6, 7] (fun v u i wr => ∃ (A2 A3 : Option Addr) (c2 c3 k : Nat), v = .slice A2 k c2 ∧ u = .slice A3 n c3 ∧ i = .int .i64 k ∧ k ≤ n1 ∧ Hid (wr.ownsRow w.heap.size 3 1 (.slice A2 k c2) k (ints ((fedL l xs).take k))) ∧ Hid (wr.ownsRow w.heap.size 3 1 (.slice A3 n c3) n (ints (heldL l (nth xs) k))) ∧ Hid (Below w.heap.size w wr)) (fun _ _ i _ => n1 - (intOf i).toNat)
      case atStart => exact ⟨_, _, _, _, 0, rfl, rfl, rfl, Nat.zero_le _, oO, OH, BO⟩
      case round =>
        clear oO OH BO hz2'
        obtain ⟨A2, A3, c2, c3, k, rfl, rfl, rfl, hk, OO, OH, BB⟩ := hrel
        have hbw := BB.out.size
        by_cases hlt : k < n1
        · obtain ⟨b, off, rfl, _, hc⟩ := (HSX.out wr BB.out).2.2 (by omega)
          have x0 := hc k hlt
          have xb := HXB.out k
          clear hc
          have CS := hid (l8Step_any A A3 n c c3 l (heldL l (nth xs) k) (heldL l (nth xs) (k + 1)) (nth xs k) wr (HSP.out wr BB.out) (Sl.of_own OH.out) h1 h8 HLB.out (fun j => by have := HHB.out k j; omega) xb (by rw [heldL_len, HL.out]) (fun j hj => by rw [heldL_at (by rw [HL.out]; exact hj), Int.add_comm]))
          rw [heldL_out (by rw [HL.out]; exact h1)] at CS
          have HT := hid (show (fedL l xs).take (k + 1) = (fedL l xs).take k ++ [cF l (nth xs) k] from by rw [take_nth (by rw [fedL_len, HL1.out]; exact hlt), nth_fedL (by rw [HL1.out]; exact hlt)])
          obtain ⟨y, hy⟩ : ∃ y, cF l (nth xs) k = y := ⟨_, rfl⟩
          obtain ⟨x, hx⟩ : ∃ x, nth xs k = x := ⟨_, rfl⟩
          rw [hy] at CS HT
          rw [hx] at CS x0 xb
          clear hy hx
          have hlti : (k : Int) < (n1 : Int) := by omega
          go_wp2_with fail
          with_reducible refine Calls.mono CS.out ?_
          rintro e w3 ⟨A4, c4, rfl, o4, b4⟩
          have hs4 := b4.size
          have oO := own_on OO.out b4
          have BB3 := BB.out.trans (b4.mono hbw)
          have hap : (Value.slice A4 n c4).ownBlock = none ∨ (Value.slice A4 n c4).ownBlock ≠ (Value.slice A2 k c2).ownBlock := own_apart (own_lo o4) (own_hi o4) (own_lo OO.out) (own_hi OO.out) (.inr (Nat.le_refl _))
          have HAP := hid hap
          clear hap CS b4 OH
          go_wp2_with (at_builtin; refine wpList_append_own _ rfl _ _ 23 rfl w.heap.size 3 i0 (.int .i64 0) 1 8 Try.underlying23 hi hz0 hz1 hz2 rfl (by decide) (.slice A2 k c2) _ _ rfl (oO.alloc _) ⟨w3.heap.size, 0, none⟩ 1 1 [.int .i64 y] rfl rfl (cell_one_new _ _ _) (by simp [Value.oneCell']) (by simp only [maxLen]; omega) (by omega) (by simp; omega) ?_; intro v2 w5 o5 g5 _)
          have oH5 := hid (own_mono (base' := w.heap.size) ((own_kept_none o4 (grown_alloc w3 (.cells #[.int .i64 y] 3) none)).kept g5 HAP.out) (by omega))
          obtain ⟨A6, c6, rfl, o6, b6⟩ := pushedB BB3 (Nat.le_refl _) (by omega) (own_blk oO) o5 g5
          rw [← HT.out] at o6
          have O6 := hid o6
          have B6 := hid b6
          clear o5 g5 oO o4 o6 b6 BB3 BB OO
          go_wp2
          go_roundw
          case rel => exact ⟨A6, A4, c6, c4, k + 1, rfl, rfl, by go_num, by omega, O6, oH5, B6⟩
          case measure => simp [intOf]; omega
        · obtain rfl : k = n1 := by omega
          have hfin := OO.out
          rw [List.take_of_length_le (by rw [fedL_len, HL1.out]; omega), ← HO.out] at hfin
          have HF := hid hfin
          clear hfin OO
          go_wp2
          go_ret
          exact ⟨_, _, _, rfl, HF.out, h16, BB.out⟩
end Go.Proofs.Ytmkbbkpgdfpcoaa
