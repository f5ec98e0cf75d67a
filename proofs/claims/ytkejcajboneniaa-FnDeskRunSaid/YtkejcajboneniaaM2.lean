/-
  Texts put together: C10 C10a S7 S7v C1 C7 C7a Nest NestX S11 S11b S12. No statement is proved here.
-/
import Derived.Test.YtkejcajboneniaaM1
import Derived.OwnWalk
import Derived.IntWalk
import Derived.BigQuiet
import Derived.Deep.QuietTactic
import Derived.Deep.RegionHeld3
import Derived.Lib.MinMax
namespace Go.Proofs.Ytkejcajboneniaa
open Go.RowKit
set_option linter.unusedVariables false
set_option linter.unusedSimpArgs false

theorem drewN_gA (w : World) (m : Nat) : w.grownBy (w.drewN m) none := ⟨rfl, rfl, rfl, Nat.le_refl _, fun _ _ _ => rfl⟩

set_option maxHeartbeats 800000 in
theorem specBitsOk_any (A : Option Addr) (n c : Nat) (l : List Int) (w : World) (B : Nat) (hs : Sl w B A n l) :
    Calls Try.prog 44 #[.slice A n c] w fun e w' => e = .returned (.bool (bitsOk l)) ∧ w = w' := by
  have hm := hs.max
  have HL := hid hs.len
  go_enter Try.func44, Try.ntmps44
  go_wp2
  go_loop [3] (fun i => ∃ k : Nat, k ≤ n ∧ i = .int .i64 k ∧ allIn (l.take k) 0 1 = true) (fun i => n - (intOf i).toNat)
  case atStart => exact ⟨0, Nat.zero_le _, rfl, rfl⟩
  case round =>
    obtain ⟨k, hk, rfl, hall⟩ := hrel
    have HA := hid hall; clear hall
    by_cases hlt : k < n
    · obtain ⟨b, off, rfl, _, hc⟩ := hs.2.2 (by omega)
      have hck := hc k hlt
      have hlti : (k : Int) < (n : Int) := by omega
      clear hc
      cases h1 : within (nth l k) 0 1 with
      | true =>
        have HA2 := hid (show allIn (l.take (k + 1)) 0 1 = true from by rw [take_nth (by rw [HL.out]; exact hlt), allIn_snoc, HA.out]; exact h1)
        go_wp2_with (go_at_call 68; refine (l1In_any _ _ _ _).mono ?_; rintro e w' ⟨rfl, rfl⟩)
        go_round
        case rel => exact ⟨k + 1, by omega, by go_num, HA2.out⟩
        case measure => simp [intOf]; omega
      | false =>
        have HF := hid (show bitsOk l = false from by
          unfold bitsOk
          rw [allIn_take_false (k := k + 1) (by rw [take_nth (by rw [HL.out]; exact hlt), allIn_snoc, HA.out]; exact h1)]; rfl)
        go_wp2_with (go_at_call 68; refine (l1In_any _ _ _ _).mono ?_; rintro e w' ⟨rfl, rfl⟩)
        go_ret
        exact ⟨ret_bool HF.out.symm, rfl⟩
    · have HT := hid (show bitsOk l = within (n : Int) 1 16 from by
        have := HA.out
        rw [List.take_of_length_le (by rw [HL.out]; omega)] at this
        unfold bitsOk
        rw [this, HL.out, Bool.true_and])
      go_wp2_with (go_at_call 68; refine (l1In_any _ _ _ _).mono ?_; rintro e w' ⟨rfl, rfl⟩)
      go_ret
      exact ⟨ret_bool HT.out.symm, rfl⟩

theorem far_take {l : List Int} {a k : Nat} (h : k < l.length) : (farL a l).take (k + 1) = (farL a l).take k ++ [nth (farL a l) k] := take_nth (by rw [farL_len]; exact h)

set_option maxRecDepth 100000 in
set_option maxHeartbeats 3200000 in
theorem l10Sum_any (A : Option Addr) (n c : Nat) (l : List Int) (a : Nat) (w : World) (hs : Sl w w.heap.size A n l) (h1 : 1 ≤ n) (hn : n ≤ 16) (hb : ∀ x ∈ l, x = 0 ∨ x = 1) (ha : a ≤ 100000) :
    Calls Try.prog 89 #[.slice A n c, .int .i64 a] w fun e w' => ∃ A2 c2, e = .returned (.slice A2 n c2) ∧ w'.ownsRow w.heap.size 3 1 (.slice A2 n c2) n (ints (farL a l)) ∧ Below w.heap.size w w' := by
  obtain ⟨i0, hi, hz0, hz1, hz2⟩ := info_parts info_int
  have ho0 : (w.alloc (.cells #[] 3)).ownsRow w.heap.size 3 1 (.slice (some ⟨w.heap.size, 0, none⟩) 0 0) 0 (ints []) := World.ownsRow_lit w #[] 0 (Nat.le_refl _) (by simp [maxLen]) rfl
  have hb0 : Below w.heap.size w (w.alloc (.cells #[] 3)) := (Below.refl _ _).alloc (Nat.le_refl _) _
  have HL := hid hs.len
  have HX := hid (fun k => bit_nth hb k)
  have han : a % n < n := Nat.mod_lt _ (by omega)
  obtain ⟨r, hr⟩ : ∃ r, a % n = r := ⟨_, rfl⟩
  have HR := hid hr
  rw [hr] at han
  clear hr
  have m0 : (a : Int).tmod (n : Int) = (r : Int) := by rw [Int.tmod_eq_emod_of_nonneg (by omega), ← HR.out]; exact (Int.natCast_emod a n).symm
  go_enter Try.func89, Try.ntmps89
  go_wp2
  go_loopw [5, 7] (fun v i wr => ∃ (A1 : Option Addr) (c1 k : Nat), v = .slice A1 k c1 ∧ i = .int .i64 k ∧ k ≤ n ∧ wr.ownsRow w.heap.size 3 1 (.slice A1 k c1) k (ints ((farL a l).take k)) ∧ Hid (Below w.heap.size w wr)) (fun _ i _ => n - (intOf i).toNat)
  case atStart => exact ⟨_, _, 0, rfl, rfl, Nat.zero_le _, ho0, hid hb0⟩
  case round =>
    clear ho0 hb0
    obtain ⟨A1, c1, k, rfl, rfl, hk, ho, HB⟩ := hrel
    by_cases hlt : k < n
    · obtain ⟨b, off, rfl, hbS, hc⟩ := (hs.below HB.out).2.2 (by omega)
      obtain ⟨p, hp⟩ : ∃ p, (k + a) % n = p := ⟨_, rfl⟩
      obtain ⟨q, hq⟩ : ∃ q, (k + n - r) % n = q := ⟨_, rfl⟩
      have hpn : p < n := by rw [← hp]; exact Nat.mod_lt _ (by omega)
      have hqn : q < n := by rw [← hq]; exact Nat.mod_lt _ (by omega)
      have m1 : ((k : Int) + (a : Int)).tmod (n : Int) = (p : Int) := by rw [Int.tmod_eq_emod_of_nonneg (by omega), ← hp]; norm_cast
      have m2 : ((k : Int) + (n : Int) - (r : Int)).tmod (n : Int) = (q : Int) := by rw [Int.tmod_eq_emod_of_nonneg (by omega), ← hq, show (k : Int) + (n : Int) - (r : Int) = ((k + n - r : Nat) : Int) from by omega]; norm_cast
      have x0 := hc p hpn
      have x1 := hc q hqn
      have b0 := HX.out p
      have b1 := HX.out q
      have HT := hid (far_take (a := a) (l := l) (k := k) (by rw [HL.out]; exact hlt))
      have HV := hid (show nth (farL a l) k = (nth l p + nth l q) % 2 from by
        rw [show nth (farL a l) k = (nth l ((k + a) % l.length) + nth l ((k + l.length - a % l.length) % l.length)) % 2 from by simp [nth, farL, List.getD, show k < l.length from by rw [HL.out]; exact hlt], HL.out, HR.out, hp, hq])
      obtain ⟨x, hx⟩ : ∃ x, nth l p = x := ⟨_, rfl⟩
      obtain ⟨y, hy⟩ : ∃ y, nth l q = y := ⟨_, rfl⟩
      rw [hx] at x0 b0 HV
      rw [hy] at x1 b1 HV
      clear hx hy hc hp hq
      have m3 : (x + y).tmod 2 = (x + y) % 2 := Int.tmod_eq_emod_of_nonneg (by omega)
      have hlti : (k : Int) < (n : Int) := by omega
      have w1 : IntKind.i64.wrap ((k : Int) + (a : Int)) = (k : Int) + (a : Int) := IntWalk.i64_in _ (by omega)
      have w2 : IntKind.i64.wrap ((k : Int) + (n : Int)) = (k : Int) + (n : Int) := IntWalk.i64_in _ (by omega)
      have w3 : IntKind.i64.wrap ((k : Int) + (n : Int) - (r : Int)) = (k : Int) + (n : Int) - (r : Int) := IntWalk.i64_in _ (by omega)
      have w4 : IntKind.i64.wrap (x + y) = x + y := IntWalk.i64_in _ (by omega)
      have w6 : 0 ≤ (x + y) % 2 ∧ (x + y) % 2 ≤ 1 := by omega
      have p3 : (p : Int) < (n : Int) := by omega
      have p4 : (q : Int) < (n : Int) := by omega
      have p5 : (0 : Int) ≤ (p : Int) := by omega
      have p6 : (0 : Int) ≤ (q : Int) := by omega
      have p7 : (0 : Int) ≤ (k : Int) := by omega
      have hn0 : ¬ (n : Int) = 0 := by omega
      have hn00 : ¬ n = 0 := by omega
      go_wp2_with fail
      have hzz := HB.out.size
      have hv := own_blk ho
      have hbd := HB.out.drew
      have hod := ho.drew
      obtain ⟨wd, hwd⟩ : ∃ W, wr.drew = W := ⟨_, rfl⟩
      have hx1 : wd.cell? ⟨b, off + p, none⟩ = some (.int .i64 x) := by rw [← hwd]; exact x0
      have hy1 : wd.cell? ⟨b, off + q, none⟩ = some (.int .i64 y) := by rw [← hwd]; exact x1
      have hbw : b < wd.heap.size := by rw [← hwd]; show b < wr.heap.size; omega
      rw [hwd] at hbd hod
      have hzd := hbd.size
      have ga := grown_alloc wd (.cells #[.int .i64 ((x + y) % 2)] 3) none
      have ka : (wd.alloc (.cells #[.int .i64 ((x + y) % 2)] 3)).cell? ⟨b, off + p, none⟩ = some (.int .i64 x) := ga.cell hx1 (by simp)
      have kb : (wd.alloc (.cells #[.int .i64 ((x + y) % 2)] 3)).cell? ⟨b, off + q, none⟩ = some (.int .i64 y) := ga.cell hy1 (by simp)
      refine wp_region_held_drew (S := (fun w' => w'.cell? ⟨b, off + p, none⟩ = some (.int .i64 x) ∧ w'.cell? ⟨b, off + q, none⟩ = some (.int .i64 y))) (by kernel_rfl) (by go_keep) (fun hHeld => ?_)
      rw [hwd] at hHeld ⊢
      refine wpAnyH_take (i := 0) (v := ?v0) rfl (by kernel_rfl) (by kernel_rfl) (by kernel_rfl) (fun _ _ _ h => h) (Or.inl ⟨by rfl, ?y0⟩) (by assumption) ?r0
      case y0 => (intro w hSw; (try dsimp only at hSw); go_simp; try with_reducible rfl)
      try simp only [List.getElem_toArray, List.getElem_cons_zero, List.getElem_cons_succ, Act.put, List.setIfInBounds_toArray, List.set_cons_zero, List.set_cons_succ]
      refine wpAnyH_take (i := 1) (v := ?v1) rfl (by kernel_rfl) (by kernel_rfl) (by kernel_rfl) (fun _ _ _ h => h) (Or.inl ⟨by rfl, ?y1⟩) (by assumption) ?r1
      case y1 => (intro w hSw; (try dsimp only at hSw); go_simp; try with_reducible rfl)
      try simp only [List.getElem_toArray, List.getElem_cons_zero, List.getElem_cons_succ, Act.put, List.setIfInBounds_toArray, List.set_cons_zero, List.set_cons_succ]
      refine wpAnyH_take (i := 2) (v := ?v2) rfl (by kernel_rfl) (by kernel_rfl) (by kernel_rfl) (fun _ _ _ h => h) (Or.inl ⟨by rfl, ?y2⟩) (by assumption) ?r2
      case y2 => (intro w hSw; (try dsimp only at hSw); go_simp; try with_reducible rfl)
      try simp only [List.getElem_toArray, List.getElem_cons_zero, List.getElem_cons_succ, Act.put, List.setIfInBounds_toArray, List.set_cons_zero, List.set_cons_succ]
      refine wpAnyH_take (i := 3) (v := ?v3) rfl (by kernel_rfl) (by kernel_rfl) (by kernel_rfl) (fun _ _ _ h => h) (Or.inl ⟨by rfl, ?y3⟩) (by assumption) ?r3
      case y3 => (intro w hSw; (try dsimp only at hSw); go_simp; try with_reducible rfl)
      try simp only [List.getElem_toArray, List.getElem_cons_zero, List.getElem_cons_succ, Act.put, List.setIfInBounds_toArray, List.set_cons_zero, List.set_cons_succ]
      refine wpAnyH_take (i := 4) (v := ?v4) rfl (by kernel_rfl) (by kernel_rfl) (by kernel_rfl) (fun _ _ _ h => h) (Or.inl ⟨by rfl, ?y4⟩) (by assumption) ?r4
      case y4 => (intro w hSw; (try dsimp only at hSw); go_simp; try with_reducible rfl)
      try simp only [List.getElem_toArray, List.getElem_cons_zero, List.getElem_cons_succ, Act.put, List.setIfInBounds_toArray, List.set_cons_zero, List.set_cons_succ]
      refine wpAnyH_take (i := 5) (v := ?v5) rfl (by kernel_rfl) (by kernel_rfl) (by kernel_rfl) (fun _ _ _ h => h) (Or.inl ⟨by rfl, ?y5⟩) (by assumption) ?r5
      case y5 => (intro w hSw; (try dsimp only at hSw); go_simp; try with_reducible rfl)
      try simp only [List.getElem_toArray, List.getElem_cons_zero, List.getElem_cons_succ, Act.put, List.setIfInBounds_toArray, List.set_cons_zero, List.set_cons_succ]
      refine wpAnyH_take (i := 6) (v := ?v6) rfl (by kernel_rfl) (by kernel_rfl) (by kernel_rfl) (fun _ _ _ h => h) (Or.inl ⟨by rfl, ?y6⟩) (by assumption) ?r6
      case y6 => (intro w hSw; (try dsimp only at hSw); go_simp; try with_reducible rfl)
      try simp only [List.getElem_toArray, List.getElem_cons_zero, List.getElem_cons_succ, Act.put, List.setIfInBounds_toArray, List.set_cons_zero, List.set_cons_succ]
      refine wpAnyH_take (i := 7) (v := ?v7) rfl (by kernel_rfl) (by kernel_rfl) (by kernel_rfl) (fun _ _ _ h => h) (Or.inl ⟨by rfl, ?y7⟩) (by assumption) ?r7
      case y7 => (intro w hSw; (try dsimp only at hSw); go_simp; try with_reducible rfl)
      try simp only [List.getElem_toArray, List.getElem_cons_zero, List.getElem_cons_succ, Act.put, List.setIfInBounds_toArray, List.set_cons_zero, List.set_cons_succ]
      refine wpAnyH_take (i := 8) (v := ?v8) rfl (by kernel_rfl) (by kernel_rfl) (by kernel_rfl) (fun _ _ _ h => h) (Or.inl ⟨by rfl, ?y8⟩) (by assumption) ?r8
      case y8 => (intro w hSw; (try dsimp only at hSw); go_simp; try with_reducible rfl)
      try simp only [List.getElem_toArray, List.getElem_cons_zero, List.getElem_cons_succ, Act.put, List.setIfInBounds_toArray, List.set_cons_zero, List.set_cons_succ]
      refine wpAnyH_take (i := 9) (v := ?v9) rfl (by kernel_rfl) (by kernel_rfl) (by kernel_rfl) (fun _ _ _ h => h) (Or.inl ⟨by rfl, ?y9⟩) (by assumption) ?r9
      case y9 => (intro w hSw; (try dsimp only at hSw); go_simp; try with_reducible rfl)
      try simp only [List.getElem_toArray, List.getElem_cons_zero, List.getElem_cons_succ, Act.put, List.setIfInBounds_toArray, List.set_cons_zero, List.set_cons_succ]
      refine wpAnyH_take (i := 10) (v := ?v10) rfl (by kernel_rfl) (by kernel_rfl) (by kernel_rfl) (fun _ _ _ h => h) (Or.inl ⟨by rfl, ?y10⟩) (by assumption) ?r10
      case y10 => (intro w hSw; (try dsimp only at hSw); go_simp; try with_reducible rfl)
      try simp only [List.getElem_toArray, List.getElem_cons_zero, List.getElem_cons_succ, Act.put, List.setIfInBounds_toArray, List.set_cons_zero, List.set_cons_succ]
      refine wpAnyH_take (i := 11) (v := ?v11) rfl (by kernel_rfl) (by kernel_rfl) (by kernel_rfl) (fun _ _ _ h => h) (Or.inl ⟨by rfl, ?y11⟩) (by assumption) ?r11
      case y11 => (intro w hSw; (try dsimp only at hSw); go_simp; try with_reducible rfl)
      try simp only [List.getElem_toArray, List.getElem_cons_zero, List.getElem_cons_succ, Act.put, List.setIfInBounds_toArray, List.set_cons_zero, List.set_cons_succ]
      refine wpAnyH_take (i := 12) (v := ?v12) rfl (by kernel_rfl) (by kernel_rfl) (by kernel_rfl) (fun _ _ _ h => h) (Or.inl ⟨by rfl, ?y12⟩) (by assumption) ?r12
      case y12 => (intro w hSw; (try dsimp only at hSw); go_simp; try with_reducible rfl)
      try simp only [List.getElem_toArray, List.getElem_cons_zero, List.getElem_cons_succ, Act.put, List.setIfInBounds_toArray, List.set_cons_zero, List.set_cons_succ]
      refine wpAnyH_take (i := 13) (v := ?v13) rfl (by kernel_rfl) (by kernel_rfl) (by kernel_rfl) (fun _ _ _ h => h) (Or.inl ⟨by rfl, ?y13⟩) (by assumption) ?r13
      case y13 => (intro w hSw; (try dsimp only at hSw); go_simp; try with_reducible rfl)
      try simp only [List.getElem_toArray, List.getElem_cons_zero, List.getElem_cons_succ, Act.put, List.setIfInBounds_toArray, List.set_cons_zero, List.set_cons_succ]
      refine wpAnyH_take (i := 14) (v := ?v14) rfl (by kernel_rfl) (by kernel_rfl) (by kernel_rfl) (fun _ _ _ h => h) (Or.inl ⟨by rfl, ?y14⟩) (by assumption) ?r14
      case y14 => (intro w hSw; (try dsimp only at hSw); go_simp; try with_reducible rfl)
      try simp only [List.getElem_toArray, List.getElem_cons_zero, List.getElem_cons_succ, Act.put, List.setIfInBounds_toArray, List.set_cons_zero, List.set_cons_succ]
      refine wpAnyH_take (i := 15) (v := ?v15) rfl (by kernel_rfl) (by kernel_rfl) (by kernel_rfl) (fun _ _ _ h => h) (Or.inl ⟨by rfl, ?y15⟩) (by assumption) ?r15
      case y15 => (intro w hSw; (try dsimp only at hSw); go_simp; try with_reducible rfl)
      try simp only [List.getElem_toArray, List.getElem_cons_zero, List.getElem_cons_succ, Act.put, List.setIfInBounds_toArray, List.set_cons_zero, List.set_cons_succ]
      refine wpAnyH_take (i := 16) (v := ?v16) rfl (by kernel_rfl) (by kernel_rfl) (by kernel_rfl) (fun _ _ _ h => h) (Or.inl ⟨by rfl, ?y16⟩) (by assumption) ?r16
      case y16 => (intro w hSw; (try dsimp only at hSw); go_simp; try with_reducible rfl)
      try simp only [List.getElem_toArray, List.getElem_cons_zero, List.getElem_cons_succ, Act.put, List.setIfInBounds_toArray, List.set_cons_zero, List.set_cons_succ]
      refine wpAnyH_take (i := 17) (v := ?v17) rfl (by kernel_rfl) (by kernel_rfl) (by kernel_rfl) (fun _ _ _ h => h) (Or.inl ⟨by rfl, ?y17⟩) (by assumption) ?r17
      case y17 => (intro w hSw; (try dsimp only at hSw); go_simp; try with_reducible rfl)
      try simp only [List.getElem_toArray, List.getElem_cons_zero, List.getElem_cons_succ, Act.put, List.setIfInBounds_toArray, List.set_cons_zero, List.set_cons_succ]
      refine wpAnyH_take (i := 18) (v := ?v18) rfl (by kernel_rfl) (by kernel_rfl) (by kernel_rfl) (fun _ _ _ h => h) (Or.inl ⟨by rfl, ?y18⟩) (by assumption) ?r18
      case y18 => (intro w hSw; (try dsimp only at hSw); go_simp; try with_reducible rfl)
      try simp only [List.getElem_toArray, List.getElem_cons_zero, List.getElem_cons_succ, Act.put, List.setIfInBounds_toArray, List.set_cons_zero, List.set_cons_succ]
      refine wpAnyH_take (i := 19) (v := ?v19) rfl (by kernel_rfl) (by kernel_rfl) (by kernel_rfl) (fun _ _ _ h => h) (Or.inl ⟨by rfl, ?y19⟩) (by assumption) ?r19
      case y19 => (intro w hSw; (try dsimp only at hSw); go_simp; try with_reducible rfl)
      try simp only [List.getElem_toArray, List.getElem_cons_zero, List.getElem_cons_succ, Act.put, List.setIfInBounds_toArray, List.set_cons_zero, List.set_cons_succ]
      refine wpAnyH_take (i := 20) (v := ?v20) rfl (by kernel_rfl) (by kernel_rfl) (by kernel_rfl) (fun _ _ _ h => h) (Or.inl ⟨by rfl, ?y20⟩) (by assumption) ?r20
      case y20 => (intro w hSw; (try dsimp only at hSw); go_simp; try with_reducible rfl)
      try simp only [List.getElem_toArray, List.getElem_cons_zero, List.getElem_cons_succ, Act.put, List.setIfInBounds_toArray, List.set_cons_zero, List.set_cons_succ]
      refine wpAnyH_take (i := 21) (v := ?v21) rfl (by kernel_rfl) (by kernel_rfl) (by kernel_rfl) (fun _ _ _ h => h) (Or.inl ⟨by rfl, ?y21⟩) (by assumption) ?r21
      case y21 => (intro w hSw; (try dsimp only at hSw); go_simp; try with_reducible rfl)
      try simp only [List.getElem_toArray, List.getElem_cons_zero, List.getElem_cons_succ, Act.put, List.setIfInBounds_toArray, List.set_cons_zero, List.set_cons_succ]
      refine wpAnyH_take (i := 22) (v := ?v22) rfl (by kernel_rfl) (by kernel_rfl) (by kernel_rfl) (fun _ _ _ h => h) (Or.inl ⟨by rfl, ?y22⟩) (by assumption) ?r22
      case y22 => (intro w hSw; (try dsimp only at hSw); go_simp; try with_reducible rfl)
      try simp only [List.getElem_toArray, List.getElem_cons_zero, List.getElem_cons_succ, Act.put, List.setIfInBounds_toArray, List.set_cons_zero, List.set_cons_succ]
      refine wpAnyH_ready (rs := [23]) (by kernel_rfl) (by simp) ?_
      refine AllReadyH.cons rfl (fun Kr hKr => ?_) AllReadyH.nil
      go_simp
      try go_wp2_with fail
      refine hKr.out _ _ ⟨ka, kb⟩ (fun hHeld => ?_)
      clear hKr Kr
      try simp only [List.getElem_toArray, List.getElem_cons_zero, List.getElem_cons_succ, Act.put, List.setIfInBounds_toArray, List.set_cons_zero, List.set_cons_succ]
      refine wpAnyH_ready (rs := [24]) (by kernel_rfl) (by simp) ?_
      refine AllReadyH.cons rfl (fun Kr hKr => ?_) AllReadyH.nil
      rw [if_pos (by simp [Region.wanted])]
      refine wp_append_own _ _ _ 23 rfl w.heap.size 3 i0 (.int .i64 0) 1 8 Try.underlying23 hi hz0 hz1 hz2 rfl (by decide) (.slice A1 k c1) _ _ rfl (hod.alloc _) ⟨wd.heap.size, 0, none⟩ 1 1 [.int .i64 ((x + y) % 2)] rfl rfl (cell_one_new wd _ _) (by simp [Value.oneCell']) (by simp only [maxLen]; omega) (by omega) (by simp; omega) ?_
      intro v2 w2 hown2 hgrow2 _
      obtain ⟨A2, c2, rfl, o2, b2⟩ := pushedB hbd (Nat.le_refl _) (by omega) hv hown2 hgrow2
      refine hKr.out _ _ ⟨(b2.cell (p := ⟨b, off + p, none⟩) hbS).trans ((hbd.cell (p := ⟨b, off + p, none⟩) hbS).symm.trans hx1), (b2.cell (p := ⟨b, off + q, none⟩) hbS).trans ((hbd.cell (p := ⟨b, off + q, none⟩) hbS).symm.trans hy1)⟩ (fun hHeld => ?_)
      clear hKr Kr
      try simp only [List.getElem_toArray, List.getElem_cons_zero, List.getElem_cons_succ, Act.put, List.setIfInBounds_toArray, List.set_cons_zero, List.set_cons_succ]
      refine wpAnyH_take (i := 25) (v := ?v25) rfl (by kernel_rfl) (by kernel_rfl) (by kernel_rfl) (fun _ _ _ h => h) (Or.inl ⟨by rfl, ?y25⟩) (by assumption) ?r25
      case y25 => (intro w hSw; (try dsimp only at hSw); go_simp; try with_reducible rfl)
      try simp only [List.getElem_toArray, List.getElem_cons_zero, List.getElem_cons_succ, Act.put, List.setIfInBounds_toArray, List.set_cons_zero, List.set_cons_succ]
      refine wpAnyH_done (by kernel_rfl) ?_ _
      rw [← HV.out, ← HT.out] at o2
      have O2 := hid o2
      have B2 := hid b2
      clear hown2 hgrow2 hod hbd ho o2 b2 HB ka kb ga hx1 hy1
      go_wp2
      go_roundw
      case rel => exact ⟨A2, c2, k + 1, rfl, by go_num, by omega, O2.out, B2⟩
      case measure => simp [intOf]; omega
    · obtain rfl : k = n := by omega
      rw [List.take_of_length_le (by rw [farL_len, HL.out]; omega)] at ho
      have HO := hid ho
      clear ho
      go_wp2
      go_ret
      exact ⟨A1, c1, rfl, HO.out, HB.out⟩
end Go.Proofs.Ytkejcajboneniaa

namespace Go.Proofs.Ytkejcajboneniaa
open Go.RowKit
set_option linter.unusedVariables false
set_option linter.unusedSimpArgs false

/-- What SummedOf gives. -/
def sumOut (l : List Int) : List Int := if bitsOk l = true then sumL l else []
/-- What SummedAfter gives. -/
def sumAft (l : List Int) (s : Int) : List Int := if (bitsOk l && within s 0 1000) = true then sumI s.toNat l else []
/-- What OnesOf gives. -/
def onesOut (l : List Int) : Int := if bitsOk l = true then (ones l : Int) else -1
/-- What AddedOf gives. -/
def addOut (a b : List Int) : List Int := if (bitsOk a && (bitsOk b && decide (a.length = b.length))) = true then addL a b else []

set_option maxRecDepth 100000 in
set_option maxHeartbeats 1600000 in
theorem specSummedOf_any (A : Option Addr) (n c : Nat) (l : List Int) (w : World) (hs : Sl w w.heap.size A n l) :
    Calls Try.prog 76 #[.slice A n c] w fun e w' => ∃ A2 m c2, e = .returned (.slice A2 m c2) ∧ w'.ownsRow w.heap.size 3 1 (.slice A2 m c2) m (ints (sumOut l)) ∧ m ≤ 16 ∧ Below w.heap.size w w' := by
  have HL := hid hs.len
  have CK := hid (specBitsOk_any A n c l w w.heap.size hs)
  cases hok : bitsOk l with
  | false =>
    have HV := hid (show sumOut l = [] from by unfold sumOut; rw [hok]; rfl)
    rw [hok] at CK
    clear hok
    go_enter Try.func76, Try.ntmps76
    go_wp2_with fail
    with_reducible refine Calls.mono CK.out ?_
    rintro e w' ⟨rfl, rfl⟩
    go_wp2
    go_ret
    exact ⟨_, 0, _, rfl, by rw [HV.out]; exact World.ownsRow_lit w #[] 0 (Nat.le_refl _) (by simp [maxLen]) rfl, by omega, (Below.refl _ _).alloc (Nat.le_refl _) _⟩
  | true =>
    obtain ⟨hb, h1, h2⟩ := bitsOk_iff.1 hok
    have HV := hid (show sumOut l = farL 1 l from by unfold sumOut; rw [if_pos hok, far_one (by omega)])
    rw [HL.out] at h1 h2
    have CV := hid (l10Sum_any A n c l 1 w hs h1 h2 hb (by omega))
    rw [hok] at CK
    clear hok
    go_enter Try.func76, Try.ntmps76
    go_wp2_with fail
    with_reducible refine Calls.mono CK.out ?_
    rintro e w' ⟨rfl, rfl⟩
    go_wp2_with fail
    with_reducible refine Calls.mono CV.out ?_
    rintro e w2 ⟨A2, c2, rfl, o2, b2⟩
    go_wp2
    go_ret
    exact ⟨A2, n, c2, rfl, by rw [HV.out]; exact o2, h2, b2⟩

end Go.Proofs.Ytkejcajboneniaa

namespace Go.Proofs.Ytkejcajboneniaa
open Go.RowKit
set_option linter.unusedVariables false
set_option linter.unusedSimpArgs false

/-- What a machine does as most of three do. -/
def voteAt (l : List Int) (k : Nat) : Int := (nth l k + nth l (k - 1) + nth l (min (k + 1) (l.length - 1))) / 2
def voteL (l : List Int) : List Int := (List.range l.length).map (voteAt l)
def bitsL (l : List Int) : Prop := ∀ x ∈ l, x = 0 ∨ x = 1
theorem voteL_len (l : List Int) : (voteL l).length = l.length := by simp [voteL]
theorem nth_vote {l : List Int} {k : Nat} (h : k < l.length) : nth (voteL l) k = voteAt l k := by simp [nth, voteL, List.getD, h]
theorem bits_nth {l : List Int} (h : bitsL l) (k : Nat) : nth l k = 0 ∨ nth l k = 1 := by
  unfold nth
  by_cases hk : k < l.length
  · rw [List.getD, List.getElem?_eq_getElem hk]; exact h _ (List.getElem_mem hk)
  · rw [List.getD, List.getElem?_eq_none (by omega)]; exact .inl rfl
theorem vote_bits {l : List Int} (h : bitsL l) : bitsL (voteL l) := by
  intro x hx
  simp only [voteL, List.mem_map] at hx
  obtain ⟨k, _, rfl⟩ := hx
  have h1 := bits_nth h k
  have h2 := bits_nth h (k - 1)
  have h3 := bits_nth h (min (k + 1) (l.length - 1))
  unfold voteAt
  omega
theorem list_ext7 {l m : List Int} (hl : l.length = m.length) (h : ∀ k, k < l.length → nth l k = nth m k) : l = m := by
  refine List.ext_getElem hl fun k h1 h2 => ?_
  have := h k h1
  simpa [nth, List.getD, h1, h2] using this
/-- A machine agrees with a neighbour, or is at an end. -/
def firmAt (l : List Int) (k : Nat) : Bool := decide (k = 0 ∨ k = l.length - 1 ∨ nth l (k - 1) = nth l k ∨ nth l (k + 1) = nth l k)
theorem firm_iff {l : List Int} {k : Nat} : firmAt l k = true ↔ (k = 0 ∨ k = l.length - 1 ∨ nth l (k - 1) = nth l k ∨ nth l (k + 1) = nth l k) := by simp [firmAt]
theorem vote_firm {l : List Int} (hb : bitsL l) {k : Nat} (hk : k < l.length) : (voteAt l k = nth l k) ↔ firmAt l k = true := by
  rw [firm_iff]
  have h1 := bits_nth hb k
  have h2 := bits_nth hb (k - 1)
  unfold voteAt
  by_cases h0 : k = 0
  · subst h0
    have h3 := bits_nth hb (min (0 + 1) (l.length - 1))
    simp only [Nat.zero_sub] at *
    constructor
    · intro _; exact .inl trivial
    · intro _; omega
  · by_cases hl : k = l.length - 1
    · rw [show min (k + 1) (l.length - 1) = k by omega]
      constructor
      · intro _; exact .inr (.inl hl)
      · intro _; omega
    · rw [show min (k + 1) (l.length - 1) = k + 1 by omega]
      have h3 := bits_nth hb (k + 1)
      omega
theorem firm_stays {l : List Int} (hb : bitsL l) {k : Nat} (hk : k < l.length) (hf : firmAt l k = true) : firmAt (voteL l) k = true := by
  have hv := (vote_firm hb hk).2 hf
  rw [firm_iff] at hf ⊢
  rw [voteL_len]
  by_cases h0 : k = 0
  · exact .inl h0
  by_cases hl : k = l.length - 1
  · exact .inr (.inl hl)
  rcases hf with h | h | h | h
  · exact .inl h
  · exact .inr (.inl h)
  · right; right; left
    have hp : firmAt l (k - 1) = true := by
      rw [firm_iff]; right; right; right
      rw [show k - 1 + 1 = k by omega]; exact h.symm
    have hvp := (vote_firm hb (show k - 1 < l.length by omega)).2 hp
    rw [nth_vote hk, nth_vote (by omega), hv, hvp]; exact h
  · right; right; right
    have hp : firmAt l (k + 1) = true := by
      rw [firm_iff]; right; right; left
      rw [Nat.add_sub_cancel]; exact h.symm
    have hvp := (vote_firm hb (show k + 1 < l.length by omega)).2 hp
    rw [nth_vote hk, nth_vote (by omega), hv, hvp]; exact h
theorem vote_next {l : List Int} (hb : bitsL l) {k : Nat} (hk : k + 1 < l.length) (hf : firmAt l k = true) : firmAt (voteL l) (k + 1) = true := by
  by_cases hg : firmAt l (k + 1) = true
  · exact firm_stays hb hk hg
  · have hv := (vote_firm hb (show k < l.length by omega)).2 hf
    have hw : ¬ voteAt l (k + 1) = nth l (k + 1) := fun h => hg ((vote_firm hb hk).1 h)
    have hbv := bits_nth (vote_bits hb) (k + 1)
    rw [nth_vote hk] at hbv
    have b1 := bits_nth hb (k + 1)
    have b2 := bits_nth hb k
    have hne : ¬ nth l k = nth l (k + 1) := fun h => hg (by rw [firm_iff]; right; right; left; rw [Nat.add_sub_cancel]; exact h)
    rw [firm_iff]; right; right; left
    rw [Nat.add_sub_cancel, nth_vote hk, nth_vote (by omega), hv]
    omega
theorem vote_prev {l : List Int} (hb : bitsL l) {k : Nat} (hk : k + 1 < l.length) (hf : firmAt l (k + 1) = true) : firmAt (voteL l) k = true := by
  by_cases hg : firmAt l k = true
  · exact firm_stays hb (by omega) hg
  · have hv := (vote_firm hb hk).2 hf
    have hw : ¬ voteAt l k = nth l k := fun h => hg ((vote_firm hb (by omega)).1 h)
    have hbv := bits_nth (vote_bits hb) k
    rw [nth_vote (by omega)] at hbv
    have b1 := bits_nth hb (k + 1)
    have b2 := bits_nth hb k
    have hne : ¬ nth l (k + 1) = nth l k := fun h => hg (by rw [firm_iff]; right; right; right; exact h)
    rw [firm_iff]; right; right; right
    rw [nth_vote hk, nth_vote (by omega), hv]
    omega
theorem vote_same {l : List Int} (hb : bitsL l) : voteL l = l ↔ ∀ k, k < l.length → firmAt l k = true := by
  constructor
  · intro h k hk
    refine (vote_firm hb hk).1 ?_
    rw [← nth_vote hk, h]
  · intro h
    refine list_ext7 (voteL_len l) fun k hk => ?_
    rw [voteL_len] at hk
    rw [nth_vote hk]
    exact (vote_firm hb hk).2 (h k hk)
def voteN : Nat → List Int → List Int
  | 0, l => l
  | s + 1, l => voteN s (voteL l)
theorem voteN_succ : ∀ (s : Nat) (l : List Int), voteN (s + 1) l = voteL (voteN s l)
  | 0, _ => rfl
  | s + 1, l => by rw [voteN, voteN_succ s (voteL l)]; rfl
theorem voteN_len : ∀ (s : Nat) (l : List Int), (voteN s l).length = l.length
  | 0, _ => rfl
  | s + 1, l => by rw [voteN, voteN_len s, voteL_len]
theorem voteN_bits {l : List Int} (h : bitsL l) (s : Nat) : bitsL (voteN s l) := by
  induction s with
  | zero => exact h
  | succ s ih => rw [voteN_succ]; exact vote_bits ih
theorem voteN_firm {l : List Int} (hb : bitsL l) (s : Nat) : ∀ k, k < l.length → (k ≤ s ∨ l.length - 1 - s ≤ k) → firmAt (voteN s l) k = true := by
  induction s with
  | zero =>
    intro k hk h
    rw [firm_iff, voteN]
    rcases h with h | h
    · exact .inl (by omega)
    · exact .inr (.inl (by omega))
  | succ s ih =>
    intro k hk h
    rw [voteN_succ]
    have hb' := voteN_bits hb s
    have hl := voteN_len s l
    by_cases h1 : k ≤ s ∨ l.length - 1 - s ≤ k
    · exact firm_stays hb' (by rw [hl]; exact hk) (ih k hk h1)
    · rcases h with h | h
      · have e : k = s + 1 := by omega
        subst e
        exact vote_next hb' (by rw [hl]; omega) (ih s (by omega) (.inl (by omega)))
      · exact vote_prev hb' (by rw [hl]; omega) (ih (k + 1) (by omega) (.inr (by omega)))
/-- After half as many steps as machines nothing changes any more. -/
theorem voteN_still {l : List Int} (hb : bitsL l) {s : Nat} (h : l.length ≤ 2 * s + 2) : voteL (voteN s l) = voteN s l := by
  rw [vote_same (voteN_bits hb s)]
  intro k hk
  rw [voteN_len] at hk
  exact voteN_firm hb s k hk (by omega)
def oppL (l : List Int) : List Int := l.map fun x => 1 - x
theorem opp_len (l : List Int) : (oppL l).length = l.length := by simp [oppL]
theorem nth_opp {l : List Int} {k : Nat} (h : k < l.length) : nth (oppL l) k = 1 - nth l k := by simp [nth, oppL, List.getD, h]
theorem opp_bits {l : List Int} (h : bitsL l) : bitsL (oppL l) := by
  intro x hx
  simp only [oppL, List.mem_map] at hx
  obtain ⟨y, hy, rfl⟩ := hx
  have := h y hy
  omega
theorem opp_opp (l : List Int) : oppL (oppL l) = l := by
  simp only [oppL, List.map_map]
  conv => rhs; rw [← List.map_id l]
  refine List.map_congr_left fun x _ => ?_
  simp only [Function.comp, id]; omega
theorem vote_opp {l : List Int} (hb : bitsL l) : voteL (oppL l) = oppL (voteL l) := by
  refine list_ext7 (by rw [voteL_len, opp_len, opp_len, voteL_len]) fun k hk => ?_
  rw [voteL_len, opp_len] at hk
  rw [nth_vote (by rw [opp_len]; exact hk), nth_opp (by rw [voteL_len]; exact hk), nth_vote hk]
  have h1 := bits_nth hb k
  have h2 := bits_nth hb (k - 1)
  have h3 := bits_nth hb (min (k + 1) (l.length - 1))
  unfold voteAt
  rw [opp_len, nth_opp hk, nth_opp (by omega), nth_opp (by omega)]
  omega
theorem voteN_opp {l : List Int} (hb : bitsL l) (s : Nat) : voteN s (oppL l) = oppL (voteN s l) := by
  induction s with
  | zero => rfl
  | succ s ih => rw [voteN_succ, voteN_succ, ih, vote_opp (voteN_bits hb s)]
/-- The least number of steps after which nothing changes. -/
def settled (l : List Int) (s : Nat) : Prop := voteL (voteN s l) = voteN s l ∧ ∀ j, j < s → voteL (voteN j l) ≠ voteN j l
theorem settled_one {l : List Int} {s t : Nat} (h : settled l s) (h' : settled l t) : s = t := by
  rcases Nat.lt_trichotomy s t with hlt | he | hlt
  · exact absurd h.1 (h'.2 s hlt)
  · exact he
  · exact absurd h'.1 (h.2 t hlt)
theorem settled_half {l : List Int} (hb : bitsL l) {s : Nat} (h : settled l s) : s = 0 ∨ 2 * s + 1 ≤ l.length := by
  rcases Nat.eq_zero_or_pos s with h0 | h0
  · exact .inl h0
  · right
    rcases Nat.lt_or_ge (2 * s) l.length with h1 | h1
    · omega
    · exact absurd (voteN_still hb (s := s - 1) (by omega)) (h.2 (s - 1) (by omega))
theorem settled_opp {l : List Int} (hb : bitsL l) {s : Nat} (h : settled l s) : settled (oppL l) s := by
  refine ⟨?_, fun j hj he => h.2 j hj ?_⟩
  · rw [voteN_opp hb, vote_opp (voteN_bits hb s), h.1]
  · rw [voteN_opp hb, vote_opp (voteN_bits hb j)] at he
    have := congrArg oppL he
    rwa [opp_opp, opp_opp] at this
def settleL (l : List Int) : Nat := ((List.range 64).find? fun s => decide (voteL (voteN s l) = voteN s l)).getD 0
theorem settle_eq {l : List Int} {s : Nat} (h : settled l s) (hs : s < 64) : settleL l = s := by
  have : (List.range 64).find? (fun s => decide (voteL (voteN s l) = voteN s l)) = some s := by
    rw [List.find?_range_eq_some]
    exact ⟨by simpa using h.1, by simpa using hs, fun j hj => by simpa using h.2 j hj⟩
  unfold settleL
  rw [this]
  rfl
end Go.Proofs.Ytkejcajboneniaa

namespace Go.Proofs.Ytkejcajboneniaa
open Go.RowKit
set_option linter.unusedVariables false
set_option linter.unusedSimpArgs false

/-- The first k machines as a number, the lowest bit for the first machine. -/
def pk (l : List Int) : Nat → Nat
  | 0 => 0
  | k + 1 => pk l k ||| (if nth l k = 1 then 2 ^ k else 0)
theorem pk_bit (l : List Int) (k j : Nat) : (pk l k).testBit j = (decide (j < k) && decide (nth l j = 1)) := by
  induction k with
  | zero => simp [pk]
  | succ k ih =>
    rw [pk, Nat.testBit_or, ih]
    by_cases h : nth l k = 1
    · rw [if_pos h, Nat.testBit_two_pow]
      by_cases hjk : k = j
      · subst hjk; simp [h]
      · have : (j < k + 1) = (j < k) := by apply propext; omega
        simp [hjk, this]
    · rw [if_neg h, Nat.zero_testBit, Bool.or_false]
      by_cases hjk : k = j
      · subst hjk; simp [h]
      · have : (j < k + 1) = (j < k) := by apply propext; omega
        simp [this]
theorem pk_lt (l : List Int) (k : Nat) : pk l k < 2 ^ k := by
  apply Nat.lt_pow_two_of_testBit
  intro i hi
  rw [pk_bit]
  simp; omega
theorem pk_lt40 (l : List Int) {k : Nat} (h : k ≤ 40) : pk l k < 2 ^ 40 := Nat.lt_of_lt_of_le (pk_lt l k) (Nat.pow_le_pow_right (by omega) h)
theorem pk_inj {l m : List Int} {n : Nat} (hl : l.length = n) (hm : m.length = n) (bl : bitsL l) (bm : bitsL m) (h : pk l n = pk m n) : l = m := by
  refine list_ext7 (by omega) fun k hk => ?_
  have hb := congrArg (Nat.testBit · k) h
  simp only [pk_bit] at hb
  have h1 := bits_nth bl k
  have h2 := bits_nth bm k
  rw [show decide (k < n) = true by simp; omega, Bool.true_and, Bool.true_and, decide_eq_decide] at hb
  omega

/-- What each machine hears from the left, from the right, and what it votes. -/
def fromL (x n : Nat) : Nat := (x * 2 &&& (2 ^ n - 1)) ||| (x &&& 1)
def fromR (x n : Nat) : Nat := (x / 2) ||| (x &&& 2 ^ (n - 1))
def votedB (x n : Nat) : Nat := ((fromL x n &&& x) ||| (x &&& fromR x n)) ||| (fromL x n &&& fromR x n)
def firmB (x n : Nat) : Nat := (2 ^ n - 1) &&& ((2 ^ 64 - 1) ^^^ ((x ^^^ fromL x n) &&& (x ^^^ fromR x n)))
theorem fromL_bit (l : List Int) {n : Nat} (hn : 1 ≤ n) (j : Nat) : (fromL (pk l n) n).testBit j = (decide (j < n) && decide (nth l (j - 1) = 1)) := by
  unfold fromL
  rw [Nat.testBit_or, Nat.testBit_and, Nat.testBit_and, Nat.testBit_two_pow_sub_one, show (1 : Nat) = 2 ^ 0 from rfl, Nat.testBit_two_pow, show pk l n * 2 = 2 ^ 1 * pk l n by omega, Nat.testBit_two_pow_mul, pk_bit, pk_bit]
  rcases j with _ | j
  · simp
  · have h1 : ¬ (0 = j + 1) := by omega
    have h2 : (1 ≤ j + 1) = True := by simp
    simp only [h1, h2, decide_true, decide_false, Bool.and_false, Bool.or_false, Bool.true_and, Nat.add_sub_cancel]
    by_cases h : j + 1 < n
    · simp [h, show j < n by omega]
    · simp [h]
theorem fromR_bit (l : List Int) {n : Nat} (hn : 1 ≤ n) (j : Nat) : (fromR (pk l n) n).testBit j = (decide (j < n) && decide (nth l (min (j + 1) (n - 1)) = 1)) := by
  unfold fromR
  rw [Nat.testBit_or, Nat.testBit_and, Nat.testBit_two_pow, Nat.testBit_div_two, pk_bit, pk_bit]
  by_cases h : j + 1 < n
  · have h1 : ¬ (n - 1 = j) := by omega
    simp [h, h1, show j < n by omega, show min (j + 1) (n - 1) = j + 1 by omega]
  · by_cases h2 : n - 1 = j
    · subst h2
      simp [h, show min (n - 1 + 1) (n - 1) = n - 1 by omega]
    · simp [h, h2, show ¬ j < n by omega]
theorem voted_pk {l : List Int} {n : Nat} (hl : l.length = n) (hn : 1 ≤ n) (hb : bitsL l) : votedB (pk l n) n = pk (voteL l) n := by
  apply Nat.eq_of_testBit_eq
  intro j
  unfold votedB
  rw [Nat.testBit_or, Nat.testBit_or, Nat.testBit_and, Nat.testBit_and, Nat.testBit_and, fromL_bit l hn, fromR_bit l hn, pk_bit, pk_bit]
  by_cases h : j < n
  · rw [nth_vote (by omega)]
    unfold voteAt
    rw [hl]
    simp only [h, decide_true, Bool.true_and]
    rcases bits_nth hb j with e1 | e1 <;> rcases bits_nth hb (j - 1) with e2 | e2 <;> rcases bits_nth hb (min (j + 1) (n - 1)) with e3 | e3 <;> rw [e1, e2, e3] <;> decide
  · simp [h]
theorem opposed_pk {l : List Int} {n : Nat} (hl : l.length = n) (hb : bitsL l) : pk l n ^^^ (2 ^ n - 1) = pk (oppL l) n := by
  apply Nat.eq_of_testBit_eq
  intro j
  rw [Nat.testBit_xor, Nat.testBit_two_pow_sub_one, pk_bit, pk_bit]
  by_cases h : j < n
  · rw [nth_opp (by omega)]
    simp only [h, decide_true, Bool.true_and]
    rcases bits_nth hb j with e1 | e1 <;> rw [e1] <;> decide
  · simp [h]
theorem firm_bit {l : List Int} {n : Nat} (hl : l.length = n) (hn : 1 ≤ n) (h40 : n ≤ 40) (hb : bitsL l) (j : Nat) : (firmB (pk l n) n).testBit j = (decide (j < n) && firmAt l j) := by
  unfold firmB
  rw [Nat.testBit_and, Nat.testBit_xor, Nat.testBit_and, Nat.testBit_xor, Nat.testBit_xor, Nat.testBit_two_pow_sub_one, Nat.testBit_two_pow_sub_one, fromL_bit l hn, fromR_bit l hn, pk_bit]
  by_cases h : j < n
  · simp only [h, decide_true, Bool.true_and, show (j < 64) = True by simp; omega, Bool.true_xor]
    rw [Bool.eq_iff_iff, firm_iff, hl]
    by_cases h0 : j = 0
    · subst h0; simp
    · by_cases h1 : j = n - 1
      · rw [show min (j + 1) (n - 1) = j by omega]; simp [h1]
      · rw [show min (j + 1) (n - 1) = j + 1 by omega]
        rcases bits_nth hb j with e1 | e1 <;> rcases bits_nth hb (j - 1) with e2 | e2 <;> rcases bits_nth hb (j + 1) with e3 | e3 <;> rw [e1, e2, e3] <;> simp [h0, h1]
  · simp [h]
/-- Place k as the program gives it. -/
theorem pk_at {l : List Int} {n k : Nat} (hb : bitsL l) (hk : k < n) : ((pk l n / 2 ^ k &&& 1 : Nat) : Int) = nth l k := by
  have h : pk l n / 2 ^ k &&& 1 = if (pk l n).testBit k then 1 else 0 := by
    rw [Nat.and_one_is_mod, Nat.testBit_eq_decide_div_mod_eq]
    by_cases h : pk l n / 2 ^ k % 2 = 1 <;> simp [h]; omega
  rw [h, pk_bit]
  rcases bits_nth hb k with e | e <;> simp [e, hk]
theorem fromL_lt {x n : Nat} (h : x < 2 ^ n) : fromL x n < 2 ^ n :=
  Nat.or_lt_two_pow (Nat.and_lt_two_pow _ (by have := Nat.two_pow_pos n; omega)) (Nat.lt_of_le_of_lt Nat.and_le_left h)
theorem fromR_lt {x n : Nat} (h : x < 2 ^ n) : fromR x n < 2 ^ n :=
  Nat.or_lt_two_pow (by omega) (Nat.lt_of_le_of_lt Nat.and_le_left h)
end Go.Proofs.Ytkejcajboneniaa

namespace Go.Proofs.Ytkejcajboneniaa
open Go.RowKit
set_option linter.unusedVariables false
set_option linter.unusedSimpArgs false

set_option maxHeartbeats 800000 in
/-- The model's CellsOk: its states may be any number, for 'states less 1' wraps at the least one alone, where no cell fits. -/
theorem specCellsOk_in (A : Option Addr) (n c : Nat) (l : List Int) (s : Int) (w : World) (B : Nat) (hs : Sl w B A n l) (hlo : -9223372036854775807 ≤ s) (hhi : s ≤ 9223372036854775807) :
    Calls Try.prog 100 #[.slice A n c, .int .i64 s] w fun e w' => e = .returned (.bool (cellsOk l s)) ∧ w = w' := by
  have hm := hs.max
  have hl := hs.len
  have HL := hid hl; clear hl
  go_enter Try.func100, Try.ntmps100
  go_wp2
  go_loop [5] (fun i => ∃ k : Nat, k ≤ n ∧ i = .int .i64 k ∧ allIn (l.take k) 0 (s - 1) = true) (fun i => n - (intOf i).toNat)
  case atStart => exact ⟨0, Nat.zero_le _, rfl, rfl⟩
  case round =>
    obtain ⟨k, hk, rfl, hall⟩ := hrel
    have HA := hid hall; clear hall
    by_cases hlt : k < n
    · obtain ⟨b, off, rfl, _, hc⟩ := hs.2.2 (by omega)
      have hck := hc k hlt
      clear hc
      by_cases h1 : within (nth l k) 0 (s - 1) = true
      · go_wp2_with (go_at_call 68; refine (l1In_any _ _ _ _).mono ?_; rintro e w' ⟨rfl, rfl⟩)
        go_round
        case rel => exact ⟨k + 1, by omega, by go_num, by rw [take_nth (by rw [HL.out]; exact hlt), allIn_snoc, HA.out]; exact h1⟩
        case measure => simp [intOf]; omega
      · have h1' : within (nth l k) 0 (s - 1) = false := by simpa using h1
        go_wp2_with (go_at_call 68; refine (l1In_any _ _ _ _).mono ?_; rintro e w' ⟨rfl, rfl⟩)
        go_ret
        refine ⟨ret_bool ?_, rfl⟩
        have : allIn l 0 (s - 1) = false := by
          apply allIn_take_false (k := k + 1)
          rw [take_nth (by rw [HL.out]; exact hlt), allIn_snoc, HA.out]; exact h1'
        simp [cellsOk, this]
    · have hA : allIn l 0 (s - 1) = true := by have := HA.out; rwa [List.take_of_length_le (by rw [HL.out]; omega)] at this
      have HA2 := hid hA; clear hA
      by_cases h1 : within (n : Int) 1 40 = true
      · go_wp2_with (go_at_call 68; refine (l1In_any _ _ _ _).mono ?_; rintro e w' ⟨rfl, rfl⟩)
        go_ret
        refine ⟨ret_bool ?_, rfl⟩
        have := within_iff.1 h1
        simp [cellsOk, HA2.out, HL.out, show 1 ≤ n from by omega, show n ≤ 40 from by omega]
      · have h1' : within (n : Int) 1 40 = false := by simpa using h1
        go_wp2_with (go_at_call 68; refine (l1In_any _ _ _ _).mono ?_; rintro e w' ⟨rfl, rfl⟩)
        go_ret
        refine ⟨ret_bool ?_, rfl⟩
        simp [within] at h1'
        simp [cellsOk, HA2.out, HL.out]; intro _ h; omega

set_option maxHeartbeats 800000 in
theorem specCellsOk_least (A : Option Addr) (n c : Nat) (l : List Int) (s : Int) (w : World) (B : Nat) (hs : Sl w B A n l) (hlo : s < 1) :
    Calls Try.prog 100 #[.slice A n c, .int .i64 s] w fun e w' => e = .returned (.bool (cellsOk l s)) ∧ w = w' := by
  have hm := hs.max
  have hfin : cellsOk l s = false := by simp [cellsOk, within]; intro h; omega
  have h0 : within s 1 4 = false := by simp [within]; intro h; omega
  have HF := hid hfin; clear hfin
  go_enter Try.func100, Try.ntmps100
  go_wp2
  go_loop [5] (fun i => ∃ k : Nat, k ≤ n ∧ i = .int .i64 k) (fun i => n - (intOf i).toNat)
  case atStart => exact ⟨0, Nat.zero_le _, rfl⟩
  case round =>
    obtain ⟨k, hk, rfl⟩ := hrel
    by_cases hlt : k < n
    · obtain ⟨b, off, rfl, _, hc⟩ := hs.2.2 (by omega)
      have hck := hc k hlt
      clear hc
      by_cases h1 : within (nth l k) 0 (wrap64 (s - 1)) = true
      · have h2 : ∀ e, Calls Try.prog 68 #[.int .i64 (nth l k), .int .i64 0, .int .i64 e] w fun e' w' => e' = .returned (.bool (within (nth l k) 0 e)) ∧ w = w' := fun e => l1In_any _ _ _ _
        have H2 := hid h2; clear h2
        go_wp2_with (go_at_call 68; refine (H2.out _).mono ?_; rintro e w' ⟨rfl, rfl⟩)
        all_goals first
          | (go_round
             case rel => exact ⟨k + 1, by omega, by go_num⟩
             case measure => simp [intOf]; omega)
          | (go_ret
             exact ⟨ret_bool (by rw [HF.out]), rfl⟩)
      · have h1' : within (nth l k) 0 (wrap64 (s - 1)) = false := by simpa using h1
        go_wp2_with (go_at_call 68; refine (l1In_any _ _ _ _).mono ?_; rintro e w' ⟨rfl, rfl⟩)
        all_goals first
          | (go_ret
             exact ⟨ret_bool (by rw [HF.out]), rfl⟩)
          | (go_round
             case rel => exact ⟨k + 1, by omega, by go_num⟩
             case measure => simp [intOf]; omega)
    · by_cases h1 : within (n : Int) 1 40 = true
      · go_wp2_with (go_at_call 68; refine (l1In_any _ _ _ _).mono ?_; rintro e w' ⟨rfl, rfl⟩)
        go_ret
        exact ⟨ret_bool (by rw [HF.out]), rfl⟩
      · have h1' : within (n : Int) 1 40 = false := by simpa using h1
        go_wp2_with (go_at_call 68; refine (l1In_any _ _ _ _).mono ?_; rintro e w' ⟨rfl, rfl⟩)
        go_ret
        exact ⟨ret_bool (by rw [HF.out]), rfl⟩

theorem specCellsOk_any (A : Option Addr) (n c : Nat) (l : List Int) (s : Int) (w : World) (B : Nat) (hs : Sl w B A n l) (hhi : s ≤ 9223372036854775807) :
    Calls Try.prog 100 #[.slice A n c, .int .i64 s] w fun e w' => e = .returned (.bool (cellsOk l s)) ∧ w = w' := by
  by_cases h : s < 1
  · exact specCellsOk_least A n c l s w B hs h
  · exact specCellsOk_in A n c l s w B hs (by omega) hhi

end Go.Proofs.Ytkejcajboneniaa

namespace Go.Proofs.Ytkejcajboneniaa
open Go.RowKit
set_option linter.unusedVariables false
set_option linter.unusedSimpArgs false

/-- What VotesOk tells. -/
def votesOk (l : List Int) : Bool := cellsOk l 2
theorem votesOk_iff {l : List Int} : votesOk l = true ↔ (1 ≤ l.length ∧ l.length ≤ 40) ∧ bitsL l := by
  simp only [votesOk, cellsOk, within, allIn, bitsL, Bool.and_eq_true, decide_eq_true_eq, List.all_eq_true]
  constructor
  · rintro ⟨_, h1, h2, h3⟩; exact ⟨⟨h1, h2⟩, fun x hx => by have := h3 x hx; omega⟩
  · rintro ⟨⟨h1, h2⟩, h3⟩; exact ⟨by omega, h1, h2, fun x hx => by have := h3 x hx; omega⟩

set_option maxHeartbeats 800000 in
theorem specVotesOk_any (A : Option Addr) (n c : Nat) (l : List Int) (w : World) (B : Nat) (hs : Sl w B A n l) :
    Calls Try.prog 91 #[.slice A n c] w fun e w' => e = .returned (.bool (votesOk l)) ∧ w = w' := by
  go_enter Try.func91, Try.ntmps91
  go_wp2_with (go_at_call 100; refine (specCellsOk_any _ _ _ l 2 _ _ hs (by omega)).mono ?_; rintro e w' ⟨rfl, rfl⟩)
  go_ret
  exact ⟨rfl, rfl⟩

theorem drewN_g7 (w : World) (m : Nat) : w.grownBy (w.drewN m) none := ⟨rfl, rfl, rfl, Nat.le_refl _, fun _ _ _ => rfl⟩
theorem vote_take {l : List Int} {k : Nat} (h : k < l.length) : (voteL l).take (k + 1) = (voteL l).take k ++ [voteAt l k] := by
  rw [take_nth (by rw [voteL_len]; exact h), nth_vote h]

set_option maxRecDepth 100000 in
set_option maxHeartbeats 3200000 in
theorem l7Vote_any (A : Option Addr) (n c : Nat) (l : List Int) (w : World) (hs : Sl w w.heap.size A n l) (h1 : 1 ≤ n) (hn : n ≤ 40) (hb : bitsL l) :
    Calls Try.prog 92 #[.slice A n c] w fun e w' => ∃ A2 c2, e = .returned (.slice A2 n c2) ∧ w'.ownsRow w.heap.size 3 1 (.slice A2 n c2) n (ints (voteL l)) ∧ Below w.heap.size w w' := by
  obtain ⟨i0, hi, hz0, hz1, hz2⟩ := info_parts info_int
  have ho0 : (w.alloc (.cells #[] 3)).ownsRow w.heap.size 3 1 (.slice (some ⟨w.heap.size, 0, none⟩) 0 0) 0 (ints []) := World.ownsRow_lit w #[] 0 (Nat.le_refl _) (by simp [maxLen]) rfl
  have hb0 : Below w.heap.size w (w.alloc (.cells #[] 3)) := (Below.refl _ _).alloc (Nat.le_refl _) _
  have HL := hid hs.len
  have HX := hid (fun k => bits_nth hb k)
  go_enter Try.func92, Try.ntmps92
  go_wp2
  go_loopw [3, 4] (fun v i wr => ∃ (A1 : Option Addr) (c1 k : Nat), v = .slice A1 k c1 ∧ i = .int .i64 k ∧ k ≤ n ∧ wr.ownsRow w.heap.size 3 1 (.slice A1 k c1) k (ints ((voteL l).take k)) ∧ Hid (Below w.heap.size w wr)) (fun _ i _ => n - (intOf i).toNat)
  case atStart => exact ⟨_, _, 0, rfl, rfl, Nat.zero_le _, ho0, hid hb0⟩
  case round =>
    clear ho0 hb0
    obtain ⟨A1, c1, k, rfl, rfl, hk, ho, HB⟩ := hrel
    by_cases hlt : k < n
    · obtain ⟨b, off, rfl, _, hc⟩ := (hs.below HB.out).2.2 (by omega)
      have x0 := hc k hlt
      have x1 := hc (k - 1) (by omega)
      have x2 := hc (min (k + 1) (n - 1)) (by omega)
      have b0 := HX.out k
      have b1 := HX.out (k - 1)
      have b2 := HX.out (min (k + 1) (n - 1))
      have HT := hid (vote_take (l := l) (k := k) (by rw [HL.out]; exact hlt))
      have HV := hid (show voteAt l k = (nth l k + nth l (k - 1) + nth l (min (k + 1) (n - 1))) / 2 from by unfold voteAt; rw [HL.out])
      obtain ⟨x, hx⟩ : ∃ x, nth l k = x := ⟨_, rfl⟩
      obtain ⟨y, hy⟩ : ∃ y, nth l (k - 1) = y := ⟨_, rfl⟩
      obtain ⟨z, hz⟩ : ∃ z, nth l (min (k + 1) (n - 1)) = z := ⟨_, rfl⟩
      rw [hx] at x0 b0 HV
      rw [hy] at x1 b1 HV
      rw [hz] at x2 b2 HV
      clear hx hy hz hc
      have hlti : (k : Int) < (n : Int) := by omega
      obtain ⟨p, hp⟩ : ∃ p, k - 1 = p := ⟨_, rfl⟩
      obtain ⟨q, hq⟩ : ∃ q, min (k + 1) (n - 1) = q := ⟨_, rfl⟩
      have p1 : max ((k : Int) - 1) 0 = (p : Int) := by omega
      have p2 : min ((k : Int) + 1) ((n : Int) - 1) = (q : Int) := by omega
      have w1 : IntKind.i64.wrap ((k : Int) - 1) = (k : Int) - 1 := IntWalk.i64_in _ (by omega)
      have w2 : IntKind.i64.wrap ((k : Int) + 1) = (k : Int) + 1 := IntWalk.i64_in _ (by omega)
      have w3 : IntKind.i64.wrap ((n : Int) - 1) = (n : Int) - 1 := IntWalk.i64_in _ (by omega)
      have w4 : IntKind.i64.wrap (x + y) = x + y := IntWalk.i64_in _ (by omega)
      have w5 : IntKind.i64.wrap (x + y + z) = x + y + z := IntWalk.i64_in _ (by omega)
      have w6 : (0 : Int) ≤ x + y + z ∧ x + y + z ≤ 3 := by omega
      have p3 : (p : Int) < (n : Int) := by omega
      have p4 : (q : Int) < (n : Int) := by omega
      rw [hp] at x1
      rw [hq] at x2
      clear hp hq
      go_wp2_with fail
      go_quiet (fail)
      have hod := own_kept_none ho (drewN_g7 wr nq)
      have hbd := below_drewN HB.out nq
      have hzd : (wr.drewN nq).heap.size = wr.heap.size := rfl
      have hzz := HB.out.size
      have hv := own_blk ho
      go_wp2_with (at_builtin; refine wpList_append_own _ rfl (.tmp 34) (.tmp 37) 23 rfl w.heap.size 3 i0 (.int .i64 0) 1 8 Try.underlying23 hi hz0 hz1 hz2 rfl (by decide) (.slice A1 k c1) _ _ rfl (hod.alloc _) ⟨wr.heap.size, 0, none⟩ 1 1 [.int .i64 ((x + y + z) / 2)] rfl rfl (cell_one_new (wr.drewN nq) _ _) (by simp [Value.oneCell']) (by simp only [maxLen]; omega) (by omega) (by simp; omega) ?_; intro v2 w2 hown2 hgrow2 _)
      obtain ⟨A2, c2, rfl, o2, b2⟩ := pushedB hbd (Nat.le_refl _) (by omega) hv hown2 hgrow2
      rw [← HV.out, ← HT.out] at o2
      have O2 := hid o2
      have B2 := hid b2
      clear hown2 hgrow2 hod hbd ho o2 b2 HB
      go_wp2
      go_roundw
      case rel => exact ⟨A2, c2, k + 1, rfl, by go_num, by omega, O2.out, B2⟩
      case measure => simp [intOf]; omega
    · obtain rfl : k = n := by omega
      rw [List.take_of_length_le (by rw [voteL_len, HL.out]; omega)] at ho
      have HO := hid ho
      clear ho
      go_wp2
      go_ret
      exact ⟨A1, c1, rfl, HO.out, HB.out⟩
end Go.Proofs.Ytkejcajboneniaa

namespace Go.Proofs.Ytkejcajboneniaa
open Go.RowKit
set_option linter.unusedVariables false
set_option linter.unusedSimpArgs false

/-- What VotedOf gives. -/
def votedOut (l : List Int) : List Int := if votesOk l = true then voteL l else []
/-- What VotedAfter gives. -/
def votedN (l : List Int) (s : Int) : List Int := if (votesOk l && within s 0 60) = true then voteN s.toNat l else []

set_option maxRecDepth 100000 in
set_option maxHeartbeats 3200000 in
theorem specVotedOf_any (A : Option Addr) (n c : Nat) (l : List Int) (w : World) (hs : Sl w w.heap.size A n l) :
    Calls Try.prog 78 #[.slice A n c] w fun e w' => ∃ A2 m c2, e = .returned (.slice A2 m c2) ∧ w'.ownsRow w.heap.size 3 1 (.slice A2 m c2) m (ints (votedOut l)) ∧ m ≤ 40 ∧ Below w.heap.size w w' := by
  have HL := hid hs.len
  cases hok : votesOk l with
  | false =>
    have HV := hid (show votedOut l = [] from by unfold votedOut; rw [hok]; rfl)
    have CK := hid (specVotesOk_any A n c l w w.heap.size hs)
    rw [hok] at CK
    clear hok
    go_enter Try.func78, Try.ntmps78
    go_wp2_with fail
    with_reducible refine Calls.mono CK.out ?_
    rintro e w' ⟨rfl, rfl⟩
    go_wp2
    go_ret
    exact ⟨_, 0, _, rfl, by rw [HV.out]; exact World.ownsRow_lit w #[] 0 (Nat.le_refl _) (by simp [maxLen]) rfl, by omega, (Below.refl _ _).alloc (Nat.le_refl _) _⟩
  | true =>
    have HV := hid (show votedOut l = voteL l from by unfold votedOut; rw [if_pos hok])
    obtain ⟨⟨h1, h2⟩, hb⟩ := votesOk_iff.1 hok
    rw [HL.out] at h1 h2
    have CK := hid (specVotesOk_any A n c l w w.heap.size hs)
    have CV := hid (l7Vote_any A n c l w hs h1 h2 hb)
    rw [hok] at CK
    clear hok
    go_enter Try.func78, Try.ntmps78
    go_wp2_with fail
    with_reducible refine Calls.mono CK.out ?_
    rintro e w' ⟨rfl, rfl⟩
    go_wp2_with fail
    with_reducible refine Calls.mono CV.out ?_
    rintro e w2 ⟨A2, c2, rfl, o2, b2⟩
    go_wp2
    go_ret
    exact ⟨A2, n, c2, rfl, by rw [HV.out]; exact o2, h2, b2⟩

end Go.Proofs.Ytkejcajboneniaa

namespace Go.Proofs.Ytkejcajboneniaa
open Go.RowKit
set_option linter.unusedVariables false
set_option linter.unusedSimpArgs false

theorem info_row : (Try.prog.info? 23).map (fun i => (i.zero, i.size, i.bytes)) = some (some (.slice none 0 0), 1, 24) := by kernel_rfl

/-- A slice of ints of one's own, at or above B, that reads as l. -/
def Row1 (w : World) (B : Nat) (v : Value) (l : List Int) : Prop := ∃ A n c, v = .slice A n c ∧ w.ownsRow B 3 1 (.slice A n c) n (ints l)
/-- The values vs are slices of ints of one's own that read as ls. -/
def Rows (w : World) (B : Nat) (vs : List Value) (ls : List (List Int)) : Prop := vs.length = ls.length ∧ ∀ (j : Nat) v l, vs[j]? = some v → ls[j]? = some l → Row1 w B v l

section
variable {w w' : World} {B : Nat} {vs : List Value} {ls : List (List Int)}
theorem Rows.nil (w : World) (B : Nat) : Rows w B [] [] := ⟨rfl, fun j v l h => by simp at h⟩
theorem Rows.keep (h : Rows w B vs ls) (hk : ∀ v n xs, w.ownsRow B 3 1 v n xs → w'.ownsRow B 3 1 v n xs) : Rows w' B vs ls :=
  ⟨h.1, fun j v l h1 h2 => by
    obtain ⟨A, n, c, e, ho⟩ := h.2 j v l h1 h2
    exact ⟨A, n, c, e, hk _ _ _ ho⟩⟩
theorem Rows.on (h : Rows w B vs ls) (hb : Below w.heap.size w w') : Rows w' B vs ls := h.keep fun _ _ _ ho => own_on ho hb
theorem Rows.onto (h : Rows w B vs ls) (hg : w.grownBy w' none) : Rows w' B vs ls := h.keep fun _ _ _ ho => own_kept_none ho hg
theorem Rows.mono {B' : Nat} (h : Rows w B vs ls) (hB : B' ≤ B) : Rows w B' vs ls := ⟨h.1, fun j v l h1 h2 => by
  obtain ⟨A, n, c, e, ho⟩ := h.2 j v l h1 h2
  exact ⟨A, n, c, e, own_mono ho hB⟩⟩
theorem Rows.snoc (h : Rows w B vs ls) {v : Value} {l : List Int} (hv : Row1 w B v l) : Rows w B (vs ++ [v]) (ls ++ [l]) := by
  refine ⟨by simp [h.1], fun j x y hx hy => ?_⟩
  by_cases hj : j < vs.length
  · rw [List.getElem?_append_left hj] at hx
    rw [List.getElem?_append_left (by have := h.1; omega)] at hy
    exact h.2 j x y hx hy
  · rw [List.getElem?_append_right (by omega)] at hx
    rw [List.getElem?_append_right (by have := h.1; omega), ← h.1] at hy
    by_cases h0 : j - vs.length = 0
    · rw [h0] at hx hy
      simp at hx hy
      subst hx; subst hy
      exact hv
    · simp [h0] at hx
theorem Rows.at (h : Rows w B vs ls) {j : Nat} {l : List Int} (hl : ls[j]? = some l) : ∃ A n c, vs[j]? = some (.slice A n c) ∧ w.ownsRow B 3 1 (.slice A n c) n (ints l) := by
  have hj : j < ls.length := (List.getElem?_eq_some_iff.1 hl).1
  have hv : vs[j]? = some (vs[j]'(by rw [h.1]; exact hj)) := List.getElem?_eq_getElem _
  obtain ⟨A, n, c, e, ho⟩ := h.2 j _ l hv hl
  exact ⟨A, n, c, by rw [hv, e], ho⟩
end

theorem cells_new (w : World) (cs : List Value) (t : TypeId) : ∀ (j : Nat) (u : Value), cs[j]? = some u → (w.alloc (.cells cs.toArray t)).cell? ((⟨w.heap.size, 0, none⟩ : Addr).add j) = some u := by
  intro j u hu
  have e : (⟨w.heap.size, 0, none⟩ : Addr).add j = ⟨w.heap.size, j, none⟩ := by
    unfold Addr.add
    by_cases h0 : j = 0 <;> simp [h0]
  rw [e, cell_of_row _ _ j _ _ _ (heap_alloc_new w _)]
  simpa using hu
theorem types_ne : ((3 : TypeId) = (23 : TypeId)) = False := by decide
/-- A row of ints and a row of slices lie in different blocks: their types differ. -/
theorem own_types {w : World} {B B2 n m : Nat} {v vo : Value} {xs ys : List Value} (h : w.ownsRow B 3 1 v n xs) (ho : w.ownsRow B2 23 1 vo m ys) : v.ownBlock = none ∨ v.ownBlock ≠ vo.ownBlock := by
  rcases h.2 with ⟨h1, _⟩ | ⟨g, cap, cur, h1, h2, h3, _⟩
  · left; rw [h1]; rfl
  · rcases ho.2 with ⟨k1, _⟩ | ⟨g2, cap2, cur2, k1, k2, k3, _⟩
    · right; rw [h1, k1]; simp [Value.ownBlock]
    · right
      rw [h1, k1]
      intro e
      have e' : g = g2 := by simpa [Value.ownBlock] using e
      subst e'
      rw [h3] at k3
      simp at k3
theorem own_beside {w w' : World} {B B2 n m : Nat} {v vo : Value} {xs ys : List Value} (h : w.ownsRow B 3 1 v n xs) (ho : w.ownsRow B2 23 1 vo m ys) (hg : w.grownBy w' vo.ownBlock) : w'.ownsRow B 3 1 v n xs := h.kept hg (own_types h ho)
theorem Rows.beside {w w' : World} {B B2 m : Nat} {vs : List Value} {ls : List (List Int)} {vo : Value} {ys : List Value} (h : Rows w B vs ls) (ho : w.ownsRow B2 23 1 vo m ys) (hg : w.grownBy w' vo.ownBlock) : Rows w' B vs ls :=
  h.keep fun _ _ _ hr => own_beside hr ho hg
end Go.Proofs.Ytkejcajboneniaa

namespace Go.Proofs.Ytkejcajboneniaa
open Go.RowKit
set_option linter.unusedVariables false
set_option linter.unusedSimpArgs false

theorem nest_drew (w : World) : w.grownBy w.drew none := ⟨rfl, rfl, rfl, Nat.le_refl _, fun _ _ _ => rfl⟩
theorem outer_len {w : World} {B m c : Nat} {A : Option Addr} {vs : List Value} (h : w.ownsRow B 23 1 (.slice A m c) m vs) : vs.length = m := by have := h.1; omega
theorem own_addr {w : World} {B m c : Nat} {e : TypeId} {A : Option Addr} {vs : List Value} (h : w.ownsRow B e 1 (.slice A m c) m vs) (h0 : 0 < m) : ∃ g, A = some ⟨g, 0, none⟩ ∧ g < w.heap.size := by
  obtain ⟨m', rfl⟩ : ∃ q, m = q + 1 := ⟨m - 1, by omega⟩
  obtain ⟨g, cg, hs, _, hlt⟩ := own_shape h
  injection hs with e1 e2 e3
  exact ⟨g, e1, hlt⟩
/-- An element of a row of rows. -/
theorem outer_at {w : World} {B B2 m c i : Nat} {g : Nat} {vs : List Value} {ls : List (List Int)} (h : w.ownsRow B 23 1 (.slice (some ⟨g, 0, none⟩) m c) m vs) (R : Rows w B2 vs ls) (hi : i < m) :
    ∃ Ai ni ci l, w.cell? ⟨g, i, none⟩ = some (.slice Ai ni ci) ∧ vs[i]? = some (.slice Ai ni ci) ∧ ls[i]? = some l ∧ w.ownsRow B2 3 1 (.slice Ai ni ci) ni (ints l) := by
  have h1 := outer_len h
  have h2 := R.1
  have hl : ls[i]? = some (ls[i]'(by omega)) := List.getElem?_eq_getElem _
  obtain ⟨Ai, ni, ci, hv, ho⟩ := R.at hl
  refine ⟨Ai, ni, ci, _, ?_, hv, hl, ho⟩
  rw [h.cellAt i (by omega)]
  exact hv

set_option maxHeartbeats 1600000 in
theorem eqIntSS_same (A A2 : Option Addr) (m c m2 c2 B B1 B2 B3 : Nat) (vs us : List Value) (ls : List (List Int)) (w : World) (oA : w.ownsRow B 23 1 (.slice A m c) m vs) (RA : Rows w B1 vs ls) (oB : w.ownsRow B2 23 1 (.slice A2 m2 c2) m2 us) (RB : Rows w B3 us ls) (hm : m ≤ 100000) :
    Calls Try.prog 49 #[.slice A m c, .slice A2 m2 c2] w fun e w' => e = .returned (.bool true) ∧ Below w.heap.size w w' := by
  have h1 := outer_len oA
  have h2 := outer_len oB
  obtain rfl : m2 = m := by have := RA.1; have := RB.1; omega
  have e1 : ((m2 : Int) != (m2 : Int)) = false := by simp
  have BB := hid (Below.refl w.heap.size w)
  have HA := hid RA
  have HB := hid RB
  clear RA RB
  go_enter Try.func49, Try.ntmps49
  go_wp2_with fail
  go_loopw [5] (fun i wr => ∃ k : Nat, i = .int .i64 k ∧ k ≤ m2 ∧ wr.ownsRow B 23 1 (.slice A m2 c) m2 vs ∧ wr.ownsRow B2 23 1 (.slice A2 m2 c2) m2 us ∧ Hid (Rows wr B1 vs ls) ∧ Hid (Rows wr B3 us ls) ∧ Hid (Below w.heap.size w wr)) (fun i _ => m2 - (intOf i).toNat)
  case atStart => exact ⟨0, rfl, Nat.zero_le _, oA, oB, HA, HB, BB⟩
  case round =>
    clear oA oB HA HB BB
    obtain ⟨k, rfl, hk, oA, oB, HA, HB, BB⟩ := hrel
    by_cases hlt : k < m2
    · obtain ⟨g, rfl, hg⟩ := own_addr oA (by omega)
      obtain ⟨g2, rfl, hg2⟩ := own_addr oB (by omega)
      obtain ⟨Ai, ni, ci, l, hc1, _, hl1, o1⟩ := outer_at oA HA.out hlt
      obtain ⟨Aj, nj, cj, l2, hc2, _, hl2, o2⟩ := outer_at oB HB.out hlt
      obtain rfl : l2 = l := by rw [hl1] at hl2; injection hl2 with h; exact h.symm
      have CE := hid (eqIntS_b Ai Aj ni ci nj cj l2 l2 wr.drew wr.drew.heap.size wr.drew.heap.size (Sl.of_own (own_kept_none o1 (nest_drew wr))) (Sl.of_own (own_kept_none o2 (nest_drew wr))))
      rw [decide_eq_true rfl] at CE
      have oA2 := own_kept_none oA (nest_drew wr)
      have oB2 := own_kept_none oB (nest_drew wr)
      have HA2 := hid (HA.out.onto (nest_drew wr))
      have HB2 := hid (HB.out.onto (nest_drew wr))
      have BB2 := hid (BB.out.trans ((below_grown (nest_drew wr)).mono BB.out.size))
      have hki : (k : Int) < (m2 : Int) := by omega
      clear o1 o2 hl1 hl2 oA oB HA HB BB
      go_wp2_with fail
      go_region_held3 (fun w' => w'.cell? ⟨g, k, none⟩ = some (.slice Ai ni ci) ∧ w'.cell? ⟨g2, k, none⟩ = some (.slice Aj nj cj))
        (first
          | go_keep
          | (go_split_ands
             refine ⟨?_, ?_⟩
             · exact (st.cell (p := ⟨g, k, none⟩) (by simp; omega)).trans (by assumption)
             · exact (st.cell (p := ⟨g2, k, none⟩) (by simp; omega)).trans (by assumption)))
        (first
          | (go_at_call 26; with_reducible refine Calls.mono CE.out ?_; rintro r w4 ⟨rfl, st⟩))
      have oA3 := own_on oA2 st
      have oB3 := own_on oB2 st
      have HA3 := hid (HA2.out.on st)
      have HB3 := hid (HB2.out.on st)
      have BB3 := hid (BB2.out.trans (st.mono BB2.out.size))
      clear st oA2 oB2 HA2 HB2 BB2 hc1 hc2
      go_wp2
      go_roundw
      case rel => exact ⟨k + 1, by go_num, by omega, oA3, oB3, HA3, HB3, BB3⟩
      case measure => simp [intOf]; omega
    · obtain rfl : k = m2 := by omega
      go_wp2
      go_ret
      exact ⟨rfl, BB.out⟩

/-- No two of the values lie in one block. -/
def Apart (vs : List Value) : Prop := ∀ (i j : Nat) u v, vs[i]? = some u → vs[j]? = some v → i ≠ j → u.ownBlock = none ∨ u.ownBlock ≠ v.ownBlock
def sumTo (lens : List Nat) (i : Nat) : Nat := (lens.take i).sum
theorem sumTo_succ {lens : List Nat} {i : Nat} (h : i < lens.length) : sumTo lens (i + 1) = sumTo lens i + lens[i] := by
  unfold sumTo
  rw [List.take_succ_eq_append_getElem h, List.sum_append]
  simp
theorem sumTo_le (lens : List Nat) (i : Nat) : sumTo lens i ≤ lens.sum := by
  unfold sumTo
  have h := List.sum_append (l₁ := lens.take i) (l₂ := lens.drop i)
  rw [List.take_append_drop] at h
  omega
/-- The numbers k0, k0 + 1 .. over rows of these lengths. -/
def mkL (k0 : Int) (lens : List Nat) : List (List Int) := (List.range lens.length).map fun i => marks (k0 + (sumTo lens i : Int)) (lens.getD i 0)
theorem mkL_len (k0 : Int) (lens : List Nat) : (mkL k0 lens).length = lens.length := by simp [mkL]
theorem mkL_at {k0 : Int} {lens : List Nat} {i : Nat} (h : i < lens.length) : (mkL k0 lens)[i]? = some (marks (k0 + (sumTo lens i : Int)) (lens[i])) := by
  simp [mkL, h]
/-- The first i rows marked. -/
def partMk (k0 : Int) (ls : List (List Int)) (i : Nat) : List (List Int) := (mkL k0 (ls.map List.length)).take i ++ ls.drop i
theorem partMk_zero (k0 : Int) (ls : List (List Int)) : partMk k0 ls 0 = ls := by simp [partMk]
theorem partMk_all {k0 : Int} {ls : List (List Int)} {m : Nat} (h : ls.length = m) : partMk k0 ls m = mkL k0 (ls.map List.length) := by
  unfold partMk
  rw [List.drop_of_length_le (by omega), List.take_of_length_le (by rw [mkL_len]; simp; omega), List.append_nil]
theorem partMk_at {k0 : Int} {ls : List (List Int)} {i : Nat} (h : i < ls.length) : (partMk k0 ls i)[i]? = some (ls[i]) := by
  unfold partMk
  rw [List.getElem?_append_right (by simp [mkL_len]; omega)]
  simp [mkL_len, Nat.min_eq_left (Nat.le_of_lt h), h]
theorem partMk_set {k0 : Int} {ls : List (List Int)} {i : Nat} (h : i < ls.length) : (partMk k0 ls i).set i (marks (k0 + (sumTo (ls.map List.length) i : Int)) (ls[i]).length) = partMk k0 ls (i + 1) := by
  have hl : i < (mkL k0 (ls.map List.length)).length := by rw [mkL_len]; simpa using h
  have hm := mkL_at (k0 := k0) (lens := ls.map List.length) (i := i) (by simpa using h)
  unfold partMk
  rw [List.set_append_right _ _ (by simp; omega), List.take_succ_eq_append_getElem hl, List.append_assoc]
  congr 1
  have h0 : i - ((mkL k0 (ls.map List.length)).take i).length = 0 := by simp; omega
  rw [h0, show ls.drop i = ls[i] :: ls.drop (i + 1) from List.drop_eq_getElem_cons h]
  rw [List.getElem?_eq_getElem hl] at hm
  injection hm with hm
  rw [hm, List.set_cons_zero, List.getElem_map]
  rfl
theorem Rows.set {w w' : World} {B i : Nat} {vs : List Value} {ls : List (List Int)} {u : Value} {l : List Int} (h : Rows w B vs ls) (hu : vs[i]? = some u) (hap : Apart vs) (hg : w.grownBy w' u.ownBlock) (hr : Row1 w' B u l) : Rows w' B vs (ls.set i l) := by
  refine ⟨by simp [h.1], fun j v l2 hv hl => ?_⟩
  by_cases e : i = j
  · subst e
    rw [hu] at hv
    injection hv with hv
    subst hv
    have hi : i < ls.length := by
      have := (List.getElem?_eq_some_iff.1 hu).1
      have := h.1
      omega
    rw [List.getElem?_set_self hi] at hl
    injection hl with hl
    subst hl
    exact hr
  · rw [List.getElem?_set_ne e] at hl
    obtain ⟨A, n, c, ev, ho⟩ := h.2 j v l2 hv hl
    have ha := hap j i v u hv hu (fun h => e h.symm)
    rw [ev] at ha
    exact ⟨A, n, c, ev, ho.kept hg ha⟩
theorem own_types' {w : World} {B B2 n m : Nat} {v vo : Value} {xs ys : List Value} (h : w.ownsRow B 3 1 v n xs) (ho : w.ownsRow B2 23 1 vo m ys) : vo.ownBlock = none ∨ vo.ownBlock ≠ v.ownBlock := by
  rcases own_types h ho with h1 | h1
  · rcases hb : vo.ownBlock with _ | k
    · exact .inl rfl
    · right; rw [h1]; simp
  · exact .inr fun e => h1 e.symm

set_option maxHeartbeats 1600000 in
theorem markIntSS_any (A : Option Addr) (m c B B1 : Nat) (vs : List Value) (ls : List (List Int)) (k0 : Int) (w : World) (oA : w.ownsRow B 23 1 (.slice A m c) m vs) (RA : Rows w B1 vs ls) (hap : Apart vs) (hk0 : 0 ≤ k0) (hk1 : k0 + ((ls.map List.length).sum : Int) ≤ 1000000) (hm : m ≤ 100000) (hB : B1 ≤ w.heap.size) :
    Calls Try.prog 54 #[.slice A m c, .int .i64 k0] w fun e w' => e = .returned (.int .i64 (k0 + ((ls.map List.length).sum : Int))) ∧ w'.ownsRow B 23 1 (.slice A m c) m vs ∧ Rows w' B1 vs (mkL k0 (ls.map List.length)) ∧ Below B1 w w' ∧ w.heap.size ≤ w'.heap.size := by
  have h1 := outer_len oA
  have h2 : ls.length = m := by have := RA.1; omega
  have HA := hid RA
  rw [← partMk_zero k0 ls] at HA
  have HAP := hid hap
  have HL2 := hid h2
  have BB := hid (Below.refl B1 w)
  clear RA hap
  have hz : (k0 : Int) = k0 + (sumTo (ls.map List.length) 0 : Int) := by simp [sumTo]
  have HZ := hid hz
  clear hz
  go_enter Try.func54, Try.ntmps54
  go_wp2_with fail
  go_loopw [1, 5] (fun x i wr => ∃ k : Nat, x = .int .i64 (k0 + (sumTo (ls.map List.length) k : Int)) ∧ i = .int .i64 k ∧ k ≤ m ∧ wr.ownsRow B 23 1 (.slice A m c) m vs ∧ Hid (Rows wr B1 vs (partMk k0 ls k)) ∧ Hid (Below B1 w wr) ∧ w.heap.size ≤ wr.heap.size) (fun _ i _ => m - (intOf i).toNat)
  case atStart => exact ⟨0, by rw [← HZ.out], rfl, Nat.zero_le _, oA, HA, BB, Nat.le_refl _⟩
  case round =>
    clear oA HA BB HZ
    obtain ⟨k, rfl, rfl, hk, oA, HA, BB, hsz⟩ := hrel
    by_cases hlt : k < m
    · obtain ⟨g, rfl, hg⟩ := own_addr oA (by omega)
      have hkl : k < ls.length := by omega
      obtain ⟨Ai, ni, ci, l, hc1, hv1, hl1, o1⟩ := outer_at oA HA.out hlt
      rw [partMk_at hkl] at hl1
      injection hl1 with hl1
      subst hl1
      have hni : (ls[k]).length = ni := by have := o1.1; simpa using this
      have hs1 := sumTo_le (ls.map List.length) (k + 1)
      rw [sumTo_succ (by simpa using hkl)] at hs1
      have hsE := sumTo_succ (lens := ls.map List.length) (i := k) (by simpa using hkl)
      rw [List.getElem_map, hni] at hs1 hsE
      have hset := partMk_set (k0 := k0) hkl
      rw [hni] at hset
      obtain ⟨s0, hs0⟩ : ∃ s0, sumTo (ls.map List.length) k = s0 := ⟨_, rfl⟩
      rw [hs0] at hs1 hsE hset
      rw [hs0]
      obtain ⟨S0, hS0⟩ : ∃ S0, (ls.map List.length).sum = S0 := ⟨_, rfl⟩
      rw [hS0] at hk1 hs1
      have HE := hid hsE
      have HSET := hid hset
      have hki : (k : Int) < (m : Int) := by omega
      clear hs0 hsE hset hni
      have CM := hid (markIntS_any Ai ni ci B1 (ls[k]) (k0 + (s0 : Int)) wr o1 (by omega) (by omega) (by omega))
      clear hS0
      go_wp2_with fail
      with_reducible refine Calls.mono CM.out ?_
      rintro r w4 ⟨rfl, o4, g4⟩
      have oA4 := oA.kept g4 (own_types' o1 oA)
      have HA4 := hid (HA.out.set hv1 HAP.out g4 ⟨_, _, _, rfl, o4⟩)
      rw [HSET.out] at HA4
      have BB4 := hid (BB.out.grown g4 (by omega) (own_lo o1))
      have hsz4 : w.heap.size ≤ w4.heap.size := Nat.le_trans hsz g4.size
      clear g4 o4 o1 oA HA BB hc1 CM
      go_wp2
      go_roundw
      case rel => exact ⟨k + 1, by rw [HE.out]; simp; omega, by go_num, by omega, oA4, HA4, BB4, hsz4⟩
      case measure => simp [intOf]; omega
    · obtain rfl : k = m := by omega
      have hs : sumTo (ls.map List.length) k = (ls.map List.length).sum := by unfold sumTo; rw [List.take_of_length_le (by simp; omega)]
      rw [partMk_all h2] at HA
      rw [hs]
      clear hs
      go_wp2
      go_ret
      exact ⟨rfl, oA, HA.out, BB.out, hsz⟩

set_option maxHeartbeats 1600000 in
theorem heldIntSS_any (A : Option Addr) (m c B B1 : Nat) (vs : List Value) (lens : List Nat) (k0 : Int) (w : World) (oA : w.ownsRow B 23 1 (.slice A m c) m vs) (RA : Rows w B1 vs (mkL k0 lens)) (hk0 : 0 ≤ k0) (hk1 : k0 + (lens.sum : Int) ≤ 1000000) (hm : m ≤ 100000) :
    Calls Try.prog 56 #[.slice A m c, .int .i64 k0] w fun e w' => e = .returned (.int .i64 (k0 + (lens.sum : Int))) ∧ w = w' := by
  have h1 := outer_len oA
  have h2 : lens.length = m := by have := RA.1; rw [mkL_len] at this; omega
  have HZ := hid (show (k0 : Int) = k0 + (sumTo lens 0 : Int) from by simp [sumTo])
  go_enter Try.func56, Try.ntmps56
  go_wp2_with fail
  go_loopw [1, 5] (fun x i wr => ∃ k : Nat, x = .int .i64 (k0 + (sumTo lens k : Int)) ∧ i = .int .i64 k ∧ k ≤ m ∧ wr = w) (fun _ i _ => m - (intOf i).toNat)
  case atStart => exact ⟨0, by rw [← HZ.out], rfl, Nat.zero_le _, by first | rfl | trivial⟩
  case round =>
    obtain ⟨k, rfl, rfl, hk, rfl⟩ := hrel
    clear HZ
    by_cases hlt : k < m
    · obtain ⟨g, rfl, hg⟩ := own_addr oA (by omega)
      have hkl : k < lens.length := by omega
      obtain ⟨Ai, ni, ci, l, hc1, hv1, hl1, o1⟩ := outer_at oA RA hlt
      rw [mkL_at hkl] at hl1
      injection hl1 with hl1
      subst hl1
      have hni : lens[k] = ni := by have := o1.1; simpa [marks_len] using this
      have hs1 := sumTo_le lens (k + 1)
      have hsE := sumTo_succ hkl
      rw [hsE] at hs1
      rw [hni] at hs1 hsE o1
      have HE := hid hsE
      obtain ⟨s0, hs0⟩ : ∃ s0, sumTo lens k = s0 := ⟨_, rfl⟩
      rw [hs0] at hs1 HE o1
      rw [hs0]
      obtain ⟨S0, hS0⟩ : ∃ S0, lens.sum = S0 := ⟨_, rfl⟩
      have hk1' := hk1
      rw [hS0] at hk1' hs1
      have hki : (k : Int) < (m : Int) := by omega
      have CM := hid (heldIntS_any Ai ni ci (k0 + (s0 : Int)) wr wr.heap.size (Sl.of_own o1) (by omega) (by omega))
      have hpos : 0 ≤ k0 + (s0 : Int) + (ni : Int) := by omega
      clear hS0 hs0 hsE hni
      go_wp2_with fail
      with_reducible refine Calls.mono CM.out ?_
      rintro r w4 ⟨rfl, rfl⟩
      go_wp2
      go_roundw
      case rel => exact ⟨k + 1, by rw [HE.out]; simp; omega, by go_num, by omega, by first | rfl | trivial⟩
      case measure => simp [intOf]; omega
    · obtain rfl : k = m := by omega
      have hs : sumTo lens k = lens.sum := by unfold sumTo; rw [List.take_of_length_le (by omega)]
      rw [hs]
      clear hs
      go_wp2
      go_ret
      exact ⟨rfl, rfl⟩
end Go.Proofs.Ytkejcajboneniaa

namespace Go.Proofs.Ytkejcajboneniaa
open Go.RowKit
set_option linter.unusedVariables false
set_option linter.unusedSimpArgs false

def driveF (a x b : Int) : Int := if x = 1 then b else a
def driveL (l : List Int) : List Int := ringL driveF l
def flowF (_a x b : Int) : Int := if x = 1 ∧ b = 0 then 1 else 0
def flowL (l : List Int) : List Int := ringL flowF l
/-- How many cars go. -/
def flowN (l : List Int) : Nat := ones (flowL l)
def changeF (a x b : Int) : Int := if driveF a x b = x then 0 else 1
def changeL (l : List Int) : List Int := ringL changeF l
def endN (l : List Int) : Nat := min (ones l) (l.length - ones l)
def freeL (l : List Int) : List Int := (l.map fun x => 1 - x).reverse
def driveI : Nat → List Int → List Int
  | 0, l => l
  | k + 1, l => driveI k (driveL l)

theorem driveL_len (l : List Int) : (driveL l).length = l.length := ringL_len _ l
theorem driveI_len : ∀ (k : Nat) (l : List Int), (driveI k l).length = l.length
  | 0, _ => rfl
  | k + 1, l => by rw [driveI, driveI_len k, driveL_len]
theorem driveI_last : ∀ (k : Nat) (l : List Int), driveI (k + 1) l = driveL (driveI k l)
  | 0, _ => rfl
  | k + 1, l => by rw [driveI, driveI_last k]; rfl
theorem ringL_bits {f : Int → Int → Int → Int} {l : List Int} (h : ∀ a x b : Int, (a = 0 ∨ a = 1) → (x = 0 ∨ x = 1) → (b = 0 ∨ b = 1) → f a x b = 0 ∨ f a x b = 1) (hl : ∀ x ∈ l, x = 0 ∨ x = 1) : ∀ x ∈ ringL f l, x = 0 ∨ x = 1 := by
  intro x hx
  simp only [ringL, List.mem_map] at hx
  obtain ⟨k, _, rfl⟩ := hx
  exact h _ _ _ (bit_nth hl _) (bit_nth hl _) (bit_nth hl _)
theorem driveL_bits {l : List Int} (hl : ∀ x ∈ l, x = 0 ∨ x = 1) : ∀ x ∈ driveL l, x = 0 ∨ x = 1 := ringL_bits (by intro a x b h1 h2 h3; unfold driveF; split <;> assumption) hl
theorem driveL_ok {l : List Int} (h : bitsOk l = true) : bitsOk (driveL l) = true := by
  rw [bitsOk_iff] at h ⊢
  exact ⟨driveL_bits h.1, by rw [driveL_len]; exact h.2⟩
theorem driveI_ok {l : List Int} (h : bitsOk l = true) : ∀ k, bitsOk (driveI k l) = true
  | 0 => h
  | k + 1 => by rw [driveI_last]; exact driveL_ok (driveI_ok h k)

/-- The same over numbers. -/
def drv (n x : Nat) : Nat := Nat.lor (Nat.land x (rotR n x)) (Nat.land (Nat.xor x (msk n)) (rotL n x))
def flw (n x : Nat) : Nat := pop n (Nat.land x (Nat.xor (rotR n x) (msk n)))
def drvI (n : Nat) : Nat → Nat → Nat
  | 0, x => x
  | k + 1, x => drvI n k (drv n x)

theorem code_ring {l : List Int} {f : Int → Int → Int → Int} {F : Nat} (hn : 1 ≤ l.length)
    (hF : ∀ k, F.testBit k = (decide (k < l.length) && decide (f (nth l ((k + l.length - 1) % l.length)) (nth l k) (nth l ((k + 1) % l.length)) = 1))) : code (ringL f l) = F := by
  apply Nat.eq_of_testBit_eq
  intro k
  rw [code_bit, hF]
  by_cases hk : k < l.length
  · rw [nth_ringL hk]; simp [hk]
  · rw [nth_ge (by rw [ringL_len]; omega)]; simp [hk]
theorem code_drive {l : List Int} (hl : ∀ x ∈ l, x = 0 ∨ x = 1) (hn : 1 ≤ l.length) : code (driveL l) = drv l.length (code l) := by
  refine code_ring hn fun k => ?_
  show ((code l &&& rotR _ _) ||| ((code l ^^^ msk _) &&& rotL _ _)).testBit k = _
  rw [Nat.testBit_or, Nat.testBit_and, Nat.testBit_and, Nat.testBit_xor, msk_bit, rotR_bit hn (code_lt l), rotL_bit hn (code_lt l), code_bit, code_bit, code_bit]
  by_cases hk : k < l.length
  · rcases bit_nth hl k with h | h <;> simp [hk, h, driveF]
  · simp [hk]
theorem code_flow {l : List Int} (hl : ∀ x ∈ l, x = 0 ∨ x = 1) (hn : 1 ≤ l.length) : code (flowL l) = Nat.land (code l) (Nat.xor (rotR l.length (code l)) (msk l.length)) := by
  refine code_ring hn fun k => ?_
  show (code l &&& (rotR _ _ ^^^ msk _)).testBit k = _
  rw [Nat.testBit_and, Nat.testBit_xor, msk_bit, rotR_bit hn (code_lt l), code_bit, code_bit]
  by_cases hk : k < l.length
  · rcases bit_nth hl k with h | h <;> rcases bit_nth hl ((k + 1) % l.length) with h' | h' <;> simp [hk, h, h', flowF]
  · simp [hk]
theorem code_change {l : List Int} (hl : ∀ x ∈ l, x = 0 ∨ x = 1) (hn : 1 ≤ l.length) : code (changeL l) = Nat.xor (drv l.length (code l)) (code l) := by
  refine code_ring hn fun k => ?_
  rw [← code_drive hl hn]
  show (code (driveL l) ^^^ code l).testBit k = _
  rw [Nat.testBit_xor, code_bit, code_bit]
  by_cases hk : k < l.length
  · rw [show nth (driveL l) k = _ from nth_ringL hk]
    rcases bit_nth hl k with h | h <;> rcases bit_nth hl ((k + 1) % l.length) with h' | h' <;> rcases bit_nth hl ((k + l.length - 1) % l.length) with h'' | h'' <;> simp [hk, h, h', h'', driveF, changeF]
  · rw [nth_ge (show (driveL l).length ≤ k by rw [driveL_len]; omega), nth_ge (show l.length ≤ k by omega)]; simp [hk]
theorem flow_code {l : List Int} (hl : ∀ x ∈ l, x = 0 ∨ x = 1) (hn : 1 ≤ l.length) : flw l.length (code l) = flowN l := by
  unfold flw flowN
  rw [← code_flow hl hn]
  have := code_pop (flowL l)
  rwa [show (flowL l).length = l.length from ringL_len _ l] at this
theorem code_driveI {n : Nat} : ∀ (k : Nat) {l : List Int}, (∀ x ∈ l, x = 0 ∨ x = 1) → 1 ≤ l.length → l.length = n → code (driveI k l) = drvI n k (code l)
  | 0, _, _, _, _ => rfl
  | k + 1, l, hl, hn, he => by
    rw [driveI, code_driveI k (driveL_bits hl) (by have := driveL_len l; omega) ((driveL_len l).trans he), code_drive hl hn, he]; rfl

theorem freeL_cons (x : Int) (t : List Int) : freeL (x :: t) = freeL t ++ [1 - x] := by simp [freeL]
theorem freeL_len (l : List Int) : (freeL l).length = l.length := by simp [freeL]
def flw16 (n x : Nat) : Nat := pop16 (Nat.land x (Nat.xor (rotR n x) (msk n)))
def fine11 (n x : Nat) : Bool := Nat.ble (flw16 n x) (flw16 n (drv n x)) && (fun p => Nat.beq (flw16 n (drvI n (n / 2) x)) (Nat.min p (n - p))) (pop16 x)
theorem all11_a : ((List.range 15).all fun n => Nat.beq n 0 || all2 n (fine11 n) 0) = true := by decide +kernel
theorem all11_b : all2 15 (fine11 15) 0 = true := by decide +kernel
theorem all11_c : all2 16 (fine11 16) 0 = true := by decide +kernel
theorem drv_lt {n x : Nat} (hn : 1 ≤ n) (hx : x < 2 ^ n) : drv n x < 2 ^ n := by
  apply Nat.lt_pow_two_of_testBit
  intro k hk
  show ((x &&& rotR _ _) ||| ((x ^^^ msk _) &&& rotL _ _)).testBit k = _
  rw [Nat.testBit_or, Nat.testBit_and, Nat.testBit_and, bit_out hx hk, rotL_bit hn hx]
  simp [show ¬ k < n by omega]
theorem drvI_lt {n : Nat} (hn : 1 ≤ n) : ∀ (k x : Nat), x < 2 ^ n → drvI n k x < 2 ^ n
  | 0, _, h => h
  | k + 1, x, h => drvI_lt hn k _ (drv_lt hn h)
theorem flw16_flw {n x : Nat} (h16 : n ≤ 16) (hx : x < 2 ^ n) : flw16 n x = flw n x :=
  pop16_pop h16 (Nat.lt_of_le_of_lt (Nat.and_le_left (n := x)) hx)
theorem all11 {n x : Nat} (h1 : 1 ≤ n) (h2 : n ≤ 16) (hx : x < 2 ^ n) : flw n x ≤ flw n (drv n x) ∧ flw n (drvI n (n / 2) x) = min (pop n x) (n - pop n x) := by
  have h : fine11 n x = true := by
    by_cases e1 : n = 16
    · subst e1; exact all2_lt all11_c hx
    · by_cases e2 : n = 15
      · subst e2; exact all2_lt all11_b hx
      · have := List.all_eq_true.1 all11_a n (by simp; omega)
        rw [Bool.or_eq_true] at this
        rcases this with h | h
        · have := Nat.eq_of_beq_eq_true h; omega
        · exact all2_lt h hx
  simp only [fine11, Bool.and_eq_true] at h
  rw [flw16_flw h2 hx, flw16_flw h2 (drv_lt h1 hx), flw16_flw h2 (drvI_lt h1 _ _ hx), pop16_pop h2 hx] at h
  exact ⟨Nat.le_of_ble_eq_true h.1, Nat.eq_of_beq_eq_true h.2⟩

theorem flowL_bits {l : List Int} (hl : ∀ x ∈ l, x = 0 ∨ x = 1) : ∀ x ∈ flowL l, x = 0 ∨ x = 1 := ringL_bits (by intro a x b _ _ _; unfold flowF; split <;> simp) hl
theorem changeL_bits {l : List Int} (hl : ∀ x ∈ l, x = 0 ∨ x = 1) : ∀ x ∈ changeL l, x = 0 ∨ x = 1 := ringL_bits (by intro a x b _ _ _; unfold changeF; split <;> simp) hl
theorem freeL_bits {l : List Int} (hl : ∀ x ∈ l, x = 0 ∨ x = 1) : ∀ x ∈ freeL l, x = 0 ∨ x = 1 := by
  intro x hx
  simp only [freeL, List.mem_reverse, List.mem_map] at hx
  obtain ⟨y, hy, rfl⟩ := hx
  rcases hl y hy with h | h <;> simp [h]
theorem flowN_sum {l : List Int} (hl : ∀ x ∈ l, x = 0 ∨ x = 1) : (flowN l : Int) = sumR (fun k => nth (flowL l) k) l.length := by
  have := ones_sum (flowL_bits hl)
  rwa [show (flowL l).length = l.length from ringL_len _ l] at this
/-- No car is lost. -/
theorem ones_drive {l : List Int} (hl : ∀ x ∈ l, x = 0 ∨ x = 1) : ones (driveL l) = ones l := by
  have h1 := ones_sum (driveL_bits hl)
  have h2 := ones_sum hl
  rw [driveL_len] at h1
  have h3 : sumR (fun k => nth l k + nth (flowL l) ((k + l.length - 1) % l.length) - nth (flowL l) k) l.length = sumR (nth l) l.length := by
    rw [sumR_sub, sumR_add, sumR_prev]; omega
  have h4 : sumR (nth (driveL l)) l.length = sumR (fun k => nth l k + nth (flowL l) ((k + l.length - 1) % l.length) - nth (flowL l) k) l.length := by
    refine sumR_congr fun k hk => ?_
    have hm : (k + l.length - 1) % l.length < l.length := Nat.mod_lt _ (by omega)
    have hn : ((k + l.length - 1) % l.length + 1) % l.length = k := by
      by_cases h0 : k = 0
      · subst h0; rw [Nat.mod_eq_of_lt (show 0 + l.length - 1 < l.length by omega), show 0 + l.length - 1 + 1 = l.length by omega, Nat.mod_self]
      · rw [show k + l.length - 1 = k - 1 + l.length by omega, Nat.add_mod_right, Nat.mod_eq_of_lt (show k - 1 < l.length by omega), show k - 1 + 1 = k by omega, Nat.mod_eq_of_lt hk]
    rw [show nth (driveL l) k = _ from nth_ringL hk, show nth (flowL l) k = _ from nth_ringL hk, show nth (flowL l) ((k + l.length - 1) % l.length) = _ from nth_ringL hm, hn]
    rcases bit_nth hl k with h | h <;> rcases bit_nth hl ((k + 1) % l.length) with h' | h' <;> rcases bit_nth hl ((k + l.length - 1) % l.length) with h'' | h'' <;> simp [h, h', h'', driveF, flowF]
  omega
theorem ones_change {l : List Int} (hl : ∀ x ∈ l, x = 0 ∨ x = 1) : ones (changeL l) = 2 * flowN l := by
  have h1 := ones_sum (changeL_bits hl)
  have h2 : (flowN l : Int) = sumR (nth (flowL l)) l.length := flowN_sum hl
  rw [show (changeL l).length = l.length from ringL_len _ l] at h1
  have h3 : sumR (fun k => nth (flowL l) ((k + l.length - 1) % l.length) + nth (flowL l) k) l.length = 2 * sumR (nth (flowL l)) l.length := by
    rw [sumR_add, sumR_prev (nth (flowL l))]; show _ + sumR (nth (flowL l)) _ = _; omega
  have h4 : sumR (nth (changeL l)) l.length = sumR (fun k => nth (flowL l) ((k + l.length - 1) % l.length) + nth (flowL l) k) l.length := by
    refine sumR_congr fun k hk => ?_
    have hm : (k + l.length - 1) % l.length < l.length := Nat.mod_lt _ (by omega)
    have hn : ((k + l.length - 1) % l.length + 1) % l.length = k := by
      by_cases h0 : k = 0
      · subst h0; rw [Nat.mod_eq_of_lt (show 0 + l.length - 1 < l.length by omega), show 0 + l.length - 1 + 1 = l.length by omega, Nat.mod_self]
      · rw [show k + l.length - 1 = k - 1 + l.length by omega, Nat.add_mod_right, Nat.mod_eq_of_lt (show k - 1 < l.length by omega), show k - 1 + 1 = k by omega, Nat.mod_eq_of_lt hk]
    rw [show nth (changeL l) k = _ from nth_ringL hk, show nth (flowL l) k = _ from nth_ringL hk, show nth (flowL l) ((k + l.length - 1) % l.length) = _ from nth_ringL hm, hn]
    rcases bit_nth hl k with h | h <;> rcases bit_nth hl ((k + 1) % l.length) with h' | h' <;> rcases bit_nth hl ((k + l.length - 1) % l.length) with h'' | h'' <;> simp [h, h', h'', driveF, flowF, changeF]
  omega
theorem flow_le {l : List Int} (hl : ∀ x ∈ l, x = 0 ∨ x = 1) : flowN l ≤ endN l := by
  have h1 := flowN_sum hl
  have h2 := ones_sum hl
  have h3 : sumR (fun k => nth (flowL l) k) l.length ≤ sumR (nth l) l.length := by
    refine sumR_le fun k hk => ?_
    rw [show nth (flowL l) k = _ from nth_ringL hk]
    rcases bit_nth hl k with h | h <;> simp [h, flowF]; split <;> omega
  have h4 : sumR (fun k => nth (flowL l) k) l.length ≤ sumR (fun k => 1 - nth l ((k + 1) % l.length)) l.length := by
    refine sumR_le fun k hk => ?_
    rw [show nth (flowL l) k = _ from nth_ringL hk]
    rcases bit_nth hl ((k + 1) % l.length) with h | h <;> simp [h, flowF]; split <;> omega
  rw [sumR_sub, sumR_one, sumR_next] at h4
  have := ones_le l
  unfold endN
  omega
theorem flow_grows {l : List Int} (h : bitsOk l = true) : flowN l ≤ flowN (driveL l) := by
  obtain ⟨hl, h1, h2⟩ := bitsOk_iff.1 h
  have := (all11 h1 h2 (code_lt l)).1
  rw [flow_code hl h1, ← code_drive hl h1] at this
  have h3 := flow_code (driveL_bits hl) (by rw [driveL_len]; exact h1)
  rw [driveL_len] at h3
  omega
theorem end_drive {l : List Int} (hl : ∀ x ∈ l, x = 0 ∨ x = 1) : endN (driveL l) = endN l := by unfold endN; rw [ones_drive hl, driveL_len]
theorem end_driveI {l : List Int} (hl : ∀ x ∈ l, x = 0 ∨ x = 1) : ∀ k, endN (driveI k l) = endN l ∧ ∀ x ∈ driveI k l, x = 0 ∨ x = 1
  | 0 => ⟨rfl, hl⟩
  | k + 1 => by
    obtain ⟨h1, h2⟩ := end_driveI hl k
    rw [driveI_last]
    exact ⟨by rw [end_drive h2, h1], driveL_bits h2⟩
theorem flow_half {l : List Int} (h : bitsOk l = true) : flowN (driveI (l.length / 2) l) = endN l := by
  obtain ⟨hl, h1, h2⟩ := bitsOk_iff.1 h
  have := (all11 h1 h2 (code_lt l)).2
  rw [← code_driveI _ hl h1 rfl, code_pop] at this
  have h3 := flow_code (end_driveI hl (l.length / 2)).2 (by rw [driveI_len]; exact h1)
  rw [driveI_len] at h3
  rw [← h3, this]; rfl
theorem flow_late {l : List Int} (h : bitsOk l = true) : ∀ k, l.length / 2 ≤ k → flowN (driveI k l) = endN l
  | 0, hk => by have := flow_half h; rwa [show l.length / 2 = 0 by omega] at this
  | k + 1, hk => by
    by_cases he : l.length / 2 = k + 1
    · rw [← he]; exact flow_half h
    · have h1 := flow_late h k (by omega)
      have h2 := flow_grows (driveI_ok h k)
      have h3 := flow_le (end_driveI (bitsOk_iff.1 h).1 (k + 1)).2
      rw [(end_driveI (bitsOk_iff.1 h).1 (k + 1)).1] at h3
      rw [driveI_last] at h3 ⊢
      omega

theorem nth_free {l : List Int} {k : Nat} (h : k < l.length) : nth (freeL l) k = 1 - nth l (l.length - 1 - k) := by
  rw [nth_lt (by rw [freeL_len]; exact h), nth_lt (by omega)]
  simp [freeL]
theorem free_free (l : List Int) : freeL (freeL l) = l := by
  refine list_ext (by rw [freeL_len, freeL_len]) fun k hk => ?_
  rw [freeL_len, freeL_len] at hk
  rw [nth_free (by rw [freeL_len]; exact hk), freeL_len, nth_free (by omega), show l.length - 1 - (l.length - 1 - k) = k by omega]
  omega
theorem ones_free {l : List Int} (hl : ∀ x ∈ l, x = 0 ∨ x = 1) : ones (freeL l) = l.length - ones l := by
  have h1 := ones_sum (freeL_bits hl)
  have h2 := ones_sum hl
  have h3 := ones_le l
  rw [freeL_len, sumR_congr (g := fun k => (fun j => 1 - nth l j) (l.length - 1 - k)) fun k hk => nth_free hk, sumR_rev (fun j => 1 - nth l j), sumR_sub, sumR_one] at h1
  omega
theorem end_free {l : List Int} (hl : ∀ x ∈ l, x = 0 ∨ x = 1) : endN (freeL l) = endN l := by
  have := ones_le l
  unfold endN
  rw [ones_free hl, freeL_len]
  omega
theorem mod_next {n k : Nat} (h : k < n) : n - 1 - (k + 1) % n = (n - 1 - k + n - 1) % n := by
  by_cases h1 : k + 1 = n
  · rw [h1, Nat.mod_self, Nat.mod_eq_of_lt (by omega)]; omega
  · rw [Nat.mod_eq_of_lt (show k + 1 < n by omega), show n - 1 - k + n - 1 = n - 1 - (k + 1) + n by omega, Nat.add_mod_right, Nat.mod_eq_of_lt (by omega)]
theorem mod_prev {n k : Nat} (h : k < n) : n - 1 - (k + n - 1) % n = (n - 1 - k + 1) % n := by
  by_cases h1 : k = 0
  · subst h1; rw [Nat.mod_eq_of_lt (show 0 + n - 1 < n by omega), show n - 1 - 0 + 1 = n by omega, Nat.mod_self]; omega
  · rw [show k + n - 1 = k - 1 + n by omega, Nat.add_mod_right, Nat.mod_eq_of_lt (show k - 1 < n by omega), Nat.mod_eq_of_lt (show n - 1 - k + 1 < n by omega)]; omega
theorem drive_free {l : List Int} (hl : ∀ x ∈ l, x = 0 ∨ x = 1) : driveL (freeL l) = freeL (driveL l) := by
  refine list_ext (by rw [driveL_len, freeL_len, freeL_len, driveL_len]) fun k hk => ?_
  rw [driveL_len, freeL_len] at hk
  have hp : (k + l.length - 1) % l.length < l.length := Nat.mod_lt _ (by omega)
  have hq : (k + 1) % l.length < l.length := Nat.mod_lt _ (by omega)
  rw [show nth (driveL (freeL l)) k = _ from nth_ringL (by rw [freeL_len]; exact hk), nth_free (l := driveL l) (by rw [driveL_len]; exact hk), driveL_len, show nth (driveL l) (l.length - 1 - k) = _ from nth_ringL (by omega), freeL_len,
    nth_free hp, nth_free hk, nth_free hq, mod_next hk, mod_prev hk]
  rcases bit_nth hl (l.length - 1 - k) with h | h <;> simp [h, driveF]
theorem driveI_free {l : List Int} (hl : ∀ x ∈ l, x = 0 ∨ x = 1) : ∀ k, driveI k (freeL l) = freeL (driveI k l)
  | 0 => rfl
  | k + 1 => by rw [driveI_last, driveI_last, driveI_free hl k, drive_free (end_driveI hl k).2]
theorem flow_free {l : List Int} (hl : ∀ x ∈ l, x = 0 ∨ x = 1) : flowN (freeL l) = flowN l := by
  have h1 := flowN_sum (freeL_bits hl)
  have h2 := flowN_sum hl
  rw [freeL_len] at h1
  have h3 : sumR (fun k => nth (flowL (freeL l)) k) l.length = sumR (fun k => (fun j => nth (flowL l) ((j + l.length - 1) % l.length)) (l.length - 1 - k)) l.length := by
    refine sumR_congr fun k hk => ?_
    have hq : (k + 1) % l.length < l.length := Nat.mod_lt _ (by omega)
    have hm : (l.length - 1 - k + l.length - 1) % l.length < l.length := Nat.mod_lt _ (by omega)
    rw [show nth (flowL (freeL l)) k = _ from nth_ringL (by rw [freeL_len]; exact hk), freeL_len, nth_free hk, nth_free hq, mod_next hk]
    show _ = nth (flowL l) _
    rw [show nth (flowL l) ((l.length - 1 - k + l.length - 1) % l.length) = _ from nth_ringL hm]
    have hn : ((l.length - 1 - k + l.length - 1) % l.length + 1) % l.length = l.length - 1 - k := by
      rw [← mod_next hk]
      by_cases h1 : k + 1 = l.length
      · rw [h1, Nat.mod_self, show l.length - 1 - 0 + 1 = l.length by omega, Nat.mod_self]; omega
      · rw [Nat.mod_eq_of_lt (show k + 1 < l.length by omega), Nat.mod_eq_of_lt (by omega)]; omega
    rw [hn]
    rcases bit_nth hl (l.length - 1 - k) with h | h <;> rcases bit_nth hl ((l.length - 1 - k + l.length - 1) % l.length) with h' | h' <;> simp [h, h', flowF]
  rw [sumR_rev (fun j => nth (flowL l) ((j + l.length - 1) % l.length)), sumR_prev (fun j => nth (flowL l) j)] at h3
  omega
end Go.Proofs.Ytkejcajboneniaa

namespace Go.Proofs.Ytkejcajboneniaa
open Go.RowKit
set_option linter.unusedVariables false
set_option linter.unusedSimpArgs false

def drivenOut (l : List Int) : List Int := if bitsOk l = true then driveL l else []
def drivenAft (l : List Int) (s : Int) : List Int := if (bitsOk l && within s 0 60) = true then driveI s.toNat l else []
def flowOut (l : List Int) : Int := if bitsOk l = true then (flowN l : Int) else -1
def endOut (l : List Int) : Int := if bitsOk l = true then (endN l : Int) else -1
def freeOut (l : List Int) : List Int := if bitsOk l = true then freeL l else []
/-- The least number of steps after which the flow is that of the end. -/
def flowK (l : List Int) : Nat := ((List.range (l.length + 1)).find? fun k => decide (flowN (driveI k l) = endN l)).getD 0
def flowingOut (l : List Int) : Int := if bitsOk l = true then (flowK l : Int) else -1
theorem nth_drive {l : List Int} {k : Nat} (h : k < l.length) : nth (driveL l) k = if nth l k = 1 then nth l ((k + 1) % l.length) else nth l ((k + l.length - 1) % l.length) := nth_ringL h
theorem drive_take {l : List Int} {k : Nat} (h : k < l.length) : (driveL l).take (k + 1) = (driveL l).take k ++ [nth (driveL l) k] := take_nth (by rw [driveL_len]; exact h)
theorem nth_flow {l : List Int} {k : Nat} (h : k < l.length) : nth (flowL l) k = if nth l k = 1 ∧ nth l ((k + 1) % l.length) = 0 then 1 else 0 := nth_ringL h
theorem flow_take {l : List Int} {k : Nat} (h : k < l.length) : ones ((flowL l).take (k + 1)) = ones ((flowL l).take k) + (if nth l k = 1 ∧ nth l ((k + 1) % l.length) = 0 then 1 else 0) := by
  rw [ones_take (by rw [show (flowL l).length = l.length from ringL_len _ l]; exact h), nth_flow h]
  split <;> simp
theorem flowK_spec {l : List Int} (h : bitsOk l = true) : flowN (driveI (flowK l) l) = endN l ∧ (∀ j, j < flowK l → flowN (driveI j l) ≠ endN l) ∧ 2 * flowK l ≤ l.length := by
  have hh := flow_half h
  have h1 := (bitsOk_iff.1 h).2
  cases hf : (List.range (l.length + 1)).find? (fun k => decide (flowN (driveI k l) = endN l)) with
  | none =>
    rw [List.find?_eq_none] at hf
    exact absurd (decide_eq_true hh) (hf (l.length / 2) (by rw [List.mem_range]; omega))
  | some k =>
    have hk : flowK l = k := by unfold flowK; rw [hf]; rfl
    rw [List.find?_eq_some_iff_getElem] at hf
    obtain ⟨g1, i, hi, g2, g3⟩ := hf
    have e : i = k := by simpa using g2
    subst e
    rw [hk]
    have hmin : ∀ j, j < i → flowN (driveI j l) ≠ endN l := fun j hj => by
      have := g3 j hj
      simpa using this
    refine ⟨by simpa using g1, hmin, ?_⟩
    rcases Nat.lt_or_ge (l.length / 2) i with h2 | h2
    · exact absurd hh (hmin _ h2)
    · omega
theorem flowK_at {l : List Int} (h : bitsOk l = true) {k : Nat} (h1 : flowN (driveI k l) = endN l) (h2 : ∀ j, j < k → flowN (driveI j l) ≠ endN l) : flowK l = k := by
  obtain ⟨g1, g2, _⟩ := flowK_spec h
  rcases Nat.lt_trichotomy (flowK l) k with h3 | h3 | h3
  · exact absurd g1 (h2 _ h3)
  · exact h3
  · exact absurd h1 (g2 _ h3)
theorem freeL_ok {l : List Int} (h : bitsOk l = true) : bitsOk (freeL l) = true := by
  obtain ⟨h1, h2⟩ := bitsOk_iff.1 h
  exact bitsOk_iff.2 ⟨freeL_bits h1, by rw [freeL_len]; exact h2⟩
theorem flowK_free {l : List Int} (h : bitsOk l = true) : flowK (freeL l) = flowK l := by
  obtain ⟨g1, g2, _⟩ := flowK_spec h
  have hl := (bitsOk_iff.1 h).1
  refine flowK_at (freeL_ok h) ?_ fun j hj => ?_
  · rw [driveI_free hl, flow_free (end_driveI hl _).2, end_free hl, g1]
  · rw [driveI_free hl, flow_free (end_driveI hl _).2, end_free hl]
    exact g2 j hj
theorem nth_freeS {l : List Int} {k : Nat} (h : k < l.length) : nth (freeL l) k = 1 - nth l (l.length - 1 - k) := nth_free h
theorem free_take {l : List Int} {k : Nat} (h : k < l.length) : (freeL l).take (k + 1) = (freeL l).take k ++ [1 - nth l (l.length - 1 - k)] := by
  rw [take_nth (by rw [freeL_len]; exact h), nth_free h]
end Go.Proofs.Ytkejcajboneniaa

namespace Go.Proofs.Ytkejcajboneniaa
open Go.RowKit
set_option linter.unusedVariables false
set_option linter.unusedSimpArgs false

/-- A desk: its ring, and those of before. -/
structure Dk where
  now : List Int
  past : List (List Int)
def noDk : Dk := ⟨[], []⟩
def deskOk (D : Dk) : Bool := D.past.all bitsOk && (bitsOk D.now && decide (D.past.length ≤ 8))
theorem deskOk_iff {D : Dk} : deskOk D = true ↔ (∀ l ∈ D.past, bitsOk l = true) ∧ bitsOk D.now = true ∧ D.past.length ≤ 8 := by
  simp [deskOk]
def flipL (l : List Int) (k : Nat) : List Int := l.set k (1 - nth l k)
def roundL (l : List Int) (k : Nat) : List Int := l.drop k ++ l.take k
/-- What a deed makes of a ring. -/
def madeL (l : List Int) (k n : Int) : List Int :=
  if k = 0 ∧ n = 0 then sumOut l
  else if k = 1 ∧ n = 0 then drivenOut l
  else if k = 2 ∧ n = 0 then votedOut l
  else if k = 3 ∧ within n 0 ((l.length : Int) - 1) = true then flipL l n.toNat
  else if k = 4 ∧ within n 0 ((l.length : Int) - 1) = true then roundL l n.toNat
  else if k = 5 ∧ n = 0 then freeOut l
  else []
def trimL (p : List (List Int)) : List (List Int) := if 8 < p.length then p.drop 1 else p
def undoB (D : Dk) (k n : Int) : Bool := decide (k = 6 ∧ n = 0) && !D.past.isEmpty
def stayB (D : Dk) (k n : Int) : Bool := (madeL D.now k n).isEmpty || decide (madeL D.now k n = D.now)
/-- What DeskDo gives. -/
def deskDo (D : Dk) (a : Int × Int) : Dk × Bool :=
  if deskOk D = true then
    if undoB D a.1 a.2 = true then (⟨D.past.getLast?.getD [], D.past.dropLast⟩, true)
    else if stayB D a.1 a.2 = true then (D, false)
    else (⟨madeL D.now a.1 a.2, trimL (D.past ++ [D.now])⟩, true)
  else (noDk, false)

theorem made_ok {l : List Int} (h : bitsOk l = true) (k n : Int) (hne : (madeL l k n).isEmpty = false) : bitsOk (madeL l k n) = true := by
  obtain ⟨hb, h1, h2⟩ := bitsOk_iff.1 h
  unfold madeL at hne ⊢
  split
  · unfold sumOut; rw [if_pos h]; exact sumL_ok h
  · split
    · unfold drivenOut; rw [if_pos h]; exact driveL_ok h
    · split
      · have hv : votesOk l = true := votesOk_iff.2 ⟨⟨h1, by omega⟩, hb⟩
        unfold votedOut; rw [if_pos hv]
        exact bitsOk_iff.2 ⟨vote_bits hb, by rw [voteL_len]; exact h1, by rw [voteL_len]; exact h2⟩
      · split
        · rename_i h3
          refine bitsOk_iff.2 ⟨fun x hx => ?_, by simp [flipL]; exact h1, by simp [flipL]; exact h2⟩
          rcases List.mem_or_eq_of_mem_set hx with hx | rfl
          · exact hb x hx
          · rcases bit_nth hb n.toNat with e | e <;> rw [e] <;> simp
        · split
          · refine bitsOk_iff.2 ⟨fun x hx => ?_, by simp [roundL]; omega, by simp [roundL]; omega⟩
            rcases List.mem_append.1 hx with hx | hx
            · exact hb x (List.mem_of_mem_drop hx)
            · exact hb x (List.mem_of_mem_take hx)
          · split
            · unfold freeOut; rw [if_pos h]; exact freeL_ok h
            · rename_i q1 q2 q3 q4 q5 q6
              rw [if_neg q1, if_neg q2, if_neg q3, if_neg q4, if_neg q5, if_neg q6] at hne
              cases hne
theorem last_getD {p : List (List Int)} (h : p.isEmpty = false) : ∃ q l, p = q ++ [l] ∧ p.getLast?.getD [] = l ∧ p.dropLast = q := by
  rcases List.eq_nil_or_concat p with rfl | ⟨q, l, rfl⟩
  · cases h
  · exact ⟨q, l, by simp, by simp, by simp⟩
theorem trim_ok {p : List (List Int)} (h : ∀ l ∈ p, bitsOk l = true) (h9 : p.length ≤ 9) : (∀ l ∈ trimL p, bitsOk l = true) ∧ (trimL p).length ≤ 8 := by
  unfold trimL
  split
  · exact ⟨fun l hl => h l (List.mem_of_mem_drop hl), by simp; omega⟩
  · exact ⟨h, by omega⟩
theorem do_ok {D : Dk} (h : deskOk D = true) (a : Int × Int) : deskOk (deskDo D a).1 = true := by
  obtain ⟨h1, h2, h3⟩ := deskOk_iff.1 h
  unfold deskDo
  rw [if_pos h]
  by_cases hb : undoB D a.1 a.2 = true
  · rw [if_pos hb]
    unfold undoB at hb
    rw [Bool.and_eq_true] at hb
    obtain ⟨q, l, e1, e2, e3⟩ := last_getD (p := D.past) (by simpa using hb.2)
    refine deskOk_iff.2 ⟨?_, ?_, ?_⟩
    · show ∀ l ∈ D.past.dropLast, _
      rw [e3]; intro x hx; exact h1 x (by rw [e1]; simp [hx])
    · show bitsOk (D.past.getLast?.getD []) = true
      rw [e2]; exact h1 l (by rw [e1]; simp)
    · show D.past.dropLast.length ≤ 8
      rw [List.length_dropLast]; omega
  · rw [if_neg hb]
    by_cases hs : stayB D a.1 a.2 = true
    · rw [if_pos hs]; exact h
    · rw [if_neg hs]
      have hne : (madeL D.now a.1 a.2).isEmpty = false := by
        unfold stayB at hs; rw [Bool.or_eq_true] at hs
        cases hh : (madeL D.now a.1 a.2).isEmpty with
        | false => rfl
        | true => exact absurd (.inl hh) hs
      have ht := trim_ok (p := D.past ++ [D.now]) (fun l hl => by
        rcases List.mem_append.1 hl with hl | hl
        · exact h1 l hl
        · simp at hl; subst hl; exact h2) (by simp; omega)
      exact deskOk_iff.2 ⟨ht.1, made_ok h2 _ _ hne, ht.2⟩
/-- What was done can be undone. -/
theorem do_back {D : Dk} {a : Int × Int} (h : deskOk D = true) (h8 : D.past.length < 8) (hk : a.1 ≠ 6) (hd : (deskDo D a).2 = true) : deskDo (deskDo D a).1 (6, 0) = (D, true) := by
  have hok := do_ok h a
  have hb : undoB D a.1 a.2 = false := by unfold undoB; simp [hk]
  have e : (deskDo D a).1 = ⟨madeL D.now a.1 a.2, D.past ++ [D.now]⟩ := by
    unfold deskDo at hd ⊢
    rw [if_pos h, if_neg (by rw [hb]; simp)] at hd ⊢
    by_cases hs : stayB D a.1 a.2 = true
    · rw [if_pos hs] at hd; cases hd
    · rw [if_neg hs]
      show Dk.mk _ (trimL _) = _
      unfold trimL
      rw [if_neg (by simp; omega)]
  rw [e] at hok ⊢
  unfold deskDo
  rw [if_pos hok, if_pos (by simp [undoB])]
  simp
theorem ones_round {l : List Int} (k : Nat) : ones (roundL l k) = ones l := by
  unfold roundL ones
  rw [List.countP_append, Nat.add_comm, ← List.countP_append, List.take_append_drop]
theorem do_ones {D : Dk} {a : Int × Int} (h : deskOk D = true) (hk : a.1 = 1 ∨ a.1 = 4) (hd : (deskDo D a).2 = true) : onesOut (deskDo D a).1.now = onesOut D.now := by
  have hok := (deskOk_iff.1 (do_ok h a)).2.1
  obtain ⟨h1, h2, h3⟩ := deskOk_iff.1 h
  have hb : undoB D a.1 a.2 = false := by unfold undoB; rcases hk with e | e <;> rw [e] <;> simp
  unfold deskDo at hd hok ⊢
  rw [if_pos h, if_neg (by rw [hb]; simp)] at hd hok ⊢
  by_cases hs : stayB D a.1 a.2 = true
  · rw [if_pos hs] at hd; cases hd
  · rw [if_neg hs] at hok ⊢
    have hs' := hs
    unfold stayB at hs
    unfold onesOut
    rw [if_pos h2, if_pos hok]
    show ((ones (madeL D.now a.1 a.2) : Nat) : Int) = _
    unfold madeL at hs ⊢
    rcases hk with e | e
    · rw [e] at hs ⊢
      by_cases h0 : a.2 = 0
      · rw [if_neg (by simp), if_pos ⟨rfl, h0⟩]
        unfold drivenOut
        rw [if_pos h2, ones_drive (bitsOk_iff.1 h2).1]
      · simp [h0] at hs
    · rw [e] at hs ⊢
      by_cases h0 : within a.2 0 ((D.now.length : Int) - 1) = true
      · simp [h0, ones_round]
      · simp [h0] at hs

/-- What a run of deeds gives. -/
def runF (s : Dk × Nat) (a : Int × Int) : Dk × Nat := if (deskDo s.1 a).2 = true then ((deskDo s.1 a).1, s.2 + 1) else s
def runL (D : Dk) (l : List (Int × Int)) : Dk × Nat := l.foldl runF (D, 0)
theorem run_from : ∀ (l : List (Int × Int)) (D : Dk) (m : Nat), l.foldl runF (D, m) = ((runL D l).1, m + (runL D l).2)
  | [], D, m => rfl
  | a :: l, D, m => by
    unfold runL
    rw [List.foldl_cons, List.foldl_cons]
    have h : ∀ m, runF (D, m) a = ((runF (D, 0) a).1, m + (runF (D, 0) a).2) := by intro m; unfold runF; simp only; split <;> simp
    rw [h m]
    obtain ⟨D1, m1⟩ := runF (D, 0) a
    rw [run_from l D1 (m + m1), run_from l D1 m1]
    simp only [Prod.mk.injEq, true_and]
    omega
theorem run_append (D : Dk) (a b : List (Int × Int)) : runL D (a ++ b) = ((runL (runL D a).1 b).1, (runL D a).2 + (runL (runL D a).1 b).2) := by
  have h : runL D (a ++ b) = b.foldl runF (runL D a) := by unfold runL; rw [List.foldl_append]
  rw [h]
  exact run_from b (runL D a).1 (runL D a).2
theorem run_snoc (D : Dk) (l : List (Int × Int)) (a : Int × Int) : runL D (l ++ [a]) = runF (runL D l) a := by unfold runL; rw [List.foldl_append]; rfl
theorem run_ok {D : Dk} (h : deskOk D = true) (l : List (Int × Int)) : deskOk (runL D l).1 = true := by
  suffices H : ∀ (l : List (Int × Int)) (s : Dk × Nat), deskOk s.1 = true → deskOk (l.foldl runF s).1 = true from H l _ h
  intro l
  induction l with
  | nil => intro s hs; exact hs
  | cons a l ih =>
    intro s hs
    rw [List.foldl_cons]
    refine ih _ ?_
    unfold runF
    split
    · exact do_ok hs a
    · exact hs
theorem run_le (D : Dk) (l : List (Int × Int)) : (runL D l).2 ≤ l.length := by
  suffices H : ∀ (l : List (Int × Int)) (s : Dk × Nat), (l.foldl runF s).2 ≤ s.2 + l.length from by have := H l (D, 0); simpa [runL] using this
  intro l
  induction l with
  | nil => intro s; simp
  | cons a l ih =>
    intro s
    rw [List.foldl_cons]
    refine Nat.le_trans (ih _) ?_
    have : (runF s a).2 ≤ s.2 + 1 := by unfold runF; split <;> simp
    simp
    omega
/-- What DeskRun gives. -/
def runOk (D : Dk) (l : List (Int × Int)) : Bool := deskOk D && decide (l.length ≤ 40)
def runOut (D : Dk) (l : List (Int × Int)) : Dk × Nat := if runOk D l = true then runL D l else (noDk, 0)
end Go.Proofs.Ytkejcajboneniaa
