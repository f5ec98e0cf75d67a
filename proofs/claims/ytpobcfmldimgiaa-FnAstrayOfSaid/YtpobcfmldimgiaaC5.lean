/-
  Walks of the model's rows that sort: KeptOk, l5Swap, SwappedAt. No statement is proved here.
-/
import Derived.Test.YtpobcfmldimgiaaC1a
import Derived.Test.YtpobcfmldimgiaaS5c
import Derived.Test.YtpobcfmldimgiaaEx0
import Derived.OwnWalk
import Derived.IntWalk
namespace Go.Proofs.Ytpobcfmldimgiaa
open Go.RowKit
set_option linter.unusedVariables false
set_option linter.unusedSimpArgs false

set_option maxHeartbeats 800000 in
theorem specKeptOk_any (A : Option Addr) (n c : Nat) (l : List Int) (w : World) (B : Nat) (hs : Sl w B A n l) :
    Calls Try.prog 19 #[.slice A n c] w fun e w' => e = .returned (.bool (keptOk l)) ∧ w = w' := by
  have hm := hs.max
  have hl := hs.len
  have HL := hid hl; clear hl
  go_enter Try.func19, Try.ntmps19
  go_wp2
  go_loop [3] (fun i => ∃ k : Nat, k ≤ n ∧ i = .int .i64 k ∧ allIn (l.take k) 0 99 = true) (fun i => n - (intOf i).toNat)
  case atStart => exact ⟨0, Nat.zero_le _, rfl, rfl⟩
  case round =>
    obtain ⟨k, hk, rfl, hall⟩ := hrel
    have HA := hid hall; clear hall
    by_cases hlt : k < n
    · obtain ⟨b, off, rfl, _, hc⟩ := hs.2.2 (by omega)
      have hck := hc k hlt
      clear hc
      by_cases h1 : within (nth l k) 0 99 = true
      · go_wp2_with (go_at_call 47; refine (l1In_any _ _ _ _).mono ?_; rintro e w' ⟨rfl, rfl⟩)
        go_round
        case rel => exact ⟨k + 1, by omega, by go_num, by rw [take_nth (by rw [HL.out]; exact hlt), allIn_snoc, HA.out]; exact h1⟩
        case measure => simp [intOf]; omega
      · have h1' : within (nth l k) 0 99 = false := by simpa using h1
        go_wp2_with (go_at_call 47; refine (l1In_any _ _ _ _).mono ?_; rintro e w' ⟨rfl, rfl⟩)
        go_ret
        refine ⟨ret_bool ?_, rfl⟩
        have : allIn l 0 99 = false := by
          apply allIn_take_false (k := k + 1)
          rw [take_nth (by rw [HL.out]; exact hlt), allIn_snoc, HA.out]; exact h1'
        simp [keptOk, this]
    · have hA : allIn l 0 99 = true := by have := HA.out; rwa [List.take_of_length_le (by rw [HL.out]; omega)] at this
      have HA2 := hid hA; clear hA
      go_wp2_with (go_at_call 47; refine (l1In_any _ _ _ _).mono ?_; rintro e w' ⟨rfl, rfl⟩)
      go_ret
      refine ⟨ret_bool ?_, rfl⟩
      unfold keptOk
      rw [HA2.out, HL.out]; rfl

theorem drewN_grown (w : World) (m : Nat) : w.grownBy (w.drewN m) none := ⟨rfl, rfl, rfl, Nat.le_refl _, fun _ _ _ => rfl⟩

set_option maxRecDepth 100000 in
set_option maxHeartbeats 3200000 in
theorem l5Swap_any (A : Option Addr) (n c : Nat) (l : List Int) (K : Nat) (w : World) (hs : Sl w w.heap.size A n l) (h1 : 1 ≤ n) (hn : n ≤ 14) (hK : K ≤ 1000000) :
    Calls Try.prog 53 #[.slice A n c, .int .i64 K] w fun e w' => ∃ A2 c2, e = .returned (.slice A2 n c2) ∧ w'.ownsRow w.heap.size 3 1 (.slice A2 n c2) n (ints (stepS ltZ K l)) ∧ Below w.heap.size w w' := by
  obtain ⟨i0, hi, hz0, hz1, hz2⟩ := info_parts info_int
  have ho0 : (w.alloc (.cells #[] 3)).ownsRow w.heap.size 3 1 (.slice (some ⟨w.heap.size, 0, none⟩) 0 0) 0 (ints []) := World.ownsRow_lit w #[] 0 (Nat.le_refl _) (by simp [maxLen]) rfl
  have hb0 : Below w.heap.size w (w.alloc (.cells #[] 3)) := (Below.refl _ _).alloc (Nat.le_refl _) _
  have hl := hs.len
  have HL := hid hl; clear hl
  have hs1 := hs.on hb0
  obtain ⟨bl, off, rfl, hbl, hc⟩ := hs.2.2 (by omega)
  clear hc
  have m1 : (K : Int).tmod 2 = ((K % 2 : Nat) : Int) := by rw [Int.tmod_eq_emod_of_nonneg (by omega)]; omega
  go_enter Try.func53, Try.ntmps53
  go_wp2_with (at_builtin; refine wpList_append_own _ rfl (.tmp 8) (.tmp 9) 23 rfl w.heap.size 3 i0 (.int .i64 0) 1 8 Try.underlying23 hi hz0 hz1 hz2 rfl (by decide) (.slice (some ⟨w.heap.size, 0, none⟩) 0 0) _ _ rfl ho0 ⟨bl, off, none⟩ n c (ints l) rfl (by rw [List.length_map, HL.out, Nat.mul_one]) hs1.cellsAt (ints_one l) (by simp only [maxLen]; omega) (by omega) hb0.size ?_; intro v2 w2 o2 g2 _)
  obtain ⟨g, c2, rfl, hbg, hlt2⟩ := own_shape1 o2 (by omega)
  have hb1 := hb0.grown g2 hb0.size (by intro j hj; simp [Value.ownBlock] at hj; omega)
  rw [show ints [] ++ ints l = ints (curS l K (K % 2)) from by rw [curS_start]; rfl] at o2
  simp only [Nat.zero_add] at o2
  clear hb0 hs1 ho0 g2 hs
  simp only [Nat.zero_add]
  have HB := hid hb1
  clear hb1
  go_loopw [6] (fun i wr => ∃ k : Nat, i = .int .i64 k ∧ k ≤ n + 1 ∧ k % 2 = K % 2 ∧ wr.ownsRow w.heap.size 3 1 (.slice (some ⟨g, 0, none⟩) n c2) n (ints (curS l K k)) ∧ Hid (Below w.heap.size w wr)) (fun i _ => n + 3 - (intOf i).toNat)
  case atStart => exact ⟨K % 2, by simp, by omega, by omega, o2, HB⟩
  case round =>
    clear o2 HB
    obtain ⟨k, rfl, hk, hp, o2, HB⟩ := hrel
    by_cases hlt : k + 1 < n
    · have hlen : (curS l K k).length = n := by rw [curS_len (by rw [HL.out]; omega), HL.out]
      have hx := own_cell o2 hlen (show k < n by omega)
      have hy := own_cell o2 hlen hlt
      have hat := curS_at (l := l) (K := K) (k := k) (by rw [HL.out]; exact hlt)
      rw [hat.1] at hx
      rw [hat.2] at hy
      clear hat
      have e0 : ((k : Int) + 1).toNat = k + 1 := by omega
      have e1 : (0 : Int) ≤ (k : Int) + 1 := by omega
      have e2 : (k : Int) + 1 < (n : Int) := by omega
      have e3 : (k : Int) < (n : Int) := by omega
      by_cases hsw : nth l (k + 1) < nth l k
      · have HE := hid (curS_swap (l := l) hp (by rw [HL.out]; exact hlt) hsw)
        obtain ⟨x, hxe⟩ : ∃ x, nth l k = x := ⟨_, rfl⟩
        obtain ⟨y, hye⟩ : ∃ y, nth l (k + 1) = y := ⟨_, rfl⟩
        rw [hxe] at hx HE hsw
        rw [hye] at hy HE hsw
        clear hxe hye hlen
        have hf1 := o2.frozenAt k
        have hf2 := o2.frozenAt (k + 1)
        have OO := hid (fun m => (own_kept_none o2 (drewN_grown wr m)).stored k (.int .i64 y))
        clear o2
        go_wp2
        go_quiet (fail)
        go_wp2
        obtain ⟨p1, p2⟩ := OO.out nq
        obtain ⟨q1, q2⟩ := p1.stored (k + 1) (.int .i64 x)
        rw [ints_set, ints_set, HE.out] at q1
        have Q1 := hid q1
        replace HB := hid (((below_drewN HB.out nq).grown p2 HB.out.size (by intro j hj; cases hj; exact hbg)).grown q2 (by have := HB.out.size; simp [World.setCell]; omega) (by intro j hj; cases hj; exact hbg))
        clear p1 p2 q1 q2 OO
        go_roundw
        case rel => exact ⟨k + 2, by go_num, by omega, by omega, Q1.out, HB⟩
        case measure => simp [intOf]; omega
      · have HE := hid (curS_keep (l := l) hp (by rw [HL.out]; exact hlt) hsw)
        obtain ⟨x, hxe⟩ : ∃ x, nth l k = x := ⟨_, rfl⟩
        obtain ⟨y, hye⟩ : ∃ y, nth l (k + 1) = y := ⟨_, rfl⟩
        rw [hxe] at hx hsw
        rw [hye] at hy hsw
        have hsw' : decide (y < x) = false := by simpa using hsw
        clear hxe hye hlen hsw
        have OO := hid (fun m => own_kept_none o2 (drewN_grown wr m))
        clear o2
        go_wp2
        go_quiet (fail)
        go_wp2
        have Q1 := hid (OO.out nq)
        rw [HE.out] at Q1
        replace HB := hid (below_drewN HB.out nq)
        go_roundw
        case rel => exact ⟨k + 2, by go_num, by omega, by omega, Q1.out, HB⟩
        case measure => simp [intOf]; omega
    · have HE := hid (curS_end (l := l) hp (by rw [HL.out]; omega))
      have hlt' : ¬ ((k : Int) + 1 < (n : Int)) := by omega
      rw [HE.out] at o2
      have Q1 := hid o2
      clear o2
      go_wp2
      go_ret
      exact ⟨_, _, rfl, Q1.out, HB.out⟩
end Go.Proofs.Ytpobcfmldimgiaa
