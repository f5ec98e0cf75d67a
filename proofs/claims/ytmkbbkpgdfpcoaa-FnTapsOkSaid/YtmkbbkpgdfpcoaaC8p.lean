/-
  Walks of the model's ProductOf, BehindOf and ValueAt. No statement is proved here.
-/
import Derived.Test.YtmkbbkpgdfpcoaaC8
import Derived.Test.YtmkbbkpgdfpcoaaAz
namespace Go.Proofs.Ytmkbbkpgdfpcoaa
open Go.RowKit
set_option linter.unusedVariables false
set_option linter.unusedSimpArgs false

set_option maxRecDepth 100000 in
set_option maxHeartbeats 1600000 in
theorem specBehindOf_any (A A1 A2 : Option Addr) (n c n1 c1 n2 c2 : Nat) (l m xs : List Int) (w : World) (hs : Sl w w.heap.size A n l) (hs1 : Sl w w.heap.size A1 n1 m) (hs2 : Sl w w.heap.size A2 n2 xs) :
    Calls Try.prog 32 #[.slice A n c, .slice A1 n1 c1, .slice A2 n2 c2] w fun e w' => ∃ A3 k c3, e = .returned (.slice A3 k c3) ∧ w'.ownsRow w.heap.size 3 1 (.slice A3 k c3) k (ints (behindOut l m xs)) ∧ k ≤ 16 ∧ Below w.heap.size w w' := by
  have CF := hid (specFedOf_any A A2 n c n2 c2 l xs w hs hs2)
  have H1 := hid hs1
  clear hs hs1 hs2
  go_enter Try.func32, Try.ntmps32
  go_wp2_with fail
  with_reducible refine Calls.mono CF.out ?_
  rintro e w1 ⟨A3, k, c3, rfl, o1, hk, b1⟩
  have CG := hid (specFedOf_any A1 A3 n1 c1 k c3 m (fedOut l xs) w1 (H1.out.on b1) (Sl.of_own o1))
  have B1 := hid b1
  clear o1 b1 CF
  go_wp2_with fail
  with_reducible refine Calls.mono CG.out ?_
  rintro e w2 ⟨A4, j, c4, rfl, o2, hj, b2⟩
  have HO := hid (own_mono (base' := w.heap.size) o2 B1.out.size)
  clear o2
  go_wp2
  go_ret
  exact ⟨_, _, _, rfl, HO.out, hj, B1.out.trans (b2.mono B1.out.size)⟩

/-- What ValueAt tells. -/
def valOk (l : List Int) (x : Int) : Bool := tapsOk l && within x (-3) 3
def valOut (l : List Int) (x : Int) : Value := if valOk l x = true then .tuple #[.int .i64 (valL l x), .bool true] else .tuple #[.int .i64 0, .bool false]
theorem valL_le {l : List Int} {x : Int} (hl : tapsOk l = true) (hx : -3 ≤ x ∧ x ≤ 3) (k : Nat) : -589824 ≤ valL (l.drop k) x ∧ valL (l.drop k) x ≤ 589824 := by
  have hT := tapsOk_iff.1 hl
  have h := valL_bd (l.drop k) hx (M := 9) (by omega) (fun t ht => hT.1 t (List.mem_of_mem_drop ht))
  have h2 : (4 : Int) ^ (l.drop k).length ≤ 4 ^ 8 := by
    have : (l.drop k).length ≤ 8 := by simp; omega
    exact_mod_cast Nat.pow_le_pow_right (by omega : 0 < 4) this
  omega
theorem prod3 {s x M : Int} (hx : -3 ≤ x ∧ x ≤ 3) (hs : -M ≤ s ∧ s ≤ M) : -(3 * M) ≤ s * x ∧ s * x ≤ 3 * M := by
  have h1 : x = -3 ∨ x = -2 ∨ x = -1 ∨ x = 0 ∨ x = 1 ∨ x = 2 ∨ x = 3 := by omega
  rcases h1 with rfl | rfl | rfl | rfl | rfl | rfl | rfl <;> omega

set_option maxRecDepth 100000 in
set_option maxHeartbeats 1600000 in
theorem specValueAt_any (A : Option Addr) (n c : Nat) (l : List Int) (x : Int) (w : World) (B : Nat) (hs : Sl w B A n l) :
    Calls Try.prog 34 #[.slice A n c, .int .i64 x] w fun e w' => e = .returned (valOut l x) ∧ w = w' := by
  have HL := hid hs.len
  have hm0 := hs.max
  have CT := hid (specTapsOk_any A n c l w B hs)
  cases hk : tapsOk l with
  | false =>
    have HO := hid (show valOut l x = .tuple #[.int .i64 0, .bool false] from by unfold valOut valOk; rw [hk]; rfl)
    rw [hk] at CT
    clear hk
    go_enter Try.func34, Try.ntmps34
    go_wp2_with (go_at_call 17; refine CT.out.mono ?_; rintro e w' ⟨rfl, rfl⟩)
    go_ret2
    exact ⟨by rw [HO.out]; rfl, rfl⟩
  | true =>
    rw [hk] at CT
    cases hw : within x (-3) 3 with
    | false =>
      have HO := hid (show valOut l x = .tuple #[.int .i64 0, .bool false] from by unfold valOut valOk; rw [hw, Bool.and_false]; rfl)
      clear hk
      go_enter Try.func34, Try.ntmps34
      go_wp2_with (first | (go_at_call 17; refine CT.out.mono ?_; rintro e w' ⟨rfl, rfl⟩) | (go_at_call 42; refine (l1In_any _ _ _ _).mono ?_; rintro e w' ⟨rfl, rfl⟩))
      go_ret2
      exact ⟨by rw [HO.out]; rfl, rfl⟩
    | true =>
      have HO := hid (show valOut l x = .tuple #[.int .i64 (valL l x), .bool true] from by unfold valOut valOk; rw [hw, hk]; rfl)
      have hx := within_iff.1 hw
      have hT := tapsOk_iff.1 hk
      rw [HL.out] at hT
      have HVB := hid (fun k => valL_le hk hx k)
      have HLB := hid (nth_bd (l := l) (M := 9) (by omega) hT.1)
      have h1 := hT.2.1
      have h8 := hT.2.2
      have HS := hid hs
      clear hk hT hs
      go_enter Try.func34, Try.ntmps34
      go_wp2_with (first | (go_at_call 17; refine CT.out.mono ?_; rintro e w' ⟨rfl, rfl⟩) | (go_at_call 42; refine (l1In_any _ _ _ _).mono ?_; rintro e w' ⟨rfl, rfl⟩))
      have HZ := hid (show valL (l.drop n) x = 0 from by rw [List.drop_of_length_le (by rw [HL.out]; omega)]; rfl)
      go_loop [6, 7] (fun s i => ∃ j : Nat, s = .int .i64 (valL (l.drop j) x) ∧ i = .int .i64 ((j : Int) - 1) ∧ j ≤ n) (fun _ i => (intOf i + 1).toNat)
      case atStart => exact ⟨n, by rw [HZ.out], rfl, Nat.le_refl _⟩
      case round =>
        clear HZ
        obtain ⟨j, rfl, rfl, hj⟩ := hrel
        by_cases h0 : 0 < j
        · obtain ⟨b, off, rfl, _, hc⟩ := HS.out.2.2 (by omega)
          obtain ⟨i, rfl⟩ : ∃ q, j = q + 1 := ⟨j - 1, by omega⟩
          have x0 := hc i (by omega)
          have q0 := HLB.out i
          have q1 := HVB.out (i + 1)
          have hp := prod3 hx q1
          have HV := hid (show valL (l.drop i) x = valL (l.drop (i + 1)) x * x + nth l i from by rw [List.drop_eq_getElem_cons (show i < l.length by rw [HL.out]; omega), nth_lt (by rw [HL.out]; omega)]; rfl)
          obtain ⟨s, hs⟩ : ∃ s, valL (l.drop (i + 1)) x = s := ⟨_, rfl⟩
          obtain ⟨y, hy⟩ : ∃ y, nth l i = y := ⟨_, rfl⟩
          rw [hs] at HV q1 hp
          rw [hs]
          rw [hy] at HV q0 x0
          obtain ⟨p, hpe⟩ : ∃ p, s * x = p := ⟨_, rfl⟩
          have w1 : IntKind.i64.wrap (s * x) = p := by rw [hpe]; exact IntWalk.i64_in _ (by rw [hpe] at hp; omega)
          rw [hpe] at hp HV
          have e1 : ((i + 1 : Nat) : Int) - 1 = (i : Int) := by omega
          rw [e1]
          have hi0 : (0 : Int) ≤ (i : Int) := by omega
          have hin : (i : Int) < (n : Int) := by omega
          clear hs hy hpe hc e1
          go_wp2
          go_round
          case rel => exact ⟨i, by rw [HV.out], by go_num, by omega⟩
          case measure => simp [intOf]
        · obtain rfl : j = 0 := by omega
          go_wp2
          go_ret2
          exact ⟨by rw [HO.out]; rfl, rfl⟩

set_option maxRecDepth 100000 in
set_option maxHeartbeats 1600000 in
theorem specProductOf_any (A A1 : Option Addr) (n c n1 c1 : Nat) (l m : List Int) (w : World) (hs : Sl w w.heap.size A n l) (hs1 : Sl w w.heap.size A1 n1 m) :
    Calls Try.prog 28 #[.slice A n c, .slice A1 n1 c1] w fun e w' => ∃ A2 k c2, e = .returned (.slice A2 k c2) ∧ w'.ownsRow w.heap.size 3 1 (.slice A2 k c2) k (ints (prodOut l m)) ∧ k ≤ 16 ∧ Below w.heap.size w w' := by
  obtain ⟨i0, hi, hz0, hz1, hz2⟩ := info_parts info_int
  have HL := hid hs.len
  have HL1 := hid hs1.len
  have hm0 := hs.max
  have hm1 := hs1.max
  have CT := hid (specTapsOk_any A n c l w _ hs)
  have CU := hid (specTapsOk_any A1 n1 c1 m w _ hs1)
  have ho0 : (w.alloc (.cells #[] 3)).ownsRow w.heap.size 3 1 (.slice (some ⟨w.heap.size, 0, none⟩) 0 0) 0 (ints []) := World.ownsRow_lit w #[] 0 (Nat.le_refl _) (by simp [maxLen]) rfl
  have hb0 : Below w.heap.size w (w.alloc (.cells #[] 3)) := (Below.refl _ _).alloc (Nat.le_refl _) _
  cases hk : tapsOk l with
  | false =>
    have HO := hid (show prodOut l m = [] from by unfold prodOut; rw [hk]; rfl)
    rw [hk] at CT
    clear hk
    go_enter Try.func28, Try.ntmps28
    go_wp2_with (go_at_call 17; refine CT.out.mono ?_; rintro e w' ⟨rfl, rfl⟩)
    go_ret
    exact ⟨_, 0, _, rfl, by rw [HO.out]; exact ho0, by omega, hb0⟩
  | true =>
    rw [hk] at CT
    cases hk2 : tapsOk m with
    | false =>
      have HO := hid (show prodOut l m = [] from by unfold prodOut; rw [hk2]; simp)
      rw [hk2] at CU
      clear hk hk2
      go_enter Try.func28, Try.ntmps28
      go_wp2_with (first | (go_at_call 17; refine CT.out.mono ?_; clear CT; rintro e w' ⟨rfl, rfl⟩) | (go_at_call 17; refine CU.out.mono ?_; rintro e w' ⟨rfl, rfl⟩))
      go_ret
      exact ⟨_, 0, _, rfl, by rw [HO.out]; exact ho0, by omega, hb0⟩
    | true =>
      have hT := tapsOk_iff.1 hk
      have hU := tapsOk_iff.1 hk2
      have HO := hid (show fedOut l (m ++ List.replicate (n - 1) 0) = prodOut l m from by
        have hin : inOk (m ++ List.replicate (n - 1) 0) = true := by
          rw [inOk_iff]
          refine ⟨fun x hx => ?_, by simp; have := hT.2.2; have := hU.2.2; rw [HL.out] at hT; omega⟩
          rcases List.mem_append.1 hx with h | h
          · have := hU.1 x h; omega
          · have := (List.mem_replicate.1 h).2; omega
        unfold fedOut prodOut
        rw [hk, hin, hk2, ← HL.out, prodL_fed _ _ hT.2.1])
      rw [hk2] at CU
      rw [HL.out] at hT
      rw [HL1.out] at hU
      have h1 := hT.2.1
      have h8 := hT.2.2
      have k1 := hU.2.1
      have k8 := hU.2.2
      clear hk hk2 hT hU
      have hs1' := hs1.on hb0
      obtain ⟨b1, off1, rfl, hb1, hc1⟩ := hs1.2.2 (by omega)
      clear hc1
      have HSL := hid (fun (W : World) (hb : Below w.heap.size w W) => hs.on hb)
      go_enter Try.func28, Try.ntmps28
      go_wp2_with (first
        | (go_at_call 17; refine CT.out.mono ?_; clear CT; rintro e w' ⟨rfl, rfl⟩)
        | (go_at_call 17; refine CU.out.mono ?_; clear CU; rintro e w' ⟨rfl, rfl⟩)
        | (at_builtin; refine wpList_append_own _ rfl (.tmp 15) (.tmp 16) 23 rfl w.heap.size 3 i0 (.int .i64 0) 1 8 Try.underlying23 hi hz0 hz1 hz2 rfl (by decide) (.slice (some ⟨w.heap.size, 0, none⟩) 0 0) _ _ rfl ho0 ⟨b1, off1, none⟩ n1 c1 (ints m) rfl (by rw [List.length_map, HL1.out, Nat.mul_one]) hs1'.cellsAt (ints_one m) (by simp only [maxLen]; omega) (by omega) hb0.size ?_; intro v2 w2 o2 g2 _; rw [Nat.zero_add, show ints [] ++ ints m = ints m from rfl] at o2; obtain ⟨gA, c2, rfl, hbA, hltA⟩ := own_shape1 o2 (by omega); have hb2 := hb0.grown g2 hb0.size (by intro j hj; simp [Value.ownBlock] at hj; omega); have hs2 := hb2.size)
        | (at_builtin; refine wpList_append_zeros _ rfl (.tmp 17) (.tmp 20) 23 3 rfl w.heap.size 3 i0 (.int .i64 0) 8 .i64 Try.underlying23 Try.underlying3 hi hz0 hz1 hz2 rfl rfl gA n1 c2 (n - 1) .i64 _ (ints m) rfl rfl (by omega) o2 (by omega) (by omega) (by simp only [maxLen]; omega) (by omega) hs2 ?_; intro v4 w4 o4 g4))
      obtain ⟨g5, c5, rfl, hb5, hlt5⟩ := own_shape1 o4 (by omega)
      rw [show ints m ++ List.replicate (n - 1) (Value.int .i64 0) = ints (m ++ List.replicate (n - 1) 0) from by simp [ints]] at o4
      have hb4 := hid (hb2.grown g4 hs2 (by intro j hj; cases hj; exact hbA))
      have CF := hid (specFedOf_any A (some ⟨g5, 0, none⟩) n c (n1 + (n - 1)) c5 l (m ++ List.replicate (n - 1) 0) w4 (HSL.out w4 hb4.out) (Sl.of_own o4))
      rw [HO.out] at CF
      clear hb0 ho0 hs hs1 hs1' g2 o2 hb2 g4 o4
      go_wp2_with fail
      with_reducible refine Calls.mono CF.out ?_
      rintro e w5 ⟨A6, k6, c6, rfl, o6, hk6, b6⟩
      have HF := hid (own_mono (base' := w.heap.size) o6 hb4.out.size)
      clear o6
      go_wp2
      go_ret
      exact ⟨_, _, _, rfl, HF.out, hk6, hb4.out.trans (b6.mono hb4.out.size)⟩

theorem valOut_form (l : List Int) (x : Int) : ∃ y v, valOut l x = .tuple #[.int .i64 y, .bool v] := by
  unfold valOut
  split
  · exact ⟨_, _, rfl⟩
  · exact ⟨_, _, rfl⟩
theorem specFedOf_x (A : Option Addr) (n c : Nat) (l : List Int) (A1 : Option Addr) (n1 c1 : Nat) (xs : List Int) (w : World) (hs : Sl w w.heap.size A n l) (hs1 : Sl w w.heap.size A1 n1 xs) :
    Calls Try.prog 25 #[.slice A n c, .slice A1 n1 c1] w fun e w' => ∃ A2 m c2, e = .returned (.slice A2 m c2) ∧ w'.ownsRow w.heap.size 3 1 (.slice A2 m c2) m (ints (fedOut l xs)) ∧ m ≤ 16 ∧ Below w.heap.size w w' :=
  specFedOf_any A A1 n c n1 c1 l xs w hs hs1
theorem specProductOf_x (A : Option Addr) (n c : Nat) (l : List Int) (A1 : Option Addr) (n1 c1 : Nat) (m : List Int) (w : World) (hs : Sl w w.heap.size A n l) (hs1 : Sl w w.heap.size A1 n1 m) :
    Calls Try.prog 28 #[.slice A n c, .slice A1 n1 c1] w fun e w' => ∃ A2 k c2, e = .returned (.slice A2 k c2) ∧ w'.ownsRow w.heap.size 3 1 (.slice A2 k c2) k (ints (prodOut l m)) ∧ k ≤ 16 ∧ Below w.heap.size w w' :=
  specProductOf_any A A1 n c n1 c1 l m w hs hs1
theorem specBehindOf_x (A : Option Addr) (n c : Nat) (l : List Int) (A1 : Option Addr) (n1 c1 : Nat) (m : List Int) (A2 : Option Addr) (n2 c2 : Nat) (xs : List Int) (w : World) (hs : Sl w w.heap.size A n l) (hs1 : Sl w w.heap.size A1 n1 m) (hs2 : Sl w w.heap.size A2 n2 xs) :
    Calls Try.prog 32 #[.slice A n c, .slice A1 n1 c1, .slice A2 n2 c2] w fun e w' => ∃ A3 k c3, e = .returned (.slice A3 k c3) ∧ w'.ownsRow w.heap.size 3 1 (.slice A3 k c3) k (ints (behindOut l m xs)) ∧ k ≤ 16 ∧ Below w.heap.size w w' :=
  specBehindOf_any A A1 A2 n c n1 c1 n2 c2 l m xs w hs hs1 hs2
end Go.Proofs.Ytmkbbkpgdfpcoaa
