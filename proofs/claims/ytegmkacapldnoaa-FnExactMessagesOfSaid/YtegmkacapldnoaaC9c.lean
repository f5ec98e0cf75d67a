/-
  Walk of the model's ChosenAt. No statement is proved here.
-/
import Derived.Test.YtegmkacapldnoaaC9
namespace Go.Proofs.Ytegmkacapldnoaa
open Go.RowKit
set_option linter.unusedVariables false
set_option linter.unusedSimpArgs false

/-- The place of the greatest number. -/
def maxAt (l : List Int) : Nat := ((List.range l.length).find? (fun p => (List.range l.length).all (fun i => decide (nth l i ≤ nth l p)))).getD 0
theorem maxAt_is {l : List Int} (h0 : 0 < l.length) : isMax l (maxAt l) := by
  obtain ⟨p, hp, hq⟩ := max_there h0
  unfold maxAt
  rcases hf : (List.range l.length).find? (fun p => (List.range l.length).all (fun i => decide (nth l i ≤ nth l p))) with _ | m
  · rw [List.find?_eq_none] at hf
    exact absurd (by simpa using hq) (hf p (by simpa using hp))
  · have h1 := List.find?_some hf
    have h2 := List.mem_of_find?_eq_some hf
    exact ⟨by simpa using h2, by simpa using h1⟩
/-- What ChosenAt gives. -/
def chosenOut (l : List Int) : Value := if ringOk l = true then .tuple #[.int .i64 (maxAt l : Int), .int .i64 ((l.length - 1 : Nat) : Int), .bool true] else .tuple #[.int .i64 (-1), .int .i64 (-1), .bool false]
theorem chosen_form (l : List Int) : ∃ y z v, chosenOut l = .tuple #[.int .i64 y, .int .i64 z, .bool v] := by
  unfold chosenOut
  split
  · exact ⟨_, _, _, rfl⟩
  · exact ⟨_, _, _, rfl⟩
theorem own_form9 {w : World} {B n c : Nat} {A : Option Addr} {e : TypeId} {xs : List Value} (h : w.ownsRow B e 1 (.slice A n c) n xs) : (A = none ∧ n = 0 ∧ c = 0) ∨ ∃ g, A = some ⟨g, 0, none⟩ ∧ n ≤ c ∧ c ≤ maxLen := by
  rcases h.2 with ⟨h1, h2⟩ | ⟨g, cap, cur, hv, hbg, hgg, hnc, hcm, hsz, ht⟩
  · injection h1 with e1 e2 e3
    exact .inl ⟨e1, h2, e3⟩
  · injection hv with e1 e2 e3
    subst e3
    exact .inr ⟨g, e1, hnc, hcm⟩

set_option maxRecDepth 100000 in
set_option maxHeartbeats 3200000 in
theorem specChosenAt_any (A : Option Addr) (n c : Nat) (l : List Int) (w : World) (hs : Sl w w.heap.size A n l) :
    Calls Try.prog 26 #[.slice A n c] w fun e w' => e = .returned (chosenOut l) ∧ Below w.heap.size w w' := by
  obtain ⟨i0, hi, hz0, hz1, hz2⟩ := info_parts info_int
  have HL := hid hs.len
  have CK := hid (specRingOk_any A n c l w hs)
  cases hok : ringOk l with
  | false =>
    have HV := hid (show chosenOut l = .tuple #[.int .i64 (-1), .int .i64 (-1), .bool false] from by unfold chosenOut; rw [hok]; rfl)
    rw [hok] at CK
    clear hok
    go_enter Try.func26, Try.ntmps26
    go_wp2_with fail
    with_reducible refine Calls.mono CK.out ?_
    rintro e w1 ⟨rfl, b1⟩
    go_wp2
    refine bodyPost_ret (results_tmp3 rfl _ _ _) rfl ?_
    exact ⟨by rw [HV.out]; rfl, b1⟩
  | true =>
    obtain ⟨_, _, h1, h2⟩ := ringOk_iff.1 hok
    have HP := hid (ring_pos hok)
    have HA := hid (ring_apart hok)
    have HMX := hid (maxAt_is (l := l) (by omega))
    have HH := hid (fun (s k : Nat) (h1 : s < n) (h2 : k < n) => hear_iff HP.out HA.out (s := s) (k := k) (by rw [HL.out]; exact h1) (by rw [HL.out]; exact h2))
    rw [HL.out] at h1 h2 HH
    have HV := hid (fun (k : Nat) (h : isMax l k) => show chosenOut l = .tuple #[.int .i64 (k : Int), .int .i64 ((n - 1 : Nat) : Int), .bool true] from by
      unfold chosenOut; rw [if_pos hok, max_one HA.out h HMX.out, HL.out])
    have HSL := hid (fun (s : Nat) => (sentL_len l s).trans HL.out)
    rw [hok] at CK
    have HS := hid hs
    obtain ⟨bl, off, rfl, hbl, hc⟩ := hs.2.2 (by omega)
    have HC := hid (fun (W : World) (hW : Below w.heap.size w W) (j : Nat) (hj : j < n) => show W.cell? ⟨bl, off + j, none⟩ = some (.int .i64 (nth l j)) from by
      obtain ⟨b', off', e2, _, hc⟩ := (HS.out.below hW).2.2 (by omega)
      injection e2 with e2
      injection e2 with e3 e4
      subst e3
      subst e4
      exact hc j hj)
    clear hok hc hs
    go_enter Try.func26, Try.ntmps26
    go_wp2_with fail
    with_reducible refine Calls.mono CK.out ?_
    rintro e w1 ⟨rfl, b1⟩
    have hz := b1.size
    have ho0 : (w1.alloc (.cells #[] 3)).ownsRow w.heap.size 3 1 (.slice (some ⟨w1.heap.size, 0, none⟩) 0 0) 0 (ints []) := World.ownsRow_lit w1 #[] 0 hz (by simp [maxLen]) rfl
    have hb0 : Below w.heap.size w (w1.alloc (.cells #[] 3)) := b1.alloc hz _
    have hs1 := HS.out.on hb0
    clear b1
    go_wp2_with (at_builtin; refine wpList_append_own _ rfl _ _ 23 rfl w.heap.size 3 i0 (.int .i64 0) 1 8 Try.underlying23 hi hz0 hz1 hz2 rfl (by decide) (.slice (some ⟨w1.heap.size, 0, none⟩) 0 0) _ _ rfl ho0 ⟨bl, off, none⟩ n c (ints l) rfl (by rw [List.length_map, HL.out, Nat.mul_one]) hs1.cellsAt (ints_one l) (by simp only [maxLen]; omega) (by omega) hb0.size ?_; intro v2 w2 o2 g2 _)
    obtain ⟨g, c2, rfl, hbg, hlt2⟩ := own_shape1 o2 (by omega)
    have hb1 := hb0.grown g2 hb0.size (by intro j hj; simp [Value.ownBlock] at hj; omega)
    rw [show ints [] ++ ints l = ints (sentL l 0) from rfl] at o2
    simp only [Nat.zero_add] at o2
    clear hb0 hs1 ho0 g2 CK
    simp only [Nat.zero_add]
    have HB1 := hid hb1
    clear hb1
    go_loopw [5, 6] (fun v i wr => ∃ (A1 : Option Addr) (c1 s : Nat), v = .slice A1 n c1 ∧ i = .int .i64 s ∧ s + 1 ≤ n ∧ wr.ownsRow w.heap.size 3 1 (.slice A1 n c1) n (ints (sentL l s)) ∧ Hid (Below w.heap.size w wr)) (fun _ i _ => n - (intOf i).toNat)
    case atStart => exact ⟨_, _, 0, rfl, rfl, by omega, o2, HB1⟩
    case round =>
      clear o2 HB1
      obtain ⟨A1, c1, s, rfl, rfl, hsn, o2, HB1⟩ := hrel
      rcases own_form9 o2 with ⟨_, h0, _⟩ | ⟨g1, rfl, _, _⟩
      · omega
      go_wp2_with fail
      go_loopw [7] (fun i wr => ∃ k : Nat, i = .int .i64 k ∧ k ≤ n ∧ Hid (∀ j, j < k → ¬ (s = n - 1 ∧ isMax l j)) ∧ wr.ownsRow w.heap.size 3 1 (.slice (some ⟨g1, 0, none⟩) n c1) n (ints (sentL l s)) ∧ Hid (Below w.heap.size w wr)) (fun i _ => n - (intOf i).toNat)
      case atStart => exact ⟨0, rfl, Nat.zero_le _, hid (fun j hj => by omega), o2, HB1⟩
      case round =>
        clear o2 HB1
        obtain ⟨k, rfl, hk, HN, o2, HB1⟩ := hrel
        by_cases hlt : k < n
        · obtain ⟨r, hr⟩ : ∃ r, (k + n - 1) % n = r := ⟨_, rfl⟩
          have hrn : r < n := by rw [← hr]; exact Nat.mod_lt _ (by omega)
          have x0 := HC.out wr HB1.out k hlt
          have x1 := own_cell o2 (HSL.out s) hrn
          have hh := HH.out s k (by omega) hlt
          rw [hr] at hh
          have m1 : ((k : Int) + (n : Int) - 1).tmod (n : Int) = (r : Int) := by
            rw [show (k : Int) + (n : Int) - 1 = ((k + n - 1 : Nat) : Int) by omega, ← hr]; rfl
          have w1 : IntKind.i64.wrap ((k : Int) + (n : Int)) = (k : Int) + (n : Int) := IntWalk.i64_in _ (by omega)
          have w2 : IntKind.i64.wrap ((k : Int) + (n : Int) - 1) = (k : Int) + (n : Int) - 1 := IntWalk.i64_in _ (by omega)
          have hlti : (k : Int) < (n : Int) := by omega
          have hri : (r : Int) < (n : Int) := by omega
          have hr0 : (0 : Int) ≤ (r : Int) := by omega
          have hk0 : (0 : Int) ≤ (k : Int) := by omega
          have hn0 : ¬ (n : Int) = 0 := by omega
          obtain ⟨x, hx⟩ : ∃ x, nth l k = x := ⟨_, rfl⟩
          obtain ⟨y, hy⟩ : ∃ y, nth (sentL l s) r = y := ⟨_, rfl⟩
          rw [hx] at x0 hh
          rw [hy] at x1 hh
          have HH2 := hid hh
          clear hx hy hr hh
          by_cases hyx : y = x
          · obtain ⟨hs1, hmx⟩ := HH2.out.1 hyx
            have HV2 := hid (HV.out k hmx)
            subst hyx
            subst hs1
            clear hmx
            go_wp2
            go_quiet (fail)
            go_wp2
            (try simp only [Exit.inBlock, Exit.then])
            refine bodyPost_ret (results_tmp3 rfl _ _ _) rfl ?_
            exact ⟨by rw [HV2.out]; rfl, below_drewN HB1.out _⟩
          · have hyx' : (y == x) = false := by simpa using hyx
            have HX := hid (fun h => hyx (HH2.out.2 h))
            go_wp2
            go_quiet (fail)
            go_wp2
            go_roundw
            case rel => exact ⟨k + 1, by go_num, by omega, hid (fun j hj => by by_cases h : j = k; (subst h; exact HX.out); (exact HN.out j (by omega))), own_kept_none o2 (drewN_g9 _ _), hid (below_drewN HB1.out _)⟩
            case measure => simp [intOf]; omega
        · obtain rfl : k = n := by omega
          have hs2 : s + 1 + 1 ≤ k := by
            by_cases h : s = k - 1
            · exact absurd ⟨h, HMX.out⟩ (HN.out _ (by have := HMX.out.1; rwa [HL.out] at this))
            · omega
          have CV := hid (l9Step_any _ (some ⟨g1, 0, none⟩) k c c1 l (sentL l s) wr (HS.out.on HB1.out) (Sl.of_own o2) h2)
          rw [show stepL l (sentL l s) = sentL l (s + 1) from rfl] at CV
          clear o2
          go_wp2_with fail
          with_reducible refine Calls.mono CV.out ?_
          rintro e w3 ⟨A3, c3, rfl, o3, b3⟩
          have O3 := hid (own_mono o3 HB1.out.size)
          replace HB1 := hid (HB1.out.trans (b3.mono HB1.out.size))
          clear o3 b3
          go_wp2
          go_roundw
          case rel => exact ⟨A3, c3, s + 1, rfl, by go_num, by omega, O3.out, HB1⟩
          case measure => simp [intOf]; omega
end Go.Proofs.Ytegmkacapldnoaa
