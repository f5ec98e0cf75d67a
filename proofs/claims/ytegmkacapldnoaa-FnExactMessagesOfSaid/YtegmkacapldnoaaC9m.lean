/-
  Walk of the model's MessagesOf. No statement is proved here.
-/
import Derived.Test.YtegmkacapldnoaaC9c
namespace Go.Proofs.Ytegmkacapldnoaa
open Go.RowKit
set_option linter.unusedVariables false
set_option linter.unusedSimpArgs false

/-- What MessagesOf gives. -/
def messOut (l : List Int) : Int := if ringOk l = true then (messN l : Int) else -1
def sendN (m : List Int) (k : Nat) : Nat := sumN (fun k => if 0 < nth m k then 1 else 0) k
theorem sendN_le (m : List Int) (k : Nat) : sendN m k ≤ k := by
  have h : sendN m k ≤ sumN (fun _ => 1) k := sumN_le fun s _ => by split <;> omega
  rwa [sumN_const, Nat.mul_one] at h
def messTo (l : List Int) (s : Nat) : Nat := sumN (fun s => countP (sentL l s)) s
theorem messTo_le {l : List Int} (h : l.length ≤ 12) (s : Nat) : messTo l s ≤ s * 12 := by
  have h2 : messTo l s ≤ sumN (fun _ => 12) s := sumN_le fun t _ => by
    have := sendN_le (sentL l t) (sentL l t).length
    rw [sentL_len] at this
    show countP (sentL l t) ≤ 12
    unfold countP
    rw [sentL_len]
    exact Nat.le_trans this h
  rwa [sumN_const] at h2
theorem messTo_succ (l : List Int) (s : Nat) : messTo l (s + 1) = messTo l s + sendN (sentL l s) l.length := by
  show sumN _ (s + 1) = _
  simp only [sumN]
  unfold messTo countP sendN
  rw [sentL_len]

set_option maxRecDepth 100000 in
set_option maxHeartbeats 3200000 in
theorem specMessagesOf_any (A : Option Addr) (n c : Nat) (l : List Int) (w : World) (hs : Sl w w.heap.size A n l) :
    Calls Try.prog 29 #[.slice A n c] w fun e w' => e = .returned (.int .i64 (messOut l)) ∧ Below w.heap.size w w' := by
  obtain ⟨i0, hi, hz0, hz1, hz2⟩ := info_parts info_int
  have HL := hid hs.len
  have CK := hid (specChosenAt_any A n c l w hs)
  cases hok : ringOk l with
  | false =>
    have HV := hid (show messOut l = -1 from by unfold messOut; rw [hok]; rfl)
    rw [show chosenOut l = .tuple #[.int .i64 (-1), .int .i64 (-1), .bool false] from by unfold chosenOut; rw [hok]; rfl] at CK
    clear hok
    go_enter Try.func29, Try.ntmps29
    go_wp2_with fail
    with_reducible refine Calls.mono CK.out ?_
    rintro e w1 ⟨rfl, b1⟩
    go_wp2
    go_ret
    exact ⟨by rw [HV.out]; rfl, b1⟩
  | true =>
    obtain ⟨_, _, h1, h2⟩ := ringOk_iff.1 hok
    have HV := hid (show messOut l = (messTo l n : Int) from by unfold messOut; rw [if_pos hok]; unfold messN messTo; rw [HL.out])
    rw [show chosenOut l = .tuple #[.int .i64 (maxAt l : Int), .int .i64 ((n - 1 : Nat) : Int), .bool true] from by unfold chosenOut; rw [if_pos hok, HL.out]] at CK
    have HML := hid (fun s => messTo_le h2 s)
    rw [HL.out] at h1 h2
    have HMS := hid (messTo_succ l)
    rw [HL.out] at HMS
    have HSL := hid (fun (s : Nat) => (sentL_len l s).trans HL.out)
    have HS := hid hs
    obtain ⟨bl, off, rfl, hbl, hc⟩ := hs.2.2 (by omega)
    obtain ⟨q, rfl⟩ : ∃ q, n = q + 1 := ⟨n - 1, by omega⟩
    rw [show q + 1 - 1 = q from rfl] at CK
    clear hok hc hs
    go_enter Try.func29, Try.ntmps29
    go_wp2_with fail
    with_reducible refine Calls.mono CK.out ?_
    rintro e w1 ⟨rfl, b1⟩
    have hz := b1.size
    have ho0 : (w1.alloc (.cells #[] 3)).ownsRow w.heap.size 3 1 (.slice (some ⟨w1.heap.size, 0, none⟩) 0 0) 0 (ints []) := World.ownsRow_lit w1 #[] 0 hz (by simp [maxLen]) rfl
    have hb0 : Below w.heap.size w (w1.alloc (.cells #[] 3)) := b1.alloc hz _
    have hs1 := HS.out.on hb0
    clear b1
    go_wp2_with (at_builtin; refine wpList_append_own _ rfl _ _ 23 rfl w.heap.size 3 i0 (.int .i64 0) 1 8 Try.underlying23 hi hz0 hz1 hz2 rfl (by decide) (.slice (some ⟨w1.heap.size, 0, none⟩) 0 0) _ _ rfl ho0 ⟨bl, off, none⟩ (q + 1) c (ints l) rfl (by rw [List.length_map, HL.out, Nat.mul_one]) hs1.cellsAt (ints_one l) (by simp only [maxLen]; omega) (by omega) hb0.size ?_; intro v2 w2 o2 g2 _)
    obtain ⟨g, c2, rfl, hbg, hlt2⟩ := own_shape1 o2 (by omega)
    have hb1 := hb0.grown g2 hb0.size (by intro j hj; simp [Value.ownBlock] at hj; omega)
    rw [show ints [] ++ ints l = ints (sentL l 0) from rfl] at o2
    simp only [Nat.zero_add] at o2
    clear hb0 hs1 ho0 g2 CK
    simp only [Nat.zero_add]
    have HB1 := hid hb1
    clear hb1
    go_loopw [6, 7, 8] (fun x v i wr => ∃ (A1 : Option Addr) (c1 s : Nat), x = .int .i64 (messTo l s : Int) ∧ v = .slice A1 (q + 1) c1 ∧ i = .int .i64 s ∧ s ≤ q + 1 ∧ wr.ownsRow w.heap.size 3 1 (.slice A1 (q + 1) c1) (q + 1) (ints (sentL l s)) ∧ Hid (Below w.heap.size w wr)) (fun _ _ i _ => q + 1 - (intOf i).toNat)
    case atStart => exact ⟨_, _, 0, rfl, rfl, rfl, by omega, o2, HB1⟩
    case round =>
      clear o2 HB1
      obtain ⟨A1, c1, s, rfl, rfl, rfl, hsn, o2, HB1⟩ := hrel
      by_cases hlt : s ≤ q
      · have hlti : (s : Int) ≤ (q : Int) := by omega
        have hml := HML.out s
        rcases own_form9 o2 with ⟨_, h0, _⟩ | ⟨g1, rfl, _, _⟩
        · omega
        go_wp2_with fail
        go_loopw [6, 9] (fun x i wr => ∃ k : Nat, x = .int .i64 ((messTo l s + sendN (sentL l s) k : Nat) : Int) ∧ i = .int .i64 k ∧ k ≤ q + 1 ∧ wr.ownsRow w.heap.size 3 1 (.slice (some ⟨g1, 0, none⟩) (q + 1) c1) (q + 1) (ints (sentL l s)) ∧ Hid (Below w.heap.size w wr)) (fun _ i _ => q + 1 - (intOf i).toNat)
        case atStart => exact ⟨0, rfl, rfl, Nat.zero_le _, o2, HB1⟩
        case round =>
          clear o2 HB1
          obtain ⟨k, rfl, rfl, hk, o2, HB1⟩ := hrel
          by_cases hkn : k < q + 1
          · have x1 := own_cell o2 (HSL.out s) hkn
            have hkni : (k : Int) < (q : Int) + 1 := by omega
            have hsl := sendN_le (sentL l s) k
            have hss : sendN (sentL l s) (k + 1) = sendN (sentL l s) k + (if 0 < nth (sentL l s) k then 1 else 0) := rfl
            obtain ⟨x, hx⟩ : ∃ x, nth (sentL l s) k = x := ⟨_, rfl⟩
            obtain ⟨N, hN⟩ : ∃ N, messTo l s + sendN (sentL l s) k = N := ⟨_, rfl⟩
            rw [hx] at x1 hss
            rw [hN]
            have hNb : N ≤ 1000 := by omega
            have w1 : IntKind.i64.wrap ((N : Int) + 1) = (N : Int) + 1 := IntWalk.i64_in _ (by omega)
            by_cases hp : 0 < x
            · have HN := hid (show messTo l s + sendN (sentL l s) (k + 1) = N + 1 from by rw [hss, if_pos hp]; omega)
              clear hx hN hss hsl hml
              go_wp2
              go_roundw
              case rel => exact ⟨k + 1, by rw [HN.out]; go_num, by go_num, by omega, o2, HB1⟩
              case measure => simp [intOf]; omega
            · have HN := hid (show messTo l s + sendN (sentL l s) (k + 1) = N from by rw [hss, if_neg hp]; omega)
              clear hx hN hss hsl hml
              go_wp2
              go_roundw
              case rel => exact ⟨k + 1, by rw [HN.out], by go_num, by omega, o2, HB1⟩
              case measure => simp [intOf]; omega
          · obtain rfl : k = q + 1 := by omega
            have CV := hid (l9Step_any _ (some ⟨g1, 0, none⟩) (q + 1) c c1 l (sentL l s) wr (HS.out.on HB1.out) (Sl.of_own o2) h2)
            rw [show stepL l (sentL l s) = sentL l (s + 1) from rfl] at CV
            rw [← HMS.out]
            clear o2
            go_wp2_with fail
            with_reducible refine Calls.mono CV.out ?_
            rintro e w3 ⟨A3, c3, rfl, o3, b3⟩
            have O3 := hid (own_mono o3 HB1.out.size)
            replace HB1 := hid (HB1.out.trans (b3.mono HB1.out.size))
            clear o3 b3
            go_wp2
            go_roundw
            case rel => exact ⟨A3, c3, s + 1, rfl, rfl, by go_num, by omega, O3.out, HB1⟩
            case measure => simp [intOf]; omega
      · obtain rfl : s = q + 1 := by omega
        have hni : decide ((q : Int) + 1 ≤ (q : Int)) = false := by simp; omega
        go_wp2
        go_ret
        exact ⟨by rw [HV.out]; rfl, HB1.out⟩
end Go.Proofs.Ytegmkacapldnoaa
