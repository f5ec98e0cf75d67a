/-
  The walk of the model's SettledAfter. No statement is proved here.
-/
import Derived.Test.YtfmlekcdjjkolaaC7b
namespace Go.Proofs.Ytfmlekcdjjkolaa
open Go.RowKit
set_option linter.unusedVariables false
set_option linter.unusedSimpArgs false

/-- What SettledAfter tells. -/
def settleC (l : List Int) : Int := if votesOk l = true then (settleL l : Int) else -1
theorem take_same {a b : List Int} {k : Nat} (h1 : k < a.length) (h2 : k < b.length) : a.take (k + 1) = b.take (k + 1) ↔ a.take k = b.take k ∧ nth a k = nth b k := by
  rw [take_nth h1, take_nth h2]
  constructor
  · intro h
    have := List.append_inj' h (by simp)
    exact ⟨this.1, by simpa using this.2⟩
  · rintro ⟨h, h'⟩; rw [h, h']

set_option maxRecDepth 100000 in
set_option maxHeartbeats 6400000 in
theorem specSettledAfter_any (A : Option Addr) (n c : Nat) (l : List Int) (w : World) (hs : Sl w w.heap.size A n l) :
    Calls Try.prog 23 #[.slice A n c] w fun e w' => e = .returned (.int .i64 (settleC l)) ∧ Below w.heap.size w w' := by
  obtain ⟨i0, hi, hz0, hz1, hz2⟩ := info_parts info_int
  have HL := hid hs.len
  have CK := hid (specVotesOk_any A n c l w w.heap.size hs)
  cases hok : votesOk l with
  | false =>
    have HV := hid (show settleC l = -1 from by unfold settleC; rw [hok]; rfl)
    rw [hok] at CK
    clear hok
    go_enter Try.func23, Try.ntmps23
    go_wp2_with fail
    with_reducible refine Calls.mono CK.out ?_
    rintro e w' ⟨rfl, rfl⟩
    go_wp2
    go_ret
    exact ⟨ret_int HV.out.symm, Below.refl _ _⟩
  | true =>
    obtain ⟨⟨h1, h2⟩, hb⟩ := votesOk_iff.1 hok
    rw [HL.out] at h1 h2
    have HV := hid (show settleC l = settleL l from by unfold settleC; rw [if_pos hok])
    rw [hok] at CK
    have HB := hid (fun k => voteN_bits hb k)
    have HS := hid (fun (k : Nat) (h : l.length ≤ 2 * k + 2) => voteN_still hb h)
    have ho0 : (w.alloc (.cells #[] 3)).ownsRow w.heap.size 3 1 (.slice (some ⟨w.heap.size, 0, none⟩) 0 0) 0 (ints []) := World.ownsRow_lit w #[] 0 (Nat.le_refl _) (by simp [maxLen]) rfl
    have hb0 : Below w.heap.size w (w.alloc (.cells #[] 3)) := (Below.refl _ _).alloc (Nat.le_refl _) _
    have hs1 := hs.on hb0
    obtain ⟨bl, off, rfl, hbl, hc⟩ := hs.2.2 (by omega)
    clear hok hb hc
    go_enter Try.func23, Try.ntmps23
    go_wp2_with fail
    with_reducible refine Calls.mono CK.out ?_
    rintro e w' ⟨rfl, rfl⟩
    go_wp2_with (at_builtin; refine wpList_append_own _ rfl _ _ 23 rfl w.heap.size 3 i0 (.int .i64 0) 1 8 Try.underlying23 hi hz0 hz1 hz2 rfl (by decide) (.slice (some ⟨w.heap.size, 0, none⟩) 0 0) _ _ rfl ho0 ⟨bl, off, none⟩ n c (ints l) rfl (by rw [List.length_map, HL.out, Nat.mul_one]) hs1.cellsAt (ints_one l) (by simp only [maxLen]; omega) (by omega) hb0.size ?_; intro v2 w2 o2 g2 _)
    obtain ⟨g, c2, rfl, hbg, hlt2⟩ := own_shape1 o2 (by omega)
    have hb1 := hb0.grown g2 hb0.size (by intro j hj; simp [Value.ownBlock] at hj; omega)
    rw [show ints [] ++ ints l = ints (voteN 0 l) from rfl] at o2
    simp only [Nat.zero_add] at o2
    clear hb0 hs1 ho0 g2 hs CK
    simp only [Nat.zero_add]
    have HB1 := hid hb1
    clear hb1
    go_loopw [3, 4] (fun v i wr => ∃ (A1 : Option Addr) (c1 k : Nat), v = .slice A1 n c1 ∧ i = .int .i64 k ∧ k ≤ 20 ∧ wr.ownsRow w.heap.size 3 1 (.slice A1 n c1) n (ints (voteN k l)) ∧ Hid (Below w.heap.size w wr) ∧ Hid (∀ j, j < k → voteL (voteN j l) ≠ voteN j l)) (fun _ i _ => 41 - (intOf i).toNat)
    case atStart => exact ⟨_, _, 0, rfl, rfl, by omega, o2, HB1, hid (fun j hj => absurd hj (by omega))⟩
    case round =>
      clear o2 HB1
      obtain ⟨A1, c1, k, rfl, rfl, hk, o2, HB1, HN⟩ := hrel
      have CV := hid (l7Vote_any A1 n c1 (voteN k l) wr (Sl.of_own o2) h1 h2 (HB.out k))
      go_wp2_with fail
      with_reducible refine Calls.mono CV.out ?_
      rintro e w3 ⟨A3, c3, rfl, o3, b3⟩
      have o2' := own_on o2 b3
      have hzw := HB1.out.size
      replace HB1 := hid (HB1.out.trans (b3.mono HB1.out.size))
      have hl1 := voteN_len k l
      have hl2 := voteL_len (voteN k l)
      rw [HL.out] at hl1
      rw [hl1] at hl2
      obtain ⟨M, hM⟩ : ∃ M, voteN k l = M := ⟨_, rfl⟩
      obtain ⟨V, hV⟩ : ∃ V, voteL M = V := ⟨_, rfl⟩
      rw [hM] at o2' o3 hl1 hl2
      rw [hV] at o3 hl2
      have HM := hid hM
      have HVM := hid hV
      have HL1 := hid hl1
      have HL2 := hid hl2
      have O2 := hid o2'
      have O3 := hid (own_mono o3 hzw)
      clear o2 o2' o3 b3 CV hM hV hl1 hl2
      obtain ⟨ba, oa, rfl, _, ha⟩ := (Sl.of_own O2.out).2.2 (by omega)
      obtain ⟨bv, ov, rfl, _, hv⟩ := (Sl.of_own O3.out).2.2 (by omega)
      have HA := hid ha
      have HVC := hid hv
      clear ha hv
      go_wp2
      go_loopw [6, 7] (fun sv jv wj => ∃ (j m : Nat) (v : Bool), sv = .bool v ∧ jv = .int .i64 j ∧ j ≤ n ∧ wj = w3.drewN m ∧ Hid (v = true ↔ V.take j = M.take j)) (fun _ jv _ => n - (intOf jv).toNat)
      case atStart => exact ⟨0, 0, true, rfl, rfl, Nat.zero_le _, rfl, hid (by simp)⟩
      case round =>
        obtain ⟨j, m, v, rfl, rfl, hj, rfl, HI⟩ := hrel
        by_cases hlt : j < n
        · have hx := HA.out j hlt
          have hy := HVC.out j hlt
          have q1 : (j : Int) < (n : Int) := by omega
          have HT := hid (take_same (a := V) (b := M) (k := j) (by rw [HL2.out]; exact hlt) (by rw [HL1.out]; exact hlt))
          obtain ⟨x, hxe⟩ : ∃ x, nth M j = x := ⟨_, rfl⟩
          obtain ⟨y, hye⟩ : ∃ y, nth V j = y := ⟨_, rfl⟩
          rw [hxe] at hx HT
          rw [hye] at hy HT
          rw [← HI.out] at HT
          clear hxe hye HI
          cases v with
          | true =>
            by_cases hxy : y = x
            · have e1 : (y == x) = true := by simpa using hxy
              go_wp2
              go_quiet (fail)
              go_wp2
              go_roundw
              case rel => exact ⟨j + 1, _, true, rfl, by go_num, by omega, rfl, hid (by rw [HT.out]; simp [*])⟩
              case measure => simp [intOf]; omega
            · have e1 : (y == x) = false := by simpa using hxy
              go_wp2
              go_quiet (fail)
              go_wp2
              go_roundw
              case rel => exact ⟨j + 1, _, false, rfl, by go_num, by omega, rfl, hid (by rw [HT.out]; simp [*])⟩
              case measure => simp [intOf]; omega
          | false =>
            go_wp2
            go_quiet (fail)
            go_wp2
            go_roundw
            case rel => exact ⟨j + 1, _, false, rfl, by go_num, by omega, rfl, hid (by rw [HT.out]; simp [*])⟩
            case measure => simp [intOf]; omega
        · obtain rfl : j = n := by omega
          have hfin := HI.out
          rw [List.take_of_length_le (by rw [HL2.out]; omega), List.take_of_length_le (by rw [HL1.out]; omega)] at hfin
          cases v with
          | true =>
            have he := hfin.1 rfl
            have HF := hid (show settleC l = (k : Int) from by
              rw [HV.out, settle_eq (l := l) (s := k) ⟨by rw [HM.out, HVM.out]; exact he, HN.out⟩ (by omega)])
            clear hfin he HI
            go_wp2
            go_ret
            exact ⟨ret_int HF.out.symm, below_drewN HB1.out _⟩
          | false =>
            have hne : V ≠ M := fun h => by have := hfin.2 h; cases this
            have hkk : 2 * k + 2 < j := by
              rcases Nat.lt_or_ge (2 * k + 2) j with h | h
              · exact h
              · exact absurd (by rw [← HVM.out, ← HM.out]; exact HS.out k (by rw [HL.out]; omega)) hne
            have QN : Hid (∀ i, i < k + 1 → voteL (voteN i l) ≠ voteN i l) := hid (fun i hi => by
              rcases (show i < k ∨ i = k by omega) with h | rfl
              · exact HN.out i h
              · rw [HM.out, HVM.out]; exact hne)
            have Q3 := hid (own_kept_none O3.out (drewN_g7 w3 m))
            rw [← HVM.out, ← HM.out, ← voteN_succ] at Q3
            have QB := hid (below_drewN HB1.out m)
            clear hfin hne HI
            go_wp2
            go_roundw
            case rel => exact ⟨_, _, k + 1, rfl, by go_num, by omega, Q3.out, QB, QN⟩
            case measure => simp [intOf]; omega
end Go.Proofs.Ytfmlekcdjjkolaa
