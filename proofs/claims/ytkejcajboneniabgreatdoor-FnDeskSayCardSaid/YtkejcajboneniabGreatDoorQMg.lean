/-
  Texts put together: C7b C7s C7f S12l. No statement is proved here.
-/
import Derived.Test.YtkejcajboneniabGreatDoorQMb
import Derived.Test.YtkejcajboneniabGreatDoorQMc
import Derived.Test.YtkejcajboneniabGreatDoorQMf
import Derived.Test.YtkejcajboneniabGreatDoorQMd
import Derived.Test.YtkejcajboneniabGreatDoorQMh
set_option linter.unusedVariables false
set_option linter.unusedSimpArgs false
namespace Go.Proofs.YtkejcajboneniabGreatDoor
open Go.RowKit

end Go.Proofs.YtkejcajboneniabGreatDoor
namespace Go.Proofs.YtkejcajboneniabGreatDoor
open Go.RowKit

/-- What SettledAfter tells. -/
def settleC (l : List Int) : Int := if votesOk l = true then (settleL l : Int) else -1
theorem take_same {a b : List Int} {k : Nat} (h1 : k < a.length) (h2 : k < b.length) : a.take (k + 1) = b.take (k + 1) ↔ a.take k = b.take k ∧ nth a k = nth b k := by
  rw [take_nth h1, take_nth h2]
  constructor
  · intro h
    have := List.append_inj' h (by simp)
    exact ⟨this.1, by simpa using this.2⟩
  · rintro ⟨h, h'⟩; rw [h, h']

set_option maxRecDepth 100000 in
set_option maxHeartbeats 6400000 in
theorem specSettledAfter_any (A : Option Addr) (n c : Nat) (l : List Int) (w : World) (hs : Sl w w.heap.size A n l) :
    Calls Tryz.prog 70 #[.slice A n c] w fun e w' => e = .returned (.int .i64 (settleC l)) ∧ Below w.heap.size w w' := by
  obtain ⟨i0, hi, hz0, hz1, hz2⟩ := info_parts info_int
  have HL := hid hs.len
  have CK := hid (specVotesOk_any A n c l w w.heap.size hs)
  cases hok : votesOk l with
  | false =>
    have HV := hid (show settleC l = -1 from by unfold settleC; rw [hok]; rfl)
    rw [hok] at CK
    clear hok
    go_enter Tryz.func70, Tryz.ntmps70
    go_wp2_with fail
    with_reducible refine Calls.mono CK.out ?_
    rintro e w' ⟨rfl, rfl⟩
    go_wp2
    go_ret
    exact ⟨ret_int HV.out.symm, Below.refl _ _⟩
  | true =>
    obtain ⟨⟨h1, h2⟩, hb⟩ := votesOk_iff.1 hok
    rw [HL.out] at h1 h2
    have HV := hid (show settleC l = settleL l from by unfold settleC; rw [if_pos hok])
    rw [hok] at CK
    have HB := hid (fun k => voteN_bits hb k)
    have HS := hid (fun (k : Nat) (h : l.length ≤ 2 * k + 2) => voteN_still hb h)
    have ho0 : (w.alloc (.cells #[] 3)).ownsRow w.heap.size 3 1 (.slice (some ⟨w.heap.size, 0, none⟩) 0 0) 0 (ints []) := World.ownsRow_lit w #[] 0 (Nat.le_refl _) (by simp [maxLen]) rfl
    have hb0 : Below w.heap.size w (w.alloc (.cells #[] 3)) := (Below.refl _ _).alloc (Nat.le_refl _) _
    have hs1 := hs.on hb0
    obtain ⟨bl, off, rfl, hbl, hc⟩ := hs.2.2 (by omega)
    clear hok hb hc
    go_enter Tryz.func70, Tryz.ntmps70
    go_wp2_with fail
    with_reducible refine Calls.mono CK.out ?_
    rintro e w' ⟨rfl, rfl⟩
    go_wp2_with (at_builtin; refine wpList_append_own _ rfl _ _ 28 rfl w.heap.size 3 i0 (.int .i64 0) 1 8 Tryz.underlying28 hi hz0 hz1 hz2 rfl (by decide) (.slice (some ⟨w.heap.size, 0, none⟩) 0 0) _ _ rfl ho0 ⟨bl, off, none⟩ n c (ints l) rfl (by rw [List.length_map, HL.out, Nat.mul_one]) hs1.cellsAt (ints_one l) (by simp only [maxLen]; omega) (by omega) hb0.size ?_; intro v2 w2 o2 g2 _)
    obtain ⟨g, c2, rfl, hbg, hlt2⟩ := own_shape1 o2 (by omega)
    have hb1 := hb0.grown g2 hb0.size (by intro j hj; simp [Value.ownBlock] at hj; omega)
    rw [show ints [] ++ ints l = ints (voteN 0 l) from rfl] at o2
    simp only [Nat.zero_add] at o2
    clear hb0 hs1 ho0 g2 hs CK
    simp only [Nat.zero_add]
    have HB1 := hid hb1
    clear hb1
    go_loopw [3, 4] (fun v i wr => ∃ (A1 : Option Addr) (c1 k : Nat), v = .slice A1 n c1 ∧ i = .int .i64 k ∧ k ≤ 20 ∧ wr.ownsRow w.heap.size 3 1 (.slice A1 n c1) n (ints (voteN k l)) ∧ Hid (Below w.heap.size w wr) ∧ Hid (∀ j, j < k → voteL (voteN j l) ≠ voteN j l)) (fun _ i _ => 41 - (intOf i).toNat)
    case atStart => exact ⟨_, _, 0, rfl, rfl, by omega, o2, HB1, hid (fun j hj => absurd hj (by omega))⟩
    case round =>
      clear o2 HB1
      obtain ⟨A1, c1, k, rfl, rfl, hk, o2, HB1, HN⟩ := hrel
      have CV := hid (l7Vote_any A1 n c1 (voteN k l) wr (Sl.of_own o2) h1 h2 (HB.out k))
      go_wp2_with fail
      with_reducible refine Calls.mono CV.out ?_
      rintro e w3 ⟨A3, c3, rfl, o3, b3⟩
      have o2' := own_on o2 b3
      have hzw := HB1.out.size
      replace HB1 := hid (HB1.out.trans (b3.mono HB1.out.size))
      have hl1 := voteN_len k l
      have hl2 := voteL_len (voteN k l)
      rw [HL.out] at hl1
      rw [hl1] at hl2
      obtain ⟨M, hM⟩ : ∃ M, voteN k l = M := ⟨_, rfl⟩
      obtain ⟨V, hV⟩ : ∃ V, voteL M = V := ⟨_, rfl⟩
      rw [hM] at o2' o3 hl1 hl2
      rw [hV] at o3 hl2
      have HM := hid hM
      have HVM := hid hV
      have HL1 := hid hl1
      have HL2 := hid hl2
      have O2 := hid o2'
      have O3 := hid (own_mono o3 hzw)
      clear o2 o2' o3 b3 CV hM hV hl1 hl2
      obtain ⟨ba, oa, rfl, _, ha⟩ := (Sl.of_own O2.out).2.2 (by omega)
      obtain ⟨bv, ov, rfl, _, hv⟩ := (Sl.of_own O3.out).2.2 (by omega)
      have HA := hid ha
      have HVC := hid hv
      clear ha hv
      go_wp2
      go_loopw [6, 7] (fun sv jv wj => ∃ (j m : Nat) (v : Bool), sv = .bool v ∧ jv = .int .i64 j ∧ j ≤ n ∧ wj = w3.drewN m ∧ Hid (v = true ↔ V.take j = M.take j)) (fun _ jv _ => n - (intOf jv).toNat)
      case atStart => exact ⟨0, 0, true, rfl, rfl, Nat.zero_le _, rfl, hid (by simp)⟩
      case round =>
        obtain ⟨j, m, v, rfl, rfl, hj, rfl, HI⟩ := hrel
        by_cases hlt : j < n
        · have hx := HA.out j hlt
          have hy := HVC.out j hlt
          have q1 : (j : Int) < (n : Int) := by omega
          have HT := hid (take_same (a := V) (b := M) (k := j) (by rw [HL2.out]; exact hlt) (by rw [HL1.out]; exact hlt))
          obtain ⟨x, hxe⟩ : ∃ x, nth M j = x := ⟨_, rfl⟩
          obtain ⟨y, hye⟩ : ∃ y, nth V j = y := ⟨_, rfl⟩
          rw [hxe] at hx HT
          rw [hye] at hy HT
          rw [← HI.out] at HT
          clear hxe hye HI
          cases v with
          | true =>
            by_cases hxy : y = x
            · have e1 : (y == x) = true := by simpa using hxy
              go_wp2
              go_quiet (fail)
              go_wp2
              go_roundw
              case rel => exact ⟨j + 1, _, true, rfl, by go_num, by omega, rfl, hid (by rw [HT.out]; simp [*])⟩
              case measure => simp [intOf]; omega
            · have e1 : (y == x) = false := by simpa using hxy
              go_wp2
              go_quiet (fail)
              go_wp2
              go_roundw
              case rel => exact ⟨j + 1, _, false, rfl, by go_num, by omega, rfl, hid (by rw [HT.out]; simp [*])⟩
              case measure => simp [intOf]; omega
          | false =>
            go_wp2
            go_quiet (fail)
            go_wp2
            go_roundw
            case rel => exact ⟨j + 1, _, false, rfl, by go_num, by omega, rfl, hid (by rw [HT.out]; simp [*])⟩
            case measure => simp [intOf]; omega
        · obtain rfl : j = n := by omega
          have hfin := HI.out
          rw [List.take_of_length_le (by rw [HL2.out]; omega), List.take_of_length_le (by rw [HL1.out]; omega)] at hfin
          cases v with
          | true =>
            have he := hfin.1 rfl
            have HF := hid (show settleC l = (k : Int) from by
              rw [HV.out, settle_eq (l := l) (s := k) ⟨by rw [HM.out, HVM.out]; exact he, HN.out⟩ (by omega)])
            clear hfin he HI
            go_wp2
            go_ret
            exact ⟨ret_int HF.out.symm, below_drewN HB1.out _⟩
          | false =>
            have hne : V ≠ M := fun h => by have := hfin.2 h; cases this
            have hkk : 2 * k + 2 < j := by
              rcases Nat.lt_or_ge (2 * k + 2) j with h | h
              · exact h
              · exact absurd (by rw [← HVM.out, ← HM.out]; exact HS.out k (by rw [HL.out]; omega)) hne
            have QN : Hid (∀ i, i < k + 1 → voteL (voteN i l) ≠ voteN i l) := hid (fun i hi => by
              rcases (show i < k ∨ i = k by omega) with h | rfl
              · exact HN.out i h
              · rw [HM.out, HVM.out]; exact hne)
            have Q3 := hid (own_kept_none O3.out (drewN_g7 w3 m))
            rw [← HVM.out, ← HM.out, ← voteN_succ] at Q3
            have QB := hid (below_drewN HB1.out m)
            clear hfin hne HI
            go_wp2
            go_roundw
            case rel => exact ⟨_, _, k + 1, rfl, by go_num, by omega, Q3.out, QB, QN⟩
            case measure => simp [intOf]; omega
end Go.Proofs.YtkejcajboneniabGreatDoor
namespace Go.Proofs.YtkejcajboneniabGreatDoor
open Go.RowKit

/-- The places of the machines that are firm. -/
def firmTo (l : List Int) (k : Nat) : List Int := ((List.range k).filter (firmAt l)).map Int.ofNat
def firmOut (l : List Int) : List Int := if votesOk l = true then firmTo l l.length else []
theorem firm_yes {l : List Int} {k : Nat} (h : firmAt l k = true) : firmTo l (k + 1) = firmTo l k ++ [(k : Int)] := by simp [firmTo, List.range_succ, h]
theorem firm_no {l : List Int} {k : Nat} (h : firmAt l k = false) : firmTo l (k + 1) = firmTo l k := by simp [firmTo, List.range_succ, h]
theorem firm_len (l : List Int) (k : Nat) : (firmTo l k).length ≤ k := by
  simp only [firmTo, List.length_map]
  exact Nat.le_trans (List.length_filter_le _ _) (by simp)

set_option maxRecDepth 100000 in
set_option maxHeartbeats 6400000 in
theorem specFirmOf_any (A : Option Addr) (n c : Nat) (l : List Int) (w : World) (hs : Sl w w.heap.size A n l) :
    Calls Tryz.prog 72 #[.slice A n c] w fun e w' => ∃ A2 m c2, e = .returned (.slice A2 m c2) ∧ w'.ownsRow w.heap.size 3 1 (.slice A2 m c2) m (ints (firmOut l)) ∧ m ≤ 40 ∧ Below w.heap.size w w' := by
  obtain ⟨i0, hi, hz0, hz1, hz2⟩ := info_parts info_int
  have HL := hid hs.len
  have hm := hs.max
  have ho0 : (w.alloc (.cells #[] 3)).ownsRow w.heap.size 3 1 (.slice (some ⟨w.heap.size, 0, none⟩) 0 0) 0 (ints []) := World.ownsRow_lit w #[] 0 (Nat.le_refl _) (by simp [maxLen]) rfl
  have hb0 : Below w.heap.size w (w.alloc (.cells #[] 3)) := (Below.refl _ _).alloc (Nat.le_refl _) _
  have CK := hid (fun (W : World) (hb : Below w.heap.size w W) => specVotesOk_any A n c l W w.heap.size (hs.below hb))
  cases hok : votesOk l with
  | false =>
    have HV := hid (show firmOut l = [] from by unfold firmOut; rw [hok]; rfl)
    rw [hok] at CK
    clear hok
    go_enter Tryz.func72, Tryz.ntmps72
    go_wp2
    go_loopw [3, 4] (fun v i wr => v = .slice (some ⟨w.heap.size, 0, none⟩) 0 0 ∧ i = .int .i64 0 ∧ wr = w.alloc (.cells #[] 3)) (fun _ _ _ => 0)
    case atStart => exact ⟨rfl, rfl, rfl⟩
    case round =>
      obtain ⟨rfl, rfl, rfl⟩ := hrel
      by_cases h0 : 0 < n
      · go_wp2_with (go_at_call 110; with_reducible refine Calls.mono (CK.out _ hb0) ?_; rintro e w' ⟨rfl, rfl⟩)
        go_ret
        exact ⟨_, 0, _, rfl, by rw [HV.out]; exact ho0, by omega, hb0⟩
      · obtain rfl : n = 0 := by omega
        go_wp2
        go_ret
        exact ⟨_, 0, _, rfl, by rw [HV.out]; exact ho0, by omega, hb0⟩
  | true =>
    have HV := hid (show firmOut l = firmTo l n from by unfold firmOut; rw [if_pos hok, HL.out])
    obtain ⟨⟨h1, h2⟩, _⟩ := votesOk_iff.1 hok
    rw [HL.out] at h1 h2
    rw [hok] at CK
    clear hok
    go_enter Tryz.func72, Tryz.ntmps72
    go_wp2
    go_loopw [3, 4] (fun v i wr => ∃ (A1 : Option Addr) (m c1 k : Nat), v = .slice A1 m c1 ∧ i = .int .i64 k ∧ k ≤ n ∧ m ≤ k ∧ wr.ownsRow w.heap.size 3 1 (.slice A1 m c1) m (ints (firmTo l k)) ∧ Hid (Below w.heap.size w wr)) (fun _ i _ => n - (intOf i).toNat)
    case atStart => exact ⟨_, 0, _, 0, rfl, rfl, Nat.zero_le _, Nat.le_refl _, ho0, hid hb0⟩
    case round =>
      clear ho0 hb0
      obtain ⟨A1, m, c1, k, rfl, rfl, hk, hmk, ho, HB⟩ := hrel
      by_cases hlt : k < n
      · have hzz := HB.out.size
        have hv := own_blk ho
        have hlti : (k : Int) < (n : Int) := by omega
        by_cases hk0 : k = 0
        · subst hk0
          have HF := hid (show firmAt l 0 = true from firm_iff.2 (.inl rfl))
          go_wp2_with (go_at_call 110; with_reducible refine Calls.mono (CK.out _ HB.out) ?_; rintro e w' ⟨rfl, rfl⟩)
          go_quiet (fail)
          have hod := own_kept_none ho (drewN_g7 wr nq)
          have hbd := below_drewN HB.out nq
          have hzd : (wr.drewN nq).heap.size = wr.heap.size := rfl
          go_wp2_with (at_builtin; refine wpList_append_own _ rfl _ _ 28 rfl w.heap.size 3 i0 (.int .i64 0) 1 8 Tryz.underlying28 hi hz0 hz1 hz2 rfl (by decide) (.slice A1 m c1) _ _ rfl (hod.alloc _) ⟨wr.heap.size, 0, none⟩ 1 1 [.int .i64 0] rfl rfl (cell_one_new (wr.drewN nq) _ _) (by simp [Value.oneCell']) (by simp only [maxLen]; omega) (by omega) (by simp; omega) ?_; intro v2 w2 hown2 hgrow2 _)
          obtain ⟨A2, c2, rfl, o2, b2⟩ := pushedB hbd (Nat.le_refl _) (by omega) hv hown2 hgrow2
          rw [show firmTo l 0 ++ [0] = firmTo l (0 + 1) from by rw [firm_yes HF.out]; rfl] at o2
          have O2 := hid o2
          have B2 := hid b2
          clear hown2 hgrow2 ho hod hbd o2 b2 HB
          go_wp2
          go_roundw
          case rel => exact ⟨A2, m + 1, c2, (0 + 1), rfl, by go_num, by omega, by omega, O2.out, B2⟩
          case measure => simp [intOf]; omega
        obtain ⟨k, rfl⟩ : ∃ j, k = j + 1 := ⟨k - 1, by omega⟩
        have e1 : (((k : Int) + 1) == 0) = false := by simp; omega
        have e1' : ¬ (k : Int) + 1 = 0 := by omega
        by_cases hk1 : k + 1 = n - 1
        · have HF := hid (show firmAt l (k + 1) = true from firm_iff.2 (.inr (.inl (by rw [HL.out]; exact hk1))))
          have e2 : (((k : Int) + 1) == (n : Int) - 1) = true := by simp; omega
          obtain ⟨N, rfl⟩ : ∃ N, n = N + 1 := ⟨n - 1, by omega⟩
          obtain rfl : N = k + 1 := by omega
          clear hk1 e2
          go_wp2_with (go_at_call 110; with_reducible refine Calls.mono (CK.out _ HB.out) ?_; rintro e w' ⟨rfl, rfl⟩)
          go_quiet (fail)
          have hod := own_kept_none ho (drewN_g7 wr nq)
          have hbd := below_drewN HB.out nq
          have hzd : (wr.drewN nq).heap.size = wr.heap.size := rfl
          go_wp2_with (at_builtin; refine wpList_append_own _ rfl _ _ 28 rfl w.heap.size 3 i0 (.int .i64 0) 1 8 Tryz.underlying28 hi hz0 hz1 hz2 rfl (by decide) (.slice A1 m c1) _ _ rfl (hod.alloc _) ⟨wr.heap.size, 0, none⟩ 1 1 [.int .i64 ((k : Int) + 1)] rfl rfl (cell_one_new (wr.drewN nq) _ _) (by simp [Value.oneCell']) (by simp only [maxLen]; omega) (by omega) (by simp; omega) ?_; intro v2 w2 hown2 hgrow2 _)
          obtain ⟨A2, c2, rfl, o2, b2⟩ := pushedB hbd (Nat.le_refl _) (by omega) hv hown2 hgrow2
          rw [show firmTo l (k + 1) ++ [((k : Int) + 1)] = firmTo l (k + 1 + 1) from by rw [firm_yes HF.out]; rfl] at o2
          have O2 := hid o2
          have B2 := hid b2
          clear hown2 hgrow2 ho hod hbd o2 b2 HB
          go_wp2
          go_roundw
          case rel => exact ⟨A2, m + 1, c2, (k + 1 + 1), rfl, by go_num, by omega, by omega, O2.out, B2⟩
          case measure => simp [intOf]; omega
        have e2 : (((k : Int) + 1) == (n : Int) - 1) = false := by simp; omega
        have e2' : ¬ (k : Int) + 1 = (n : Int) - 1 := by omega
        obtain ⟨b, off, rfl, _, hc⟩ := (hs.below HB.out).2.2 (by omega)
        have x0 := hc k (by omega)
        have x1 := hc (k + 1) (by omega)
        have x2 := hc (k + 1 + 1) (by omega)
        have HF0 := hid (show firmAt l (k + 1) = true ↔ (nth l k = nth l (k + 1) ∨ nth l (k + 1 + 1) = nth l (k + 1)) from by
          rw [firm_iff, HL.out, Nat.add_sub_cancel]
          constructor
          · rintro (h | h | h)
            · omega
            · omega
            · exact h
          · intro h; exact .inr (.inr h))
        obtain ⟨x, hx⟩ : ∃ x, nth l k = x := ⟨_, rfl⟩
        obtain ⟨y, hy⟩ : ∃ y, nth l (k + 1) = y := ⟨_, rfl⟩
        obtain ⟨z, hz⟩ : ∃ z, nth l (k + 1 + 1) = z := ⟨_, rfl⟩
        rw [hx] at x0 HF0
        rw [hy] at x1 HF0
        rw [hz] at x2 HF0
        clear hx hy hz hc
        have e3 : ((k : Int) + 1).toNat = k + 1 := by omega
        have e4 : ((k : Int) + 1 + 1).toNat = k + 1 + 1 := by omega
        have e5 : (k : Int) + 1 + 1 < (n : Int) := by omega
        have e6 : (0 : Int) ≤ (k : Int) + 1 + 1 := by omega
        have e7 : (0 : Int) ≤ (k : Int) + 1 := by omega
        have e8 : (k : Int) < (n : Int) := by omega
        have e9 : (k : Int) + 1 < (n : Int) := by omega
        by_cases h3 : x = y
        · have HF := hid (HF0.out.2 (.inl h3))
          have e10 : (x == y) = true := by simpa using h3
          go_wp2_with (go_at_call 110; with_reducible refine Calls.mono (CK.out _ HB.out) ?_; rintro e w' ⟨rfl, rfl⟩)
          go_quiet (fail)
          have hod := own_kept_none ho (drewN_g7 wr nq)
          have hbd := below_drewN HB.out nq
          have hzd : (wr.drewN nq).heap.size = wr.heap.size := rfl
          go_wp2_with (at_builtin; refine wpList_append_own _ rfl _ _ 28 rfl w.heap.size 3 i0 (.int .i64 0) 1 8 Tryz.underlying28 hi hz0 hz1 hz2 rfl (by decide) (.slice A1 m c1) _ _ rfl (hod.alloc _) ⟨wr.heap.size, 0, none⟩ 1 1 [.int .i64 ((k : Int) + 1)] rfl rfl (cell_one_new (wr.drewN nq) _ _) (by simp [Value.oneCell']) (by simp only [maxLen]; omega) (by omega) (by simp; omega) ?_; intro v2 w2 hown2 hgrow2 _)
          obtain ⟨A2, c2, rfl, o2, b2⟩ := pushedB hbd (Nat.le_refl _) (by omega) hv hown2 hgrow2
          rw [show firmTo l (k + 1) ++ [((k : Int) + 1)] = firmTo l (k + 1 + 1) from by rw [firm_yes HF.out]; rfl] at o2
          have O2 := hid o2
          have B2 := hid b2
          clear hown2 hgrow2 ho hod hbd o2 b2 HB
          go_wp2
          go_roundw
          case rel => exact ⟨A2, m + 1, c2, (k + 1 + 1), rfl, by go_num, by omega, by omega, O2.out, B2⟩
          case measure => simp [intOf]; omega
        have e10 : (x == y) = false := by simpa using h3
        by_cases h4 : z = y
        · have HF := hid (HF0.out.2 (.inr h4))
          have e11 : (z == y) = true := by simpa using h4
          go_wp2_with (go_at_call 110; with_reducible refine Calls.mono (CK.out _ HB.out) ?_; rintro e w' ⟨rfl, rfl⟩)
          go_quiet (fail)
          have hod := own_kept_none ho (drewN_g7 wr nq)
          have hbd := below_drewN HB.out nq
          have hzd : (wr.drewN nq).heap.size = wr.heap.size := rfl
          go_wp2_with (at_builtin; refine wpList_append_own _ rfl _ _ 28 rfl w.heap.size 3 i0 (.int .i64 0) 1 8 Tryz.underlying28 hi hz0 hz1 hz2 rfl (by decide) (.slice A1 m c1) _ _ rfl (hod.alloc _) ⟨wr.heap.size, 0, none⟩ 1 1 [.int .i64 ((k : Int) + 1)] rfl rfl (cell_one_new (wr.drewN nq) _ _) (by simp [Value.oneCell']) (by simp only [maxLen]; omega) (by omega) (by simp; omega) ?_; intro v2 w2 hown2 hgrow2 _)
          obtain ⟨A2, c2, rfl, o2, b2⟩ := pushedB hbd (Nat.le_refl _) (by omega) hv hown2 hgrow2
          rw [show firmTo l (k + 1) ++ [((k : Int) + 1)] = firmTo l (k + 1 + 1) from by rw [firm_yes HF.out]; rfl] at o2
          have O2 := hid o2
          have B2 := hid b2
          clear hown2 hgrow2 ho hod hbd o2 b2 HB
          go_wp2
          go_roundw
          case rel => exact ⟨A2, m + 1, c2, (k + 1 + 1), rfl, by go_num, by omega, by omega, O2.out, B2⟩
          case measure => simp [intOf]; omega
        have e11 : (z == y) = false := by simpa using h4
        have HF := hid (show firmAt l (k + 1) = false from by
          rw [Bool.eq_false_iff]
          intro h
          rcases HF0.out.1 h with h | h
          · exact h3 h
          · exact h4 h)
        go_wp2_with (go_at_call 110; with_reducible refine Calls.mono (CK.out _ HB.out) ?_; rintro e w' ⟨rfl, rfl⟩)
        go_quiet (fail)
        have hod := own_kept_none ho (drewN_g7 wr nq)
        have hbd := below_drewN HB.out nq
        have hzd : (wr.drewN nq).heap.size = wr.heap.size := rfl
        rw [← firm_no HF.out] at hod
        have O2 := hid hod
        have B2 := hid hbd
        clear ho hod hbd HB
        go_wp2
        go_roundw
        case rel => exact ⟨A1, m, c1, (k + 1 + 1), rfl, by go_num, by omega, by omega, O2.out, B2⟩
        case measure => simp [intOf]; omega
      · obtain rfl : k = n := by omega
        rw [← HV.out] at ho
        have HO := hid ho
        clear ho
        go_wp2
        go_ret
        exact ⟨A1, m, c1, rfl, HO.out, by omega, HB.out⟩
end Go.Proofs.YtkejcajboneniabGreatDoor
namespace Go.Proofs.YtkejcajboneniabGreatDoor
open Go.RowKit

def wRow : List UInt8 := [114, 111, 119]
def wOnes : List UInt8 := [111, 110, 101, 115]
def wFlow : List UInt8 := [102, 108, 111, 119]
def wEnd : List UInt8 := [101, 110, 100]
def wFlowing : List UInt8 := [102, 108, 111, 119, 105, 110, 103]
def wSettled : List UInt8 := [115, 101, 116, 116, 108, 101, 100]
def wFirm : List UInt8 := [102, 105, 114, 109]
def wMiddles : List UInt8 := [109, 105, 100, 100, 108, 101, 115]
def wRounds : List UInt8 := [114, 111, 117, 110, 100, 115]
def wFire : List UInt8 := [102, 105, 114, 101]
def wWhat : List UInt8 := [119, 104, 97, 116]
def wOk : List UInt8 := [111, 107]
def wNot : List UInt8 := [110, 111, 116]
def wNone : List UInt8 := [110, 111, 110, 101]
/-- The first k numbers with commas between them. -/
def listB (l : List Int) : Nat → List UInt8
  | 0 => []
  | k + 1 => (if k = 0 then listB l k else listB l k ++ [44]) ++ numB (nth l k).toNat
def rowsOut (l : List Int) : List UInt8 := if l.length = 0 then wNone else listB l l.length
theorem listB_len {l : List Int} (h : ∀ k, (nth l k).toNat ≤ 1000) : ∀ k, (listB l k).length ≤ 1002 * k
  | 0 => by simp [listB]
  | k + 1 => by
    have ih := listB_len h k
    have h1 := numB_len (nth l k).toNat
    have h2 := h k
    unfold listB
    rw [List.length_append]
    split <;> simp <;> omega
/-- A word and a number behind it. -/
def askN (u : List UInt8) (n : Int) : List UInt8 :=
  if n < 0 then wWhat
  else if u = wMiddles then rowsOut (middles n)
  else if u = wRounds then rowsOut (roundsOut n)
  else if u = wFire then (if 0 ≤ fireOut n then numB (fireOut n).toNat else wNone)
  else wWhat
def askW (s : List UInt8) : List UInt8 := if (cutB s 32).length = 2 then askN ((cutB s 32).getD 0 []) (digitsOut ((cutB s 32).getD 1 [])) else wWhat
/-- What a line that is no deed is answered. -/
def askOut (row : List Int) (s : List UInt8) : List UInt8 :=
  if s = wRow then rowTextOut row
  else if s = wOnes then numB (onesOut row).toNat
  else if s = wFlow then numB (flowOut row).toNat
  else if s = wEnd then numB (endOut row).toNat
  else if s = wFlowing then numB (flowingOut row).toNat
  else if s = wSettled then numB (settleC row).toNat
  else if s = wFirm then rowsOut (firmOut row)
  else askW s
def doneB (b : Bool) : List UInt8 := if b = true then wOk else wNot
/-- What DeskLine gives. -/
def lineOut (D : Dk) (s : List UInt8) : Dk × List UInt8 :=
  if deskOk D = true then
    match readOut s with
    | some a => ((deskDo D a).1, doneB (deskDo D a).2)
    | none => (D, askOut D.now s)
  else (noDk, [])
def sayF (t : Dk × List (List UInt8)) (s : List UInt8) : Dk × List (List UInt8) := ((lineOut t.1 s).1, t.2 ++ [(lineOut t.1 s).2])
def sayL (D : Dk) (ls : List (List UInt8)) : Dk × List (List UInt8) := ls.foldl sayF (D, [])
def sayOk (D : Dk) (ls : List (List UInt8)) : Bool := deskOk D && decide (ls.length ≤ 40)
/-- What DeskSay gives. -/
def sayOut (D : Dk) (ls : List (List UInt8)) : Dk × List (List UInt8) := if sayOk D ls = true then sayL D ls else (noDk, [])

theorem find_lt {p : Nat → Bool} {n : Nat} : ((List.range n).find? p).getD 0 ≤ n := by
  cases h : (List.range n).find? p with
  | none => exact Nat.zero_le _
  | some x => have := List.mem_of_find?_eq_some h; simp at this ⊢; omega
/-- The numbers that are told are small. -/
theorem asks_small {row : List Int} (h : bitsOk row = true) : (0 ≤ onesOut row ∧ onesOut row ≤ 1000) ∧ (0 ≤ flowOut row ∧ flowOut row ≤ 1000) ∧ (0 ≤ endOut row ∧ endOut row ≤ 1000) ∧ (0 ≤ flowingOut row ∧ flowingOut row ≤ 1000) ∧ (0 ≤ settleC row ∧ settleC row ≤ 1000) ∧ votesOk row = true := by
  obtain ⟨hb, h1, h2⟩ := bitsOk_iff.1 h
  have ho := ones_le row
  have hf := flow_le hb
  have hk := (flowK_spec h).2.2
  have hv : votesOk row = true := votesOk_iff.2 ⟨⟨h1, by omega⟩, hb⟩
  have he : endN row ≤ row.length := by unfold endN; omega
  have hs : settleL row ≤ 64 := find_lt
  unfold onesOut flowOut endOut flowingOut settleC
  rw [if_pos h, if_pos h, if_pos h, if_pos h, if_pos hv]
  refine ⟨⟨?_, ?_⟩, ⟨?_, ?_⟩, ⟨?_, ?_⟩, ⟨?_, ?_⟩, ⟨?_, ?_⟩, hv⟩ <;> omega
theorem firm_small (row : List Int) : ∀ x ∈ firmOut row, 0 ≤ x ∧ x ≤ 1000 := by
  intro x hx
  unfold firmOut at hx
  split at hx
  · rename_i hv
    obtain ⟨⟨_, h2⟩, _⟩ := votesOk_iff.1 hv
    unfold firmTo at hx
    simp at hx
    omega
  · simp at hx
theorem middles_small (n : Int) : ∀ x ∈ middles n, 0 ≤ x ∧ x ≤ 1000 := by
  intro x hx
  unfold middles at hx
  split at hx
  · rename_i hv
    have := within_iff.1 hv
    split at hx <;> simp at hx <;> omega
  · simp at hx
theorem rounds_small (n : Int) : ∀ x ∈ roundsOut n, 0 ≤ x ∧ x ≤ 1000 := fun x hx => by have := roundsOut_mem hx; omega
theorem say_from : ∀ (ls : List (List UInt8)) (D : Dk) (o : List (List UInt8)), ls.foldl sayF (D, o) = ((sayL D ls).1, o ++ (sayL D ls).2)
  | [], D, o => by simp [sayL]
  | s :: ls, D, o => by
    have e : ∀ o, sayF (D, o) s = ((lineOut D s).1, o ++ [(lineOut D s).2]) := fun _ => rfl
    show ls.foldl sayF (sayF (D, o) s) = ((ls.foldl sayF (sayF (D, []) s)).1, o ++ (ls.foldl sayF (sayF (D, []) s)).2)
    rw [e, e, say_from ls _ (o ++ _), say_from ls _ ([] ++ _)]
    simp
theorem say_append (D : Dk) (a b : List (List UInt8)) : sayL D (a ++ b) = ((sayL (sayL D a).1 b).1, (sayL D a).2 ++ (sayL (sayL D a).1 b).2) := by
  have h : sayL D (a ++ b) = b.foldl sayF (sayL D a) := by unfold sayL; rw [List.foldl_append]
  rw [h]
  exact say_from b (sayL D a).1 (sayL D a).2
theorem say_snoc (D : Dk) (ls : List (List UInt8)) (s : List UInt8) : sayL D (ls ++ [s]) = sayF (sayL D ls) s := by unfold sayL; rw [List.foldl_append]; rfl
theorem say_len (D : Dk) (ls : List (List UInt8)) : (sayL D ls).2.length = ls.length := by
  suffices H : ∀ (ls : List (List UInt8)) (t : Dk × List (List UInt8)), (ls.foldl sayF t).2.length = t.2.length + ls.length from by have := H ls (D, []); simpa [sayL] using this
  intro ls
  induction ls with
  | nil => intro t; simp
  | cons s ls ih => intro t; rw [List.foldl_cons, ih]; simp [sayF]; omega
theorem line_ok {D : Dk} (h : deskOk D = true) (s : List UInt8) : deskOk (lineOut D s).1 = true := by
  unfold lineOut
  rw [if_pos h]
  split
  · exact do_ok h _
  · exact h
theorem say_ok {D : Dk} (h : deskOk D = true) (ls : List (List UInt8)) : deskOk (sayL D ls).1 = true := by
  suffices H : ∀ (ls : List (List UInt8)) (t : Dk × List (List UInt8)), deskOk t.1 = true → deskOk (ls.foldl sayF t).1 = true from H ls _ h
  intro ls
  induction ls with
  | nil => intro t ht; exact ht
  | cons s ls ih => intro t ht; rw [List.foldl_cons]; exact ih _ (line_ok ht s)
end Go.Proofs.YtkejcajboneniabGreatDoor
