/-
  The walk of the model's ComesAgain. No statement is proved here.
-/
import Derived.Test.YthncjopbagkdcaaC10a
import Derived.Test.YthncjopbagkdcaaNest
namespace Go.Proofs.Ythncjopbagkdcaa
open Go.RowKit
set_option linter.unusedVariables false
set_option linter.unusedSimpArgs false

def lenV : Value → Nat
  | .slice _ n _ => n
  | _ => 0
def seenL (l : List Int) (N : Nat) : List (List Int) := (List.range N).map fun j => sumI j l
theorem seenL_succ (l : List Int) (N : Nat) : seenL l (N + 1) = seenL l N ++ [sumI N l] := by simp [seenL, List.range_succ]
theorem seenL_at (l : List Int) {N j : Nat} (h : j < N) : (seenL l N)[j]? = some (sumI j l) := by simp [seenL, h]
theorem apart_more {l : List Int} {N : Nat} (h : ∀ i j, i < j → j < N → sumI i l ≠ sumI j l) (h2 : ∀ i, i < N → sumI i l ≠ sumI N l) : ∀ i j, i < j → j < N + 1 → sumI i l ≠ sumI j l := fun i j h3 h4 => by
  rcases Nat.lt_or_ge j N with h5 | h5
  · exact h i j h3 h5
  · obtain rfl : j = N := by omega
    exact h2 i h3

set_option maxRecDepth 100000 in
set_option maxHeartbeats 6400000 in
theorem specComesAgain_any (A : Option Addr) (n c : Nat) (l : List Int) (w : World) (hs : Sl w w.heap.size A n l) :
    Calls Try.prog 32 #[.slice A n c] w fun e w' => e = .returned (.tuple #[.int .i64 (comesN l), .int .i64 (comesM l), .bool (bitsOk l)]) ∧ Below w.heap.size w w' := by
  have HL := hid hs.len
  have CK := hid (specBitsOk_any A n c l w w.heap.size hs)
  cases hok : bitsOk l with
  | false =>
    have HV := hid (comes_no hok)
    rw [hok] at CK
    clear hok
    go_enter Try.func32, Try.ntmps32
    go_wp2_with fail
    with_reducible refine Calls.mono CK.out ?_
    rintro e w' ⟨rfl, rfl⟩
    go_wp2
    go_ret3
    exact ⟨by rw [HV.out.1, HV.out.2]; rfl, Below.refl _ _⟩
  | true =>
    obtain ⟨i0, hi, hz0, hz1, hz2⟩ := info_parts info_int
    obtain ⟨r0, ri, rz0, rz1, rz2⟩ := info_parts info_row
    obtain ⟨hb, h1, h2⟩ := bitsOk_iff.1 hok
    rw [HL.out] at h1 h2
    have HK := hid hok
    have HB := hid (fun k => (bitsOk_iff.1 (sumI_ok hok k)).1)
    have HSL := hid (fun k => show (sumI k l).length = n from by rw [sumI_len, HL.out])
    rw [hok] at CK
    have ho0 : (w.alloc (.cells #[] 3)).ownsRow w.heap.size 3 1 (.slice (some ⟨w.heap.size, 0, none⟩) 0 0) 0 (ints []) := World.ownsRow_lit w #[] 0 (Nat.le_refl _) (by simp [maxLen]) rfl
    have hb0 : Below w.heap.size w (w.alloc (.cells #[] 3)) := (Below.refl _ _).alloc (Nat.le_refl _) _
    have hs1 := hs.on hb0
    obtain ⟨bl, off, rfl, hbl, hc⟩ := hs.2.2 (by omega)
    clear hok hb hc
    go_enter Try.func32, Try.ntmps32
    go_wp2_with fail
    with_reducible refine Calls.mono CK.out ?_
    rintro e w' ⟨rfl, rfl⟩
    go_wp2_with (at_builtin; refine wpList_append_own _ rfl _ _ 23 rfl w.heap.size 3 i0 (.int .i64 0) 1 8 Try.underlying23 hi hz0 hz1 hz2 rfl (by decide) (.slice (some ⟨w.heap.size, 0, none⟩) 0 0) _ _ rfl ho0 ⟨bl, off, none⟩ n c (ints l) rfl (by rw [List.length_map, HL.out, Nat.mul_one]) hs1.cellsAt (ints_one l) (by simp only [maxLen]; omega) (by omega) hb0.size ?_; intro v2 w2 o2 g2 _; rw [Nat.zero_add] at o2; obtain ⟨g, c2, rfl, hbg, hlt2⟩ := own_shape1 o2 (by omega))
    have hb1 := hb0.grown g2 hb0.size (by intro j hj; simp [Value.ownBlock] at hj; omega)
    rw [show ints [] ++ ints l = ints l from rfl] at o2
    have ga := grown_alloc w2 (.cells #[.slice (some ⟨g, 0, none⟩) n c2] 23) none
    have hb2 := hid (hb1.trans ((below_grown ga).mono hb1.size))
    have oS : (w2.alloc (.cells #[.slice (some ⟨g, 0, none⟩) n c2] 23)).ownsRow w.heap.size 23 1 (.slice (some ⟨w2.heap.size, 0, none⟩) 1 1) 1 [.slice (some ⟨g, 0, none⟩) n c2] := by
      have := World.ownsRow_lit (base := w.heap.size) (e := 23) (size := 1) w2 #[.slice (some ⟨g, 0, none⟩) n c2] 1 hb1.size (by simp [maxLen]) rfl
      simpa using this
    have RR : Hid (Rows (w2.alloc (.cells #[.slice (some ⟨g, 0, none⟩) n c2] 23)) w.heap.size [.slice (some ⟨g, 0, none⟩) n c2] (seenL l 1)) := hid ((Rows.nil _ _).snoc ⟨_, _, _, rfl, own_kept_none o2 ga⟩)
    clear hb0 hs1 ho0 g2 hs CK hb1 o2 ga hbg hlt2
    go_loopw [5] (fun v wr => ∃ (As : Option Addr) (M cs : Nat) (vs : List Value), v = .slice As (M + 1) cs ∧ wr.ownsRow w.heap.size 23 1 (.slice As (M + 1) cs) (M + 1) vs ∧ Hid (Rows wr w.heap.size vs (seenL l (M + 1))) ∧ Hid (∀ i j, i < j → j < M + 1 → sumI i l ≠ sumI j l) ∧ Hid (Below w.heap.size w wr)) (fun v _ => 70000 - lenV v)
    case atStart => exact ⟨_, 0, 1, _, rfl, oS, RR, hid (fun i j h3 h4 => by omega), hb2⟩
    case round =>
      clear oS RR hb2
      obtain ⟨As, M, cs, vs, rfl, oS, RR, HD, HBw⟩ := hrel
      have hM : M + 1 ≤ 65536 := by
        have h3 := apart_few HK.out HD.out
        have h4 := pow16 (n := l.length) (by rw [HL.out]; exact h2)
        omega
      obtain ⟨gp, cgp, hsp, _, _⟩ := own_shape oS
      injection hsp with e1 e2 e3
      subst e1
      clear e2 e3
      obtain ⟨Ai, ni, ci, hvj, hoi⟩ := RR.out.at (seenL_at l (show M < M + 1 by omega))
      obtain rfl : ni = n := by have := hoi.1; simp [HSL.out] at this; omega
      have hcp : wr.cell? ⟨gp, M, none⟩ = some (.slice Ai ni ci) := by rw [oS.cellAt M (by have := oS.1; simp at this; omega)]; exact hvj
      have CV := hid (l10Sum_any Ai ni ci (sumI M l) 1 wr (Sl.of_own hoi) h1 h2 (HB.out _) (by omega))
      rw [far_one (by rw [HSL.out]; omega), show sumL (sumI M l) = sumI (M + 1) l from rfl] at CV
      have hMi : (M : Int) < (M : Int) + 1 := by omega
      have hM0 : (0 : Int) ≤ (M : Int) := by omega
      clear hoi hvj
      go_wp2_with fail
      with_reducible refine Calls.mono CV.out ?_
      rintro e w3 ⟨A5, c5, rfl, o5, b5⟩
      obtain ⟨g5, c6, hs5, hg5, hl5⟩ := own_shape1 o5 (by omega)
      injection hs5 with e1 e2 e3
      subst e1
      subst e3
      clear e2 hcp
      replace oS := own_on oS b5
      replace RR := hid (RR.out.on b5)
      have hbw := HBw.out.size
      replace HBw := hid (HBw.out.trans (b5.mono hbw))
      have O5 := hid (own_mono o5 hbw)
      have HN := hid (fun k hk => own_cell o5 (HSL.out (M + 1)) (show k < ni from hk))
      have HS := hid (fun j (hj : j < M + 1) => show ∃ gj cj, w3.cell? ⟨gp, j, none⟩ = some (.slice (some ⟨gj, 0, none⟩) ni cj) ∧ ∀ k, k < ni → w3.cell? ⟨gj, k, none⟩ = some (.int .i64 (nth (sumI j l) k)) from by
        obtain ⟨Aj, nj, cj, hv, ho⟩ := RR.out.at (seenL_at l hj)
        obtain rfl : nj = ni := by have := ho.1; simp [HSL.out] at this; omega
        obtain ⟨gj, cj', hsj, _, _⟩ := own_shape1 ho (by omega)
        injection hsj with e1 e2 e3
        subst e1
        exact ⟨gj, cj, by rw [oS.cellAt j (by have := oS.1; simp at this; omega)]; exact hv, fun k hk => own_cell ho (HSL.out j) hk⟩)
      have OS := hid oS
      clear o5 b5 oS
      go_wp2_with fail
      go_loopw [7] (fun i w4 => ∃ j m : Nat, i = .int .i64 j ∧ j ≤ M + 1 ∧ Hid (∀ i, i < j → sumI i l ≠ sumI (M + 1) l) ∧ w4 = w3.drewN m) (fun i _ => M + 1 - (intOf i).toNat)
      case atStart => exact ⟨0, 0, rfl, by omega, hid (fun i hi => by omega), rfl⟩
      case round =>
        obtain ⟨j, m, rfl, hj, HE, rfl⟩ := hrel
        by_cases hjM : j < M + 1
        · have hjMi : (j : Int) < (M : Int) + 1 := by omega
          obtain ⟨gj, cj, hcj, hcr⟩ := HS.out j hjM
          have HCR := hid hcr
          have hj0 : (0 : Int) ≤ (j : Int) := by omega
          clear hcr
          go_wp2_with fail
          go_loopw [8, 9] (fun v i w5 => ∃ k q : Nat, v = .bool (sameTo (sumI (M + 1) l) (sumI j l) k) ∧ i = .int .i64 k ∧ k ≤ ni ∧ w5 = w3.drewN q) (fun _ i _ => ni - (intOf i).toNat)
          case atStart => exact ⟨0, m, rfl, rfl, Nat.zero_le _, rfl⟩
          case round =>
            obtain ⟨k, q, rfl, rfl, hk, rfl⟩ := hrel
            by_cases hlt : k < ni
            · have hlti : (k : Int) < (ni : Int) := by omega
              have hk0 : (0 : Int) ≤ (k : Int) := by omega
              have hx := HN.out k hlt
              have hy := HCR.out k hlt
              have HT := hid (sameTo_succ (sumI (M + 1) l) (sumI j l) k)
              obtain ⟨x, hxe⟩ : ∃ x, nth (sumI (M + 1) l) k = x := ⟨_, rfl⟩
              obtain ⟨y, hye⟩ : ∃ y, nth (sumI j l) k = y := ⟨_, rfl⟩
              obtain ⟨u, hu⟩ : ∃ u, sameTo (sumI (M + 1) l) (sumI j l) k = u := ⟨_, rfl⟩
              rw [hxe, hye, hu] at HT
              rw [hxe] at hx
              rw [hye] at hy
              rw [hu]
              clear hxe hye hu
              cases u with
              | false =>
                go_wp2_with fail
                go_quiet (fail)
                go_wp2_with fail
                go_roundw
                case rel => exact ⟨k + 1, _, by rw [HT.out]; rfl, by go_num, by omega, rfl⟩
                case measure => simp [intOf]; omega
              | true =>
                go_wp2_with fail
                go_quiet (fail)
                go_wp2_with fail
                go_roundw
                case rel => exact ⟨k + 1, _, by rw [HT.out]; simp, by go_num, by omega, rfl⟩
                case measure => simp [intOf]; omega
            · obtain rfl : k = ni := by omega
              have HSA := hid (sameTo_all (HSL.out (M + 1)) (HSL.out j))
              have hnlt : ¬ (k : Int) < (k : Int) := by omega
              cases hu : sameTo (sumI (M + 1) l) (sumI j l) k with
              | true =>
                have HCA := hid (comes_at HK.out (n := M + 1) (m := j) ⟨hjM, HSA.out.1 hu, HD.out⟩)
                clear hu
                go_wp2_with fail
                go_ret3
                exact ⟨by rw [HCA.out.1, HCA.out.2]; rfl, below_drewN HBw.out _⟩
              | false =>
                have HNE := hid (show ∀ i, i < j + 1 → sumI i l ≠ sumI (M + 1) l from fun i hi => by
                  rcases Nat.lt_or_ge i j with h5 | h5
                  · exact HE.out i h5
                  · obtain rfl : i = j := by omega
                    intro e
                    rw [HSA.out.2 e.symm] at hu
                    cases hu)
                clear hu
                go_wp2_with fail
                go_roundw
                case rel => exact ⟨j + 1, _, by go_num, by omega, HNE, rfl⟩
                case measure => simp [intOf]; omega
        · obtain rfl : j = M + 1 := by omega
          have HD2 := hid (apart_more HD.out HE.out)
          have hnlt : ¬ ((M + 1 : Nat) : Int) < (M : Int) + 1 := by omega
          have od := own_kept_none OS.out (drewN_gA w3 m)
          have o5d := own_kept_none O5.out (drewN_gA w3 m)
          have Rd := RR.out.onto (drewN_gA w3 m)
          have bd := below_drewN HBw.out m
          obtain ⟨w5, hw5⟩ : ∃ W, w3.drewN m = W := ⟨_, rfl⟩
          rw [hw5] at od o5d Rd bd ⊢
          have hsz := bd.size
          clear hw5
          have RD := hid Rd
          have OD5 := hid o5d
          have BD := hid bd
          clear Rd o5d bd HS HN OS RR O5 HBw
          go_wp2_with (at_builtin; refine wpList_append_own _ rfl _ _ 60 rfl w.heap.size 23 r0 (.slice none 0 0) 1 24 Try.underlying60 ri rz0 rz1 rz2 rfl (by decide) (.slice (some ⟨gp, 0, none⟩) (M + 1) cs) _ _ rfl (od.alloc _) ⟨w5.heap.size, 0, none⟩ 1 1 [.slice (some ⟨g5, 0, none⟩) ni c5] rfl rfl (cells_new _ _ _) (by simp [Value.oneCell']) (by simp only [maxLen]; omega) (by omega) (by simp; omega) ?_; intro v2 w6 o6 g6 _)
          obtain ⟨g7, c7, rfl, _, _⟩ := own_shape o6
          have ga := grown_alloc w5 (.cells #[.slice (some ⟨g5, 0, none⟩) ni c5] 23) none
          have R6 := (RD.out.onto ga).beside (od.alloc _) g6
          have O6 := own_beside (own_kept_none OD5.out ga) (od.alloc _) g6
          have B6 := hid ((BD.out.trans ((below_grown ga).mono hsz)).grown g6 (Nat.le_trans hsz ga.size) (by intro q hq; have := own_lo od q hq; omega))
          have SN := hid (R6.snoc ⟨_, _, _, rfl, O6⟩)
          rw [← seenL_succ] at SN
          have HO6 := hid o6
          clear o6 g6 ga od R6 O6 RD OD5 BD
          go_wp2_with fail
          go_roundw
          case rel => exact ⟨_, M + 1, c7, _, rfl, HO6.out, SN, HD2, B6⟩
          case measure => simp [lenV]; omega

/-- What ComesAgain gives, as a value. -/
def comesOut (l : List Int) : Value := .tuple #[.int .i64 (comesN l), .int .i64 (comesM l), .bool (bitsOk l)]
theorem comes_form (l : List Int) : ∃ y z v, comesOut l = .tuple #[.int .i64 y, .int .i64 z, .bool v] := ⟨_, _, _, rfl⟩
theorem specComesOut_any (A : Option Addr) (n c : Nat) (l : List Int) (w : World) (hs : Sl w w.heap.size A n l) :
    Calls Try.prog 32 #[.slice A n c] w fun e w' => e = .returned (comesOut l) ∧ Below w.heap.size w w' := specComesAgain_any A n c l w hs
end Go.Proofs.Ythncjopbagkdcaa
