/-
  The walk of the model's ToldAfter. No statement is proved here.
-/
import Derived.Test.YtannfeiogocpeaaDoorC4q
import Derived.Test.YtannfeiogocpeaaDoorS4t
import Derived.Test.YtannfeiogocpeaaDoorNestX
import Derived.IntWalk
namespace Go.Proofs.YtannfeiogocpeaaDoor
open Go.RowKit
set_option linter.unusedVariables false
set_option linter.unusedSimpArgs false

theorem info_bool : (Tryd.prog.info? 4).map (fun i => (i.zero, i.size, i.bytes)) = some (some (.bool false), 1, 1) := by kernel_rfl
abbrev bools (l : List Bool) : List Value := l.map Value.bool
theorem madeBools (n : Nat) : (madeCells (Value.bool false).cells (n * 1)).toList = bools (List.replicate n false) := by
  simp only [madeCells, Value.cells, bools, List.map_replicate]
  apply List.ext_getElem?
  intro j
  by_cases h : j < n
  · simp [h, Nat.mod_one]
  · simp [show n ≤ j from by omega]
theorem bools_set (l : List Bool) (k : Nat) (x : Bool) : (bools l).set k (.bool x) = bools (l.set k x) := by simp [bools, List.map_set]
theorem own_setOther {w : World} {B n g o : Nat} {v : Value} {e : TypeId} {xs : List Value} (x : Value) (h : w.ownsRow B e 1 v n xs) (hne : ∀ k, v.ownBlock = some k → k ≠ g) : (w.setCell ⟨g, o, none⟩ x).ownsRow B e 1 v n xs := by
  refine ⟨h.1, ?_⟩
  rcases h.2 with h2 | ⟨b, cap, cur, h1, h2, h3, h4⟩
  · exact .inl h2
  · exact .inr ⟨b, cap, cur, h1, h2, (heap_setCell_other _ _ _ _ (hne b (by rw [h1]; rfl))).trans h3, h4⟩
set_option maxHeartbeats 800000 in
theorem Rows.setOther {w : World} {B g o : Nat} {vs : List Value} {ls : List (List Int)} (x : Value) (h : Rows w B vs ls) (hg : g < B) : Rows (w.setCell ⟨g, o, Option.none⟩ x) B vs ls :=
  h.keep fun v n xs ho => own_setOther x ho (fun k hk => by have := own_lo ho k hk; omega)

/-- Rows of different types lie in different blocks. -/
theorem own_typesG {w : World} {B B2 n m : Nat} {v vo : Value} {e e2 : TypeId} {xs ys : List Value} (hne : e ≠ e2) (h : w.ownsRow B e 1 v n xs) (ho : w.ownsRow B2 e2 1 vo m ys) : v.ownBlock = none ∨ v.ownBlock ≠ vo.ownBlock := by
  rcases h.2 with ⟨h1, _⟩ | ⟨g, cap, cur, h1, h2, h3, _⟩
  · left; rw [h1]; rfl
  · rcases ho.2 with ⟨k1, _⟩ | ⟨g2, cap2, cur2, k1, k2, k3, _⟩
    · right; rw [h1, k1]; simp [Value.ownBlock]
    · right
      rw [h1, k1]
      intro e'
      have e' : g = g2 := by simpa [Value.ownBlock] using e'
      subst e'
      rw [h3] at k3
      injection k3 with k3
      injection k3 with _ k4 _
      exact hne k4
theorem foldl_take {l : List (Int × Int)} {j : Nat} (h : j < l.length) (b : List Bool) : (l.take (j + 1)).foldl tell1 b = tell1 ((l.take j).foldl tell1 b) (l[j]) := by
  rw [List.take_succ_eq_append_getElem h, List.foldl_append]
  rfl

set_option maxRecDepth 100000 in
set_option maxHeartbeats 6400000 in
theorem specToldAfter_any (n r : Int) (w : World) (hw : (Lit.int .i64 n).wf = true) (hw2 : (Lit.int .i64 r).wf = true) :
    Calls Tryd.prog 16 #[.int .i64 n, .int .i64 r] w fun e w' => ∃ A2 m c2, e = .returned (.slice A2 m c2) ∧ w'.ownsRow w.heap.size 3 1 (.slice A2 m c2) m (ints (toldOut n r)) ∧ m ≤ 40 ∧ Below w.heap.size w w' := by
  obtain ⟨i0, hi, hz0, hz1, hz2⟩ := info_parts info_int
  obtain ⟨ib, hbi, hbz0, hbz1, hbz2⟩ := info_parts info_bool
  have CP := hid (fun W : World => specPartsAfter_any n r W hw hw2)
  have oU : (w.alloc (.cells #[] 3)).ownsRow w.heap.size 3 1 (.slice (some ⟨w.heap.size, 0, none⟩) 0 0) 0 (ints []) := World.ownsRow_lit w #[] 0 (Nat.le_refl _) (by simp [maxLen]) rfl
  have BB : Hid (Below w.heap.size w (w.alloc (.cells #[] 3))) := hid ((Below.refl _ _).alloc (Nat.le_refl _) _)
  by_cases hok : partsOk n r = true
  · have hbd := partsOk_bd hok
    obtain ⟨N, rfl⟩ : ∃ N : Nat, n = N := Int.eq_ofNat_of_zero_le (by omega)
    obtain ⟨K, rfl⟩ : ∃ K : Nat, r = K := Int.eq_ofNat_of_zero_le (by omega)
    have HO := hid (show toldOut (N : Int) (K : Int) = allAt (fun j => (toldB N K).getD j false) N from by rw [toldOut_yes hok, Int.toNat_natCast, Int.toNat_natCast])
    have hps := partsP_pos hbd.1.1 K
    have hpl := pairs_len (partsOut (N : Int) (K : Int))
    rw [partsOut_yes hok, Int.toNat_natCast] at hpl CP
    have CQ := hid (fun (k : Nat) (W : World) (hk : k ≤ 6) => l4Parts_any N k W hbd.1 hk)
    clear hok
    have hN1 : 1 ≤ N := by omega
    have hN40 : N ≤ 40 := by omega
    have hN40i : (N : Int) ≤ 40 := by omega
    go_enter Tryd.func16, Tryd.ntmps16
    go_wp2_with fail
    with_reducible refine Calls.mono (CP.out _) ?_
    rintro e w1 ⟨A1, m1, c1, vs, rfl, o1, R1, hm1, b1⟩
    have hml := outer_len o1
    have hmz : ((m1 : Int) == 0) = false := by have := R1.1; simp; omega
    have hmz2 : 0 < m1 := by have := R1.1; omega
    replace oU := own_on oU b1
    replace BB := hid (BB.out.trans (b1.mono BB.out.size))
    clear b1 o1 R1 hml hpl hps CP
    go_wp2_with (refine wpList_make_full _ rfl (.tmp 19) (.tmp 19) 57 rfl w1.heap.size 4 ib _ 1 Tryd.underlying57 hbi hbz0 hbz1 .i64 .i64 N N N rfl rfl rfl rfl (by rw [hbz2]; omega) (by simp only [maxLen]; omega) (Nat.le_refl _) ?_; intro w2 oT g2; rw [madeBools] at oT; have hsz2 : w1.heap.size < w2.heap.size := own_hi oT _ rfl; have hcT : w2.cell? ⟨w1.heap.size, 0, none⟩ = some (.bool false) := by { rw [oT.cellAt 0 (by simp; omega)]; simp [show 0 < N by omega] }; have hfT := oT.frozenAt 0; have h0N : (0 : Int) < (N : Int) := by omega)
    obtain ⟨D, hD⟩ : ∃ D, w1.heap.size = D := ⟨_, rfl⟩
    have hwD : w.heap.size ≤ D := by rw [← hD]; exact BB.out.size
    have hwD2 : w.heap.size < D := by rw [← hD]; exact own_hi oU _ rfl
    rw [hD] at oT hsz2
    have oT1 := (oT.stored 0 (.bool true)).1
    rw [bools_set] at oT1
    have oU1 := own_setOther (g := D) (o := 0) (.bool true) (own_kept_none oU g2) (by intro q hq; have := own_hi oU q hq; rw [hD] at this; omega)
    have BB1 := hid ((BB.out.trans ((below_grown g2).mono BB.out.size)).setCell (p := ⟨D, 0, none⟩) hwD (.bool true))
    have hsz3 : D < (w2.setCell ⟨D, 0, none⟩ (.bool true)).heap.size := by simpa using hsz2
    rw [hD]
    clear hD oT oU BB g2 hcT hfT hsz2
    go_loopw [7] (fun kk wr => ∃ k : Nat, kk = .int .i64 k ∧ k ≤ K ∧ wr.ownsRow D 4 1 (.slice (some ⟨D, 0, none⟩) N N) N (bools (toldB N k)) ∧ wr.ownsRow w.heap.size 3 1 (.slice (some ⟨w.heap.size, 0, none⟩) 0 0) 0 (ints []) ∧ Hid (Below w.heap.size w wr) ∧ D < wr.heap.size) (fun kk _ => K - (intOf kk).toNat)
    case atStart => exact ⟨0, rfl, Nat.zero_le _, oT1, oU1, BB1, hsz3⟩
    case round =>
      clear oT1 oU1 BB1 hsz3
      obtain ⟨k, rfl, hk, oT, oU, BB, hsz⟩ := hrel
      by_cases hlt : k < K
      · have hlti : (k : Int) < (K : Int) := by omega
        go_wp2_with fail
        with_reducible refine Calls.mono (CQ.out k _ (by omega)) ?_
        rintro e w3 ⟨AP, mp, cp, vs2, rfl, oP, RP, hmp, b3⟩
        have hml2 := outer_len oP
        have hlenp : (partsP (N : Int) k).length = mp := by have h1 := RP.1; rw [pairs_len] at h1; omega
        have HL := hid hlenp
        have HP := hid (partsP_bd hbd.1.1 k)
        have HTB := hid (show toldB N (k + 1) = (partsP (N : Int) k).foldl tell1 (toldB N k) from rfl)
        have HTL := hid (toldB_len N k)
        obtain ⟨bk, hbk⟩ : ∃ bk, toldB N k = bk := ⟨_, rfl⟩
        rw [hbk] at oT HTB HTL
        obtain ⟨T, hT⟩ : ∃ T, wr.heap.size = T := ⟨_, rfl⟩
        replace oT := own_on oT b3
        replace oU := own_on oU b3
        replace BB := hid (BB.out.trans (b3.mono BB.out.size))
        have RR := hid RP
        have hT3 : T ≤ w3.heap.size := by rw [← hT]; exact b3.size
        rw [hT] at oP RR hsz
        generalize hpsx : partsP (N : Int) k = ps at RR HL HP HTB
        clear hbk hpsx hT b3 RP hlenp hml2
        go_wp2_with fail
        go_loopw [9] (fun kk wr2 => ∃ j : Nat, kk = .int .i64 j ∧ j ≤ mp ∧ wr2.ownsRow D 4 1 (.slice (some ⟨D, 0, none⟩) N N) N (bools ((ps.take j).foldl tell1 bk)) ∧ wr2.ownsRow w.heap.size 3 1 (.slice (some ⟨w.heap.size, 0, none⟩) 0 0) 0 (ints []) ∧ wr2.ownsRow T 29 1 (.slice AP mp cp) mp vs2 ∧ Hid (Rows wr2 T vs2 (pairs ps)) ∧ Hid (Below w.heap.size w wr2) ∧ T ≤ wr2.heap.size) (fun kk _ => mp - (intOf kk).toNat)
        case atStart => exact ⟨0, rfl, Nat.zero_le _, oT, oU, oP, RR, BB, hT3⟩
        case round =>
          clear oT oU oP RR BB hT3
          obtain ⟨j, rfl, hj, oT, oU, oP, RR, BB, hT3⟩ := hrel
          by_cases hjm : j < mp
          · have hjl : j < ps.length := by rw [HL.out]; exact hjm
            have hjmi : (j : Int) < (mp : Int) := by omega
            have hbj := HP.out (ps[j]) (List.getElem_mem _)
            obtain ⟨gp, rfl, _⟩ := own_addr oP (by omega)
            obtain ⟨Ai, ni, ci, l, hcp, _, hl1, oi⟩ := outer_at oP RR.out hjm
            rw [pairs_at hjl] at hl1
            injection hl1 with hl1
            subst hl1
            have hft := foldl_take hjl bk
            have htl : ((ps.take j).foldl tell1 bk).length = N := by rw [tells_len]; exact HTL.out
            obtain ⟨lo, hlo⟩ : ∃ x, (ps[j]).1 = x := ⟨_, rfl⟩
            obtain ⟨hh, hhi⟩ : ∃ x, (ps[j]).2 = x := ⟨_, rfl⟩
            have hsp : ∀ b : List Bool, tell1 b (ps[j]) = if lo < hh then (b.set (lo + (hh - lo) / 2).toNat true).set (hh - (hh - lo) / 2).toNat true else b := by
              intro b; rw [← hlo, ← hhi]; rfl
            rw [hsp] at hft
            rw [hlo, hhi] at hbj oi
            clear hsp hlo hhi
            obtain rfl : ni = 2 := by have := oi.1; simpa using this.symm
            obtain ⟨gi, rfl, _⟩ := own_addr oi (by omega)
            have ha := own_cell oi rfl (show 0 < 2 by omega)
            have hb := own_cell oi rfl (show 1 < 2 by omega)
            rw [show nth [lo, hh] 0 = lo from rfl] at ha
            rw [show nth [lo, hh] 1 = hh from rfl] at hb
            have hgi : T ≤ gi := own_lo oi gi rfl
            have hgp : T ≤ gp := own_lo oP gp rfl
            have hqb : 0 ≤ (hh - lo) / 2 ∧ (hh - lo) / 2 ≤ hh - lo := by omega
            have m1 : (hh - lo).tdiv 2 = (hh - lo) / 2 := Int.tdiv_eq_ediv_of_nonneg (by omega)
            obtain ⟨q, hq⟩ : ∃ q, (hh - lo) / 2 = q := ⟨_, rfl⟩
            rw [hq] at hqb m1 hft
            have w1 : IntKind.i64.wrap (hh - lo) = hh - lo := IntWalk.i64_in _ (by omega)
            have w2 : IntKind.i64.wrap q = q := IntWalk.i64_in _ (by omega)
            clear hq
            have HDR := hid (fun m : Nat => below_drewN (Below.refl wr.heap.size wr) m)
            by_cases hlh : lo < hh
            · rw [if_pos hlh] at hft
              obtain ⟨p1, hp1⟩ : ∃ p : Nat, lo + q = p := Int.eq_ofNat_of_zero_le (by omega)
              obtain ⟨p2, hp2⟩ : ∃ p : Nat, hh - q = p := Int.eq_ofNat_of_zero_le (by omega)
              rw [hp1, hp2, Int.toNat_natCast, Int.toNat_natCast] at hft
              have hp1N : p1 < N := by omega
              have hp2N : p2 < N := by omega
              have hp1i : (p1 : Int) < (N : Int) := by omega
              have hp2i : (p2 : Int) < (N : Int) := by omega
              have hgpD : gp ≠ D := by omega
              have hgiD : gi ≠ D := by omega
              have oTF := hid (fun m : Nat => (show (((wr.drewN m).setCell ⟨D, p1, Option.none⟩ (.bool true)).setCell ⟨D, p2, Option.none⟩ (.bool true)).ownsRow D 4 1 (.slice (some ⟨D, 0, Option.none⟩) N N) N (bools ((ps.take (j + 1)).foldl tell1 bk)) from by
                have h1 := ((own_on oT (HDR.out m)).stored p1 (.bool true)).1
                rw [bools_set] at h1
                have h2 := (h1.stored p2 (.bool true)).1
                rw [bools_set] at h2
                rw [hft]
                exact h2))
              have oUF := hid (fun m : Nat => own_setOther (g := D) (o := p2) (.bool true) (own_setOther (g := D) (o := p1) (.bool true) (own_on oU (HDR.out m)) (by intro x hx; simp [Value.ownBlock] at hx; omega)) (by intro x hx; simp [Value.ownBlock] at hx; omega))
              have oPF := hid (fun m : Nat => own_setOther (g := D) (o := p2) (.bool true) (own_setOther (g := D) (o := p1) (.bool true) (own_on oP (HDR.out m)) (by intro x hx; have := own_lo oP x hx; omega)) (by intro x hx; have := own_lo oP x hx; omega))
              have RRF := hid (fun m : Nat => Rows.setOther (g := D) (o := p2) (.bool true) (Rows.setOther (g := D) (o := p1) (.bool true) (RR.out.on (HDR.out m)) (by omega)) (by omega))
              have BBF := hid (fun m : Nat => ((BB.out.trans ((HDR.out m).mono BB.out.size)).setCell (p := ⟨D, p1, Option.none⟩) hwD (.bool true)).setCell (p := ⟨D, p2, Option.none⟩) hwD (.bool true))
              have cT1 : wr.cell? ⟨D, p1, Option.none⟩ = some (.bool (((ps.take j).foldl tell1 bk).getD p1 false)) := by
                rw [oT.cellAt p1 (by simp; omega)]
                simp [bools, List.getD, show p1 < ((ps.take j).foldl tell1 bk).length by omega]
              have cT2 : wr.cell? ⟨D, p2, Option.none⟩ = some (.bool (((ps.take j).foldl tell1 bk).getD p2 false)) := by
                rw [oT.cellAt p2 (by simp; omega)]
                simp [bools, List.getD, show p2 < ((ps.take j).foldl tell1 bk).length by omega]
              have fT1 := oT.frozenAt p1
              have fT2 := oT.frozenAt p2
              obtain ⟨x1, hx1⟩ : ∃ x, ((ps.take j).foldl tell1 bk).getD p1 false = x := ⟨_, rfl⟩
              obtain ⟨x2, hx2⟩ : ∃ x, ((ps.take j).foldl tell1 bk).getD p2 false = x := ⟨_, rfl⟩
              rw [hx1] at cT1
              rw [hx2] at cT2
              have hTF : ∀ m : Nat, T ≤ (((wr.drewN m).setCell ⟨D, p1, Option.none⟩ (.bool true)).setCell ⟨D, p2, Option.none⟩ (.bool true)).heap.size := fun m => by
                have := (HDR.out m).size
                simp
                omega
              have HTF := hid hTF
              clear hft oi oT oU oP RR BB hx1 hx2 htl hTF
              by_cases hpp : p1 = p2
              · subst hpp
                go_wp2
                go_quiet (fail)
                go_wp2
                go_quiet (fail)
                go_wp2
                go_roundw
                case rel => exact ⟨j + 1, by go_num, by omega, oTF.out _, oUF.out _, oPF.out _, hid (RRF.out _), hid (BBF.out _), HTF.out _⟩
                case measure => simp [intOf]; omega
              · have hpp' : ¬ p2 = p1 := fun h => hpp h.symm
                go_wp2
                go_quiet (fail)
                go_wp2
                go_quiet (fail)
                go_wp2
                go_roundw
                case rel => exact ⟨j + 1, by go_num, by omega, oTF.out _, oUF.out _, oPF.out _, hid (RRF.out _), hid (BBF.out _), HTF.out _⟩
                case measure => simp [intOf]; omega
            · rw [if_neg hlh] at hft
              have HFT := hid hft
              have hlh' : decide (lo < hh) = false := by simp; omega
              clear hft oi
              go_wp2
              go_quiet (fail)
              go_wp2
              go_quiet (fail)
              go_wp2
              go_roundw
              case rel => exact ⟨j + 1, by go_num, by omega, by rw [HFT.out]; exact own_on oT (HDR.out _), own_on oU (HDR.out _), own_on oP (HDR.out _), hid (RR.out.on (HDR.out _)), hid (BB.out.trans ((HDR.out _).mono BB.out.size)), Nat.le_trans hT3 (HDR.out _).size⟩
              case measure => simp [intOf]; omega
          · obtain rfl : j = mp := by omega
            rw [List.take_of_length_le (by rw [HL.out]; omega), ← HTB.out] at oT
            clear oP RR
            go_wp2
            go_roundw
            case rel => exact ⟨k + 1, by go_num, by omega, oT, oU, BB, by omega⟩
            case measure => simp [intOf]; omega
      · obtain rfl : k = K := by omega
        have hkK : decide ((k : Int) < (k : Int)) = false := by simp
        clear CQ
        obtain ⟨P, hP⟩ : ∃ P : Nat → Bool, (fun j => (toldB N k).getD j false) = P := ⟨_, rfl⟩
        rw [hP] at HO
        have HPV := hid (fun j : Nat => congrFun hP j)
        clear hP
        have htl := toldB_len N k
        have hcells := fun (j : Nat) (hj : j < N) (W : World) (hW : W.ownsRow D 4 1 (.slice (some ⟨D, 0, none⟩) N N) N (bools (toldB N k))) => (show W.cell? ⟨D, j, none⟩ = some (.bool (P j)) from by
          rw [hW.cellAt j (by simp; omega), ← HPV.out j]
          simp [bools, List.getD, show j < (toldB N k).length by omega])
        have HC := hid hcells
        clear hcells
        go_wp2_with fail
        go_loopw [5, 11] (fun v kk wr => ∃ (A : Option Addr) (i c j : Nat), v = .slice A i c ∧ kk = .int .i64 j ∧ j ≤ N ∧ wr.ownsRow w.heap.size 3 1 (.slice A i c) i (ints (allAt P j)) ∧ wr.ownsRow D 4 1 (.slice (some ⟨D, 0, none⟩) N N) N (bools (toldB N k)) ∧ Hid (Below w.heap.size w wr)) (fun _ kk _ => N - (intOf kk).toNat)
        case atStart => exact ⟨_, 0, 0, 0, rfl, rfl, Nat.zero_le _, oU, oT, BB⟩
        case round =>
          clear oU oT BB hsz
          obtain ⟨A, i, c, j, rfl, rfl, hj, oU, oT, BB⟩ := hrel
          have hbw := BB.out.size
          have hij : i ≤ j := by
            have h1 := oU.1
            have h2 := allAt_len P j
            simp at h1
            omega
          by_cases hjN : j < N
          · have hcj := HC.out j hjN _ oT
            have hji : (j : Int) < (N : Int) := by omega
            cases hPj : P j with
            | true =>
              have HT := hid (allAt_yes hPj)
              rw [hPj] at hcj
              clear hPj
              have hap := own_typesG (e := 4) (e2 := 3) (by decide) (own_kept_none oT (grown_alloc wr (.cells #[.int .i64 j] 3) none)) (oU.alloc (.cells #[.int .i64 j] 3))
              go_wp2_with (at_builtin; refine wpList_append_own _ rfl (.tmp 93) (.tmp 95) 29 rfl w.heap.size 3 i0 (.int .i64 0) 1 8 Tryd.underlying29 hi hz0 hz1 hz2 rfl (by decide) (.slice A i c) _ _ rfl (oU.alloc _) ⟨wr.heap.size, 0, none⟩ 1 1 [.int .i64 j] rfl rfl (cell_one_new _ _ _) (by simp [Value.oneCell']) (by simp only [maxLen]; omega) (by omega) (by simp; omega) ?_; intro v2 w4 hown4 hgrow4 _)
              obtain ⟨g2, c2, rfl, _, _⟩ := own_shape hown4
              have oT4 := (own_kept_none oT (grown_alloc wr (.cells #[.int .i64 j] 3) none)).kept hgrow4 hap
              have BB4 := hid ((BB.out.trans ((below_grown (grown_alloc wr (.cells #[.int .i64 j] 3) none)).mono hbw)).grown hgrow4 (by simp; omega) (own_lo oU))
              have HN := hid hown4
              clear hown4 hgrow4 oU oT hcj BB
              go_wp2
              go_roundw
              case rel => exact ⟨_, i + 1, c2, j + 1, rfl, by go_num, by omega, by rw [HT.out, show ints (allAt P j ++ [(j : Int)]) = ints (allAt P j) ++ [.int .i64 j] from by simp [ints]]; exact HN.out, oT4, BB4⟩
              case measure => simp [intOf]; omega
            | false =>
              have HT := hid (allAt_no hPj)
              rw [hPj] at hcj
              clear hPj
              have HN := hid oU
              clear oU
              go_wp2
              go_roundw
              case rel => exact ⟨_, i, c, j + 1, rfl, by go_num, by omega, by rw [HT.out]; exact HN.out, oT, BB⟩
              case measure => simp [intOf]; omega
          · obtain rfl : j = N := by omega
            rw [← HO.out] at oU
            have HN := hid oU
            clear oU
            go_wp2
            go_ret
            exact ⟨_, _, _, rfl, HN.out, by omega, BB.out⟩
  · have HO := hid (toldOut_no (show partsOk n r = false by simpa using hok))
    rw [partsOut_no (by simpa using hok)] at CP
    clear hok
    go_enter Tryd.func16, Tryd.ntmps16
    go_wp2_with fail
    with_reducible refine Calls.mono (CP.out _) ?_
    rintro e w1 ⟨A1, m1, c1, vs, rfl, o1, R1, hm1, b1⟩
    have hml := outer_len o1
    have hm0 : m1 = 0 := by have := R1.1; simp [pairs] at this; rw [this] at hml; simpa using hml.symm
    subst hm0
    replace oU := own_on oU b1
    replace BB := hid (BB.out.trans (b1.mono BB.out.size))
    clear b1 o1 R1 hml CP
    have HU := hid oU
    clear oU
    go_wp2
    go_ret
    exact ⟨_, 0, 0, rfl, by rw [HO.out]; exact HU.out, by omega, BB.out⟩
end Go.Proofs.YtannfeiogocpeaaDoor
