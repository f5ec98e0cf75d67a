/-
  The walk of laws.FnPartsAfter. No statement is proved here.
-/
import Derived.Test.YtannfeiogocpeaaDoorC4q
import Derived.Test.YtannfeiogocpeaaDoorTab
import Derived.Test.YtannfeiogocpeaaDoorC4j
import Derived.Test.YtannfeiogocpeaaDoorC4i
import Derived.Test.YtannfeiogocpeaaDoorNestX
import Derived.Test.YtannfeiogocpeaaDoorS4u
import Derived.Test.YtannfeiogocpeaaDoorExS
import Derived.Test.YtannfeiogocpeaaDoorDr7p
import Derived.IntWalk
namespace Go.Proofs.YtannfeiogocpeaaDoor
open Go.RowKit
set_option linter.unusedVariables false
set_option linter.unusedSimpArgs false

set_option maxRecDepth 100000 in
set_option maxHeartbeats 3200000 in
theorem fnPartsAfter_walk (A : Option Addr) (n c : Nat) (w : World) (hs : By w w.heap.size A n) (hc : n ≤ c) (hT : Tabs w) :
    Calls Tryd.prog 7 #[.slice A n c] w fun e w' => e = .returned (.bool true) ∧ Below w.heap.size w w' := by
  have hm : n ≤ 9223372036854775807 := hs.1
  by_cases hbig : 1048576 < n
  · go_enter Tryd.func7, Tryd.ntmps7
    go_wp2
    go_ret
    exact ⟨rfl, Below.refl _ _⟩
  go_enter Tryd.func7, Tryd.ntmps7
  go_wp2_with fail
  refine (drawPartsAfter_any A n c _ hs hc).mono ?_
  rintro e w1 ⟨a, b, rfl, a0, a1, b0, b1, hb1⟩
  clear hs
  have CS := hid (fun W : World => specPartsAfter_any a b W (WalkArith.wf_i64 (by omega)) (WalkArith.wf_i64 (by omega)))
  have CI := hid (fun (W : World) (hb : Below w.heap.size w W) => implPartsAfter_any a b W (WalkArith.wf_i64 (by omega)) (WalkArith.wf_i64 (by omega)) (hT.below hb))
  have CR := hid (fun W : World => implRoundsOf_any a W (WalkArith.wf_i64 (by omega)))
  have BB := hid hb1
  have hz1 := hb1.size
  clear hb1
  have HPL := hid (pairs_len (partsOut a b))
  obtain ⟨ls, hls⟩ : ∃ ls, pairs (partsOut a b) = ls := ⟨_, rfl⟩
  have HLS := hid hls
  rw [hls] at CS CI HPL
  clear hls
  go_wp2_with fail
  with_reducible refine Calls.mono (CI.out _ BB.out) ?_
  rintro e w2 ⟨AG, mG, cG, vs, rfl, oG, RG, hap, hmG, b2⟩
  have hz2 := b2.size
  replace BB := hid (BB.out.trans (b2.mono BB.out.size))
  have UG := hid RG
  clear RG hap b2
  go_wp2_with fail
  with_reducible refine Calls.mono (CS.out _) ?_
  rintro e w3 ⟨AW, mW, cW, us, rfl, oW, RW, hmW, b3⟩
  replace oG := own_on oG b3
  replace UG := hid (UG.out.on b3)
  replace BB := hid (BB.out.trans (b3.mono BB.out.size))
  have UW := hid RW
  clear RW b3 CS CI
  have hlv := outer_len oG
  have hlu := outer_len oW
  obtain rfl : mW = mG := by have h1 := UG.out.1; have h2 := UW.out.1; omega
  have hml : mW = ls.length := by have h1 := UG.out.1; omega
  have HML := hid hml
  clear hml
  replace oG := own_mono (base' := 0) oG (Nat.zero_le _)
  replace oW := own_mono (base' := 0) oW (Nat.zero_le _)
  replace UG := hid (UG.out.mono (Nat.zero_le _))
  replace UW := hid (UW.out.mono (Nat.zero_le _))
  have hee : ((mW : Int) != (mW : Int)) = false := by simp
  go_wp2_with fail
  go_loopw [7] (fun i wr => ∃ k : Nat, i = .int .i64 k ∧ k ≤ mW ∧ wr.ownsRow 0 29 1 (.slice AG mW cG) mW vs ∧ wr.ownsRow 0 29 1 (.slice AW mW cW) mW us ∧ Hid (Rows wr 0 vs ls) ∧ Hid (Rows wr 0 us ls) ∧ Hid (Below w.heap.size w wr)) (fun i _ => mW - (intOf i).toNat)
  case atStart => exact ⟨0, rfl, Nat.zero_le _, oG, oW, UG, UW, BB⟩
  case round =>
    clear oG oW UG UW BB
    obtain ⟨k, rfl, hk, oA, oB, HA, HB, BB⟩ := hrel
    by_cases hlt : k < mW
    · obtain ⟨g, rfl, hg⟩ := own_addr oA (by omega)
      obtain ⟨g2, rfl, hg2⟩ := own_addr oB (by omega)
      obtain ⟨Ai, ni, ci, l, hc1, _, hl1, o1⟩ := outer_at oA HA.out hlt
      obtain ⟨Aj, nj, cj, l2, hc2, _, hl2, o2⟩ := outer_at oB HB.out hlt
      obtain rfl : l2 = l := by rw [hl1] at hl2; injection hl2 with h; exact h.symm
      have CE := hid (sameInts_b Ai Aj ni ci nj cj l2 l2 wr.drew wr.drew.heap.size wr.drew.heap.size (Sl.of_own (own_kept_none o1 (nest_drew wr))) (Sl.of_own (own_kept_none o2 (nest_drew wr))))
      rw [decide_eq_true rfl] at CE
      have oA2 := own_kept_none oA (nest_drew wr)
      have oB2 := own_kept_none oB (nest_drew wr)
      have HA2 := hid (HA.out.onto (nest_drew wr))
      have HB2 := hid (HB.out.onto (nest_drew wr))
      have BB2 := hid (BB.out.trans ((below_grown (nest_drew wr)).mono BB.out.size))
      have hki : (k : Int) < (mW : Int) := by omega
      clear o1 o2 hl1 hl2 oA oB HA HB BB
      go_wp2_with fail
      go_region_held3 (fun w' => w'.cell? ⟨g, k, none⟩ = some (.slice Ai ni ci) ∧ w'.cell? ⟨g2, k, none⟩ = some (.slice Aj nj cj))
        (first
          | go_keep
          | (go_split_ands
             refine ⟨?_, ?_⟩
             · exact (st.cell (p := ⟨g, k, none⟩) (by simp; omega)).trans (by assumption)
             · exact (st.cell (p := ⟨g2, k, none⟩) (by simp; omega)).trans (by assumption)))
        (first
          | (go_at_call 25; with_reducible refine Calls.mono CE.out ?_; rintro r w4 ⟨rfl, st⟩))
      have oA3 := own_on oA2 st
      have oB3 := own_on oB2 st
      have HA3 := hid (HA2.out.on st)
      have HB3 := hid (HB2.out.on st)
      have BB3 := hid (BB2.out.trans (st.mono BB2.out.size))
      clear st oA2 oB2 HA2 HB2 BB2 hc1 hc2
      go_wp2
      go_roundw
      case rel => exact ⟨k + 1, by go_num, by omega, oA3, oB3, HA3, HB3, BB3⟩
      case measure => simp [intOf]; omega
    · obtain rfl : k = mW := by omega
      by_cases hok : partsOk a b = true
      · have hbd := partsOk_bd hok
        have hks := partsOk_iff.1 hok
        obtain ⟨N, rfl⟩ : ∃ N : Nat, a = N := Int.eq_ofNat_of_zero_le (by omega)
        obtain ⟨K, rfl⟩ : ∃ K : Nat, b = K := Int.eq_ofNat_of_zero_le (by omega)
        have hro : roundsOut (N : Int) = roundsN N := by rw [roundsOut_yes hbd.1, Int.toNat_natCast]
        rw [hro] at hks CR
        have hL := parts_law (n := N) (k := K) (by omega) (by omega) (by omega)
        have hpl := HPL.out
        have hlsv := HLS.out
        rw [partsOut_yes hok, Int.toNat_natCast] at hpl hlsv
        have hbds := partsP_bd hbd.1.1 K
        have hml := HML.out
        generalize partsP (N : Int) K = ps at hL hpl hlsv hbds
        have hk0 : ps.length = k := by omega
        obtain ⟨L1, L2, L3, L4, L5⟩ := hL
        obtain ⟨lg, hlg⟩ : ∃ lg, longAt N K = lg := ⟨_, rfl⟩
        have hlg2 := hlg
        unfold longAt at hlg2
        obtain ⟨rl, hrl⟩ : ∃ rl, roundsN N = rl := ⟨_, rfl⟩
        rw [hlg] at L2
        rw [hrl] at hks CR hlg2
        have hk1 : 1 ≤ k := by have := Nat.one_le_two_pow (n := K); omega
        have hk64 : k ≤ 64 := hmW
        clear hlg hrl hro hok oA HA HPL HLS HML hlv hlu
        have P2 := hid L2
        have P3 := hid L3
        have PB := hid hbds
        have PL1 := hid (show k = 2 ^ K by omega)
        have PL4 := hid L4
        have PL5 := hid L5
        have PLG := hid hlg2
        have PLS := hid hlsv
        have PK0 := hid hk0
        have hK6 : K ≤ 6 := by omega
        have hrl6 := hks.2.2
        clear L1 L2 L3 L4 L5 hbds hlg2 hlsv hpl hml hk0 hks
        have hnz : ((k : Int) == 0) = false := by simp; omega
        go_wp2_with fail
        with_reducible refine Calls.mono (CR.out _) ?_
        rintro e w5 ⟨AR, mR, cR, rfl, oR, hmR, b5⟩
        have hrlen : rl.length = mR := by have := oR.1; simpa using this
        rw [hrlen] at hrl6
        have HRL := hid hrlen
        replace oB := own_on oB b5
        replace HB := hid (HB.out.on b5)
        replace BB := hid (BB.out.trans (b5.mono BB.out.size))
        clear b5 hrlen CR
        obtain ⟨g2, rfl, hg2⟩ := own_addr oB (by omega)
        have PC := hid (fun (j : Nat) (hj : j < k) => outer_at oB HB.out hj)
        have lgw : ∃ wq : World, wq = w5 := ⟨_, rfl⟩
        by_cases hR : K < mR
        · obtain ⟨gr, rfl, hgr⟩ := own_addr oR (by omega)
          have hcr := own_cell oR HRL.out hR
          rw [show nth rl K = lg from by have h := PLG.out; rw [nth_append (by rw [HRL.out]; exact hR)] at h; exact h] at hcr
          have hRi : (K : Int) < (mR : Int) := by omega
          clear oR oB HB
          go_wp2_with fail
          go_loopw [10] (fun i wr => ∃ j m : Nat, i = .int .i64 j ∧ j ≤ k ∧ wr = w5.drewN m) (fun i _ => k - (intOf i).toNat)
          case atStart => exact ⟨0, 0, rfl, Nat.zero_le _, rfl⟩
          case round =>
            obtain ⟨j, q, rfl, hj, rfl⟩ := hrel
            by_cases hjk : j < k
            · have hjki : (j : Int) < (k : Int) := by omega
              obtain ⟨Aix, nix, cix, lx, hcx, _, hlx, oix⟩ := PC.out j hjk
              rw [← PLS.out, pairs_D (by rw [PK0.out]; omega)] at hlx
              injection hlx with hlx
              subst hlx
              have hbdx := PB.out _ (mem_D (l := ps) (j := j) (by rw [PK0.out]; omega))
              obtain ⟨lo, hlo⟩ : ∃ x, (ps.getD (j) (0, 0)).1 = x := ⟨_, rfl⟩
              obtain ⟨hh, hhh⟩ : ∃ x, (ps.getD (j) (0, 0)).2 = x := ⟨_, rfl⟩
              rw [hlo, hhh] at oix hbdx
              obtain rfl : nix = 2 := by have := oix.1; simpa using this.symm
              obtain ⟨gi, rfl, _⟩ := own_addr oix (by omega)
              have hax := own_cell oix rfl (show 0 < 2 by omega)
              have hbx := own_cell oix rfl (show 1 < 2 by omega)
              rw [show nth [lo, hh] 0 = lo from rfl] at hax
              rw [show nth [lo, hh] 1 = hh from rfl] at hbx
              have hlg := P2.out _ (mem_D (l := ps) (j := j) (by rw [PK0.out]; omega))
              rw [hlo, hhh] at hlg
              have w1 : IntKind.i64.wrap (hh - lo) = hh - lo := IntWalk.i64_in _ (by omega)
              have w2 : IntKind.i64.wrap (hh - lo + 1) = lg := by rw [IntWalk.i64_in _ (by omega)]; exact hlg
              have w3 : (lg != lg) = false := by simp
              cases j with
              | zero =>
                clear hlg hlo hhh oix PC P2 P3 PB PLS PK0 PLG PL1 PL4 PL5
                go_wp2
                go_quiet (fail)
                go_wp2
                go_roundw
                case rel => exact ⟨1, _, by go_num, by omega, rfl⟩
                case measure => simp [intOf]; omega
              | succ j =>
                have h3 := P3.out j (by rw [PK0.out]; omega)
                obtain ⟨Aiy, niy, ciy, ly, hcy, _, hly, oiy⟩ := PC.out j (by omega)
                rw [← PLS.out, pairs_D (by rw [PK0.out]; omega)] at hly
                injection hly with hly
                subst hly
                have hbdy := PB.out _ (mem_D (l := ps) (j := j) (by rw [PK0.out]; omega))
                obtain ⟨lp, hlp⟩ : ∃ x, (ps.getD (j) (0, 0)).1 = x := ⟨_, rfl⟩
                obtain ⟨hp, hhp⟩ : ∃ x, (ps.getD (j) (0, 0)).2 = x := ⟨_, rfl⟩
                rw [hlp, hhp] at oiy hbdy
                obtain rfl : niy = 2 := by have := oiy.1; simpa using this.symm
                obtain ⟨gq, rfl, _⟩ := own_addr oiy (by omega)
                have hay := own_cell oiy rfl (show 0 < 2 by omega)
                have hby := own_cell oiy rfl (show 1 < 2 by omega)
                rw [show nth [lp, hp] 0 = lp from rfl] at hay
                rw [show nth [lp, hp] 1 = hp from rfl] at hby
                rw [hlo, hhp] at h3
                have e0 : ((j : Int) + 1).toNat = j + 1 := by omega
                have e2 : (0 : Int) ≤ (j : Int) + 1 := by omega
                have e3 : (j : Int) + 1 < (k : Int) := by omega
                have e5 : (j : Int) < (k : Int) := by omega
                have e6 : decide ((0 : Int) < (j : Int) + 1) = true := decide_eq_true (by omega)
                have e1 : IntKind.i64.wrap ((j : Int) + 1 - 1) = (j : Int) := by rw [IntWalk.i64_in _ (by omega)]; omega
                have w4 : IntKind.i64.wrap (hp + 1) = hp + 1 := IntWalk.i64_in _ (by omega)
                clear hlg hhh hlp oix oiy PC P2 P3 PB PLS PK0 PLG PL1 PL4 PL5 hjk
                rcases h3 with h3 | h3
                · have n1 : (lo != hp) = false := by simp [h3]
                  clear h3 hlo hhp
                  go_wp2
                  go_quiet (fail)
                  go_wp2
                  go_roundw
                  case rel => exact ⟨j + 1 + 1, _, by go_num, by omega, rfl⟩
                  case measure => simp [intOf]; omega
                · have n1 : (lo != hp) = true := bne_iff_ne.2 (by omega)
                  have n2 : (lo != hp + 1) = false := by simp [h3]
                  clear h3 hlo hhp
                  go_wp2
                  go_quiet (fail)
                  go_wp2
                  go_roundw
                  case rel => exact ⟨j + 1 + 1, _, by go_num, by omega, rfl⟩
                  case measure => simp [intOf]; omega
            · obtain rfl : j = k := by omega
              have hK7 : K = 0 ∨ K = 1 ∨ K = 2 ∨ K = 3 ∨ K = 4 ∨ K = 5 ∨ K = 6 := by omega
              have h4 := PL4.out
              have h5 := PL5.out
              have h1 := PL1.out
              rw [PK0.out] at h5
              rcases hK7 with rfl | rfl | rfl | rfl | rfl | rfl | rfl
              · obtain rfl : j = 1 := h1
                obtain ⟨Aix, nix, cix, lx, hcx, _, hlx, oix⟩ := PC.out 0 (by omega)
                rw [← PLS.out, pairs_D (by rw [PK0.out]; omega)] at hlx
                injection hlx with hlx
                subst hlx
                have hbdx := PB.out _ (mem_D (l := ps) (j := 0) (by rw [PK0.out]; omega))
                obtain ⟨lo, hlo⟩ : ∃ x, (ps.getD (0) (0, 0)).1 = x := ⟨_, rfl⟩
                obtain ⟨hh, hhh⟩ : ∃ x, (ps.getD (0) (0, 0)).2 = x := ⟨_, rfl⟩
                rw [hlo, hhh] at oix hbdx
                obtain rfl : nix = 2 := by have := oix.1; simpa using this.symm
                obtain ⟨gi, rfl, _⟩ := own_addr oix (by omega)
                have hax := own_cell oix rfl (show 0 < 2 by omega)
                have hbx := own_cell oix rfl (show 1 < 2 by omega)
                rw [show nth [lo, hh] 0 = lo from rfl] at hax
                rw [show nth [lo, hh] 1 = hh from rfl] at hbx
                rw [show 1 - 1 = 0 from rfl, hhh] at h5
                rw [hlo] at h4
                subst h4
                subst h5
                have z9 : IntKind.i64.wrap ((N : Int) - 1) = (N : Int) - 1 := IntWalk.i64_in _ (by omega)
                clear PC P2 P3 PB PLS PK0 PLG PL1 PL4 PL5 hjk hj
                simp only [show ((0 : Nat) : Int) = 0 from rfl, show ((1 : Nat) : Int) = 1 from rfl]
                go_wp2
                go_ret
                exact ⟨rfl, BB.out.trans (below_drewN (Below.refl _ _) _)⟩
              · obtain rfl : j = 2 := h1
                obtain ⟨Aix, nix, cix, lx, hcx, _, hlx, oix⟩ := PC.out 0 (by omega)
                rw [← PLS.out, pairs_D (by rw [PK0.out]; omega)] at hlx
                injection hlx with hlx
                subst hlx
                have hbdx := PB.out _ (mem_D (l := ps) (j := 0) (by rw [PK0.out]; omega))
                obtain ⟨lo, hlo⟩ : ∃ x, (ps.getD (0) (0, 0)).1 = x := ⟨_, rfl⟩
                obtain ⟨hh, hhh⟩ : ∃ x, (ps.getD (0) (0, 0)).2 = x := ⟨_, rfl⟩
                rw [hlo, hhh] at oix hbdx
                obtain rfl : nix = 2 := by have := oix.1; simpa using this.symm
                obtain ⟨gi, rfl, _⟩ := own_addr oix (by omega)
                have hax := own_cell oix rfl (show 0 < 2 by omega)
                have hbx := own_cell oix rfl (show 1 < 2 by omega)
                rw [show nth [lo, hh] 0 = lo from rfl] at hax
                rw [show nth [lo, hh] 1 = hh from rfl] at hbx
                obtain ⟨Aiy, niy, ciy, ly, hcy, _, hly, oiy⟩ := PC.out 1 (by omega)
                rw [← PLS.out, pairs_D (by rw [PK0.out]; omega)] at hly
                injection hly with hly
                subst hly
                have hbdy := PB.out _ (mem_D (l := ps) (j := 1) (by rw [PK0.out]; omega))
                obtain ⟨lp, hlp⟩ : ∃ x, (ps.getD (1) (0, 0)).1 = x := ⟨_, rfl⟩
                obtain ⟨hp, hhp⟩ : ∃ x, (ps.getD (1) (0, 0)).2 = x := ⟨_, rfl⟩
                rw [hlp, hhp] at oiy hbdy
                obtain rfl : niy = 2 := by have := oiy.1; simpa using this.symm
                obtain ⟨gq, rfl, _⟩ := own_addr oiy (by omega)
                have hay := own_cell oiy rfl (show 0 < 2 by omega)
                have hby := own_cell oiy rfl (show 1 < 2 by omega)
                rw [show nth [lp, hp] 0 = lp from rfl] at hay
                rw [show nth [lp, hp] 1 = hp from rfl] at hby
                rw [show 2 - 1 = 1 from rfl, hhp] at h5
                rw [hlo] at h4
                subst h4
                subst h5
                have z9 : IntKind.i64.wrap ((N : Int) - 1) = (N : Int) - 1 := IntWalk.i64_in _ (by omega)
                clear PC P2 P3 PB PLS PK0 PLG PL1 PL4 PL5 hjk hj
                simp only [show ((1 : Nat) : Int) = 1 from rfl, show ((2 : Nat) : Int) = 2 from rfl]
                go_wp2
                go_ret
                exact ⟨rfl, BB.out.trans (below_drewN (Below.refl _ _) _)⟩
              · obtain rfl : j = 4 := h1
                obtain ⟨Aix, nix, cix, lx, hcx, _, hlx, oix⟩ := PC.out 0 (by omega)
                rw [← PLS.out, pairs_D (by rw [PK0.out]; omega)] at hlx
                injection hlx with hlx
                subst hlx
                have hbdx := PB.out _ (mem_D (l := ps) (j := 0) (by rw [PK0.out]; omega))
                obtain ⟨lo, hlo⟩ : ∃ x, (ps.getD (0) (0, 0)).1 = x := ⟨_, rfl⟩
                obtain ⟨hh, hhh⟩ : ∃ x, (ps.getD (0) (0, 0)).2 = x := ⟨_, rfl⟩
                rw [hlo, hhh] at oix hbdx
                obtain rfl : nix = 2 := by have := oix.1; simpa using this.symm
                obtain ⟨gi, rfl, _⟩ := own_addr oix (by omega)
                have hax := own_cell oix rfl (show 0 < 2 by omega)
                have hbx := own_cell oix rfl (show 1 < 2 by omega)
                rw [show nth [lo, hh] 0 = lo from rfl] at hax
                rw [show nth [lo, hh] 1 = hh from rfl] at hbx
                obtain ⟨Aiy, niy, ciy, ly, hcy, _, hly, oiy⟩ := PC.out 3 (by omega)
                rw [← PLS.out, pairs_D (by rw [PK0.out]; omega)] at hly
                injection hly with hly
                subst hly
                have hbdy := PB.out _ (mem_D (l := ps) (j := 3) (by rw [PK0.out]; omega))
                obtain ⟨lp, hlp⟩ : ∃ x, (ps.getD (3) (0, 0)).1 = x := ⟨_, rfl⟩
                obtain ⟨hp, hhp⟩ : ∃ x, (ps.getD (3) (0, 0)).2 = x := ⟨_, rfl⟩
                rw [hlp, hhp] at oiy hbdy
                obtain rfl : niy = 2 := by have := oiy.1; simpa using this.symm
                obtain ⟨gq, rfl, _⟩ := own_addr oiy (by omega)
                have hay := own_cell oiy rfl (show 0 < 2 by omega)
                have hby := own_cell oiy rfl (show 1 < 2 by omega)
                rw [show nth [lp, hp] 0 = lp from rfl] at hay
                rw [show nth [lp, hp] 1 = hp from rfl] at hby
                rw [show 4 - 1 = 3 from rfl, hhp] at h5
                rw [hlo] at h4
                subst h4
                subst h5
                have z9 : IntKind.i64.wrap ((N : Int) - 1) = (N : Int) - 1 := IntWalk.i64_in _ (by omega)
                clear PC P2 P3 PB PLS PK0 PLG PL1 PL4 PL5 hjk hj
                simp only [show ((2 : Nat) : Int) = 2 from rfl, show ((4 : Nat) : Int) = 4 from rfl]
                go_wp2
                go_ret
                exact ⟨rfl, BB.out.trans (below_drewN (Below.refl _ _) _)⟩
              · obtain rfl : j = 8 := h1
                obtain ⟨Aix, nix, cix, lx, hcx, _, hlx, oix⟩ := PC.out 0 (by omega)
                rw [← PLS.out, pairs_D (by rw [PK0.out]; omega)] at hlx
                injection hlx with hlx
                subst hlx
                have hbdx := PB.out _ (mem_D (l := ps) (j := 0) (by rw [PK0.out]; omega))
                obtain ⟨lo, hlo⟩ : ∃ x, (ps.getD (0) (0, 0)).1 = x := ⟨_, rfl⟩
                obtain ⟨hh, hhh⟩ : ∃ x, (ps.getD (0) (0, 0)).2 = x := ⟨_, rfl⟩
                rw [hlo, hhh] at oix hbdx
                obtain rfl : nix = 2 := by have := oix.1; simpa using this.symm
                obtain ⟨gi, rfl, _⟩ := own_addr oix (by omega)
                have hax := own_cell oix rfl (show 0 < 2 by omega)
                have hbx := own_cell oix rfl (show 1 < 2 by omega)
                rw [show nth [lo, hh] 0 = lo from rfl] at hax
                rw [show nth [lo, hh] 1 = hh from rfl] at hbx
                obtain ⟨Aiy, niy, ciy, ly, hcy, _, hly, oiy⟩ := PC.out 7 (by omega)
                rw [← PLS.out, pairs_D (by rw [PK0.out]; omega)] at hly
                injection hly with hly
                subst hly
                have hbdy := PB.out _ (mem_D (l := ps) (j := 7) (by rw [PK0.out]; omega))
                obtain ⟨lp, hlp⟩ : ∃ x, (ps.getD (7) (0, 0)).1 = x := ⟨_, rfl⟩
                obtain ⟨hp, hhp⟩ : ∃ x, (ps.getD (7) (0, 0)).2 = x := ⟨_, rfl⟩
                rw [hlp, hhp] at oiy hbdy
                obtain rfl : niy = 2 := by have := oiy.1; simpa using this.symm
                obtain ⟨gq, rfl, _⟩ := own_addr oiy (by omega)
                have hay := own_cell oiy rfl (show 0 < 2 by omega)
                have hby := own_cell oiy rfl (show 1 < 2 by omega)
                rw [show nth [lp, hp] 0 = lp from rfl] at hay
                rw [show nth [lp, hp] 1 = hp from rfl] at hby
                rw [show 8 - 1 = 7 from rfl, hhp] at h5
                rw [hlo] at h4
                subst h4
                subst h5
                have z9 : IntKind.i64.wrap ((N : Int) - 1) = (N : Int) - 1 := IntWalk.i64_in _ (by omega)
                clear PC P2 P3 PB PLS PK0 PLG PL1 PL4 PL5 hjk hj
                simp only [show ((3 : Nat) : Int) = 3 from rfl, show ((8 : Nat) : Int) = 8 from rfl]
                go_wp2
                go_ret
                exact ⟨rfl, BB.out.trans (below_drewN (Below.refl _ _) _)⟩
              · obtain rfl : j = 16 := h1
                obtain ⟨Aix, nix, cix, lx, hcx, _, hlx, oix⟩ := PC.out 0 (by omega)
                rw [← PLS.out, pairs_D (by rw [PK0.out]; omega)] at hlx
                injection hlx with hlx
                subst hlx
                have hbdx := PB.out _ (mem_D (l := ps) (j := 0) (by rw [PK0.out]; omega))
                obtain ⟨lo, hlo⟩ : ∃ x, (ps.getD (0) (0, 0)).1 = x := ⟨_, rfl⟩
                obtain ⟨hh, hhh⟩ : ∃ x, (ps.getD (0) (0, 0)).2 = x := ⟨_, rfl⟩
                rw [hlo, hhh] at oix hbdx
                obtain rfl : nix = 2 := by have := oix.1; simpa using this.symm
                obtain ⟨gi, rfl, _⟩ := own_addr oix (by omega)
                have hax := own_cell oix rfl (show 0 < 2 by omega)
                have hbx := own_cell oix rfl (show 1 < 2 by omega)
                rw [show nth [lo, hh] 0 = lo from rfl] at hax
                rw [show nth [lo, hh] 1 = hh from rfl] at hbx
                obtain ⟨Aiy, niy, ciy, ly, hcy, _, hly, oiy⟩ := PC.out 15 (by omega)
                rw [← PLS.out, pairs_D (by rw [PK0.out]; omega)] at hly
                injection hly with hly
                subst hly
                have hbdy := PB.out _ (mem_D (l := ps) (j := 15) (by rw [PK0.out]; omega))
                obtain ⟨lp, hlp⟩ : ∃ x, (ps.getD (15) (0, 0)).1 = x := ⟨_, rfl⟩
                obtain ⟨hp, hhp⟩ : ∃ x, (ps.getD (15) (0, 0)).2 = x := ⟨_, rfl⟩
                rw [hlp, hhp] at oiy hbdy
                obtain rfl : niy = 2 := by have := oiy.1; simpa using this.symm
                obtain ⟨gq, rfl, _⟩ := own_addr oiy (by omega)
                have hay := own_cell oiy rfl (show 0 < 2 by omega)
                have hby := own_cell oiy rfl (show 1 < 2 by omega)
                rw [show nth [lp, hp] 0 = lp from rfl] at hay
                rw [show nth [lp, hp] 1 = hp from rfl] at hby
                rw [show 16 - 1 = 15 from rfl, hhp] at h5
                rw [hlo] at h4
                subst h4
                subst h5
                have z9 : IntKind.i64.wrap ((N : Int) - 1) = (N : Int) - 1 := IntWalk.i64_in _ (by omega)
                clear PC P2 P3 PB PLS PK0 PLG PL1 PL4 PL5 hjk hj
                simp only [show ((4 : Nat) : Int) = 4 from rfl, show ((16 : Nat) : Int) = 16 from rfl]
                go_wp2
                go_ret
                exact ⟨rfl, BB.out.trans (below_drewN (Below.refl _ _) _)⟩
              · obtain rfl : j = 32 := h1
                obtain ⟨Aix, nix, cix, lx, hcx, _, hlx, oix⟩ := PC.out 0 (by omega)
                rw [← PLS.out, pairs_D (by rw [PK0.out]; omega)] at hlx
                injection hlx with hlx
                subst hlx
                have hbdx := PB.out _ (mem_D (l := ps) (j := 0) (by rw [PK0.out]; omega))
                obtain ⟨lo, hlo⟩ : ∃ x, (ps.getD (0) (0, 0)).1 = x := ⟨_, rfl⟩
                obtain ⟨hh, hhh⟩ : ∃ x, (ps.getD (0) (0, 0)).2 = x := ⟨_, rfl⟩
                rw [hlo, hhh] at oix hbdx
                obtain rfl : nix = 2 := by have := oix.1; simpa using this.symm
                obtain ⟨gi, rfl, _⟩ := own_addr oix (by omega)
                have hax := own_cell oix rfl (show 0 < 2 by omega)
                have hbx := own_cell oix rfl (show 1 < 2 by omega)
                rw [show nth [lo, hh] 0 = lo from rfl] at hax
                rw [show nth [lo, hh] 1 = hh from rfl] at hbx
                obtain ⟨Aiy, niy, ciy, ly, hcy, _, hly, oiy⟩ := PC.out 31 (by omega)
                rw [← PLS.out, pairs_D (by rw [PK0.out]; omega)] at hly
                injection hly with hly
                subst hly
                have hbdy := PB.out _ (mem_D (l := ps) (j := 31) (by rw [PK0.out]; omega))
                obtain ⟨lp, hlp⟩ : ∃ x, (ps.getD (31) (0, 0)).1 = x := ⟨_, rfl⟩
                obtain ⟨hp, hhp⟩ : ∃ x, (ps.getD (31) (0, 0)).2 = x := ⟨_, rfl⟩
                rw [hlp, hhp] at oiy hbdy
                obtain rfl : niy = 2 := by have := oiy.1; simpa using this.symm
                obtain ⟨gq, rfl, _⟩ := own_addr oiy (by omega)
                have hay := own_cell oiy rfl (show 0 < 2 by omega)
                have hby := own_cell oiy rfl (show 1 < 2 by omega)
                rw [show nth [lp, hp] 0 = lp from rfl] at hay
                rw [show nth [lp, hp] 1 = hp from rfl] at hby
                rw [show 32 - 1 = 31 from rfl, hhp] at h5
                rw [hlo] at h4
                subst h4
                subst h5
                have z9 : IntKind.i64.wrap ((N : Int) - 1) = (N : Int) - 1 := IntWalk.i64_in _ (by omega)
                clear PC P2 P3 PB PLS PK0 PLG PL1 PL4 PL5 hjk hj
                simp only [show ((5 : Nat) : Int) = 5 from rfl, show ((32 : Nat) : Int) = 32 from rfl]
                go_wp2
                go_ret
                exact ⟨rfl, BB.out.trans (below_drewN (Below.refl _ _) _)⟩
              · obtain rfl : j = 64 := h1
                obtain ⟨Aix, nix, cix, lx, hcx, _, hlx, oix⟩ := PC.out 0 (by omega)
                rw [← PLS.out, pairs_D (by rw [PK0.out]; omega)] at hlx
                injection hlx with hlx
                subst hlx
                have hbdx := PB.out _ (mem_D (l := ps) (j := 0) (by rw [PK0.out]; omega))
                obtain ⟨lo, hlo⟩ : ∃ x, (ps.getD (0) (0, 0)).1 = x := ⟨_, rfl⟩
                obtain ⟨hh, hhh⟩ : ∃ x, (ps.getD (0) (0, 0)).2 = x := ⟨_, rfl⟩
                rw [hlo, hhh] at oix hbdx
                obtain rfl : nix = 2 := by have := oix.1; simpa using this.symm
                obtain ⟨gi, rfl, _⟩ := own_addr oix (by omega)
                have hax := own_cell oix rfl (show 0 < 2 by omega)
                have hbx := own_cell oix rfl (show 1 < 2 by omega)
                rw [show nth [lo, hh] 0 = lo from rfl] at hax
                rw [show nth [lo, hh] 1 = hh from rfl] at hbx
                obtain ⟨Aiy, niy, ciy, ly, hcy, _, hly, oiy⟩ := PC.out 63 (by omega)
                rw [← PLS.out, pairs_D (by rw [PK0.out]; omega)] at hly
                injection hly with hly
                subst hly
                have hbdy := PB.out _ (mem_D (l := ps) (j := 63) (by rw [PK0.out]; omega))
                obtain ⟨lp, hlp⟩ : ∃ x, (ps.getD (63) (0, 0)).1 = x := ⟨_, rfl⟩
                obtain ⟨hp, hhp⟩ : ∃ x, (ps.getD (63) (0, 0)).2 = x := ⟨_, rfl⟩
                rw [hlp, hhp] at oiy hbdy
                obtain rfl : niy = 2 := by have := oiy.1; simpa using this.symm
                obtain ⟨gq, rfl, _⟩ := own_addr oiy (by omega)
                have hay := own_cell oiy rfl (show 0 < 2 by omega)
                have hby := own_cell oiy rfl (show 1 < 2 by omega)
                rw [show nth [lp, hp] 0 = lp from rfl] at hay
                rw [show nth [lp, hp] 1 = hp from rfl] at hby
                rw [show 64 - 1 = 63 from rfl, hhp] at h5
                rw [hlo] at h4
                subst h4
                subst h5
                have z9 : IntKind.i64.wrap ((N : Int) - 1) = (N : Int) - 1 := IntWalk.i64_in _ (by omega)
                clear PC P2 P3 PB PLS PK0 PLG PL1 PL4 PL5 hjk hj
                simp only [show ((6 : Nat) : Int) = 6 from rfl, show ((64 : Nat) : Int) = 64 from rfl]
                go_wp2
                go_ret
                exact ⟨rfl, BB.out.trans (below_drewN (Below.refl _ _) _)⟩
        · have hRi : decide ((K : Int) < (mR : Int)) = false := by simp; omega
          have hlg1 : lg = 1 := by
            have h := PLG.out
            have hK : K = rl.length := by rw [HRL.out]; omega
            rw [← h, hK]
            simp [nth]
          subst hlg1
          clear oR oB HB
          go_wp2_with fail
          go_loopw [10] (fun i wr => ∃ j m : Nat, i = .int .i64 j ∧ j ≤ k ∧ wr = w5.drewN m) (fun i _ => k - (intOf i).toNat)
          case atStart => exact ⟨0, 0, rfl, Nat.zero_le _, rfl⟩
          case round =>
            obtain ⟨j, q, rfl, hj, rfl⟩ := hrel
            by_cases hjk : j < k
            · have hjki : (j : Int) < (k : Int) := by omega
              obtain ⟨Aix, nix, cix, lx, hcx, _, hlx, oix⟩ := PC.out j hjk
              rw [← PLS.out, pairs_D (by rw [PK0.out]; omega)] at hlx
              injection hlx with hlx
              subst hlx
              have hbdx := PB.out _ (mem_D (l := ps) (j := j) (by rw [PK0.out]; omega))
              obtain ⟨lo, hlo⟩ : ∃ x, (ps.getD (j) (0, 0)).1 = x := ⟨_, rfl⟩
              obtain ⟨hh, hhh⟩ : ∃ x, (ps.getD (j) (0, 0)).2 = x := ⟨_, rfl⟩
              rw [hlo, hhh] at oix hbdx
              obtain rfl : nix = 2 := by have := oix.1; simpa using this.symm
              obtain ⟨gi, rfl, _⟩ := own_addr oix (by omega)
              have hax := own_cell oix rfl (show 0 < 2 by omega)
              have hbx := own_cell oix rfl (show 1 < 2 by omega)
              rw [show nth [lo, hh] 0 = lo from rfl] at hax
              rw [show nth [lo, hh] 1 = hh from rfl] at hbx
              have hlg := P2.out _ (mem_D (l := ps) (j := j) (by rw [PK0.out]; omega))
              rw [hlo, hhh] at hlg
              have w1 : IntKind.i64.wrap (hh - lo) = hh - lo := IntWalk.i64_in _ (by omega)
              have w2 : IntKind.i64.wrap (hh - lo + 1) = 1 := by rw [IntWalk.i64_in _ (by omega)]; exact hlg
              have w3 : (1 != 1) = false := by simp
              cases j with
              | zero =>
                clear hlg hlo hhh oix PC P2 P3 PB PLS PK0 PLG PL1 PL4 PL5
                go_wp2
                go_quiet (fail)
                go_wp2
                go_roundw
                case rel => exact ⟨1, _, by go_num, by omega, rfl⟩
                case measure => simp [intOf]; omega
              | succ j =>
                have h3 := P3.out j (by rw [PK0.out]; omega)
                obtain ⟨Aiy, niy, ciy, ly, hcy, _, hly, oiy⟩ := PC.out j (by omega)
                rw [← PLS.out, pairs_D (by rw [PK0.out]; omega)] at hly
                injection hly with hly
                subst hly
                have hbdy := PB.out _ (mem_D (l := ps) (j := j) (by rw [PK0.out]; omega))
                obtain ⟨lp, hlp⟩ : ∃ x, (ps.getD (j) (0, 0)).1 = x := ⟨_, rfl⟩
                obtain ⟨hp, hhp⟩ : ∃ x, (ps.getD (j) (0, 0)).2 = x := ⟨_, rfl⟩
                rw [hlp, hhp] at oiy hbdy
                obtain rfl : niy = 2 := by have := oiy.1; simpa using this.symm
                obtain ⟨gq, rfl, _⟩ := own_addr oiy (by omega)
                have hay := own_cell oiy rfl (show 0 < 2 by omega)
                have hby := own_cell oiy rfl (show 1 < 2 by omega)
                rw [show nth [lp, hp] 0 = lp from rfl] at hay
                rw [show nth [lp, hp] 1 = hp from rfl] at hby
                rw [hlo, hhp] at h3
                have e0 : ((j : Int) + 1).toNat = j + 1 := by omega
                have e2 : (0 : Int) ≤ (j : Int) + 1 := by omega
                have e3 : (j : Int) + 1 < (k : Int) := by omega
                have e5 : (j : Int) < (k : Int) := by omega
                have e6 : decide ((0 : Int) < (j : Int) + 1) = true := decide_eq_true (by omega)
                have e1 : IntKind.i64.wrap ((j : Int) + 1 - 1) = (j : Int) := by rw [IntWalk.i64_in _ (by omega)]; omega
                have w4 : IntKind.i64.wrap (hp + 1) = hp + 1 := IntWalk.i64_in _ (by omega)
                clear hlg hhh hlp oix oiy PC P2 P3 PB PLS PK0 PLG PL1 PL4 PL5 hjk
                rcases h3 with h3 | h3
                · have n1 : (lo != hp) = false := by simp [h3]
                  clear h3 hlo hhp
                  go_wp2
                  go_quiet (fail)
                  go_wp2
                  go_roundw
                  case rel => exact ⟨j + 1 + 1, _, by go_num, by omega, rfl⟩
                  case measure => simp [intOf]; omega
                · have n1 : (lo != hp) = true := bne_iff_ne.2 (by omega)
                  have n2 : (lo != hp + 1) = false := by simp [h3]
                  clear h3 hlo hhp
                  go_wp2
                  go_quiet (fail)
                  go_wp2
                  go_roundw
                  case rel => exact ⟨j + 1 + 1, _, by go_num, by omega, rfl⟩
                  case measure => simp [intOf]; omega
            · obtain rfl : j = k := by omega
              have hK7 : K = 0 ∨ K = 1 ∨ K = 2 ∨ K = 3 ∨ K = 4 ∨ K = 5 ∨ K = 6 := by omega
              have h4 := PL4.out
              have h5 := PL5.out
              have h1 := PL1.out
              rw [PK0.out] at h5
              rcases hK7 with rfl | rfl | rfl | rfl | rfl | rfl | rfl
              · obtain rfl : j = 1 := h1
                obtain ⟨Aix, nix, cix, lx, hcx, _, hlx, oix⟩ := PC.out 0 (by omega)
                rw [← PLS.out, pairs_D (by rw [PK0.out]; omega)] at hlx
                injection hlx with hlx
                subst hlx
                have hbdx := PB.out _ (mem_D (l := ps) (j := 0) (by rw [PK0.out]; omega))
                obtain ⟨lo, hlo⟩ : ∃ x, (ps.getD (0) (0, 0)).1 = x := ⟨_, rfl⟩
                obtain ⟨hh, hhh⟩ : ∃ x, (ps.getD (0) (0, 0)).2 = x := ⟨_, rfl⟩
                rw [hlo, hhh] at oix hbdx
                obtain rfl : nix = 2 := by have := oix.1; simpa using this.symm
                obtain ⟨gi, rfl, _⟩ := own_addr oix (by omega)
                have hax := own_cell oix rfl (show 0 < 2 by omega)
                have hbx := own_cell oix rfl (show 1 < 2 by omega)
                rw [show nth [lo, hh] 0 = lo from rfl] at hax
                rw [show nth [lo, hh] 1 = hh from rfl] at hbx
                rw [show 1 - 1 = 0 from rfl, hhh] at h5
                rw [hlo] at h4
                subst h4
                subst h5
                have z9 : IntKind.i64.wrap ((N : Int) - 1) = (N : Int) - 1 := IntWalk.i64_in _ (by omega)
                clear PC P2 P3 PB PLS PK0 PLG PL1 PL4 PL5 hjk hj
                simp only [show ((0 : Nat) : Int) = 0 from rfl, show ((1 : Nat) : Int) = 1 from rfl]
                go_wp2
                go_ret
                exact ⟨rfl, BB.out.trans (below_drewN (Below.refl _ _) _)⟩
              · obtain rfl : j = 2 := h1
                obtain ⟨Aix, nix, cix, lx, hcx, _, hlx, oix⟩ := PC.out 0 (by omega)
                rw [← PLS.out, pairs_D (by rw [PK0.out]; omega)] at hlx
                injection hlx with hlx
                subst hlx
                have hbdx := PB.out _ (mem_D (l := ps) (j := 0) (by rw [PK0.out]; omega))
                obtain ⟨lo, hlo⟩ : ∃ x, (ps.getD (0) (0, 0)).1 = x := ⟨_, rfl⟩
                obtain ⟨hh, hhh⟩ : ∃ x, (ps.getD (0) (0, 0)).2 = x := ⟨_, rfl⟩
                rw [hlo, hhh] at oix hbdx
                obtain rfl : nix = 2 := by have := oix.1; simpa using this.symm
                obtain ⟨gi, rfl, _⟩ := own_addr oix (by omega)
                have hax := own_cell oix rfl (show 0 < 2 by omega)
                have hbx := own_cell oix rfl (show 1 < 2 by omega)
                rw [show nth [lo, hh] 0 = lo from rfl] at hax
                rw [show nth [lo, hh] 1 = hh from rfl] at hbx
                obtain ⟨Aiy, niy, ciy, ly, hcy, _, hly, oiy⟩ := PC.out 1 (by omega)
                rw [← PLS.out, pairs_D (by rw [PK0.out]; omega)] at hly
                injection hly with hly
                subst hly
                have hbdy := PB.out _ (mem_D (l := ps) (j := 1) (by rw [PK0.out]; omega))
                obtain ⟨lp, hlp⟩ : ∃ x, (ps.getD (1) (0, 0)).1 = x := ⟨_, rfl⟩
                obtain ⟨hp, hhp⟩ : ∃ x, (ps.getD (1) (0, 0)).2 = x := ⟨_, rfl⟩
                rw [hlp, hhp] at oiy hbdy
                obtain rfl : niy = 2 := by have := oiy.1; simpa using this.symm
                obtain ⟨gq, rfl, _⟩ := own_addr oiy (by omega)
                have hay := own_cell oiy rfl (show 0 < 2 by omega)
                have hby := own_cell oiy rfl (show 1 < 2 by omega)
                rw [show nth [lp, hp] 0 = lp from rfl] at hay
                rw [show nth [lp, hp] 1 = hp from rfl] at hby
                rw [show 2 - 1 = 1 from rfl, hhp] at h5
                rw [hlo] at h4
                subst h4
                subst h5
                have z9 : IntKind.i64.wrap ((N : Int) - 1) = (N : Int) - 1 := IntWalk.i64_in _ (by omega)
                clear PC P2 P3 PB PLS PK0 PLG PL1 PL4 PL5 hjk hj
                simp only [show ((1 : Nat) : Int) = 1 from rfl, show ((2 : Nat) : Int) = 2 from rfl]
                go_wp2
                go_ret
                exact ⟨rfl, BB.out.trans (below_drewN (Below.refl _ _) _)⟩
              · obtain rfl : j = 4 := h1
                obtain ⟨Aix, nix, cix, lx, hcx, _, hlx, oix⟩ := PC.out 0 (by omega)
                rw [← PLS.out, pairs_D (by rw [PK0.out]; omega)] at hlx
                injection hlx with hlx
                subst hlx
                have hbdx := PB.out _ (mem_D (l := ps) (j := 0) (by rw [PK0.out]; omega))
                obtain ⟨lo, hlo⟩ : ∃ x, (ps.getD (0) (0, 0)).1 = x := ⟨_, rfl⟩
                obtain ⟨hh, hhh⟩ : ∃ x, (ps.getD (0) (0, 0)).2 = x := ⟨_, rfl⟩
                rw [hlo, hhh] at oix hbdx
                obtain rfl : nix = 2 := by have := oix.1; simpa using this.symm
                obtain ⟨gi, rfl, _⟩ := own_addr oix (by omega)
                have hax := own_cell oix rfl (show 0 < 2 by omega)
                have hbx := own_cell oix rfl (show 1 < 2 by omega)
                rw [show nth [lo, hh] 0 = lo from rfl] at hax
                rw [show nth [lo, hh] 1 = hh from rfl] at hbx
                obtain ⟨Aiy, niy, ciy, ly, hcy, _, hly, oiy⟩ := PC.out 3 (by omega)
                rw [← PLS.out, pairs_D (by rw [PK0.out]; omega)] at hly
                injection hly with hly
                subst hly
                have hbdy := PB.out _ (mem_D (l := ps) (j := 3) (by rw [PK0.out]; omega))
                obtain ⟨lp, hlp⟩ : ∃ x, (ps.getD (3) (0, 0)).1 = x := ⟨_, rfl⟩
                obtain ⟨hp, hhp⟩ : ∃ x, (ps.getD (3) (0, 0)).2 = x := ⟨_, rfl⟩
                rw [hlp, hhp] at oiy hbdy
                obtain rfl : niy = 2 := by have := oiy.1; simpa using this.symm
                obtain ⟨gq, rfl, _⟩ := own_addr oiy (by omega)
                have hay := own_cell oiy rfl (show 0 < 2 by omega)
                have hby := own_cell oiy rfl (show 1 < 2 by omega)
                rw [show nth [lp, hp] 0 = lp from rfl] at hay
                rw [show nth [lp, hp] 1 = hp from rfl] at hby
                rw [show 4 - 1 = 3 from rfl, hhp] at h5
                rw [hlo] at h4
                subst h4
                subst h5
                have z9 : IntKind.i64.wrap ((N : Int) - 1) = (N : Int) - 1 := IntWalk.i64_in _ (by omega)
                clear PC P2 P3 PB PLS PK0 PLG PL1 PL4 PL5 hjk hj
                simp only [show ((2 : Nat) : Int) = 2 from rfl, show ((4 : Nat) : Int) = 4 from rfl]
                go_wp2
                go_ret
                exact ⟨rfl, BB.out.trans (below_drewN (Below.refl _ _) _)⟩
              · obtain rfl : j = 8 := h1
                obtain ⟨Aix, nix, cix, lx, hcx, _, hlx, oix⟩ := PC.out 0 (by omega)
                rw [← PLS.out, pairs_D (by rw [PK0.out]; omega)] at hlx
                injection hlx with hlx
                subst hlx
                have hbdx := PB.out _ (mem_D (l := ps) (j := 0) (by rw [PK0.out]; omega))
                obtain ⟨lo, hlo⟩ : ∃ x, (ps.getD (0) (0, 0)).1 = x := ⟨_, rfl⟩
                obtain ⟨hh, hhh⟩ : ∃ x, (ps.getD (0) (0, 0)).2 = x := ⟨_, rfl⟩
                rw [hlo, hhh] at oix hbdx
                obtain rfl : nix = 2 := by have := oix.1; simpa using this.symm
                obtain ⟨gi, rfl, _⟩ := own_addr oix (by omega)
                have hax := own_cell oix rfl (show 0 < 2 by omega)
                have hbx := own_cell oix rfl (show 1 < 2 by omega)
                rw [show nth [lo, hh] 0 = lo from rfl] at hax
                rw [show nth [lo, hh] 1 = hh from rfl] at hbx
                obtain ⟨Aiy, niy, ciy, ly, hcy, _, hly, oiy⟩ := PC.out 7 (by omega)
                rw [← PLS.out, pairs_D (by rw [PK0.out]; omega)] at hly
                injection hly with hly
                subst hly
                have hbdy := PB.out _ (mem_D (l := ps) (j := 7) (by rw [PK0.out]; omega))
                obtain ⟨lp, hlp⟩ : ∃ x, (ps.getD (7) (0, 0)).1 = x := ⟨_, rfl⟩
                obtain ⟨hp, hhp⟩ : ∃ x, (ps.getD (7) (0, 0)).2 = x := ⟨_, rfl⟩
                rw [hlp, hhp] at oiy hbdy
                obtain rfl : niy = 2 := by have := oiy.1; simpa using this.symm
                obtain ⟨gq, rfl, _⟩ := own_addr oiy (by omega)
                have hay := own_cell oiy rfl (show 0 < 2 by omega)
                have hby := own_cell oiy rfl (show 1 < 2 by omega)
                rw [show nth [lp, hp] 0 = lp from rfl] at hay
                rw [show nth [lp, hp] 1 = hp from rfl] at hby
                rw [show 8 - 1 = 7 from rfl, hhp] at h5
                rw [hlo] at h4
                subst h4
                subst h5
                have z9 : IntKind.i64.wrap ((N : Int) - 1) = (N : Int) - 1 := IntWalk.i64_in _ (by omega)
                clear PC P2 P3 PB PLS PK0 PLG PL1 PL4 PL5 hjk hj
                simp only [show ((3 : Nat) : Int) = 3 from rfl, show ((8 : Nat) : Int) = 8 from rfl]
                go_wp2
                go_ret
                exact ⟨rfl, BB.out.trans (below_drewN (Below.refl _ _) _)⟩
              · obtain rfl : j = 16 := h1
                obtain ⟨Aix, nix, cix, lx, hcx, _, hlx, oix⟩ := PC.out 0 (by omega)
                rw [← PLS.out, pairs_D (by rw [PK0.out]; omega)] at hlx
                injection hlx with hlx
                subst hlx
                have hbdx := PB.out _ (mem_D (l := ps) (j := 0) (by rw [PK0.out]; omega))
                obtain ⟨lo, hlo⟩ : ∃ x, (ps.getD (0) (0, 0)).1 = x := ⟨_, rfl⟩
                obtain ⟨hh, hhh⟩ : ∃ x, (ps.getD (0) (0, 0)).2 = x := ⟨_, rfl⟩
                rw [hlo, hhh] at oix hbdx
                obtain rfl : nix = 2 := by have := oix.1; simpa using this.symm
                obtain ⟨gi, rfl, _⟩ := own_addr oix (by omega)
                have hax := own_cell oix rfl (show 0 < 2 by omega)
                have hbx := own_cell oix rfl (show 1 < 2 by omega)
                rw [show nth [lo, hh] 0 = lo from rfl] at hax
                rw [show nth [lo, hh] 1 = hh from rfl] at hbx
                obtain ⟨Aiy, niy, ciy, ly, hcy, _, hly, oiy⟩ := PC.out 15 (by omega)
                rw [← PLS.out, pairs_D (by rw [PK0.out]; omega)] at hly
                injection hly with hly
                subst hly
                have hbdy := PB.out _ (mem_D (l := ps) (j := 15) (by rw [PK0.out]; omega))
                obtain ⟨lp, hlp⟩ : ∃ x, (ps.getD (15) (0, 0)).1 = x := ⟨_, rfl⟩
                obtain ⟨hp, hhp⟩ : ∃ x, (ps.getD (15) (0, 0)).2 = x := ⟨_, rfl⟩
                rw [hlp, hhp] at oiy hbdy
                obtain rfl : niy = 2 := by have := oiy.1; simpa using this.symm
                obtain ⟨gq, rfl, _⟩ := own_addr oiy (by omega)
                have hay := own_cell oiy rfl (show 0 < 2 by omega)
                have hby := own_cell oiy rfl (show 1 < 2 by omega)
                rw [show nth [lp, hp] 0 = lp from rfl] at hay
                rw [show nth [lp, hp] 1 = hp from rfl] at hby
                rw [show 16 - 1 = 15 from rfl, hhp] at h5
                rw [hlo] at h4
                subst h4
                subst h5
                have z9 : IntKind.i64.wrap ((N : Int) - 1) = (N : Int) - 1 := IntWalk.i64_in _ (by omega)
                clear PC P2 P3 PB PLS PK0 PLG PL1 PL4 PL5 hjk hj
                simp only [show ((4 : Nat) : Int) = 4 from rfl, show ((16 : Nat) : Int) = 16 from rfl]
                go_wp2
                go_ret
                exact ⟨rfl, BB.out.trans (below_drewN (Below.refl _ _) _)⟩
              · obtain rfl : j = 32 := h1
                obtain ⟨Aix, nix, cix, lx, hcx, _, hlx, oix⟩ := PC.out 0 (by omega)
                rw [← PLS.out, pairs_D (by rw [PK0.out]; omega)] at hlx
                injection hlx with hlx
                subst hlx
                have hbdx := PB.out _ (mem_D (l := ps) (j := 0) (by rw [PK0.out]; omega))
                obtain ⟨lo, hlo⟩ : ∃ x, (ps.getD (0) (0, 0)).1 = x := ⟨_, rfl⟩
                obtain ⟨hh, hhh⟩ : ∃ x, (ps.getD (0) (0, 0)).2 = x := ⟨_, rfl⟩
                rw [hlo, hhh] at oix hbdx
                obtain rfl : nix = 2 := by have := oix.1; simpa using this.symm
                obtain ⟨gi, rfl, _⟩ := own_addr oix (by omega)
                have hax := own_cell oix rfl (show 0 < 2 by omega)
                have hbx := own_cell oix rfl (show 1 < 2 by omega)
                rw [show nth [lo, hh] 0 = lo from rfl] at hax
                rw [show nth [lo, hh] 1 = hh from rfl] at hbx
                obtain ⟨Aiy, niy, ciy, ly, hcy, _, hly, oiy⟩ := PC.out 31 (by omega)
                rw [← PLS.out, pairs_D (by rw [PK0.out]; omega)] at hly
                injection hly with hly
                subst hly
                have hbdy := PB.out _ (mem_D (l := ps) (j := 31) (by rw [PK0.out]; omega))
                obtain ⟨lp, hlp⟩ : ∃ x, (ps.getD (31) (0, 0)).1 = x := ⟨_, rfl⟩
                obtain ⟨hp, hhp⟩ : ∃ x, (ps.getD (31) (0, 0)).2 = x := ⟨_, rfl⟩
                rw [hlp, hhp] at oiy hbdy
                obtain rfl : niy = 2 := by have := oiy.1; simpa using this.symm
                obtain ⟨gq, rfl, _⟩ := own_addr oiy (by omega)
                have hay := own_cell oiy rfl (show 0 < 2 by omega)
                have hby := own_cell oiy rfl (show 1 < 2 by omega)
                rw [show nth [lp, hp] 0 = lp from rfl] at hay
                rw [show nth [lp, hp] 1 = hp from rfl] at hby
                rw [show 32 - 1 = 31 from rfl, hhp] at h5
                rw [hlo] at h4
                subst h4
                subst h5
                have z9 : IntKind.i64.wrap ((N : Int) - 1) = (N : Int) - 1 := IntWalk.i64_in _ (by omega)
                clear PC P2 P3 PB PLS PK0 PLG PL1 PL4 PL5 hjk hj
                simp only [show ((5 : Nat) : Int) = 5 from rfl, show ((32 : Nat) : Int) = 32 from rfl]
                go_wp2
                go_ret
                exact ⟨rfl, BB.out.trans (below_drewN (Below.refl _ _) _)⟩
              · obtain rfl : j = 64 := h1
                obtain ⟨Aix, nix, cix, lx, hcx, _, hlx, oix⟩ := PC.out 0 (by omega)
                rw [← PLS.out, pairs_D (by rw [PK0.out]; omega)] at hlx
                injection hlx with hlx
                subst hlx
                have hbdx := PB.out _ (mem_D (l := ps) (j := 0) (by rw [PK0.out]; omega))
                obtain ⟨lo, hlo⟩ : ∃ x, (ps.getD (0) (0, 0)).1 = x := ⟨_, rfl⟩
                obtain ⟨hh, hhh⟩ : ∃ x, (ps.getD (0) (0, 0)).2 = x := ⟨_, rfl⟩
                rw [hlo, hhh] at oix hbdx
                obtain rfl : nix = 2 := by have := oix.1; simpa using this.symm
                obtain ⟨gi, rfl, _⟩ := own_addr oix (by omega)
                have hax := own_cell oix rfl (show 0 < 2 by omega)
                have hbx := own_cell oix rfl (show 1 < 2 by omega)
                rw [show nth [lo, hh] 0 = lo from rfl] at hax
                rw [show nth [lo, hh] 1 = hh from rfl] at hbx
                obtain ⟨Aiy, niy, ciy, ly, hcy, _, hly, oiy⟩ := PC.out 63 (by omega)
                rw [← PLS.out, pairs_D (by rw [PK0.out]; omega)] at hly
                injection hly with hly
                subst hly
                have hbdy := PB.out _ (mem_D (l := ps) (j := 63) (by rw [PK0.out]; omega))
                obtain ⟨lp, hlp⟩ : ∃ x, (ps.getD (63) (0, 0)).1 = x := ⟨_, rfl⟩
                obtain ⟨hp, hhp⟩ : ∃ x, (ps.getD (63) (0, 0)).2 = x := ⟨_, rfl⟩
                rw [hlp, hhp] at oiy hbdy
                obtain rfl : niy = 2 := by have := oiy.1; simpa using this.symm
                obtain ⟨gq, rfl, _⟩ := own_addr oiy (by omega)
                have hay := own_cell oiy rfl (show 0 < 2 by omega)
                have hby := own_cell oiy rfl (show 1 < 2 by omega)
                rw [show nth [lp, hp] 0 = lp from rfl] at hay
                rw [show nth [lp, hp] 1 = hp from rfl] at hby
                rw [show 64 - 1 = 63 from rfl, hhp] at h5
                rw [hlo] at h4
                subst h4
                subst h5
                have z9 : IntKind.i64.wrap ((N : Int) - 1) = (N : Int) - 1 := IntWalk.i64_in _ (by omega)
                clear PC P2 P3 PB PLS PK0 PLG PL1 PL4 PL5 hjk hj
                simp only [show ((6 : Nat) : Int) = 6 from rfl, show ((64 : Nat) : Int) = 64 from rfl]
                go_wp2
                go_ret
                exact ⟨rfl, BB.out.trans (below_drewN (Below.refl _ _) _)⟩
      · have hk0 : k = 0 := by
          have h1 := HPL.out
          have h2 := HML.out
          rw [partsOut_no (by simpa using hok)] at h1
          rw [List.length_nil] at h1
          omega
        subst hk0
        clear oA oB HA HB CR
        go_wp2_with fail
        refine (alive_any _).mono ?_
        rintro r w5 ⟨rfl, hb2⟩
        replace BB := hid (BB.out.trans (hb2.mono BB.out.size))
        clear hb2
        go_wp2
        go_ret
        exact ⟨rfl, BB.out⟩
end Go.Proofs.YtannfeiogocpeaaDoor
