/-
  Walks of the model's parts (l4Parts, PartsAfter). No statement is proved here.
-/
import Derived.Test.YtannfeiogocpeaaDoorC4
import Derived.Test.YtannfeiogocpeaaDoorS4p
import Derived.Test.YtannfeiogocpeaaDoorNest
import Derived.OwnWalk
namespace Go.Proofs.YtannfeiogocpeaaDoor
open Go.RowKit
set_option linter.unusedVariables false
set_option linter.unusedSimpArgs false

set_option maxRecDepth 100000 in
set_option maxHeartbeats 3200000 in
theorem l4Parts_any (n : Int) (K : Nat) (w : World) (hn : 1 ≤ n ∧ n ≤ 40) (hK : K ≤ 6) :
    Calls Tryd.prog 35 #[.int .i64 n, .int .i64 K] w fun r w' => ∃ A m c vs, r = .returned (.slice A m c) ∧ w'.ownsRow w.heap.size 29 1 (.slice A m c) m vs ∧ Rows w' w.heap.size vs (pairs (partsP n K)) ∧ m ≤ 64 ∧ Below w.heap.size w w' := by
  obtain ⟨i0, hi, hz0, hz1, hz2⟩ := info_parts info_row
  have oI : ((w.alloc (.cells #[.int .i64 0, .int .i64 (n - 1)] 3)).alloc (.cells #[.slice (some ⟨w.heap.size, 0, none⟩) 2 2] 29)).ownsRow w.heap.size 3 1 (.slice (some ⟨w.heap.size, 0, none⟩) 2 2) 2 (ints [0, n - 1]) :=
    own_kept_none (World.ownsRow_lit w #[.int .i64 0, .int .i64 (n - 1)] 2 (Nat.le_refl _) (by simp [maxLen]) rfl) (grown_alloc _ _ _)
  have oO : ((w.alloc (.cells #[.int .i64 0, .int .i64 (n - 1)] 3)).alloc (.cells #[.slice (some ⟨w.heap.size, 0, none⟩) 2 2] 29)).ownsRow w.heap.size 29 1 (.slice (some ⟨w.heap.size + 1, 0, none⟩) 1 1) 1 [.slice (some ⟨w.heap.size, 0, none⟩) 2 2] := by
    have := World.ownsRow_lit (base := w.heap.size) (e := 29) (size := 1) (w.alloc (.cells #[.int .i64 0, .int .i64 (n - 1)] 3)) #[.slice (some ⟨w.heap.size, 0, none⟩) 2 2] 1 (by simp) (by simp [maxLen]) rfl
    simpa using this
  have RR : Hid (Rows ((w.alloc (.cells #[.int .i64 0, .int .i64 (n - 1)] 3)).alloc (.cells #[.slice (some ⟨w.heap.size, 0, none⟩) 2 2] 29)) w.heap.size [.slice (some ⟨w.heap.size, 0, none⟩) 2 2] (pairs (partsP n 0))) := hid ((Rows.nil _ _).snoc ⟨_, _, _, rfl, oI⟩)
  have BB : Hid (Below w.heap.size w ((w.alloc (.cells #[.int .i64 0, .int .i64 (n - 1)] 3)).alloc (.cells #[.slice (some ⟨w.heap.size, 0, none⟩) 2 2] 29))) := hid (((Below.refl _ _).alloc (Nat.le_refl _) _).alloc (by simp) _)
  clear oI
  go_enter Tryd.func35, Tryd.ntmps35
  go_wp2_with fail
  go_loopw [5, 6] (fun v kk wr => ∃ (A : Option Addr) (m c : Nat) (vs : List Value) (k : Nat), v = .slice A m c ∧ kk = .int .i64 k ∧ k ≤ K ∧ wr.ownsRow w.heap.size 29 1 (.slice A m c) m vs ∧ Hid (Rows wr w.heap.size vs (pairs (partsP n k))) ∧ Hid (Below w.heap.size w wr)) (fun _ kk _ => K - (intOf kk).toNat)
  case atStart => exact ⟨_, 1, 1, _, 0, rfl, rfl, Nat.zero_le _, oO, RR, BB⟩
  case round =>
    clear oO RR BB
    obtain ⟨A, m, c, vs, k, rfl, rfl, hk, oO, RR, BB⟩ := hrel
    have hlen : (partsP n k).length = m := by have h1 := oO.1; have h2 := RR.out.1; rw [pairs_len] at h2; omega
    have h64 : m ≤ 64 := by rw [← hlen]; exact partsP_len64 n (by omega)
    by_cases hlt : k < K
    · have HL := hid hlen
      have HP := hid (partsP_bd hn.1 k)
      have HF := hid (show partsP n (k + 1) = (partsP n k).flatMap split1 from rfl)
      obtain ⟨ps, hps⟩ : ∃ ps, partsP n k = ps := ⟨_, rfl⟩
      rw [hps] at RR HL HP HF
      clear hps hlen
      obtain ⟨T, hT⟩ : ∃ T, wr.heap.size = T := ⟨_, rfl⟩
      have hbT : w.heap.size ≤ T := by rw [← hT]; exact BB.out.size
      have hiO : ∀ q, (Value.slice A m c).ownBlock = some q → q < T := by rw [← hT]; exact own_hi oO
      have oN : (wr.alloc (.cells #[] 29)).ownsRow T 29 1 (.slice (some ⟨T, 0, none⟩) 0 0) 0 [] := by rw [← hT]; exact World.ownsRow_lit wr #[] 0 (Nat.le_refl _) (by simp [maxLen]) rfl
      replace oO := own_kept_none oO (grown_alloc wr (.cells #[] 29) none)
      replace RR := hid (RR.out.onto (grown_alloc wr (.cells #[] 29) none))
      replace BB := hid (BB.out.trans (((Below.refl wr.heap.size wr).alloc (Nat.le_refl _) (.cells #[] 29)).mono BB.out.size))
      have hT2 : T ≤ (wr.alloc (.cells #[] 29)).heap.size := by simp; omega
      have HTT := hid hT
      clear hT
      go_wp2_with fail
      rw [HTT.out]
      go_loopw [7, 8] (fun v kk w2 => ∃ (A2 : Option Addr) (i c2 : Nat) (us : List Value) (j : Nat), v = .slice A2 i c2 ∧ kk = .int .i64 j ∧ j ≤ m ∧ w2.ownsRow T 29 1 (.slice A2 i c2) i us ∧ w2.ownsRow w.heap.size 29 1 (.slice A m c) m vs ∧ Hid (Rows w2 w.heap.size us (pairs ((ps.take j).flatMap split1))) ∧ Hid (Rows w2 w.heap.size vs (pairs ps)) ∧ Hid (Below w.heap.size w w2) ∧ T ≤ w2.heap.size) (fun _ kk _ => m - (intOf kk).toNat)
      case atStart => exact ⟨_, 0, 0, [], 0, rfl, rfl, Nat.zero_le _, oN, oO, hid (Rows.nil _ _), RR, BB, hT2⟩
      case round =>
        clear oN oO RR BB hT2
        obtain ⟨A2, i, c2, us, j, rfl, rfl, hj, oN, oO, UU, RR, BB, hT2⟩ := hrel
        have hbw := BB.out.size
        by_cases hjm : j < m
        · have hjl : j < ps.length := by rw [HL.out]; exact hjm
          have hbd := HP.out (ps[j]) (List.getElem_mem _)
          obtain ⟨Ai, ni, ci, hvj, hoi⟩ := RR.out.at (pairs_at hjl)
          have hft := flat_take hjl
          obtain ⟨lo, hlo⟩ : ∃ x, (ps[j]).1 = x := ⟨_, rfl⟩
          obtain ⟨hh, hhi⟩ : ∃ x, (ps[j]).2 = x := ⟨_, rfl⟩
          have hsp : split1 (ps[j]) = if lo = hh then [(lo, hh)] else [(lo, lo + (hh - lo) / 2), (hh - (hh - lo) / 2, hh)] := by
            rw [← hlo, ← hhi]; unfold split1; split <;> simp
          rw [hsp] at hft
          rw [hlo, hhi] at hbd hoi
          clear hsp hlo hhi
          obtain rfl : ni = 2 := by have := hoi.1; simpa using this.symm
          obtain ⟨gi, cgi, hsi, _, _⟩ := own_shape hoi
          injection hsi with e1 e2 e3
          subst e1
          have hc0 := own_cell hoi rfl (show 0 < 2 by omega)
          have hc1 := own_cell hoi rfl (show 1 < 2 by omega)
          rw [show nth [lo, hh] 0 = lo from rfl] at hc0
          rw [show nth [lo, hh] 1 = hh from rfl] at hc1
          obtain ⟨m', rfl⟩ : ∃ q, m = q + 1 := ⟨m - 1, by omega⟩
          obtain ⟨gp, cgp, hsp, _, _⟩ := own_shape oO
          injection hsp with e4 e5 e6
          subst e4
          have hcp : wr.cell? ⟨gp, j, none⟩ = some (.slice (some ⟨gi, 0, none⟩) 2 ci) := by rw [oO.cellAt j (by have := oO.1; simp at this; omega)]; exact hvj
          have hil : i ≤ 128 := by
            have h1 := oN.1
            have h2 := UU.out.1
            rw [pairs_len] at h2
            have h3 := flat_len (ps.take j)
            have h4 : (ps.take j).length ≤ j := List.length_take_le _ _
            omega
          have hne2 : (Value.slice (some ⟨gp, 0, none⟩) (m' + 1) c).ownBlock = none ∨ (Value.slice (some ⟨gp, 0, none⟩) (m' + 1) c).ownBlock ≠ (Value.slice A2 i c2).ownBlock := own_apart (own_lo oO) hiO (own_lo oN) (own_hi oN) (.inl (Nat.le_refl _))
          have HNE := hid hne2
          clear hne2 e3 e6 hvj
          by_cases heq : lo = hh
          · subst heq
            rw [if_pos rfl] at hft
            have HFT := hid (show pairs ((ps.take (j + 1)).flatMap split1) = pairs ((ps.take j).flatMap split1) ++ [[lo, lo]] from by rw [hft, pairs_snoc]; rfl)
            clear hft
            have heb : (lo == lo) = true := by simp
            have HOI := hid hoi
            clear hoi
            go_wp2_with (at_builtin; refine wpList_append_own _ rfl (.tmp 43) (.tmp 48) 24 rfl T 29 i0 (.slice none 0 0) 1 24 Tryd.underlying24 hi hz0 hz1 hz2 rfl (by decide) (.slice A2 i c2) _ _ rfl (oN.alloc _) ⟨wr.heap.size, 0, none⟩ 1 1 [.slice (some ⟨gi, 0, none⟩) 2 ci] rfl rfl (cells_new _ _ _) (by simp [Value.oneCell']) (by simp only [maxLen]; omega) (by omega) (by simp; omega) ?_; intro v2 w4 hown4 hgrow4 _)
            obtain ⟨g2, c3, rfl, _, _⟩ := own_shape hown4
            have ga := grown_alloc wr (.cells #[.slice (some ⟨gi, 0, none⟩) 2 ci] 29) none
            have UU2 := hid ((UU.out.onto ga).beside (oN.alloc _) hgrow4)
            have RR2 := hid ((RR.out.onto ga).beside (oN.alloc _) hgrow4)
            have OI2 := own_beside (own_kept_none HOI.out ga) (oN.alloc _) hgrow4
            have oO2 := (own_kept_none oO ga).kept hgrow4 HNE.out
            have hT4 : T ≤ w4.heap.size := Nat.le_trans hT2 (Nat.le_trans ga.size hgrow4.size)
            have BB2 := hid ((BB.out.trans ((below_grown ga).mono hbw)).grown hgrow4 (Nat.le_trans hbw ga.size) (by intro q hq; have := own_lo oN q hq; omega))
            have SN := hid (UU2.out.snoc ⟨_, _, _, rfl, OI2⟩)
            rw [← HFT.out] at SN
            have HN := hid hown4
            clear hown4 hgrow4 ga oN oO hc0 hc1 hcp UU RR BB OI2
            go_wp2
            go_roundw
            case rel => exact ⟨_, i + 1, c3, _, j + 1, rfl, by go_num, by omega, HN.out, oO2, SN, RR2, BB2, hT4⟩
            case measure => simp [intOf]; omega
          · rw [if_neg heq] at hft
            have HFT := hid (show pairs ((ps.take (j + 1)).flatMap split1) = pairs ((ps.take j).flatMap split1) ++ [[lo, lo + (hh - lo) / 2]] ++ [[hh - (hh - lo) / 2, hh]] from by rw [hft]; simp [pairs, pairL])
            clear hft
            have heb : (lo == hh) = false := by simp; exact heq
            have heb2 : decide (lo = hh) = false := by simp; exact heq
            have hq0 : 0 ≤ (hh - lo) / 2 := by omega
            have hq1 : (hh - lo) / 2 ≤ 40 := by omega
            have ga1 := grown_alloc wr (.cells #[.int .i64 lo, .int .i64 (lo + (hh - lo) / 2)] 3) none
            have ga2 := grown_alloc (wr.alloc (.cells #[.int .i64 lo, .int .i64 (lo + (hh - lo) / 2)] 3)) (.cells #[.int .i64 (hh - (hh - lo) / 2), .int .i64 hh] 3) none
            have ga3 := grown_alloc ((wr.alloc (.cells #[.int .i64 lo, .int .i64 (lo + (hh - lo) / 2)] 3)).alloc (.cells #[.int .i64 (hh - (hh - lo) / 2), .int .i64 hh] 3)) (.cells #[.slice (some ⟨wr.heap.size, 0, none⟩) 2 2, .slice (some ⟨wr.heap.size + 1, 0, none⟩) 2 2] 29) none
            have ga := (ga1.trans ga2).trans ga3
            have o1 : ((wr.alloc (.cells #[.int .i64 lo, .int .i64 (lo + (hh - lo) / 2)] 3)).alloc (.cells #[.int .i64 (hh - (hh - lo) / 2), .int .i64 hh] 3)).ownsRow w.heap.size 3 1 (.slice (some ⟨wr.heap.size, 0, none⟩) 2 2) 2 (ints [lo, lo + (hh - lo) / 2]) := own_kept_none (World.ownsRow_lit wr #[.int .i64 lo, .int .i64 (lo + (hh - lo) / 2)] 2 hbw (by simp [maxLen]) rfl) ga2
            have o2 : ((wr.alloc (.cells #[.int .i64 lo, .int .i64 (lo + (hh - lo) / 2)] 3)).alloc (.cells #[.int .i64 (hh - (hh - lo) / 2), .int .i64 hh] 3)).ownsRow w.heap.size 3 1 (.slice (some ⟨wr.heap.size + 1, 0, none⟩) 2 2) 2 (ints [hh - (hh - lo) / 2, hh]) := by
              have := World.ownsRow_lit (base := w.heap.size) (e := 3) (size := 1) (wr.alloc (.cells #[.int .i64 lo, .int .i64 (lo + (hh - lo) / 2)] 3)) #[.int .i64 (hh - (hh - lo) / 2), .int .i64 hh] 2 (by simp; omega) (by simp [maxLen]) rfl
              simpa using this
            have oN2 := own_kept_none (own_kept_none oN ga1) ga2
            clear hoi ga1 ga2
            go_wp2_with (at_builtin; refine wpList_append_own _ rfl (.tmp 54) (.tmp 65) 24 rfl T 29 i0 (.slice none 0 0) 1 24 Tryd.underlying24 hi hz0 hz1 hz2 rfl (by decide) (.slice A2 i c2) _ _ rfl (oN2.alloc _) ⟨wr.heap.size + 1 + 1, 0, none⟩ 2 2 [.slice (some ⟨wr.heap.size, 0, none⟩) 2 2, .slice (some ⟨wr.heap.size + 1, 0, none⟩) 2 2] rfl rfl (by simpa using cells_new ((wr.alloc (.cells #[.int .i64 lo, .int .i64 (lo + (hh - lo) / 2)] 3)).alloc (.cells #[.int .i64 (hh - (hh - lo) / 2), .int .i64 hh] 3)) [.slice (some ⟨wr.heap.size, 0, none⟩) 2 2, .slice (some ⟨wr.heap.size + 1, 0, none⟩) 2 2] 29) (by simp [Value.oneCell']) (by simp only [maxLen]; omega) (by omega) (by simp; omega) ?_; intro v2 w4 hown4 hgrow4 _)
            obtain ⟨g2, c3, rfl, _, _⟩ := own_shape hown4
            have UU2 := hid ((UU.out.onto ga).beside (oN2.alloc _) hgrow4)
            have RR2 := hid ((RR.out.onto ga).beside (oN2.alloc _) hgrow4)
            have OI1 := own_beside (own_kept_none o1 ga3) (oN2.alloc _) hgrow4
            have OI2 := own_beside (own_kept_none o2 ga3) (oN2.alloc _) hgrow4
            have oO2 := (own_kept_none oO ga).kept hgrow4 HNE.out
            have hT4 : T ≤ w4.heap.size := Nat.le_trans hT2 (Nat.le_trans ga.size hgrow4.size)
            have BB2 := hid ((BB.out.trans ((below_grown ga).mono hbw)).grown hgrow4 (Nat.le_trans hbw ga.size) (by intro q hq; have := own_lo oN q hq; omega))
            have SN := hid ((UU2.out.snoc ⟨_, _, _, rfl, OI1⟩).snoc ⟨_, _, _, rfl, OI2⟩)
            rw [← HFT.out] at SN
            have HN := hid hown4
            clear hown4 hgrow4 ga ga3 o1 o2 oN2 oN oO hc0 hc1 hcp UU RR BB OI1 OI2
            go_wp2
            go_roundw
            case rel => exact ⟨_, i + 2, c3, _, j + 1, rfl, by go_num, by omega, by simpa using HN.out, oO2, SN, RR2, BB2, hT4⟩
            case measure => simp [intOf]; omega
        · obtain rfl : j = m := by omega
          have hfin : (ps.take j).flatMap split1 = partsP n (k + 1) := by rw [HF.out, List.take_of_length_le (by rw [HL.out]; omega)]
          rw [hfin] at UU
          have oM := own_mono oN hbT
          clear hfin oN oO RR
          go_wp2
          go_roundw
          case rel => exact ⟨A2, i, c2, us, k + 1, rfl, by go_num, by omega, oM, UU, BB⟩
          case measure => simp [intOf]; omega
    · obtain rfl : k = K := by omega
      go_wp2
      go_ret
      exact ⟨_, _, _, _, rfl, oO, RR.out, h64, BB.out⟩
end Go.Proofs.YtannfeiogocpeaaDoor
