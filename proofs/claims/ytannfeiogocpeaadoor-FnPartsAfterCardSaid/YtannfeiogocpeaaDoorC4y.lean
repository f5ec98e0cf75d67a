/-
  The walk of the program's halved: a row after one round more. No statement is proved here.
-/
import Derived.Test.YtannfeiogocpeaaDoorC4v
namespace Go.Proofs.YtannfeiogocpeaaDoor
open Go.RowKit
set_option linter.unusedVariables false
set_option linter.unusedSimpArgs false

set_option maxRecDepth 100000 in
set_option maxHeartbeats 3200000 in
theorem halved_any (A : Option Addr) (m c : Nat) (ps : List (Int × Int)) (t : Nat) (w : World) (hs : PS w w.heap.size A m ps) (hm : m ≤ 32) (hps : ∀ p ∈ ps, 0 ≤ p.1 ∧ p.1 < p.2 ∧ p.2 ≤ 39) (ht : t < 2 ^ 40) (hT : Tabs w) :
    Calls Tryd.prog 57 #[.agg #[.slice A m c, .int .u64 t]] w fun e w' => ∃ A2 m2 c2, e = .returned (.agg #[.slice A2 m2 c2, .int .u64 (ps.foldl tellN t : Nat)]) ∧
      w'.ownsRow w.heap.size 56 2 (.slice A2 m2 c2) m2 (pcells (ps.flatMap split1)) ∧ Below w.heap.size w w' := by
  obtain ⟨i0, hi, hz0, hz1, hz2⟩ := info_parts info_part
  have hm9 : m ≤ 9223372036854775807 := by omega
  have HPS := hid hps; clear hps
  have HS := hid hs; clear hs
  have HTT := hid hT; clear hT
  go_enter Tryd.func57, Tryd.ntmps57
  go_wp2_with fail
  obtain ⟨W0, hW0⟩ : ∃ W0 : World, ((w.alloc (.cells #[.slice A m c, .int .u64 t] 52)).alloc (.cells #[.slice none 0 0, .int .u64 0] 52)).alloc (.cells #[.slice none 0 0, .int .u64 t] 52) = W0 := ⟨_, rfl⟩
  rw [hW0]
  have hsz : w.heap.size + 3 ≤ W0.heap.size := by rw [← hW0]; simp
  have B0 := hid (show Below w.heap.size w W0 from by rw [← hW0]; exact (((Below.refl _ w).alloc (Nat.le_refl _) _).alloc (by simp) _).alloc (by simp; omega) _)
  have x1 : Box2 W0 (w.heap.size + 1) 52 (.slice none 0 0) (.int .u64 0) := by
    rw [← hW0]
    have h1 := Box2.new (w.alloc (.cells #[.slice A m c, .int .u64 t] 52)) 52 (.slice none 0 0) (.int .u64 0)
    rw [World.size_alloc] at h1
    exact h1.kept (grown_alloc _ _ none) (by simp)
  have x2 : Box2 W0 (w.heap.size + 1 + 1) 52 (.slice none 0 0) (.int .u64 t) := by
    rw [← hW0]
    have h1 := Box2.new ((w.alloc (.cells #[.slice A m c, .int .u64 t] 52)).alloc (.cells #[.slice none 0 0, .int .u64 0] 52)) 52 (.slice none 0 0) (.int .u64 t)
    rw [World.size_alloc, World.size_alloc] at h1
    exact h1
  clear hW0
  have oN : W0.ownsRow (w.heap.size + 3) 56 2 (.slice none 0 0) 0 (pcells []) := World.ownsRow_nil _ _ _ _
  go_loopw [15] (fun kk wr => ∃ (j i c2 : Nat) (A2 : Option Addr), kk = .int .i64 j ∧ j ≤ m ∧ Box2 wr (w.heap.size + 1) 52 (.slice none 0 0) (.int .u64 0) ∧ Box2 wr (w.heap.size + 1 + 1) 52 (.slice A2 i c2) (.int .u64 ((ps.take j).foldl tellN t : Nat)) ∧ wr.ownsRow (w.heap.size + 3) 56 2 (.slice A2 i c2) i (pcells ((ps.take j).flatMap split1)) ∧ Hid (Below w.heap.size w wr) ∧ w.heap.size + 3 ≤ wr.heap.size) (fun kk _ => m - (intOf kk).toNat)
  case atStart => exact ⟨0, 0, 0, none, rfl, Nat.zero_le _, x1, x2, oN, B0, hsz⟩
  case round =>
    clear x1 x2 oN B0 hsz
    obtain ⟨j, i, c2, A2, rfl, hj, x1, x2, oN, BB, hsz⟩ := hrel
    have hlen : ps.length = m := HS.out.1
    have hil : i ≤ 2 * j := by
      have h1 := oN.1
      rw [pcells_len] at h1
      have h3 := flat_len (ps.take j)
      have h4 : (ps.take j).length ≤ j := List.length_take_le _ _
      omega
    have HL := hid hlen
    clear hlen
    by_cases hjm : j < m
    · obtain ⟨g, rfl, hgB, hcell⟩ := HS.out.2.2 (by omega)
      have hjl : j < ps.length := by rw [HL.out]; exact hjm
      have hbd := HPS.out (ps[j]) (List.getElem_mem _)
      have hft := flat_take hjl
      have htt := foldl_takeN hjl t
      rw [split_lt hbd.2.1] at hft
      have hc0 := (BB.out.cell (p := ⟨g, j * 2, none⟩) hgB).trans (hcell j hjl).1
      have hc1 := (BB.out.cell (p := ⟨g, j * 2 + 1, none⟩) hgB).trans (hcell j hjl).2
      clear hcell
      have hT40 : (ps.take j).foldl tellN t < 2 ^ 40 := tellsN_lt _ ht fun p hp => by have := HPS.out p (List.mem_of_mem_take hp); omega
      obtain ⟨T, hTe⟩ : ∃ T, (ps.take j).foldl tellN t = T := ⟨_, rfl⟩
      rw [hTe] at htt x2 hT40
      obtain ⟨lo, hlo⟩ : ∃ x, (ps[j]).1 = x := ⟨_, rfl⟩
      obtain ⟨hh, hhi⟩ : ∃ x, (ps[j]).2 = x := ⟨_, rfl⟩
      unfold tellN at htt
      rw [hlo, hhi] at hbd hft htt
      rw [hlo] at hc0
      rw [hhi] at hc1
      clear hlo hhi hTe
      have hd1 : 1 ≤ hh - lo := by omega
      have hd2 : hh - lo ≤ 39 := by omega
      have CM := hid (fun W (hW : Tabs W) => implMiddlesOf_any (hh - lo) W hW)
      have ME := hid (fun (W : World) (B m c : Nat) (A : Option Addr) (h : W.ownsRow B 3 1 (.slice A m c) m (ints (middles (hh - lo)))) => middles_ends h hd1 (by omega))
      have ga := grown_alloc wr (.cells #[.int .i64 lo, .int .i64 hh] 56) none
      have xW := Box2.new wr 56 (.int .i64 lo) (.int .i64 hh)
      have CM2 := hid (CM.out (wr.alloc (.cells #[.int .i64 lo, .int .i64 hh] 56)) ((HTT.out.below BB.out).on ga))
      have hT := BB.out.size
      clear CM
      go_wp2_with fail
      with_reducible refine Calls.mono CM2.out ?_
      rintro e w3 ⟨Am, mm, cm, rfl, om, hm2, b3⟩
      obtain ⟨gm, jm, rfl, rfl, hj1, hm0, hme⟩ := ME.out _ _ _ _ _ om
      clear om CM2 ME hm2
      have hWs : wr.heap.size < (wr.alloc (.cells #[.int .i64 lo, .int .i64 hh] 56)).heap.size := by simp
      have y1 := (x1.kept ga (by simp)).below b3 (by omega)
      have y2 := (x2.kept ga (by simp)).below b3 (by omega)
      have yW := xW.below b3 hWs
      have oN3 := ownS_on (ownS_none oN ga) b3
      have hsz3 : w.heap.size + 3 ≤ w3.heap.size := by have := b3.size; omega
      have BB3 := hid ((BB.out.trans ((below_grown ga).mono hT)).trans (b3.mono (by simp; omega)))
      have hw0 := yW.cell0
      have hw1 := yW.cell1
      have hn0 := y2.cell0
      have hn1 := y2.cell1
      have hf2 := fun o => y2.frozen o
      have q0 : 0 ≤ (hh - lo) / 2 := by omega
      have q1 : (hh - lo) / 2 ≤ 20 := by omega
      obtain ⟨q, hq⟩ : ∃ q, (hh - lo) / 2 = q := ⟨_, rfl⟩
      rw [hq] at hm0 hme q0 q1 hft htt
      obtain ⟨r, hr⟩ : ∃ r, hh - lo - q = r := ⟨_, rfl⟩
      rw [hr] at hme
      have hr1 : hh - q = lo + r := by omega
      rw [hr1] at hft htt
      have hr0 : 0 ≤ lo + r := by omega
      have hr2 : lo + r < 40 := by omega
      have hq0 : 0 ≤ lo + q := by omega
      have hq2 : lo + q < 40 := by omega
      have HF := hid (show pcells ((ps.take (j + 1)).flatMap split1) = pcells ((ps.take j).flatMap split1) ++ [.int .i64 lo, .int .i64 (lo + q), .int .i64 (lo + r), .int .i64 hh] from by rw [hft, pcells_snoc]; rfl)
      have HTd := hid htt
      have hT2 : T ||| 2 ^ (lo + q).toNat < 2 ^ 40 := or_lt40 hT40 (by omega)
      have yne : some (w.heap.size + 1 + 1) ≠ (Value.slice A2 i c2).ownBlock := fun e => by have := (oN3.lt _ e.symm).1; omega
      have YN := hid yne
      clear hq x1 x2 xW oN BB b3 ga hWs hft htt yne
      have hj01 : jm = 0 ∧ r = q ∨ jm = 1 := by
        rcases (show jm = 0 ∨ jm = 1 by omega) with h | h
        · subst h
          rw [hm0] at hme
          exact .inl ⟨rfl, by simpa using hme.symm⟩
        · exact .inr h
      clear hr hr1
      rcases hj01 with ⟨rfl, rfl⟩ | rfl
      all_goals
        go_wp2
        go_quiet (fail)
        go_wp2
        go_quiet (fail)
        go_wp2_with (first
          | (at_builtin; refine wpList_append_own _ rfl (.tmp 41) (.tmp 50) 48 rfl (w.heap.size + 3) 56 i0 (.agg #[.int .i64 0, .int .i64 0]) 2 16 Tryd.underlying48 hi hz0 hz1 hz2 rfl (by decide) (.slice A2 i c2) _ _ rfl ((ownS_on oN3 (below_drewN (Below.refl w3.heap.size w3) _)).alloc _) ⟨w3.heap.size, 0, none⟩ 2 2 [.int .i64 lo, .int .i64 (lo + _), .int .i64 (lo + _), .int .i64 hh] rfl rfl (cells_new _ _ _) (by simp [Value.oneCell']) (by simp only [maxLen]; omega) (by omega) (by simp; omega) ?_; intro v2 w4 o4 g4 _; obtain ⟨g2, c3, rfl, _, hg2⟩ := own_shape o4; have z2 := ((y2.below (below_drewN (Below.refl w3.heap.size w3) _) y2.lt).kept (grown_alloc _ _ none) (by simp)).kept g4 YN.out; have hz0' := z2.cell0; have hz1' := z2.cell1; have hzf := z2.frozen)
          | (go_at_call 56; refine (with_int _ _ _ hT40 hq0 hq2).mono ?_; rintro e w' ⟨rfl, rfl⟩)
          | (go_at_call 56; refine (with_int _ _ _ hT2 hr0 hr2).mono ?_; rintro e w' ⟨rfl, rfl⟩))
        have yne1 : some (w.heap.size + 1) ≠ (Value.slice A2 i c2).ownBlock := fun e => by have := (oN3.lt _ e.symm).1; omega
        have z1 := ((y1.below (below_drewN (Below.refl w3.heap.size w3) _) y1.lt).kept (grown_alloc _ _ none) (by simp)).kept g4 yne1
        have BB4 := ((below_drewN BB3.out _).alloc (by simp; omega) _).grown g4 (by simp; omega) (by intro k hk; have := (oN3.lt k hk).1; omega)
        have hsz4 : w.heap.size + 3 ≤ w4.heap.size := by have := g4.size; simp at this; omega
        have z22 := (z2.set0 (.slice (some ⟨g2, 0, none⟩) (i + 1 + 1) c3)).set1 (.int .u64 ((ps.take (j + 1)).foldl tellN t : Nat))
        have o5 := ownS_off (ownS_off o4 (grown_set _ (w.heap.size + 1 + 1) 0 (.slice (some ⟨g2, 0, none⟩) (i + 1 + 1) c3)) (by omega)) (grown_set _ (w.heap.size + 1 + 1) 1 (.int .u64 ((ps.take (j + 1)).foldl tellN t : Nat))) (by omega)
        have BB5 := (BB4.setCell (p := ⟨w.heap.size + 1 + 1, 0, none⟩) (by simp; omega) (.slice (some ⟨g2, 0, none⟩) (i + 1 + 1) c3)).setCell (p := ⟨w.heap.size + 1 + 1, 1, none⟩) (by simp; omega) (.int .u64 ((ps.take (j + 1)).foldl tellN t : Nat))
        rw [← HTd.out, ← HF.out] at *
        go_roundw
        case rel => exact ⟨j + 1, i + 1 + 1, c3, _, by go_num, by omega, (z1.other _ (by omega)).other _ (by omega), z22, o5, hid BB5, by simp; omega⟩
        case measure => simp [intOf]; omega
    · obtain rfl : j = m := by omega
      rw [List.take_of_length_le (by rw [HL.out]; omega)] at x2 oN
      have h10 := x1.cell0
      have h11 := x1.cell1
      have h1f := x1.frozen
      have h20 := x2.cell0
      have h21 := x2.cell1
      obtain ⟨T, hTe⟩ : ∃ T, ps.foldl tellN t = T := ⟨_, rfl⟩
      rw [hTe] at h21
      have HE := hid hTe
      clear hTe x2
      have x1' := (x1.set0 (.slice A2 i c2)).set1 (.int .u64 T)
      have oF := ownS_off (ownS_off oN (grown_set _ (w.heap.size + 1) 0 (.slice A2 i c2)) (by omega)) (grown_set _ (w.heap.size + 1) 1 (.int .u64 (T : Nat))) (by omega)
      have BBF := (BB.out.setCell (p := ⟨w.heap.size + 1, 0, none⟩) (by simp) (.slice A2 i c2)).setCell (p := ⟨w.heap.size + 1, 1, none⟩) (by simp) (.int .u64 (T : Nat))
      go_wp2
      (try simp only [Exit.inBlock, Exit.then])
      refine bodyPost_ret (results_cell_row rfl _ _ (w.heap.size + 1) 52 #[.slice A2 i c2, .int .u64 (T : Nat)] (0, 0) _ rfl x1' Tryd.underlying52 rfl (by kernel_rfl)) rfl ?_
      exact ⟨A2, i, c2, by rw [HE.out], ownS_mono oF (by omega), BBF⟩
end Go.Proofs.YtannfeiogocpeaaDoor
