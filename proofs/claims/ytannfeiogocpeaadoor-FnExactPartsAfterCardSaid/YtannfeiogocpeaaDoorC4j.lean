/-
  Walks of the program's PartsAfter and ToldAfter. No statement is proved here.
-/
import Derived.Test.YtannfeiogocpeaaDoorC4k
import Derived.Test.YtannfeiogocpeaaDoorC4q
import Derived.Test.YtannfeiogocpeaaDoorNestX
import Derived.Test.YtannfeiogocpeaaDoorS4w
namespace Go.Proofs.YtannfeiogocpeaaDoor
open Go.RowKit
set_option linter.unusedVariables false
set_option linter.unusedSimpArgs false

theorem Apart.nil : Apart [] := fun i j u v h => by simp at h
theorem Apart.snoc {w : World} {B g : Nat} {vs : List Value} {ls : List (List Int)} {v : Value} (h : Apart vs) (R : Rows w B vs ls) (hg : w.heap.size ≤ g) (hv : v.ownBlock = some g) : Apart (vs ++ [v]) := by
  have hlt : ∀ (i : Nat) u, vs[i]? = some u → u.ownBlock = none ∨ u.ownBlock ≠ some g := fun i u hu => by
    have hi : i < vs.length := (List.getElem?_eq_some_iff.1 hu).1
    obtain ⟨A, n, c, rfl, ho⟩ := R.2 i u (ls[i]'(by rw [← R.1]; exact hi)) hu (List.getElem?_eq_getElem _)
    rcases hb : (Value.slice A n c).ownBlock with _ | k
    · exact .inl rfl
    · exact .inr fun e => by
        have := own_hi ho k hb
        injection e with e
        omega
  intro i j u x hu hx hij
  rcases Nat.lt_or_ge i vs.length with hi | hi
  · rw [List.getElem?_append_left hi] at hu
    rcases Nat.lt_or_ge j vs.length with hj | hj
    · rw [List.getElem?_append_left hj] at hx
      exact h i j u x hu hx hij
    · rw [List.getElem?_append_right hj] at hx
      have hj0 : j - vs.length = 0 := by
        rcases Nat.lt_or_ge (j - vs.length) 1 with h0 | h0
        · omega
        · rw [List.getElem?_eq_none (by simpa using h0)] at hx; cases hx
      rw [hj0] at hx
      obtain rfl : v = x := by simpa using hx
      rw [hv]
      exact hlt i u hu
  · rw [List.getElem?_append_right hi] at hu
    have hi0 : i - vs.length = 0 := by
      rcases Nat.lt_or_ge (i - vs.length) 1 with h0 | h0
      · omega
      · rw [List.getElem?_eq_none (by simpa using h0)] at hu; cases hu
    rw [hi0] at hu
    obtain rfl : v = u := by simpa using hu
    rcases Nat.lt_or_ge j vs.length with hj | hj
    · rw [List.getElem?_append_left hj] at hx
      rcases hlt j x hx with h1 | h1
      · right; rw [hv, h1]; simp
      · right; rw [hv]; exact fun e => h1 e.symm
    · rw [List.getElem?_append_right hj] at hx
      have hj0 : j - vs.length = 0 := by
        rcases Nat.lt_or_ge (j - vs.length) 1 with h0 | h0
        · omega
        · rw [List.getElem?_eq_none (by simpa using h0)] at hx; cases hx
      omega

set_option maxHeartbeats 1600000 in
theorem implToldAfter_any (n r : Int) (w : World) (hw : (Lit.int .i64 n).wf = true) (hw2 : (Lit.int .i64 r).wf = true) (hT : Tabs2 w) :
    Calls Tryd.prog 17 #[.int .i64 n, .int .i64 r] w fun e w' => ∃ A2 m c2, e = .returned (.slice A2 m c2) ∧ w'.ownsRow w.heap.size 3 1 (.slice A2 m c2) m (ints (toldOut n r)) ∧ m ≤ 40 ∧ Below w.heap.size w w' := by
  have CS := hid (squadAfter_any n r w hw hw2 hT.t)
  go_enter Tryd.func17, Tryd.ntmps17
  go_wp2_with fail
  with_reducible refine Calls.mono CS.out ?_
  rintro e w1 ⟨b1, (⟨hok, A, q, c, rfl, ho⟩ | ⟨hok, rfl⟩)⟩
  · have hb := partsOk_bd hok
    have hi := partsOk_iff.1 hok
    obtain ⟨N, rfl⟩ : ∃ N : Nat, n = N := Int.eq_ofNat_of_zero_le (by omega)
    obtain ⟨K, rfl⟩ : ∃ K : Nat, r = K := Int.eq_ofNat_of_zero_le (by omega)
    rw [Int.toNat_natCast] at ho
    rw [Int.toNat_natCast, Int.toNat_natCast]
    rw [roundsOut_yes hb.1, Int.toNat_natCast] at hi
    have hO := toldOut_N hok
    have hbits := told_bits (n := N) (k := K) (by omega) (by omega) (by omega)
    have htl := told64_lt (n := N) (by omega) (by omega) K
    have h40 : (toldN N K).length ≤ 40 := toldN_len40 (by omega)
    rw [← hO] at hbits h40
    obtain ⟨t, hte⟩ : ∃ t, told64 N K = t := ⟨_, rfl⟩
    rw [hte] at hbits htl ⊢
    have HB := hid hbits
    have hs1 := b1.size
    have hb3 := hid (b1.alloc hs1 (.cells #[.slice A q c, .int .u64 (t : Nat)] 52))
    have x1 := Box2.new w1 52 (.slice A q c) (.int .u64 (t : Nat))
    have c0 := x1.cell0
    have c1 := x1.cell1
    clear hi hO hte ho hbits b1 CS
    have CA := hid (ascending_any t (toldOut (N : Int) (K : Int)) (w1.alloc (.cells #[.slice A q c, .int .u64 (t : Nat)] 52)) htl HB.out h40 (hT.z.below hb3.out))
    go_wp2_with fail
    with_reducible refine Calls.mono CA.out ?_
    rintro e w2 ⟨A2, m2, c2, rfl, o2, hm2, b2⟩
    have HO := hid (own_mono (base' := w.heap.size) o2 (by simp; omega)); clear o2
    go_wp2
    go_ret
    exact ⟨_, _, _, rfl, HO.out, hm2, hb3.out.trans (b2.mono (by simp; omega))⟩
  · have hs1 := b1.size
    have hb3 := hid (b1.alloc hs1 (.cells #[.slice none 0 0, .int .u64 0] 52))
    have HE := hid (toldOut_no hok)
    clear b1 CS hok
    go_wp2
    go_ret
    exact ⟨_, 0, 0, rfl, by rw [HE.out]; exact World.ownsRow_nil _ _ _ _, by omega, hb3.out⟩

set_option maxRecDepth 100000 in
set_option maxHeartbeats 1600000 in
theorem implPartsAfter_any (n r : Int) (w : World) (hw : (Lit.int .i64 n).wf = true) (hw2 : (Lit.int .i64 r).wf = true) (hT : Tabs w) :
    Calls Tryd.prog 12 #[.int .i64 n, .int .i64 r] w fun e w' => ∃ A m c vs, e = .returned (.slice A m c) ∧ w'.ownsRow w.heap.size 29 1 (.slice A m c) m vs ∧ Rows w' w.heap.size vs (pairs (partsOut n r)) ∧ Apart vs ∧ m ≤ 64 ∧ Below w.heap.size w w' := by
  obtain ⟨i0, hi, hz0, hz1, hz2⟩ := info_parts info_row
  have CS := hid (squadAfter_any n r w hw hw2 hT)
  go_enter Tryd.func12, Tryd.ntmps12
  go_wp2_with fail
  with_reducible refine Calls.mono CS.out ?_
  rintro e w1 ⟨b1, (⟨hok, A, q, c, rfl, ho⟩ | ⟨hok, rfl⟩)⟩
  · have hb := partsOk_bd hok
    have HOUT := hid (show partsOut n r = partsP n r.toNat from partsOut_yes hok)
    have hl64 := partsP_len64 n (k := r.toNat) (by omega)
    obtain ⟨ps, hps⟩ : ∃ ps, partsP n r.toNat = ps := ⟨_, rfl⟩
    rw [hps] at ho HOUT hl64
    obtain ⟨t, hte⟩ : ∃ t, told64 n.toNat r.toNat = t := ⟨_, rfl⟩
    rw [hte]
    have hq : q ≤ 64 := by have h1 := ho.1; rw [pcells_len] at h1; omega
    have hs1 := b1.size
    obtain ⟨W0, hW0⟩ : ∃ W0 : World, w1.alloc (.cells #[.slice A q c, .int .u64 (t : Nat)] 52) = W0 := ⟨_, rfl⟩
    have HPS := hid (show PS W0 w1.heap.size A q ps from by rw [← hW0]; exact (PS.of_own ho hq).below ((Below.refl _ _).alloc (Nat.le_refl _) _))
    have B0 := hid (show Below w.heap.size w W0 from by rw [← hW0]; exact b1.alloc hs1 _)
    have hs0 : w1.heap.size + 1 ≤ W0.heap.size := by rw [← hW0]; simp
    have x1 : Box2 W0 w1.heap.size 52 (.slice A q c) (.int .u64 (t : Nat)) := by rw [← hW0]; exact Box2.new w1 _ _ _
    have c0 := x1.cell0
    have hqm : q ≤ 9223372036854775807 := by omega
    clear hb hte hps ho b1 CS x1
    go_wp2_with (first | (refine wpList_make_own _ rfl (.const (.int .i64 0)) (.tmp 20) 24 rfl w1.heap.size 29 i0 _ 1 Tryd.underlying24 hi hz0 hz1 .i64 .i64 q q rfl rfl rfl (by rw [hz2]; omega) (by simp only [maxLen]; omega) (by omega) ?_; intro w2 o2 g2; have c2 : w2.cell? ⟨w1.heap.size, 0, none⟩ = some (.slice A q c) := g2.cell c0 (by simp)))
    have hs2 := g2.size
    have BB := hid ((below_grown g2).mono (show w1.heap.size ≤ W0.heap.size by omega))
    have R0 : Hid (Rows w2 w1.heap.size [] (pairs (ps.take 0))) := hid (Rows.nil _ _)
    have HA0 := hid Apart.nil
    have hz : w1.heap.size + 1 ≤ w2.heap.size := by omega
    clear g2 c2 c0 hW0
    go_loopw [7, 25] (fun v kk wr => ∃ (A2 : Option Addr) (c2 j : Nat) (us : List Value), v = .slice A2 j c2 ∧ kk = .int .i64 j ∧ j ≤ q ∧ wr.ownsRow w1.heap.size 29 1 (.slice A2 j c2) j us ∧ Hid (Rows wr w1.heap.size us (pairs (ps.take j))) ∧ Hid (Apart us) ∧ Hid (Below w1.heap.size W0 wr) ∧ w1.heap.size + 1 ≤ wr.heap.size) (fun _ kk _ => q - (intOf kk).toNat)
    case atStart => exact ⟨_, _, 0, [], rfl, rfl, Nat.zero_le _, o2, R0, HA0, BB, hz⟩
    case round =>
      clear o2 R0 HA0 BB hz hs2
      obtain ⟨A2, c2, j, us, rfl, rfl, hj, oN, RR, HA, BB, hsz⟩ := hrel
      have hlen : ps.length = q := HPS.out.1
      have HL := hid hlen
      clear hlen
      by_cases hjq : j < q
      · obtain ⟨g, rfl, hg, hcell⟩ := (HPS.out.below BB.out).2.2 (by omega)
        have hjl : j < ps.length := by rw [HL.out]; exact hjq
        have hc0 := (hcell j hjl).1
        have hc1 := (hcell j hjl).2
        clear hcell
        have HT := hid (show pairs (ps.take (j + 1)) = pairs (ps.take j) ++ [[(ps[j]).1, (ps[j]).2]] from by rw [List.take_succ_eq_append_getElem hjl, pairs_snoc]; rfl)
        obtain ⟨lo, hlo⟩ : ∃ x, (ps[j]).1 = x := ⟨_, rfl⟩
        obtain ⟨hh, hhi⟩ : ∃ x, (ps[j]).2 = x := ⟨_, rfl⟩
        rw [hlo, hhi] at HT
        rw [hlo] at hc0
        rw [hhi] at hc1
        clear hlo hhi
        have hji : (j : Int) < (q : Int) := by omega
        have ga1 := grown_alloc wr (.cells #[.int .i64 lo, .int .i64 hh] 56) none
        have ga2 := grown_alloc (wr.alloc (.cells #[.int .i64 lo, .int .i64 hh] 56)) (.cells #[.int .i64 lo, .int .i64 hh] 3) none
        have ga3 := grown_alloc ((wr.alloc (.cells #[.int .i64 lo, .int .i64 hh] 56)).alloc (.cells #[.int .i64 lo, .int .i64 hh] 3)) (.cells #[.slice (some ⟨wr.heap.size + 1, 0, none⟩) 2 2] 29) none
        have ga := (ga1.trans ga2).trans ga3
        have oI : ((wr.alloc (.cells #[.int .i64 lo, .int .i64 hh] 56)).alloc (.cells #[.int .i64 lo, .int .i64 hh] 3)).ownsRow w1.heap.size 3 1 (.slice (some ⟨wr.heap.size + 1, 0, none⟩) 2 2) 2 (ints [lo, hh]) := by
          have := World.ownsRow_lit (base := w1.heap.size) (e := 3) (size := 1) (wr.alloc (.cells #[.int .i64 lo, .int .i64 hh] 56)) #[.int .i64 lo, .int .i64 hh] 2 (by simp; omega) (by simp [maxLen]) rfl
          simpa using this
        have oN2 := own_kept_none (own_kept_none oN ga1) ga2
        go_wp2_with (at_builtin; refine wpList_append_own _ rfl (.tmp 29) (.tmp 35) 24 rfl w1.heap.size 29 i0 (.slice none 0 0) 1 24 Tryd.underlying24 hi hz0 hz1 hz2 rfl (by decide) (.slice A2 j c2) _ _ rfl (oN2.alloc _) ⟨wr.heap.size + 1 + 1, 0, none⟩ 1 1 [.slice (some ⟨wr.heap.size + 1, 0, none⟩) 2 2] rfl rfl (by simpa using cells_new ((wr.alloc (.cells #[.int .i64 lo, .int .i64 hh] 56)).alloc (.cells #[.int .i64 lo, .int .i64 hh] 3)) [.slice (some ⟨wr.heap.size + 1, 0, none⟩) 2 2] 29) (by simp [Value.oneCell']) (by simp only [maxLen]; omega) (by omega) (by simp; omega) ?_; intro v2 w4 hown4 hgrow4 _)
        obtain ⟨g2, c3, rfl, _, _⟩ := own_shape hown4
        have RR4 := (RR.out.onto ga).beside (oN2.alloc _) hgrow4
        have OI4 := own_beside (own_kept_none oI ga3) (oN2.alloc _) hgrow4
        have SN := hid (RR4.snoc ⟨_, _, _, rfl, OI4⟩)
        rw [← HT.out] at SN
        have HA4 := hid (HA.out.snoc (g := wr.heap.size + 1) (v := .slice (some ⟨wr.heap.size + 1, 0, none⟩) 2 2) RR.out (by omega) rfl)
        have BB4 := hid ((BB.out.trans ((below_grown ga).mono (by omega))).grown hgrow4 (by simp; omega) (own_lo oN))
        have hsz4 : w1.heap.size + 1 ≤ w4.heap.size := by have := hgrow4.size; simp at this; omega
        have HN := hid hown4
        clear hown4 hgrow4 ga1 ga2 ga3 ga oN oN2 oI RR RR4 OI4 BB HA hc0 hc1
        go_wp2
        go_roundw
        case rel => exact ⟨_, c3, j + 1, _, rfl, by go_num, by omega, HN.out, SN, HA4, BB4, hsz4⟩
        case measure => simp [intOf]; omega
      · obtain rfl : j = q := by omega
        rw [List.take_of_length_le (by rw [HL.out]; omega), ← HOUT.out] at RR
        have HN := hid oN
        clear oN
        go_wp2
        go_ret
        exact ⟨_, _, _, _, rfl, own_mono HN.out hs1, RR.out.mono hs1, HA.out, hq, B0.out.trans (BB.out.mono hs1)⟩
  · have hs1 := b1.size
    have hb3 := hid (b1.alloc hs1 (.cells #[.slice none 0 0, .int .u64 0] 52))
    have HE := hid (show pairs (partsOut n r) = [] from by rw [partsOut_no hok]; rfl)
    clear b1 CS hok
    go_wp2
    go_ret
    exact ⟨_, 0, 0, [], rfl, World.ownsRow_nil _ _ _ _, by rw [HE.out]; exact Rows.nil _ _, Apart.nil, by omega, hb3.out⟩
end Go.Proofs.YtannfeiogocpeaaDoor
