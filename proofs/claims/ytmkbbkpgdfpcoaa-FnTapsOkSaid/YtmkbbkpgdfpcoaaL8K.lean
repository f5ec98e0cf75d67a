/-
  The walk of laws.FnTapsOk, written by program (law8.py). No statement is proved here.
-/
import Derived.Test.YtmkbbkpgdfpcoaaC8p
import Derived.Test.YtmkbbkpgdfpcoaaC8i
import Derived.Test.YtmkbbkpgdfpcoaaDrQ
import Derived.Test.YtmkbbkpgdfpcoaaC1a
import Derived.IntWalk
namespace Go.Proofs.Ytmkbbkpgdfpcoaa
open Go.RowKit
set_option linter.unusedVariables false
set_option linter.unusedSimpArgs false

theorem taps_neg (l : List Int) : tapsOk (l.map (fun x => -x)) = tapsOk l := by
  rw [Bool.eq_iff_iff, tapsOk_iff, tapsOk_iff, List.length_map]
  constructor
  · rintro ⟨h, h2⟩
    refine ⟨fun x hx => ?_, h2⟩
    have := h (-x) (List.mem_map.2 ⟨x, hx, rfl⟩)
    omega
  · rintro ⟨h, h2⟩
    refine ⟨fun x hx => ?_, h2⟩
    obtain ⟨y, hy, rfl⟩ := List.mem_map.1 hx
    have := h y hy
    omega
theorem neg_take {l : List Int} {k : Nat} (h : k < l.length) : (l.take (k + 1)).map (fun x => -x) = (l.take k).map (fun x => -x) ++ [-(nth l k)] := by rw [take_nth h]; simp

set_option maxRecDepth 100000 in
set_option maxHeartbeats 6400000 in
theorem fnTapsOk_walk (A : Option Addr) (n c : Nat) (w : World) (hs : By w w.heap.size A n) (hc : n ≤ c) :
    Calls Try.prog 3 #[.slice A n c] w fun e w' => e = .returned (.bool true) ∧ Below w.heap.size w w' := by
  have hm : n ≤ 9223372036854775807 := hs.1
  by_cases hbig : 1048576 < n
  · go_enter Try.func3, Try.ntmps3
    go_wp2
    go_ret
    exact ⟨rfl, Below.refl _ _⟩
  go_enter Try.func3, Try.ntmps3
  go_wp2_with fail
  refine (drawTapsOk_any A n c _ hs hc).mono ?_
  rintro e w1 ⟨A1, n1, c1, l1, rfl, o1, hn1, hv1, hb1⟩
  have HB := hid hb1
  clear hs hc hb1 hbig hm
  replace o1 := own_mono (base' := 0) o1 (Nat.zero_le _)
  have hl1 : l1.length = n1 := by have := o1.1; simpa using this
  have CI := hid (fun (W : World) (h1 : Sl W W.heap.size A1 n1 l1) => implTapsOk_any A1 n1 c1 l1 W h1)
  have CS := hid (fun (W : World) (h1 : Sl W W.heap.size A1 n1 l1) => specTapsOk_any A1 n1 c1 l1 W W.heap.size h1)
  have CM := hid (fun (W : World) => implTapsOk_any (some ⟨W.heap.size, 0, none⟩) 1 1 [-9] (W.alloc (.cells #[.int .i64 (-9)] 3)) (Sl.of_own (World.ownsRow_lit (base := 0) W #[.int .i64 (-9)] 1 (Nat.zero_le _) (by simp [maxLen]) rfl)))
  rw [show tapsOk [-9] = true from by decide] at CM
  have CP := hid (fun (W : World) => implTapsOk_any (some ⟨W.heap.size, 0, none⟩) 1 1 [9] (W.alloc (.cells #[.int .i64 9] 3)) (Sl.of_own (World.ownsRow_lit (base := 0) W #[.int .i64 9] 1 (Nat.zero_le _) (by simp [maxLen]) rfl)))
  rw [show tapsOk [9] = true from by decide] at CP
  have HN := hid (nth_bd (l := l1) (M := 10) (by omega) hv1)
  have HNG := hid (taps_neg l1)
  have HL := hid hl1
  clear hl1
  obtain ⟨i0, hi, hz0, hz1, hz2⟩ := info_parts info_int
  obtain ⟨q, hq⟩ : ∃ q, tapsOk l1 = q := ⟨_, rfl⟩
  rw [hq] at CI CS HNG
  clear hq
  go_wp2_with fail
  with_reducible refine Calls.mono (CI.out _ (Sl.of_own o1)) ?_
  rintro e w2 ⟨rfl, st2⟩
  replace o1 := own_on o1 st2
  replace HB := hid (HB.out.trans (st2.mono HB.out.size))
  clear st2
  go_wp2_with fail
  with_reducible refine Calls.mono (CS.out _ (Sl.of_own o1)) ?_
  rintro e w' ⟨rfl, rfl⟩
  have HAP := hid (fun (A2 : Option Addr) (k c2 : Nat) (h : ∀ j, (Value.slice A2 k c2).ownBlock = some j → w2.heap.size ≤ j) => (show (Value.slice A1 n1 c1).ownBlock = none ∨ (Value.slice A1 n1 c1).ownBlock ≠ (Value.slice A2 k c2).ownBlock from by
    rcases hb : (Value.slice A1 n1 c1).ownBlock with _ | j
    · exact .inl rfl
    · exact .inr fun e => by
        have h1 := own_hi o1 j hb
        have h2 := h j e.symm
        omega))
  have oU : (w2.alloc (.cells #[] 3)).ownsRow w2.heap.size 3 1 (.slice (some ⟨w2.heap.size, 0, none⟩) 0 0) 0 (ints ((l1.take 0).map (fun x => -x))) := by
    rw [List.take_zero]
    exact World.ownsRow_lit w2 #[] 0 (Nat.le_refl _) (by simp [maxLen]) rfl
  have BU := hid (HB.out.alloc HB.out.size (.cells #[] 3))
  have o1U := own_kept_none o1 (grown_alloc w2 (.cells #[] 3) none)
  have zU : w2.heap.size ≤ (w2.alloc (.cells #[] 3)).heap.size := by simp
  clear o1
  go_wp2_with fail
  go_loopw [5, 6] (fun v i wr => ∃ (A2 : Option Addr) (c2 k : Nat), v = .slice A2 k c2 ∧ i = .int .i64 k ∧ k ≤ n1 ∧ wr.ownsRow w2.heap.size 3 1 (.slice A2 k c2) k (ints ((l1.take k).map (fun x => -x))) ∧ wr.ownsRow 0 3 1 (.slice A1 n1 c1) n1 (ints l1) ∧ Hid (Below w.heap.size w wr) ∧ Hid (Below w2.heap.size w2 wr)) (fun _ i _ => n1 - (intOf i).toNat)
  case atStart => exact ⟨_, _, 0, rfl, rfl, Nat.zero_le _, oU, o1U, BU, hid ((Below.refl _ _).alloc (Nat.le_refl _) _)⟩
  case round =>
    clear oU o1U BU zU
    obtain ⟨A2, c2, k, rfl, rfl, hk, oU, o1, BB, BW⟩ := hrel
    have hbw := BW.out.size
    by_cases hlt : k < n1
    · obtain ⟨m, rfl⟩ : ∃ m, n1 = m + 1 := ⟨n1 - 1, by omega⟩
      obtain ⟨gx, cgx, hsx, _, hgx⟩ := own_shape o1
      injection hsx with e1 e2 e3
      subst e1
      clear e3
      have x0 := own_cell o1 HL.out hlt
      have q0 := HN.out k
      have HT := hid (neg_take (l := l1) (k := k) (by rw [HL.out]; exact hlt))
      obtain ⟨y, hy⟩ : ∃ y, nth l1 k = y := ⟨_, rfl⟩
      rw [hy] at x0 q0 HT
      have hlti : (k : Int) < (m : Int) + 1 := by omega
      have hap : (Value.slice (some ⟨gx, 0, none⟩) (m + 1) c1).ownBlock = none ∨ (Value.slice (some ⟨gx, 0, none⟩) (m + 1) c1).ownBlock ≠ (Value.slice A2 k c2).ownBlock := HAP.out A2 k c2 (own_lo oU)
      have HAP2 := hid hap
      clear hy hap
      go_wp2_with (at_builtin; refine wpList_append_own _ rfl _ _ 23 rfl w2.heap.size 3 i0 (.int .i64 0) 1 8 Try.underlying23 hi hz0 hz1 hz2 rfl (by decide) (.slice A2 k c2) _ _ rfl (oU.alloc _) ⟨wr.heap.size, 0, none⟩ 1 1 [.int .i64 (-y)] rfl rfl (cell_one_new _ _ _) (by simp [Value.oneCell']) (by simp only [maxLen]; omega) (by omega) (by simp; omega) ?_; intro v2 w4 o4 g4 _)
      have o14 := hid ((own_kept_none o1 (grown_alloc wr (.cells #[.int .i64 (-y)] 3) none)).kept g4 HAP2.out)
      obtain ⟨A3, c3, rfl, o5, b5⟩ := pushedB BW.out (Nat.le_refl _) hbw (own_blk oU) o4 g4
      rw [← HT.out] at o5
      have O5 := hid o5
      have B5 := hid b5
      have B6 := hid (HB.out.trans (b5.mono HB.out.size))
      clear o4 g4 oU o1 BB BW o5 b5
      go_wp2
      go_roundw
      case rel => exact ⟨A3, c3, k + 1, rfl, by go_num, by omega, O5.out, o14.out, B6, B5⟩
      case measure => simp [intOf]; omega
    · obtain rfl : k = n1 := by omega
      rw [List.take_of_length_le (by rw [HL.out]; omega)] at oU
      have CO := hid (implTapsOk_any A2 k c2 (l1.map (fun x => -x)) wr (Sl.of_own oU))
      rw [HNG.out] at CO
      clear oU o1 HB
      have HB := BB
      go_wp2_with fail
      with_reducible refine Calls.mono CO.out ?_
      rintro e w9 ⟨rfl, st9⟩
      replace HB := hid (HB.out.trans (st9.mono HB.out.size))
      clear st9
      go_wp2_with fail
      with_reducible refine Calls.mono (CM.out _) ?_
      rintro e w10 ⟨rfl, st10⟩
      replace st10 := ((Below.refl w9.heap.size w9).alloc (Nat.le_refl _) (.cells #[.int .i64 (-9)] 3)).trans (st10.mono (by simp))
      replace HB := hid (HB.out.trans (st10.mono HB.out.size))
      clear st10
      go_wp2_with fail
      with_reducible refine Calls.mono (CP.out _) ?_
      rintro e w11 ⟨rfl, st11⟩
      replace st11 := ((Below.refl w10.heap.size w10).alloc (Nat.le_refl _) (.cells #[.int .i64 9] 3)).trans (st11.mono (by simp))
      replace HB := hid (HB.out.trans (st11.mono HB.out.size))
      clear st11
      go_wp2_with fail
      refine (alive_any _).mono ?_
      rintro e w12 ⟨rfl, st12⟩
      replace HB := hid (HB.out.trans (st12.mono HB.out.size))
      clear st12
      go_wp2
      go_ret
      exact ⟨rfl, HB.out⟩
end Go.Proofs.Ytmkbbkpgdfpcoaa
