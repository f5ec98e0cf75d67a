/-
  The walk of laws.FnSummedOf, written by program (law10.py). No statement is proved here.
-/
import Derived.Test.YthncjopbagkdcaaC10c
import Derived.Test.YthncjopbagkdcaaC10d
import Derived.Test.YthncjopbagkdcaaC10i
import Derived.Test.YthncjopbagkdcaaDrX
import Derived.Test.YthncjopbagkdcaaExS
import Derived.Test.YthncjopbagkdcaaC1a
import Derived.IntWalk
import Derived.Deep.RegionHeld3
import Derived.BigQuiet
import Derived.Deep.QuietTactic
import Derived.Maps.AppendAt
namespace Go.Proofs.Ythncjopbagkdcaa
open Go.RowKit
set_option linter.unusedVariables false
set_option linter.unusedSimpArgs false

theorem drop_revP {l : List Int} {j : Nat} (h : j < l.length) : (l.drop (j + 1)).reverse ++ [nth l j] = (l.drop j).reverse := by
  rw [List.drop_eq_getElem_cons h, List.reverse_cons, nth_lt h]
/-- A row to which an element is appended, and another row of the call's own beside it. -/
theorem pushedP {w w1 w2 : World} {B B2 i i2 : Nat} {l : List Int} {x : Int} {v v2 u : Value} {xs : List Value} (hg : Below B w w1) (hB1 : B ≤ w1.heap.size)
    (hv : v.ownBlock = none ∨ ∃ k, v.ownBlock = some k ∧ B ≤ k) (hu : w1.ownsRow B2 3 1 u i2 xs) (hap : ∀ k, v.ownBlock = some k → u.ownBlock ≠ some k)
    (h2 : w2.ownsRow B 3 1 v2 (i + 1) (ints l ++ [.int .i64 x])) (hg2 : (w1.alloc (.cells #[.int .i64 x] 3)).grownBy w2 v.ownBlock)
    (hat : v2.ownBlock = v.ownBlock ∨ v2.ownBlock = some (w1.alloc (.cells #[.int .i64 x] 3)).heap.size) :
    ∃ A c, v2 = .slice A (i + 1) c ∧ w2.ownsRow B 3 1 (.slice A (i + 1) c) (i + 1) (ints (l ++ [x])) ∧ Below B w w2 ∧ w2.ownsRow B2 3 1 u i2 xs ∧ (∀ k, (Value.slice A (i + 1) c).ownBlock = some k → u.ownBlock ≠ some k) := by
  obtain ⟨A, c, rfl, h3, h4⟩ := pushedC hg hB1 hv h2 hg2
  refine ⟨A, c, rfl, h3, h4, ?_, ?_⟩
  · refine (hu.alloc _).kept hg2 ?_
    rcases hub : u.ownBlock with _ | k
    · exact .inl rfl
    · right
      intro e
      exact hap k e.symm hub
  · intro k hk hub
    rcases hat with e | e
    · exact hap k (e ▸ hk) hub
    · rw [e] at hk
      have := (hu.lt k hub).2
      simp at hk
      omega


theorem bitsOk_rev (l : List Int) : bitsOk l.reverse = bitsOk l := by simp [bitsOk, allIn]

set_option maxRecDepth 100000 in
set_option maxHeartbeats 6400000 in
theorem fnSummedOf_walk (A : Option Addr) (n c : Nat) (w : World) (hs : By w w.heap.size A n) (hc : n ≤ c) :
    Calls Try.prog 4 #[.slice A n c] w fun e w' => e = .returned (.bool true) ∧ Below w.heap.size w w' := by
  have hm : n ≤ 9223372036854775807 := hs.1
  by_cases hbig : 1048576 < n
  · go_enter Try.func4, Try.ntmps4
    go_wp2
    go_ret
    exact ⟨rfl, Below.refl _ _⟩
  go_enter Try.func4, Try.ntmps4
  go_wp2_with fail
  refine (drawSummedOf_any A n c _ hs hc).mono ?_
  rintro e w1 ⟨A1, n1, c1, l1, rfl, o1, hn1, hb1⟩
  have HB := hid hb1
  clear hs hc hb1 hbig hm
  replace o1 := own_mono (base' := 0) o1 (Nat.zero_le _)
  have hl1 : l1.length = n1 := by have := o1.1; simpa using this
  have CI := hid (fun (W : World) (hs : Sl W W.heap.size A1 n1 l1) => implSummedOf_any A1 n1 c1 l1 W hs)
  have CS := hid (fun (W : World) (hs : Sl W W.heap.size A1 n1 l1) => specSummedOf_any A1 n1 c1 l1 W hs)
  have CK := hid (fun (W : World) (hs : Sl W W.heap.size A1 n1 l1) => implBitsOk_any A1 n1 c1 l1 W hs)
  obtain ⟨i0, hi, hz0, hz1, hz2⟩ := info_parts info_int
  cases hk : bitsOk l1 with
  | false =>
    rw [show sumOut l1 = [] from by unfold sumOut; rw [hk]; rfl] at CI CS
    rw [hk] at CK
    clear hk
    go_wp2_with fail
    refine (CI.out _ (Sl.of_own o1)).mono ?_
    rintro e w2 ⟨Ax, nx, cx, rfl, ox, hnx, st2⟩
    replace o1 := own_on o1 st2
    replace HB := hid (HB.out.trans (st2.mono HB.out.size))
    clear st2
    replace ox := own_mono (base' := 0) ox (Nat.zero_le _)
    go_wp2_with fail
    refine (CS.out _ (Sl.of_own o1)).mono ?_
    rintro e w3 ⟨Ay, ny, cy, rfl, oy, hny, st3⟩
    replace o1 := own_on o1 st3
    replace ox := own_on ox st3
    replace HB := hid (HB.out.trans (st3.mono HB.out.size))
    clear st3
    replace oy := own_mono (base' := 0) oy (Nat.zero_le _)
    go_wp2_with fail
    refine (sameInts_b _ _ _ _ _ _ _ _ _ _ _ (Sl.of_own ox) (Sl.of_own oy)).mono ?_
    rintro e w4 ⟨rfl, st4⟩
    rw [decide_eq_true rfl]
    replace o1 := own_on o1 st4
    replace ox := own_on ox st4
    replace oy := own_on oy st4
    replace HB := hid (HB.out.trans (st4.mono HB.out.size))
    clear st4
    clear oy
    obtain rfl : nx = 0 := by have := ox.1; simpa using this.symm
    go_wp2_with fail
    with_reducible refine Calls.mono (CK.out _ (Sl.of_own o1)) ?_
    rintro e w5 ⟨rfl, st5⟩
    replace o1 := own_on o1 st5
    replace ox := own_on ox st5
    replace HB := hid (HB.out.trans (st5.mono HB.out.size))
    clear st5
    go_wp2_with fail
    refine (alive_any _).mono ?_
    rintro e w6 ⟨rfl, st6⟩
    replace o1 := own_on o1 st6
    replace ox := own_on ox st6
    replace HB := hid (HB.out.trans (st6.mono HB.out.size))
    clear st6
    go_wp2
    go_ret
    exact ⟨rfl, HB.out⟩
  | true =>
    obtain ⟨hb, h1, h2⟩ := bitsOk_iff.1 hk
    have he := ones_even hb
    have hor := ones_le (sumL l1)
    have hrv := sum_rev l1
    have HRO := hid (show sumOut l1.reverse = sumL l1.reverse from by unfold sumOut; rw [bitsOk_rev, if_pos hk])
    have HON := hid (show onesOut (sumL l1) = (ones (sumL l1) : Int) from by unfold onesOut; rw [if_pos (sumL_ok hk)])
    rw [show sumOut l1 = sumL l1 from by unfold sumOut; rw [if_pos hk]] at CI CS
    have hls := (sumL_len l1).trans hl1
    rw [hls] at hor
    rw [hl1] at h1 h2
    obtain ⟨N, hN⟩ : ∃ N, sumL l1 = N := ⟨_, rfl⟩
    rw [hN] at CI CS he hor hrv HON hls
    obtain ⟨q, hq⟩ : ∃ q, ones N = q := ⟨_, rfl⟩
    rw [hq] at he hor HON
    rw [hrv] at HRO
    have HL := hid hl1
    have HL3 := hid hls
    clear hk hb hrv hN hq hls hl1 CK
    go_wp2_with fail
    refine (CI.out _ (Sl.of_own o1)).mono ?_
    rintro e w2 ⟨Ax, nx, cx, rfl, ox, hnx, st2⟩
    replace o1 := own_on o1 st2
    replace HB := hid (HB.out.trans (st2.mono HB.out.size))
    clear st2
    replace ox := own_mono (base' := 0) ox (Nat.zero_le _)
    go_wp2_with fail
    refine (CS.out _ (Sl.of_own o1)).mono ?_
    rintro e w3 ⟨Ay, ny, cy, rfl, oy, hny, st3⟩
    replace o1 := own_on o1 st3
    replace ox := own_on ox st3
    replace HB := hid (HB.out.trans (st3.mono HB.out.size))
    clear st3
    replace oy := own_mono (base' := 0) oy (Nat.zero_le _)
    go_wp2_with fail
    refine (sameInts_b _ _ _ _ _ _ _ _ _ _ _ (Sl.of_own ox) (Sl.of_own oy)).mono ?_
    rintro e w4 ⟨rfl, st4⟩
    rw [decide_eq_true rfl]
    replace o1 := own_on o1 st4
    replace ox := own_on ox st4
    replace oy := own_on oy st4
    replace HB := hid (HB.out.trans (st4.mono HB.out.size))
    clear st4
    clear oy
    have hnx : nx = n1 := by have := ox.1; simp [HL3.out] at this; omega
    subst hnx
    have hne : ((nx : Int) == 0) = false := by simp; omega
    have hne' : ¬ (nx : Int) = 0 := by omega
    have CO := hid (fun (W : World) (hs : Sl W W.heap.size Ax nx N) => implOnesOf_any Ax nx cx N W hs)
    rw [HON.out] at CO
    have hqe : (q : Int).tmod 2 = 0 := by rw [Int.tmod_eq_emod_of_nonneg (by omega)]; omega
    have hq0 : decide ((0 : Int) ≤ (q : Int)) = true := by simp
    have hq0' : (0 : Int) ≤ (q : Int) := by omega
    clear CI CS
    have p0 : (w4.alloc (.cells #[] 3)).ownsRow w4.heap.size 3 1 (.slice (some ⟨w4.heap.size, 0, none⟩) 0 0) 0 (ints []) := World.ownsRow_lit w4 #[] 0 (Nat.le_refl _) (by simp [maxLen]) rfl
    have p1 := p0.alloc (.cells #[] 3)
    have p2 : ((w4.alloc (.cells #[] 3)).alloc (.cells #[] 3)).ownsRow w4.heap.size 3 1 (.slice (some ⟨w4.heap.size + 1, 0, none⟩) 0 0) 0 (ints []) := by
      have h := World.ownsRow_lit (base := w4.heap.size) (e := 3) (size := 1) (w4.alloc (.cells #[] 3)) #[] 0 (by simp) (by simp [maxLen]) rfl
      simpa [ints] using h
    have hb0 : Below w4.heap.size w4 ((w4.alloc (.cells #[] 3)).alloc (.cells #[] 3)) := ((Below.refl _ _).alloc (Nat.le_refl _) _).alloc (by simp) _
    have s1 := Sl.of_own o1
    have s3 := Sl.of_own ox
    go_wp2
    go_loopw [5, 6, 7] (fun v u kk wr => ∃ (A5 A6 : Option Addr) (i c5 c6 j : Nat), v = .slice A5 i c5 ∧ u = .slice A6 i c6 ∧ kk = .int .i64 ((j : Int) - 1) ∧ i + j = nx ∧ wr.ownsRow w4.heap.size 3 1 (.slice A5 i c5) i (ints (l1.drop j).reverse) ∧ wr.ownsRow w4.heap.size 3 1 (.slice A6 i c6) i (ints (N.drop j).reverse) ∧ (∀ k, (Value.slice A5 i c5).ownBlock = some k → (Value.slice A6 i c6).ownBlock ≠ some k) ∧ Below w4.heap.size w4 wr) (fun _ _ kk _ => (intOf kk + 1).toNat)
    case atStart => exact ⟨_, _, 0, 0, 0, nx, rfl, rfl, by go_num, by omega, by rw [List.drop_of_length_le (by rw [HL.out]; omega)]; exact p1, by rw [List.drop_of_length_le (by rw [HL3.out]; omega)]; exact p2, by intro k hk hk2; simp [Value.ownBlock] at hk hk2; omega, hb0⟩
    case round =>
      obtain ⟨A5, A6, i, c5, c6, j, rfl, rfl, rfl, hij, q1, q2, hap, hbb⟩ := hrel
      clear p0 p1 p2 hb0
      by_cases hj : 0 < j
      · obtain ⟨j, rfl⟩ : ∃ j', j = j' + 1 := ⟨j - 1, by omega⟩
        obtain ⟨b, off, rfl, hbl, hcc⟩ := s1.2.2 (by omega)
        obtain ⟨bb, off2, rfl, hbl2, hcc2⟩ := s3.2.2 (by omega)
        have hck : wr.cell? ⟨b, off + j, none⟩ = some (.int .i64 (nth l1 j)) := (hbb.cell (p := ⟨b, off + j, none⟩) hbl).trans (hcc j (by omega))
        have hck2 : wr.cell? ⟨bb, off2 + j, none⟩ = some (.int .i64 (nth N j)) := (hbb.cell (p := ⟨bb, off2 + j, none⟩) hbl2).trans (hcc2 j (by omega))
        obtain ⟨x, hx⟩ : ∃ x, nth l1 j = x := ⟨_, rfl⟩
        obtain ⟨y, hy⟩ : ∃ y, nth N j = y := ⟨_, rfl⟩
        rw [hx] at hck
        rw [hy] at hck2
        have HX := hid hx
        have HY := hid hy
        have hbsz := hbb.size
        clear hx hy
        have hv := own_blk q1
        have hv2 := own_blk q2
        have ej : ((j + 1 : Nat) : Int) - 1 = (j : Int) := by omega
        rw [ej]
        clear hcc hcc2 ej
        go_wp2_with (first | (at_builtin; refine wpList_append_own_at _ rfl (.tmp 38) (.tmp 43) 23 rfl w4.heap.size 3 i0 (.int .i64 0) 1 8 Try.underlying23 hi hz0 hz1 hz2 rfl (by decide) (.slice A5 i c5) _ _ rfl (q1.alloc _) ⟨wr.heap.size, 0, none⟩ 1 1 [.int .i64 x] rfl rfl (cell_one_new _ _ _) (by simp [Value.oneCell']) (by simp only [maxLen]; omega) (by omega) (by simp; omega) ?_; intro v2 w5 q5 gr5 _ hat5; obtain ⟨A7, c7, rfl, q7, hbb7, q8, hap7⟩ := pushedP hbb hbb.size hv q2 hap q5 gr5 hat5; have hck3 : w5.cell? ⟨bb, off2 + j, none⟩ = some (.int .i64 y) := ((((Below.refl wr.heap.size wr).alloc (Nat.le_refl _) _).mono hbsz).grown gr5 (by simp; omega) (by intro k hk; rcases hv with h | ⟨k', h, hk'⟩ <;> rw [h] at hk <;> cases hk; exact hk') |>.cell (p := ⟨bb, off2 + j, none⟩) hbl2).trans hck2; have hsz5 := hbb7.size) | (at_builtin; refine wpList_append_own_at _ rfl (.tmp 45) (.tmp 50) 23 rfl w4.heap.size 3 i0 (.int .i64 0) 1 8 Try.underlying23 hi hz0 hz1 hz2 rfl (by decide) (.slice A6 i c6) _ _ rfl (q8.alloc _) ⟨w5.heap.size, 0, none⟩ 1 1 [.int .i64 y] rfl rfl (cell_one_new _ _ _) (by simp [Value.oneCell']) (by simp only [maxLen]; omega) (by omega) (by simp; omega) ?_; intro v6 w6 q9 gr6 _ hat6))
        obtain ⟨A9, c9, rfl, q10, hbb8, q11, hap8⟩ := pushedP hbb7 hbb7.size hv2 q7 (fun k hk hk2 => hap7 k hk2 hk) q9 gr6 hat6
        rw [← HX.out, drop_revP (by rw [HL.out]; omega)] at q11
        rw [← HY.out, drop_revP (by rw [HL3.out]; omega)] at q10
        have Q1 := hid q11
        have Q2 := hid q10
        have HA := hid (show ∀ k, (Value.slice A7 (i + 1) c7).ownBlock = some k → (Value.slice A9 (i + 1) c9).ownBlock ≠ some k from fun k hk hk2 => hap8 k hk2 hk)
        clear q11 q10 hap8 hap7 q9 gr6 hat6 q8 q7 q5 gr5 hat5 hck3 hap q1 q2 hv hv2 hbb7 hbb
        go_wp2
        go_roundw
        case rel => exact ⟨A7, A9, i + 1, c7, c9, j, rfl, rfl, rfl, by omega, Q1.out, Q2.out, HA.out, hbb8⟩
        case measure => simp [intOf]
      · obtain rfl : j = 0 := by omega
        obtain rfl : i = nx := by omega
        rw [List.drop_zero] at q1 q2
        have ob := own_mono (base' := 0) q1 (Nat.zero_le _)
        have ow := own_mono (base' := 0) q2 (Nat.zero_le _)
        replace ox := own_on ox hbb
        replace HB := hid (HB.out.trans (hbb.mono HB.out.size))
        have CR := hid (fun (W : World) (hs : Sl W W.heap.size A5 i l1.reverse) => implSummedOf_any A5 i c5 l1.reverse W hs)
        rw [HRO.out] at CR
        clear s1 s3 hap q1 q2 hbb o1
        go_wp2_with fail
        with_reducible refine Calls.mono (CO.out _ (Sl.of_own ox)) ?_
        rintro e w105 ⟨rfl, st105⟩
        replace ox := own_on ox st105
        replace ob := own_on ob st105
        replace ow := own_on ow st105
        replace HB := hid (HB.out.trans (st105.mono HB.out.size))
        clear st105
        go_wp2_with fail
        with_reducible refine Calls.mono (CO.out _ (Sl.of_own ox)) ?_
        rintro e w106 ⟨rfl, st106⟩
        replace ox := own_on ox st106
        replace ob := own_on ob st106
        replace ow := own_on ow st106
        replace HB := hid (HB.out.trans (st106.mono HB.out.size))
        clear st106
        go_wp2_with fail
        refine (CR.out _ (Sl.of_own ob)).mono ?_
        rintro e w107 ⟨Ar, nr, cr, rfl, or, hnr, st107⟩
        replace ox := own_on ox st107
        replace ob := own_on ob st107
        replace ow := own_on ow st107
        replace HB := hid (HB.out.trans (st107.mono HB.out.size))
        clear st107
        replace or := own_mono (base' := 0) or (Nat.zero_le _)
        go_wp2_with fail
        refine (sameInts_b _ _ _ _ _ _ _ _ _ _ _ (Sl.of_own or) (Sl.of_own ow)).mono ?_
        rintro e w108 ⟨rfl, st108⟩
        rw [decide_eq_true rfl]
        replace ox := own_on ox st108
        replace ob := own_on ob st108
        replace ow := own_on ow st108
        replace or := own_on or st108
        replace HB := hid (HB.out.trans (st108.mono HB.out.size))
        clear st108
        go_wp2_with fail
        refine (alive_any _).mono ?_
        rintro e w109 ⟨rfl, st109⟩
        replace ox := own_on ox st109
        replace ob := own_on ob st109
        replace ow := own_on ow st109
        replace or := own_on or st109
        replace HB := hid (HB.out.trans (st109.mono HB.out.size))
        clear st109
        go_wp2
        go_ret
        exact ⟨rfl, HB.out⟩
end Go.Proofs.Ythncjopbagkdcaa
