/-
  Walk of the model's ReachOf. No statement is proved here.
-/
import Derived.Test.YtegmkacapldnoaaC9
namespace Go.Proofs.Ytegmkacapldnoaa
open Go.RowKit
set_option linter.unusedVariables false
set_option linter.unusedSimpArgs false

/-- How far each number goes. -/
def reachL (l : List Int) : List Int := (List.range l.length).map (fun k => (reachN l k : Int))
/-- What ReachOf gives. -/
def reachOut (l : List Int) : List Int := if ringOk l = true then reachL l else []
theorem reachL_len (l : List Int) : (reachL l).length = l.length := by simp [reachL]
theorem nth_reachL {l : List Int} {k : Nat} (h : k < l.length) : nth (reachL l) k = (reachN l k : Int) := by simp [nth, reachL, List.getD, h]
theorem reach_take {l : List Int} {k m : Nat} (h : k < l.length) (h0 : 0 < l.length) (h1 : 1 ≤ m) (hm : m ≤ l.length) (hs : surv l k (m - 1) = true) (he : m = l.length ∨ surv l k m = false) : (reachL l).take (k + 1) = (reachL l).take k ++ [(m : Int)] := by
  rw [take_nth (by rw [reachL_len]; exact h), nth_reachL h, reach_is h0 h1 hm hs he]

set_option maxRecDepth 100000 in
set_option maxHeartbeats 3200000 in
theorem specReachOf_any (A : Option Addr) (n c : Nat) (l : List Int) (w : World) (hs : Sl w w.heap.size A n l) :
    Calls Try.prog 32 #[.slice A n c] w fun e w' => ∃ A2 m c2, e = .returned (.slice A2 m c2) ∧ w'.ownsRow w.heap.size 3 1 (.slice A2 m c2) m (ints (reachOut l)) ∧ m ≤ 12 ∧ Below w.heap.size w w' := by
  obtain ⟨i0, hi, hz0, hz1, hz2⟩ := info_parts info_int
  have ho0 : (w.alloc (.cells #[] 3)).ownsRow w.heap.size 3 1 (.slice (some ⟨w.heap.size, 0, none⟩) 0 0) 0 (ints []) := World.ownsRow_lit w #[] 0 (Nat.le_refl _) (by simp [maxLen]) rfl
  have hb0 : Below w.heap.size w (w.alloc (.cells #[] 3)) := (Below.refl _ _).alloc (Nat.le_refl _) _
  have HL := hid hs.len
  have hm := hs.max
  have HS := hid hs
  have CK := hid (fun (W : World) (h : Sl W W.heap.size A n l) => specRingOk_any A n c l W h)
  cases hok : ringOk l with
  | false =>
    have HV := hid (show reachOut l = [] from by unfold reachOut; rw [hok]; rfl)
    rw [hok] at CK
    clear hs hok
    go_enter Try.func32, Try.ntmps32
    go_wp2
    go_loopw [3, 4] (fun v i wr => v = .slice (some ⟨w.heap.size, 0, none⟩) 0 0 ∧ i = .int .i64 0 ∧ wr = w.alloc (.cells #[] 3)) (fun _ i _ => 1)
    case atStart => exact ⟨rfl, rfl, rfl⟩
    case round =>
      obtain ⟨rfl, rfl, rfl⟩ := hrel
      by_cases h0 : 0 < n
      · have h0i : (0 : Int) < (n : Int) := by omega
        go_wp2_with fail
        with_reducible refine Calls.mono (CK.out _ ((HS.out.on hb0))) ?_
        rintro e w2 ⟨rfl, b2⟩
        have B2 := hid (hb0.trans (b2.mono hb0.size))
        have O2 := hid (own_on ho0 b2)
        clear b2
        go_wp2
        go_ret
        exact ⟨_, 0, _, rfl, by rw [HV.out]; exact O2.out, by omega, B2.out⟩
      · obtain rfl : n = 0 := by omega
        go_wp2
        go_ret
        exact ⟨_, 0, _, rfl, by rw [HV.out]; exact ho0, by omega, hb0⟩
  | true =>
    obtain ⟨_, _, h1, h2⟩ := ringOk_iff.1 hok
    rw [HL.out] at h1 h2
    have HV := hid (show reachOut l = reachL l from by unfold reachOut; rw [if_pos hok])
    rw [hok] at CK
    obtain ⟨b, off, rfl, _, _⟩ := hs.2.2 (by omega)
    have HC := hid (fun (W : World) (hW : Below w.heap.size w W) (j : Nat) (hj : j < n) => show W.cell? ⟨b, off + j, none⟩ = some (.int .i64 (nth l j)) from by
      obtain ⟨b', off', e2, _, hc⟩ := (HS.out.below hW).2.2 (by omega)
      injection e2 with e2
      injection e2 with e3 e4
      subst e3
      subst e4
      exact hc j hj)
    have HT := hid (fun (k m : Nat) (h : k < n) (g1 : 1 ≤ m) (g2 : m ≤ n) (g3 : surv l k (m - 1) = true) (g4 : m = n ∨ surv l k m = false) => reach_take (l := l) (k := k) (m := m) (by rw [HL.out]; exact h) (by rw [HL.out]; omega) g1 (by rw [HL.out]; exact g2) g3 (by rw [HL.out]; exact g4))
    have HQ := hid (fun (k m : Nat) (g1 : 1 ≤ m) (g3 : surv l k (m - 1) = true) => show surv l k m = decide (nth l ((k + m) % n) < rf l k) from by
      obtain ⟨q, rfl⟩ : ∃ q, m = q + 1 := ⟨m - 1, by omega⟩
      rw [show q + 1 - 1 = q from rfl] at g3
      rw [surv_succ, g3, Bool.true_and]
      unfold rf
      rw [HL.out]
      rfl)
    have HR := hid (fun (k : Nat) (h : k < n) => show rf l k = nth l k from rf_lt (by rw [HL.out]; exact h))
    clear hs hok
    go_enter Try.func32, Try.ntmps32
    go_wp2
    go_loopw [3, 4] (fun v i wr => ∃ (A2 : Option Addr) (c2 k : Nat), v = .slice A2 k c2 ∧ i = .int .i64 k ∧ k ≤ n ∧ wr.ownsRow w.heap.size 3 1 (.slice A2 k c2) k (ints ((reachL l).take k)) ∧ Hid (Below w.heap.size w wr)) (fun _ i _ => n - (intOf i).toNat)
    case atStart => exact ⟨_, _, 0, rfl, rfl, Nat.zero_le _, ho0, hid hb0⟩
    case round =>
      clear ho0 hb0
      obtain ⟨A2, c2, k, rfl, rfl, hk, ho, HB⟩ := hrel
      by_cases hlt : k < n
      · have hlti : (k : Int) < (n : Int) := by omega
        go_wp2_with fail
        with_reducible refine Calls.mono (CK.out _ (HS.out.on HB.out)) ?_
        rintro e w2 ⟨rfl, b2⟩
        replace ho := own_on ho b2
        replace HB := hid (HB.out.trans (b2.mono HB.out.size))
        clear b2
        go_wp2_with fail
        go_loopw [5] (fun i wr => ∃ m : Nat, i = .int .i64 m ∧ 1 ≤ m ∧ m ≤ n ∧ Hid (surv l k (m - 1) = true) ∧ wr.ownsRow w.heap.size 3 1 (.slice A2 k c2) k (ints ((reachL l).take k)) ∧ Hid (Below w.heap.size w wr)) (fun i _ => n - (intOf i).toNat)
        case atStart => exact ⟨1, rfl, Nat.le_refl _, by omega, hid rfl, ho, HB⟩
        case round =>
          clear ho HB
          obtain ⟨m, rfl, g1, g2, G3, ho, HB⟩ := hrel
          by_cases hmn : m < n
          · obtain ⟨r, hr⟩ : ∃ r, (k + m) % n = r := ⟨_, rfl⟩
            have hrn : r < n := by rw [← hr]; exact Nat.mod_lt _ (by omega)
            have x0 := HC.out wr HB.out k hlt
            have x1 := HC.out wr HB.out r hrn
            have hq := HQ.out k m g1 G3.out
            rw [hr, HR.out k hlt] at hq
            have m1 : ((k : Int) + (m : Int)).tmod (n : Int) = (r : Int) := by
              rw [show (k : Int) + (m : Int) = ((k + m : Nat) : Int) by omega, ← hr]; rfl
            have w1 : IntKind.i64.wrap ((k : Int) + (m : Int)) = (k : Int) + (m : Int) := IntWalk.i64_in _ (by omega)
            have hmni : (m : Int) < (n : Int) := by omega
            have hri : (r : Int) < (n : Int) := by omega
            have hr0 : (0 : Int) ≤ (r : Int) := by omega
            have hk0 : (0 : Int) ≤ (k : Int) := by omega
            have hn0 : ¬ (n : Int) = 0 := by omega
            obtain ⟨x, hx⟩ : ∃ x, nth l k = x := ⟨_, rfl⟩
            obtain ⟨y, hy⟩ : ∃ y, nth l r = y := ⟨_, rfl⟩
            rw [hx] at x0 hq
            rw [hy] at x1 hq
            have HQ2 := hid hq
            clear hx hy hr hq
            by_cases hyx : y < x
            · have HS2 := hid (show surv l k m = true from by rw [HQ2.out]; simpa using hyx)
              have wm : IntKind.i64.wrap ((m : Int) + 1) = (m : Int) + 1 := IntWalk.i64_in _ (by omega)
              go_wp2
              go_quiet (fail)
              go_wp2
              go_roundw
              case rel => exact ⟨m + 1, by go_num, by omega, by omega, HS2, own_kept_none ho (drewN_g9 _ _), hid (below_drewN HB.out _)⟩
              case measure => simp [intOf]; omega
            · have HS2 := hid (HT.out k m hlt g1 g2 G3.out (.inr (by rw [HQ2.out]; simpa using hyx)))
              have hyx' : decide (y < x) = false := by simpa using hyx
              go_wp2
              go_quiet (fail)
              have hod := own_kept_none ho (drewN_g9 wr nq)
              have hbd := below_drewN HB.out nq
              have hbw := hbd.size
              have hzd : (wr.drewN nq).heap.size = wr.heap.size := rfl
              have hzz := HB.out.size
              have hv := own_blk ho
              go_wp2_with (at_builtin; refine wpList_append_own _ rfl _ _ 23 rfl w.heap.size 3 i0 (.int .i64 0) 1 8 Try.underlying23 hi hz0 hz1 hz2 rfl (by decide) (.slice A2 k c2) _ _ rfl (hod.alloc _) ⟨wr.heap.size, 0, none⟩ 1 1 [.int .i64 m] rfl rfl (cell_one_new (wr.drewN nq) _ _) (by simp [Value.oneCell']) (by simp only [maxLen]; omega) (by omega) (by simp; omega) ?_; intro v2 w4 o4 g4 _)
              obtain ⟨A3, c3, rfl, o5, b5⟩ := pushedB hbd (Nat.le_refl _) hbw hv o4 g4
              rw [← HS2.out] at o5
              have O5 := hid o5
              have B5 := hid b5
              clear o4 g4 ho HB o5 b5 hod hbd
              go_wp2
              go_roundw
              case rel => exact ⟨A3, c3, k + 1, rfl, by go_num, by omega, O5.out, B5⟩
              case measure => simp [intOf]; omega
          · obtain rfl : m = n := by omega
            have HS2 := hid (HT.out k m hlt g1 g2 G3.out (.inl rfl))
            go_wp2
            go_quiet (fail)
            have hod := own_kept_none ho (drewN_g9 wr nq)
            have hbd := below_drewN HB.out nq
            have hbw := hbd.size
            have hzd : (wr.drewN nq).heap.size = wr.heap.size := rfl
            have hzz := HB.out.size
            have hv := own_blk ho
            go_wp2_with (at_builtin; refine wpList_append_own _ rfl _ _ 23 rfl w.heap.size 3 i0 (.int .i64 0) 1 8 Try.underlying23 hi hz0 hz1 hz2 rfl (by decide) (.slice A2 k c2) _ _ rfl (hod.alloc _) ⟨wr.heap.size, 0, none⟩ 1 1 [.int .i64 m] rfl rfl (cell_one_new (wr.drewN nq) _ _) (by simp [Value.oneCell']) (by simp only [maxLen]; omega) (by omega) (by simp; omega) ?_; intro v2 w4 o4 g4 _)
            obtain ⟨A3, c3, rfl, o5, b5⟩ := pushedB hbd (Nat.le_refl _) hbw hv o4 g4
            rw [← HS2.out] at o5
            have O5 := hid o5
            have B5 := hid b5
            clear o4 g4 ho HB o5 b5 hod hbd
            go_wp2
            go_roundw
            case rel => exact ⟨A3, c3, k + 1, rfl, by go_num, by omega, O5.out, B5⟩
            case measure => simp [intOf]; omega
      · obtain rfl : k = n := by omega
        rw [List.take_of_length_le (by rw [reachL_len, HL.out]; omega), ← HV.out] at ho
        go_wp2
        go_ret
        exact ⟨_, _, _, rfl, ho, h2, HB.out⟩
end Go.Proofs.Ytegmkacapldnoaa
