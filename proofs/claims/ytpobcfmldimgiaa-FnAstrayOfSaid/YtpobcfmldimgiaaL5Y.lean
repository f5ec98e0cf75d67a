/-
  The walk of laws.FnAstrayOf, written by program (law5.py). No statement is proved here.
-/
import Derived.Test.YtpobcfmldimgiaaC5a
import Derived.Test.YtpobcfmldimgiaaC5b
import Derived.Test.YtpobcfmldimgiaaC5i
import Derived.Test.YtpobcfmldimgiaaDr9
namespace Go.Proofs.Ytpobcfmldimgiaa
open Go.RowKit
set_option linter.unusedVariables false
set_option linter.unusedSimpArgs false

theorem drop_rev_snoc {l : List Int} {j : Nat} (h : j < l.length) : (l.drop (j + 1)).reverse ++ [nth l j] = (l.drop j).reverse := by
  rw [List.drop_eq_getElem_cons h, List.reverse_cons, nth_lt h]
theorem half_all : ∀ n : Nat, n ≤ 14 → 1 ≤ n → ((n : Int) * ((n : Int) - 1) = ((n * (n - 1) : Nat) : Int)) ∧ n * (n - 1) ≤ 182 := by
  intro n h h1
  constructor
  · obtain ⟨m, rfl⟩ : ∃ m, n = m + 1 := ⟨n - 1, by omega⟩
    have : m + 1 - 1 = m := rfl
    rw [this]
    push_cast
    rw [show (m : Int) + 1 - 1 = m by omega]
  · exact Nat.le_trans (Nat.mul_le_mul h (show n - 1 ≤ 13 by omega)) (by omega)

set_option maxRecDepth 100000 in
set_option maxHeartbeats 6400000 in
theorem fnAstrayOf_walk (A : Option Addr) (n c : Nat) (w : World) (hs : By w w.heap.size A n) (hc : n ≤ c) :
    Calls Try.prog 9 #[.slice A n c] w fun e w' => e = .returned (.bool true) ∧ Below w.heap.size w w' := by
  have hm : n ≤ 9223372036854775807 := hs.1
  by_cases hbig : 1048576 < n
  · go_enter Try.func9, Try.ntmps9
    go_wp2
    go_ret
    exact ⟨rfl, Below.refl _ _⟩
  go_enter Try.func9, Try.ntmps9
  go_wp2_with fail
  refine (drawAstrayOf_any A n c _ hs hc).mono ?_
  rintro e w1 ⟨A1, n1, c1, l1, rfl, o1, hn1, hb1⟩
  have HB := hid hb1
  clear hs hc hb1 hbig hm
  replace o1 := own_mono (base' := 0) o1 (Nat.zero_le _)
  have HL := hid (show l1.length = n1 from by have := o1.1; simpa using this)
  have hcap := own_caps o1
  have CI := hid (fun (W : World) (hs : Sl W W.heap.size A1 n1 l1) => implAstrayOf_any A1 n1 c1 l1 W hs hcap.1 hcap.2)
  clear hcap
  have CS := hid (fun (W : World) (hs : Sl W W.heap.size A1 n1 l1) => specAstrayOf_any A1 n1 c1 l1 W hs)
  cases hk : keptOk l1 with
  | false =>
    rw [show astrayOut l1 = -1 from by unfold astrayOut; rw [hk]; rfl] at CI CS
    clear hk
    go_wp2_with fail
    with_reducible refine Calls.mono (CI.out _ (Sl.of_own o1)) ?_
    rintro e w2 ⟨rfl, st2⟩
    replace o1 := own_on o1 st2
    replace HB := hid (HB.out.trans (st2.mono HB.out.size))
    clear st2
    go_wp2_with fail
    with_reducible refine Calls.mono (CS.out _ (Sl.of_own o1)) ?_
    rintro e w3 ⟨rfl, st3⟩
    replace st3 := below_grown st3
    replace o1 := own_on o1 st3
    replace HB := hid (HB.out.trans (st3.mono HB.out.size))
    clear st3
    go_wp2_with fail
    refine (alive_any _).mono ?_
    rintro e w4 ⟨rfl, st4⟩
    replace o1 := own_on o1 st4
    replace HB := hid (HB.out.trans (st4.mono HB.out.size))
    clear st4
    go_wp2
    go_ret
    exact ⟨rfl, HB.out⟩
  | true =>
    obtain ⟨i0, hi, hz0, hz1, hz2⟩ := info_parts info_int
    have hk2 := (keptOk_iff.1 hk).2
    have hb := astray_both l1
    have hkr : keptOk l1.reverse = true := keptOk_perm (List.reverse_perm l1).symm hk
    obtain ⟨S, _, hS1, hS2, hS3⟩ := steps_have hk
    have hSb := astray_bound l1 S hS2
    rw [HL.out] at hk2 hb hS1
    have CT := hid (fun (W : World) (hs : Sl W W.heap.size A1 n1 l1) => implStepsToOrder_any A1 n1 c1 l1 W hs)
    rw [stepsOut_at hk (by omega) hS2 hS3] at CT
    rw [show astrayOut l1 = astray l1 from by unfold astrayOut; rw [hk]; rfl] at CI CS
    have CR := hid (fun (A : Option Addr) (n c : Nat) (W : World) (hs : Sl W W.heap.size A n l1.reverse) (hcap : n ≤ c ∧ c ≤ maxLen) => implAstrayOf_any A n c l1.reverse W hs hcap.1 hcap.2)
    rw [show astrayOut l1.reverse = astray l1.reverse from by unfold astrayOut; rw [hkr]; rfl] at CR
    obtain ⟨a, ha⟩ : ∃ a, astray l1 = a := ⟨_, rfl⟩
    obtain ⟨b, hbe⟩ : ∃ b, astray l1.reverse = b := ⟨_, rfl⟩
    rw [ha] at CI CS hb hSb
    rw [hbe] at CR hb
    obtain ⟨hM, hM2⟩ := half_all n1 hk2.2 hk2.1
    obtain ⟨M, hMe⟩ : ∃ M, n1 * (n1 - 1) = M := ⟨_, rfl⟩
    rw [hMe] at hM hM2 hb
    clear hMe ha hbe hS2 hS3 hk hkr
    have hMd : (M : Int).tdiv 2 = ((M / 2 : Nat) : Int) := by rw [Int.tdiv_eq_ediv_of_nonneg (by omega)]; omega
    obtain ⟨Q, hQ⟩ : ∃ Q, M / 2 = Q := ⟨_, rfl⟩
    have hQ2 : ((M : Int) / 2) = (Q : Int) := by omega
    rw [hQ] at hMd
    have q1 : (a : Int) ≤ (Q : Int) := by omega
    have q2 : (a : Int) + (b : Int) ≤ (Q : Int) := by omega
    have q3 : (S : Int) ≤ (a : Int) + 1 := by omega
    have qa : a ≤ 200 := by omega
    have qb : b ≤ 200 := by omega
    clear hb hQ hSb hS1
    go_wp2_with fail
    with_reducible refine Calls.mono (CI.out _ (Sl.of_own o1)) ?_
    rintro e w2 ⟨rfl, st2⟩
    replace o1 := own_on o1 st2
    replace HB := hid (HB.out.trans (st2.mono HB.out.size))
    clear st2
    go_wp2_with fail
    with_reducible refine Calls.mono (CS.out _ (Sl.of_own o1)) ?_
    rintro e w3 ⟨rfl, st3⟩
    replace st3 := below_grown st3
    replace o1 := own_on o1 st3
    replace HB := hid (HB.out.trans (st3.mono HB.out.size))
    clear st3
    have ho0 : (w3.alloc (.cells #[] 3)).ownsRow w3.heap.size 3 1 (.slice (some ⟨w3.heap.size, 0, none⟩) 0 0) 0 (ints []) := World.ownsRow_lit w3 #[] 0 (Nat.le_refl _) (by simp [maxLen]) rfl
    have s1 := Sl.of_own o1
    have O1 := hid o1
    clear o1
    go_wp2_with fail
    go_loopw [5, 6] (fun v kk wr => ∃ (A : Option Addr) (i c : Nat) (j : Nat), v = .slice A i c ∧ kk = .int .i64 ((j : Int) - 1) ∧ i + j = n1 ∧ wr.ownsRow w3.heap.size 3 1 (.slice A i c) i (ints (l1.drop j).reverse) ∧ Below w3.heap.size w3 wr) (fun _ kk _ => (intOf kk + 1).toNat)
    case atStart => exact ⟨_, 0, 0, n1, rfl, by go_num, by omega, by rw [List.drop_of_length_le (by rw [HL.out]; omega)]; exact ho0, (Below.refl _ _).alloc (Nat.le_refl _) _⟩
    case round =>
      obtain ⟨A2, i, c2, j, rfl, rfl, hij, hown, hbb⟩ := hrel
      clear ho0
      by_cases hj : 0 < j
      · obtain ⟨j, rfl⟩ : ∃ j', j = j' + 1 := ⟨j - 1, by omega⟩
        obtain ⟨b9, off, rfl, hbl, hcc⟩ := s1.2.2 (by omega)
        have hck : wr.cell? ⟨b9, off + j, none⟩ = some (.int .i64 (nth l1 j)) := (hbb.cell (p := ⟨b9, off + j, none⟩) hbl).trans (hcc j (by omega))
        have hv : (Value.slice A2 i c2).ownBlock = none ∨ ∃ k, (Value.slice A2 i c2).ownBlock = some k ∧ w3.heap.size ≤ k := by
          rcases h : (Value.slice A2 i c2).ownBlock with _ | k
          · exact .inl rfl
          · exact .inr ⟨k, rfl, (hown.lt k h).1⟩
        have ej : ((j + 1 : Nat) : Int) - 1 = (j : Int) := by omega
        rw [ej]
        have hjn : (j : Int) < (n1 : Int) := by omega
        clear hcc ej
        go_wp2_with (at_builtin; refine wpList_append_own _ rfl (.tmp 34) (.tmp 39) 23 rfl w3.heap.size 3 i0 (.int .i64 0) 1 8 Try.underlying23 hi hz0 hz1 hz2 rfl (by decide) (.slice A2 i c2) _ _ rfl (hown.alloc _) ⟨wr.heap.size, 0, none⟩ 1 1 [.int .i64 (nth l1 j)] rfl rfl (cell_one_new _ _ _) (by simp [Value.oneCell']) (by simp only [maxLen]; omega) (by omega) (by have := hbb.size; simp; omega) ?_; intro v2 w2 hown2 hgrow2 _)
        obtain ⟨A4, c4, rfl, hown3, hbb3⟩ := pushedB hbb (Nat.le_refl _) hbb.size hv hown2 hgrow2
        rw [drop_rev_snoc (by rw [HL.out]; omega)] at hown3
        have HO := hid hown3
        clear hown2 hgrow2 hown hown3 hbb hv
        go_wp2
        go_roundw
        case rel => exact ⟨A4, i + 1, c4, j, rfl, rfl, by omega, HO.out, hbb3⟩
        case measure => simp [intOf]
      · obtain rfl : j = 0 := by omega
        obtain rfl : i = n1 := by omega
        rw [List.drop_zero] at hown
        replace HB := hid (HB.out.trans (hbb.mono HB.out.size))
        have o1 := own_on O1.out hbb
        have oR := own_mono (base' := 0) hown (Nat.zero_le _)
        clear hown hbb s1
        go_wp2_with fail
        with_reducible refine Calls.mono (CR.out _ _ _ _ (Sl.of_own oR) (own_caps oR)) ?_
        rintro e w4 ⟨rfl, st4⟩
        replace o1 := own_on o1 st4
        replace oR := own_on oR st4
        replace HB := hid (HB.out.trans (st4.mono HB.out.size))
        clear st4
        go_wp2_with fail
        with_reducible refine Calls.mono (CT.out _ (Sl.of_own o1)) ?_
        rintro e w5 ⟨rfl, st5⟩
        replace o1 := own_on o1 st5
        replace oR := own_on oR st5
        replace HB := hid (HB.out.trans (st5.mono HB.out.size))
        clear st5
        go_wp2_with fail
        refine (alive_any _).mono ?_
        rintro e w6 ⟨rfl, st6⟩
        replace o1 := own_on o1 st6
        replace oR := own_on oR st6
        replace HB := hid (HB.out.trans (st6.mono HB.out.size))
        clear st6
        go_wp2
        go_ret
        exact ⟨rfl, HB.out⟩
end Go.Proofs.Ytpobcfmldimgiaa
