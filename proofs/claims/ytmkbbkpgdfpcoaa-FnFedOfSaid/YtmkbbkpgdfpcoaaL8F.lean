/-
  The walk of laws.FnFedOf, written by program (law8.py). No statement is proved here.
-/
import Derived.Test.YtmkbbkpgdfpcoaaC8p
import Derived.Test.YtmkbbkpgdfpcoaaC8i
import Derived.Test.YtmkbbkpgdfpcoaaDrQ
import Derived.Test.YtmkbbkpgdfpcoaaExS
import Derived.Test.YtmkbbkpgdfpcoaaC1a
import Derived.IntWalk
import Derived.Deep.RegionHeld3
namespace Go.Proofs.Ytmkbbkpgdfpcoaa
open Go.RowKit
set_option linter.unusedVariables false
set_option linter.unusedSimpArgs false

theorem Sl.take {w : World} {B n m : Nat} {A : Option Addr} {l : List Int} (h : Sl w B A n l) (hm : m ≤ n) : Sl w B A m (l.take m) := by
  refine ⟨by rw [List.length_take, h.len]; omega, Nat.le_trans hm h.max, fun h0 => ?_⟩
  obtain ⟨b, off, e, hb, hc⟩ := h.2.2 (by omega)
  refine ⟨b, off, e, hb, fun j hj => ?_⟩
  rw [hc j (by omega)]
  simp [nth, List.getD, hj]
theorem in_take {l : List Int} (h : inOk l = true) (m : Nat) : inOk (l.take m) = true := by
  rw [inOk_iff] at h ⊢
  exact ⟨fun x hx => h.1 x (List.mem_of_mem_take hx), by rw [List.length_take]; omega⟩
theorem own_form8 {w : World} {B n c : Nat} {A : Option Addr} {e : TypeId} {xs : List Value} (h : w.ownsRow B e 1 (.slice A n c) n xs) : (A = none ∧ n = 0 ∧ c = 0) ∨ ∃ g, A = some ⟨g, 0, none⟩ ∧ n ≤ c ∧ c ≤ maxLen := by
  rcases h.2 with ⟨h1, h2⟩ | ⟨g, cap, cur, hv, hbg, hgg, hnc, hcm, hsz, ht⟩
  · injection h1 with e1 e2 e3
    exact .inl ⟨e1, h2, e3⟩
  · injection hv with e1 e2 e3
    subst e3
    exact .inr ⟨g, e1, hnc, hcm⟩
theorem cSum_bd {a : List Int} {f : Nat → Int} (ha : ∀ k, -9 ≤ nth a k ∧ nth a k ≤ 9) (hf : ∀ k, -99 ≤ f k ∧ f k ≤ 99) (k j : Nat) : -(891 * (j : Int)) ≤ cSum a f k j ∧ cSum a f k j ≤ 891 * (j : Int) := by
  induction j with
  | zero => simp [cSum]
  | succ j ih =>
    rw [cSum_succ]
    have := prod9 (M := 99) (ha j) (hf (k - j))
    omega

set_option maxRecDepth 100000 in
set_option maxHeartbeats 6400000 in
theorem fnFedOf_walk (A : Option Addr) (n c : Nat) (w : World) (hs : By w w.heap.size A n) (hc : n ≤ c) :
    Calls Try.prog 5 #[.slice A n c] w fun e w' => e = .returned (.bool true) ∧ Below w.heap.size w w' := by
  have hm : n ≤ 9223372036854775807 := hs.1
  by_cases hbig : 1048576 < n
  · go_enter Try.func5, Try.ntmps5
    go_wp2
    go_ret
    exact ⟨rfl, Below.refl _ _⟩
  go_enter Try.func5, Try.ntmps5
  go_wp2_with fail
  refine (drawFedOf_any A n c _ hs hc).mono ?_
  rintro e w1 ⟨A1, n1, c1, l1, A2, n2, c2, l2, rfl, o1, hn1, hv1, o2, hn2, hv2, hb1⟩
  have HB := hid hb1
  clear hs hc hb1 hbig hm
  replace o1 := own_mono (base' := 0) o1 (Nat.zero_le _)
  have hl1 : l1.length = n1 := by have := o1.1; simpa using this
  replace o2 := own_mono (base' := 0) o2 (Nat.zero_le _)
  have hl2 : l2.length = n2 := by have := o2.1; simpa using this
  have CI := hid (fun (W : World) (h1 : Sl W W.heap.size A1 n1 l1) (h2 : Sl W W.heap.size A2 n2 l2) => implFedOf_any A1 n1 c1 l1 A2 n2 c2 l2 W h1 h2)
  have CS := hid (fun (W : World) (h1 : Sl W W.heap.size A1 n1 l1) (h2 : Sl W W.heap.size A2 n2 l2) => specFedOf_x A1 n1 c1 l1 A2 n2 c2 l2 W h1 h2)
  have CT := hid (fun (W : World) (h1 : Sl W W.heap.size A1 n1 l1) => specTapsOk_any A1 n1 c1 l1 W W.heap.size h1)
  have CN := hid (fun (W : World) (h2 : Sl W W.heap.size A2 n2 l2) => specInOk_any A2 n2 c2 l2 W W.heap.size h2)
  go_wp2_with fail
  refine (CI.out _ (Sl.of_own o1) (Sl.of_own o2)).mono ?_
  rintro e w2 ⟨Ax, nx, cx, rfl, ox, hnx, st2⟩
  replace o1 := own_on o1 st2
  replace o2 := own_on o2 st2
  replace HB := hid (HB.out.trans (st2.mono HB.out.size))
  clear st2
  replace ox := own_mono (base' := 0) ox (Nat.zero_le _)
  go_wp2_with fail
  refine (CS.out _ (Sl.of_own o1) (Sl.of_own o2)).mono ?_
  rintro e w3 ⟨Ay, ny, cy, rfl, oy, hny, st3⟩
  replace o1 := own_on o1 st3
  replace o2 := own_on o2 st3
  replace ox := own_on ox st3
  replace HB := hid (HB.out.trans (st3.mono HB.out.size))
  clear st3
  replace oy := own_mono (base' := 0) oy (Nat.zero_le _)
  go_wp2_with fail
  refine (sameInts_b _ _ _ _ _ _ _ _ _ _ _ (Sl.of_own ox) (Sl.of_own oy)).mono ?_
  rintro e w4 ⟨rfl, st4⟩
  rw [decide_eq_true rfl]
  replace o1 := own_on o1 st4
  replace o2 := own_on o2 st4
  replace ox := own_on ox st4
  replace oy := own_on oy st4
  replace HB := hid (HB.out.trans (st4.mono HB.out.size))
  clear st4
  clear oy
  have hlx : (fedOut l1 l2).length = nx := by have := ox.1; simpa using this
  clear CI CS
  cases ht1 : tapsOk l1 with
  | false =>
    obtain rfl : nx = 0 := by rw [← hlx]; unfold fedOut; rw [ht1]; rfl
    rw [ht1] at CT
    clear ht1 CN hlx
    go_wp2_with fail
    with_reducible refine Calls.mono (CT.out _ (Sl.of_own o1)) ?_
    rintro e w' ⟨rfl, rfl⟩
    go_wp2_with fail
    refine (alive_any _).mono ?_
    rintro e w5 ⟨rfl, st5⟩
    replace o1 := own_on o1 st5
    replace o2 := own_on o2 st5
    replace ox := own_on ox st5
    replace HB := hid (HB.out.trans (st5.mono HB.out.size))
    clear st5
    go_wp2
    go_ret
    exact ⟨rfl, HB.out⟩
  | true =>
    cases ht2 : inOk l2 with
    | false =>
      obtain rfl : nx = 0 := by rw [← hlx]; unfold fedOut; rw [ht2, Bool.and_false]; rfl
      rw [ht1] at CT
      rw [ht2] at CN
      clear ht1 ht2 hlx
      go_wp2_with fail
      with_reducible refine Calls.mono (CT.out _ (Sl.of_own o1)) ?_
      rintro e w' ⟨rfl, rfl⟩
      go_wp2_with fail
      with_reducible refine Calls.mono (CN.out _ (Sl.of_own o2)) ?_
      rintro e w' ⟨rfl, rfl⟩
      go_wp2_with fail
      refine (alive_any _).mono ?_
      rintro e w5 ⟨rfl, st5⟩
      replace o1 := own_on o1 st5
      replace o2 := own_on o2 st5
      replace ox := own_on ox st5
      replace HB := hid (HB.out.trans (st5.mono HB.out.size))
      clear st5
      go_wp2
      go_ret
      exact ⟨rfl, HB.out⟩
    | true =>
      have hT := tapsOk_iff.1 ht1
      have hI := inOk_iff.1 ht2
      have hfo : fedOut l1 l2 = fedL l1 l2 := by unfold fedOut; rw [ht1, ht2]; rfl
      have hfh : fedOut l1 (l2.take (n2 / 2)) = (fedL l1 l2).take (n2 / 2) := by
        unfold fedOut
        rw [ht1, in_take ht2]
        exact take_fed l1 l2 (n2 / 2) (by omega)
      rw [hfo] at ox hlx
      rw [fedL_len, hl2] at hlx
      subst hlx
      rw [ht1] at CT
      rw [ht2] at CN
      rw [hl1] at hT
      rw [hl2] at hI
      have HL1 := hid hl1
      have HL2 := hid hl2
      have HFH := hid hfh
      have HNB := hid (nth_bd (l := l1) (M := 9) (by omega) hT.1)
      have HXB := hid (nth_bd (l := l2) (M := 99) (by omega) hI.1)
      have HSB := hid (cSum_bd HNB.out HXB.out)
      have HSA := hid (cSum_all l1 (nth l2))
      rw [hl1] at HSA
      have HLX := hid (show (fedL l1 l2).length = n2 from by rw [fedL_len, hl2])
      have h1 := hT.2.1
      have h8 := hT.2.2
      have h16 := hI.2
      clear hT hI hfo hfh ht1 ht2 hl1 hl2
      go_wp2_with fail
      with_reducible refine Calls.mono (CT.out _ (Sl.of_own o1)) ?_
      rintro e w' ⟨rfl, rfl⟩
      go_wp2_with fail
      with_reducible refine Calls.mono (CN.out _ (Sl.of_own o2)) ?_
      rintro e w' ⟨rfl, rfl⟩
      go_wp2_with fail
      clear CT CN
      go_loopw [6] (fun i wr => ∃ k : Nat, i = .int .i64 k ∧ k ≤ n2 ∧ wr.ownsRow 0 3 1 (.slice A1 n1 c1) n1 (ints l1) ∧ wr.ownsRow 0 3 1 (.slice A2 n2 c2) n2 (ints l2) ∧ wr.ownsRow 0 3 1 (.slice Ax n2 cx) n2 (ints (fedL l1 l2)) ∧ Hid (Below w.heap.size w wr)) (fun i _ => n2 - (intOf i).toNat)
      case atStart => exact ⟨0, rfl, Nat.zero_le _, o1, o2, ox, HB⟩
      case round =>
        clear o1 o2 ox HB
        obtain ⟨k, rfl, hk, o1, o2, ox, HB⟩ := hrel
        by_cases hlt : k < n2
        · obtain ⟨m1, rfl⟩ : ∃ q, n1 = q + 1 := ⟨n1 - 1, by omega⟩
          obtain ⟨m2, rfl⟩ : ∃ q, n2 = q + 1 := ⟨n2 - 1, by omega⟩
          obtain ⟨g1, cg1, hs1, _, _⟩ := own_shape o1
          injection hs1 with e1 e2 e3
          subst e1
          clear e3
          obtain ⟨g2, cg2, hs2, _, _⟩ := own_shape o2
          injection hs2 with e1 e2 e3
          subst e1
          clear e3
          obtain ⟨gx, cgx, hsx, _, _⟩ := own_shape ox
          injection hsx with e1 e2 e3
          subst e1
          clear e3
          have hlti : (k : Int) < (m2 : Int) + 1 := by omega
          go_wp2_with fail
          go_loopw [7, 8] (fun s i wr2 => ∃ j : Nat, s = .int .i64 (cSum l1 (nth l2) k j) ∧ i = .int .i64 j ∧ j ≤ m1 + 1 ∧ j ≤ k + 1 ∧ wr2.ownsRow 0 3 1 (.slice (some ⟨g1, 0, none⟩) (m1 + 1) c1) (m1 + 1) (ints l1) ∧ wr2.ownsRow 0 3 1 (.slice (some ⟨g2, 0, none⟩) (m2 + 1) c2) (m2 + 1) (ints l2) ∧ wr2.ownsRow 0 3 1 (.slice (some ⟨gx, 0, none⟩) (m2 + 1) cx) (m2 + 1) (ints (fedL l1 l2)) ∧ Hid (Below w.heap.size w wr2)) (fun _ i _ => m1 + 1 - (intOf i).toNat)
          case atStart => exact ⟨0, by simp [cSum], rfl, Nat.zero_le _, Nat.zero_le _, o1, o2, ox, HB⟩
          case round =>
            clear o1 o2 ox HB
            obtain ⟨j, rfl, rfl, hj1, hj2, o1, o2, ox, HB⟩ := hrel
            by_cases hin : j < m1 + 1 ∧ j ≤ k
            · obtain ⟨hjn, hjk⟩ := hin
              obtain ⟨q, hq⟩ : ∃ q, k - j = q := ⟨_, rfl⟩
              have hqi : (k : Int) - (j : Int) = (q : Int) := by omega
              have hqn : q < m2 + 1 := by omega
              have x1 := own_cell o1 HL1.out hjn
              have x2 := own_cell o2 HL2.out hqn
              have q1 := HNB.out j
              have q2 := HXB.out q
              have q3 := HSB.out k j
              have hp := prod9 (M := 99) q1 q2
              have hsu := cSum_succ l1 (nth l2) k j
              rw [hq] at hsu
              obtain ⟨s, hs⟩ : ∃ s, cSum l1 (nth l2) k j = s := ⟨_, rfl⟩
              obtain ⟨y, hy⟩ : ∃ y, nth l1 j = y := ⟨_, rfl⟩
              obtain ⟨z, hz⟩ : ∃ z, nth l2 q = z := ⟨_, rfl⟩
              rw [hs] at hsu q3
              rw [hs]
              rw [hy] at x1 q1 hp hsu
              rw [hz] at x2 q2 hp hsu
              obtain ⟨p, hpe⟩ : ∃ p, y * z = p := ⟨_, rfl⟩
              rw [hpe] at hp hsu
              have w1 : IntKind.i64.wrap (y * z) = p := by rw [hpe]; exact IntWalk.i64_in _ (by omega)
              have w2 : IntKind.i64.wrap (s + p) = s + p := IntWalk.i64_in _ (by omega)
              have w3 : IntKind.i64.wrap ((k : Int) - (j : Int)) = (q : Int) := by rw [hqi]; exact IntWalk.i64_in _ (by omega)
              have hji : (j : Int) < (m1 : Int) + 1 := by omega
              have hjki : (j : Int) ≤ (k : Int) := by omega
              have hq0 : (0 : Int) ≤ (q : Int) := by omega
              have hqm : (q : Int) < (m2 : Int) + 1 := by omega
              have HS := hid hsu
              clear hq hs hy hz hpe hsu q1 q2
              go_wp2
              go_quiet (fail)
              go_wp2
              go_roundw
              case rel => exact ⟨j + 1, by rw [HS.out], by go_num, by omega, by omega, own_kept_none o1 (drewN_g8 wr _), own_kept_none o2 (drewN_g8 wr _), own_kept_none ox (drewN_g8 wr _), hid (below_drewN HB.out _)⟩
              case measure => simp [intOf]; omega
            · have he := HSA.out k j hj1 hj2 hin
              rw [he]
              have x0 := own_cell ox HLX.out hlt
              rw [nth_fedL (by rw [HL2.out]; exact hlt)] at x0
              obtain ⟨v, hv⟩ : ∃ v, cF l1 (nth l2) k = v := ⟨_, rfl⟩
              rw [hv] at x0
              rw [hv]
              clear he hv
              by_cases hjn : j < m1 + 1
              · have hji : (j : Int) < (m1 : Int) + 1 := by omega
                have hjk : decide ((j : Int) ≤ (k : Int)) = false := by simp; omega
                go_wp2
                go_roundw
                case rel => exact ⟨k + 1, by go_num, by omega, o1, o2, ox, HB⟩
                case measure => simp [intOf]; omega
              · have hji : decide ((j : Int) < (m1 : Int) + 1) = false := by simp; omega
                go_wp2
                go_roundw
                case rel => exact ⟨k + 1, by go_num, by omega, o1, o2, ox, HB⟩
                case measure => simp [intOf]; omega
        · obtain rfl : k = n2 := by omega
          obtain ⟨h, hh⟩ : ∃ h, k / 2 = h := ⟨_, rfl⟩
          have hhk : h ≤ k := by omega
          have hhi : (k : Int) / 2 = (h : Int) := by omega
          have hht : (k : Int).tdiv 2 = (h : Int) := by rw [Int.tdiv_eq_ediv_of_nonneg (by omega)]; exact hhi
          have hfh := HFH.out
          rw [hh] at hfh
          have HF := hid hfh
          have HHI := hid hhi
          have hh0 : (0 : Int) ≤ (h : Int) := by omega
          have CH := hid (fun (W : World) (h1 : Sl W W.heap.size A1 n1 l1) (h2 : Sl W W.heap.size A2 h (l2.take h)) => implFedOf_any A1 n1 c1 l1 A2 h c2 (l2.take h) W h1 h2)
          rw [HF.out] at CH
          clear hfh HFH hh
          rcases own_form8 o2 with ⟨rfl, rfl, rfl⟩ | ⟨g2, rfl, hc2, hm2⟩
          · obtain rfl : h = 0 := by omega
            rcases own_form8 ox with ⟨rfl, _, rfl⟩ | ⟨gx, rfl, hcx, hmx⟩
            all_goals
              (try simp only [maxLen] at hmx)
              have hd : Below wr.heap.size wr wr.drew := (Below.refl _ _).drew
              have d1 := own_on o1 hd
              have d2 : Sl wr.drew wr.drew.heap.size none 0 (l2.take 0) := Sl.nil _ _
              have dx := own_on ox hd
              have Bd := hid (HB.out.trans (hd.mono HB.out.size))
              clear hd HB o1 o2 ox
              go_wp2
              go_region_held3 (fun _ => True) (trivial) (first
                | (go_at_call 23; refine (CH.out _ (Sl.of_own d1) d2).mono ?_; rintro e w9 ⟨A9, n9, c9, rfl, o9, hn9, st9⟩; replace dx := own_on dx st9; replace Bd := hid (Bd.out.trans (st9.mono Bd.out.size)); clear st9)
                | (go_at_call 24; refine (sameInts_b _ _ _ _ _ _ _ _ _ _ _ (Sl.of_own o9) ((Sl.of_own dx).take (Nat.zero_le _))).mono ?_; rintro e w10 ⟨rfl, st10⟩; rw [decide_eq_true rfl]; replace Bd := hid (Bd.out.trans (st10.mono Bd.out.size)); clear st10)
                | (go_at_call 18; refine (alive_any _).mono ?_; rintro e w11 ⟨rfl, st11⟩; replace Bd := hid (Bd.out.trans (st11.mono Bd.out.size)); clear st11))
              all_goals
                go_wp2
                go_ret
                exact ⟨rfl, Bd.out⟩
          · rcases own_form8 ox with ⟨rfl, rfl, rfl⟩ | ⟨gx, rfl, hcx, hmx⟩
            · obtain rfl : h = 0 := by omega
              simp only [maxLen] at hm2
              have e1 : (0 : Int) ≤ (c2 : Int) := by omega
              have hd : Below wr.heap.size wr wr.drew := (Below.refl _ _).drew
              have d1 := own_on o1 hd
              have d2 := (Sl.of_own (own_on o2 hd)).take (Nat.zero_le _)
              have dx := own_on ox hd
              have Bd := hid (HB.out.trans (hd.mono HB.out.size))
              clear hd HB o1 o2 ox
              go_wp2
              go_region_held3 (fun _ => True) (trivial) (first
                | (go_at_call 23; refine (CH.out _ (Sl.of_own d1) d2).mono ?_; rintro e w9 ⟨A9, n9, c9, rfl, o9, hn9, st9⟩; replace dx := own_on dx st9; replace Bd := hid (Bd.out.trans (st9.mono Bd.out.size)); clear st9)
                | (go_at_call 24; refine (sameInts_b _ _ _ _ _ _ _ _ _ _ _ (Sl.of_own o9) ((Sl.of_own dx).take (Nat.zero_le _))).mono ?_; rintro e w10 ⟨rfl, st10⟩; rw [decide_eq_true rfl]; replace Bd := hid (Bd.out.trans (st10.mono Bd.out.size)); clear st10)
                | (go_at_call 18; refine (alive_any _).mono ?_; rintro e w11 ⟨rfl, st11⟩; replace Bd := hid (Bd.out.trans (st11.mono Bd.out.size)); clear st11))
              all_goals
                go_wp2
                go_ret
                exact ⟨rfl, Bd.out⟩
            · simp only [maxLen] at hm2 hmx
              have e1 : (h : Int) ≤ (c2 : Int) := by omega
              have e2 : (h : Int) ≤ (cx : Int) := by omega
              have e3 : h ≤ c2 := by omega
              have e4 : h ≤ cx := by omega
              have hd : Below wr.heap.size wr wr.drew := (Below.refl _ _).drew
              have d1 := own_on o1 hd
              have d2 := (Sl.of_own (own_on o2 hd)).take hhk
              have dx := own_on ox hd
              have Bd := hid (HB.out.trans (hd.mono HB.out.size))
              clear hd HB o1 o2 ox
              go_wp2
              go_region_held3 (fun _ => True) (trivial) (first
                | (go_at_call 23; refine (CH.out _ (Sl.of_own d1) d2).mono ?_; rintro e w9 ⟨A9, n9, c9, rfl, o9, hn9, st9⟩; replace dx := own_on dx st9; replace Bd := hid (Bd.out.trans (st9.mono Bd.out.size)); clear st9)
                | (go_at_call 24; refine (sameInts_b _ _ _ _ _ _ _ _ _ _ _ (Sl.of_own o9) ((Sl.of_own dx).take hhk)).mono ?_; rintro e w10 ⟨rfl, st10⟩; rw [decide_eq_true rfl]; replace Bd := hid (Bd.out.trans (st10.mono Bd.out.size)); clear st10)
                | (go_at_call 18; refine (alive_any _).mono ?_; rintro e w11 ⟨rfl, st11⟩; replace Bd := hid (Bd.out.trans (st11.mono Bd.out.size)); clear st11))
              all_goals
                go_wp2
                go_ret
                exact ⟨rfl, Bd.out⟩
end Go.Proofs.Ytmkbbkpgdfpcoaa
