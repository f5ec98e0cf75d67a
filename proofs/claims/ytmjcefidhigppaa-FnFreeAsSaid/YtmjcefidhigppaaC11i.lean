/-
  Walks of the program's cars in a ring: DrivenOf, DrivenAfter, FlowOf, EndFlow, FreeAs, FlowingAfter. No statement is proved here.
-/
import Derived.Test.YtmjcefidhigppaaC11
import Derived.Test.YtmjcefidhigppaaC11h
import Derived.Test.YtmjcefidhigppaaC11j
namespace Go.Proofs.Ytmjcefidhigppaa
open Go.RowKit
set_option linter.unusedVariables false
set_option linter.unusedSimpArgs false

theorem steps11_any (T : Int) (w : World) : Calls Try.prog 51 #[.int .i64 T] w fun e w' => e = .returned (.bool (within T 0 60)) ∧ w = w' := by
  by_cases h : 0 ≤ T
  · go_enter Try.func51, Try.ntmps51
    go_wp2
    go_ret
    exact ⟨ret_bool (by unfold within; simp [h]), rfl⟩
  · have h' : decide (0 ≤ T) = false := by simpa using h
    go_enter Try.func51, Try.ntmps51
    go_wp2
    go_ret
    exact ⟨ret_bool (by unfold within; simp; omega), rfl⟩

set_option maxHeartbeats 1600000 in
theorem implFlowOf_any (A : Option Addr) (n c : Nat) (l : List Int) (w : World) (hs : Sl w w.heap.size A n l) :
    Calls Try.prog 22 #[.slice A n c] w fun e w' => e = .returned (.int .i64 (flowOut l)) ∧ Below w.heap.size w w' := by
  have HL := hid hs.len
  have CK := hid (bitsI_any A n c l w w.heap.size hs)
  cases hok : bitsOk l with
  | false =>
    have HV := hid (show flowOut l = -1 from by unfold flowOut; rw [hok]; rfl)
    rw [hok] at CK
    clear hok
    go_enter Try.func22, Try.ntmps22
    go_wp2_with fail
    with_reducible refine Calls.mono CK.out ?_
    rintro e w' ⟨rfl, rfl⟩
    go_wp2
    go_ret
    exact ⟨ret_int HV.out.symm, Below.refl _ _⟩
  | true =>
    obtain ⟨hb, h1, h2⟩ := bitsOk_iff.1 hok
    rw [HL.out] at h1 h2
    have HV := hid (show flowOut l = (flowN l : Int) from by unfold flowOut; rw [if_pos hok])
    rw [hok] at CK
    have CV := hid (bitRingOf_any A n c l w hs h2 hb)
    have CF := hid (fun W : World => flow_any l n W HL.out h1 h2 hb)
    clear hok hb hs
    go_enter Try.func22, Try.ntmps22
    go_wp2_with fail
    with_reducible refine Calls.mono CK.out ?_
    rintro e w' ⟨rfl, rfl⟩
    go_wp2_with fail
    with_reducible refine Calls.mono CV.out ?_
    rintro e w1 ⟨rfl, b1⟩
    have B1 := hid b1
    clear b1
    go_wp2_with fail
    with_reducible refine Calls.mono (CF.out _) ?_
    rintro e w2 ⟨rfl, b2⟩
    have B2 := hid (below_tr B1.out b2)
    clear b2
    go_wp2
    go_ret
    exact ⟨ret_int HV.out.symm, B2.out⟩

set_option maxHeartbeats 1600000 in
theorem implEndFlow_any (A : Option Addr) (n c : Nat) (l : List Int) (w : World) (hs : Sl w w.heap.size A n l) :
    Calls Try.prog 30 #[.slice A n c] w fun e w' => e = .returned (.int .i64 (endOut l)) ∧ Below w.heap.size w w' := by
  have HL := hid hs.len
  have CK := hid (bitsI_any A n c l w w.heap.size hs)
  have CO := hid (implOnesOf_any A n c l w hs)
  cases hok : bitsOk l with
  | false =>
    have HV := hid (show endOut l = -1 from by unfold endOut; rw [hok]; rfl)
    rw [hok] at CK
    clear hok
    go_enter Try.func30, Try.ntmps30
    go_wp2_with fail
    with_reducible refine Calls.mono CK.out ?_
    rintro e w' ⟨rfl, rfl⟩
    go_wp2
    go_ret
    exact ⟨ret_int HV.out.symm, Below.refl _ _⟩
  | true =>
    obtain ⟨hb, h1, h2⟩ := bitsOk_iff.1 hok
    have hle := ones_le l
    have hv : endOut l = ((min (ones l) (l.length - ones l) : Nat) : Int) := by unfold endOut; rw [if_pos hok]; rfl
    rw [show onesOut l = (ones l : Int) from by unfold onesOut; rw [if_pos hok]] at CO
    rw [HL.out] at h1 h2 hle hv
    obtain ⟨q, hq⟩ : ∃ q, ones l = q := ⟨_, rfl⟩
    rw [hq] at hv hle CO
    have HV := hid hv
    have w1 : IntKind.i64.wrap ((n : Int) - (q : Int)) = (n : Int) - (q : Int) := IntWalk.i64_in _ (by omega)
    have hmn : min (q : Int) ((n : Int) - (q : Int)) = ((min q (n - q) : Nat) : Int) := by omega
    rw [hok] at CK
    clear hok hs hb hv hq
    go_enter Try.func30, Try.ntmps30
    go_wp2_with fail
    with_reducible refine Calls.mono CK.out ?_
    rintro e w' ⟨rfl, rfl⟩
    go_wp2_with fail
    with_reducible refine Calls.mono CO.out ?_
    rintro e w2 ⟨rfl, b2⟩
    have B2 := hid b2
    clear b2
    go_wp2
    go_ret
    exact ⟨ret_int (by rw [HV.out]), B2.out⟩

set_option maxHeartbeats 1600000 in
theorem implFreeAs_any (A : Option Addr) (n c : Nat) (l : List Int) (w : World) (hs : Sl w w.heap.size A n l) :
    Calls Try.prog 35 #[.slice A n c] w fun e w' => ∃ A2 m c2, e = .returned (.slice A2 m c2) ∧ w'.ownsRow w.heap.size 3 1 (.slice A2 m c2) m (ints (freeOut l)) ∧ m ≤ 16 ∧ Below w.heap.size w w' := by
  have HL := hid hs.len
  have CK := hid (bitsI_any A n c l w w.heap.size hs)
  cases hok : bitsOk l with
  | false =>
    have HV := hid (show freeOut l = [] from by unfold freeOut; rw [hok]; rfl)
    rw [hok] at CK
    clear hok
    go_enter Try.func35, Try.ntmps35
    go_wp2_with fail
    with_reducible refine Calls.mono CK.out ?_
    rintro e w' ⟨rfl, rfl⟩
    go_wp2
    go_ret
    exact ⟨_, 0, _, rfl, by rw [HV.out]; exact World.ownsRow_nil _ _ _ _, by omega, Below.refl _ _⟩
  | true =>
    obtain ⟨hb, h1, h2⟩ := bitsOk_iff.1 hok
    rw [HL.out] at h1 h2
    have HV := hid (show freeOut l = freeL l from by unfold freeOut; rw [if_pos hok])
    rw [hok] at CK
    have CV := hid (bitRingOf_any A n c l w hs h2 hb)
    have CF := hid (fun W : World => freeAs_any l n W HL.out h1 h2 hb)
    have CR := hid (fun W : World => voteRow_any (freeL l) n W (by rw [freeL_len, HL.out]) (by omega) (freeL_bits hb))
    rw [pk_pb] at CR
    have hf1 := fld_vr (pb (freeL l) n) n
    clear hok hb hs
    go_enter Try.func35, Try.ntmps35
    go_wp2_with fail
    with_reducible refine Calls.mono CK.out ?_
    rintro e w' ⟨rfl, rfl⟩
    go_wp2_with fail
    with_reducible refine Calls.mono CV.out ?_
    rintro e w1 ⟨rfl, b1⟩
    have B1 := hid b1
    clear b1
    go_wp2_with fail
    with_reducible refine Calls.mono (CF.out _) ?_
    rintro e w2 ⟨rfl, b2⟩
    have B2 := hid (below_tr B1.out b2)
    clear b2 B1
    go_wp2_with fail
    with_reducible refine Calls.mono (CR.out _) ?_
    rintro e w3 ⟨A3, c3, rfl, o3, b3⟩
    have O3 := hid (own_mono o3 B2.out.size)
    have B3 := hid (below_tr B2.out b3)
    clear b3 o3 B2
    go_wp2
    go_ret
    exact ⟨_, n, _, rfl, by rw [HV.out]; exact O3.out, h2, B3.out⟩

set_option maxRecDepth 100000 in
set_option maxHeartbeats 3200000 in
theorem implDrivenAfter_any (A : Option Addr) (n c : Nat) (l : List Int) (s : Int) (w : World) (hs : Sl w w.heap.size A n l) :
    Calls Try.prog 28 #[.slice A n c, .int .i64 s] w fun e w' => ∃ A2 m c2, e = .returned (.slice A2 m c2) ∧ w'.ownsRow w.heap.size 3 1 (.slice A2 m c2) m (ints (drivenAft l s)) ∧ m ≤ 16 ∧ Below w.heap.size w w' := by
  have HL := hid hs.len
  have CK := hid (bitsI_any A n c l w w.heap.size hs)
  have CS := hid (steps11_any s w)
  cases hok : (bitsOk l && within s 0 60) with
  | false =>
    have HV := hid (show drivenAft l s = [] from by unfold drivenAft; rw [hok]; rfl)
    cases h0 : bitsOk l with
    | false =>
      rw [h0] at CK
      clear hok h0 CS
      go_enter Try.func28, Try.ntmps28
      go_wp2_with (go_at_call 19; with_reducible refine Calls.mono CK.out ?_; rintro e w' ⟨rfl, rfl⟩)
      go_ret
      exact ⟨_, 0, _, rfl, by rw [HV.out]; exact World.ownsRow_nil _ _ _ _, by omega, Below.refl _ _⟩
    | true =>
      rw [h0, Bool.true_and] at hok
      rw [h0] at CK
      rw [hok] at CS
      clear h0 hok
      go_enter Try.func28, Try.ntmps28
      go_wp2_with (first | (go_at_call 19; with_reducible refine Calls.mono CK.out ?_; rintro e w' ⟨rfl, rfl⟩) | (go_at_call 51; with_reducible refine Calls.mono CS.out ?_; rintro e w' ⟨rfl, rfl⟩))
      go_ret
      exact ⟨_, 0, _, rfl, by rw [HV.out]; exact World.ownsRow_nil _ _ _ _, by omega, Below.refl _ _⟩
  | true =>
    have hok2 : bitsOk l = true ∧ within s 0 60 = true := by simpa using hok
    obtain ⟨h0, hws⟩ := hok2
    obtain ⟨hb, h1, h2⟩ := bitsOk_iff.1 h0
    rw [HL.out] at h1 h2
    have hsb := within_iff.1 hws
    obtain ⟨S, rfl⟩ : ∃ S : Nat, s = S := Int.eq_ofNat_of_zero_le hsb.1
    have hS : S ≤ 60 := by omega
    have HV := hid (show drivenAft l S = driveI S l from by unfold drivenAft; rw [if_pos hok, Int.toNat_natCast])
    rw [h0] at CK
    rw [hws] at CS
    have CV := hid (bitRingOf_any A n c l w hs h2 hb)
    have HDL := hid (fun k => show (driveI k l).length = n from by rw [driveI_len, HL.out])
    have HDB := hid (fun k => (end_driveI hb k).2)
    have CD := hid (fun (k : Nat) (W : World) => driven_any (driveI k l) n W (HDL.out k) h1 h2 (HDB.out k))
    have CR := hid (fun W : World => voteRow_any (driveI S l) n W (HDL.out S) (by omega) (HDB.out S))
    rw [pk_pb] at CR
    clear hok h0 hb hs hws hsb
    go_enter Try.func28, Try.ntmps28
    go_wp2_with (first | (go_at_call 19; with_reducible refine Calls.mono CK.out ?_; rintro e w' ⟨rfl, rfl⟩) | (go_at_call 51; with_reducible refine Calls.mono CS.out ?_; rintro e w' ⟨rfl, rfl⟩))
    with_reducible refine Calls.mono CV.out ?_
    rintro e w1 ⟨rfl, b1⟩
    have hzb := b1.size
    have X1 := hid (Vr.new w1 (pb l n) n)
    have B1 := hid (b1.alloc (by omega) (.cells #[.int .u64 (pb l n : Nat), .int .i64 n] 45))
    have hz2 : (w1.alloc (.cells #[.int .u64 (pb l n : Nat), .int .i64 n] 45)).heap.size = w1.heap.size + 1 := by simp
    clear CV b1
    go_wp2_with fail
    obtain ⟨b, hbe⟩ : ∃ b, w1.heap.size = b := ⟨_, rfl⟩
    obtain ⟨w2, hw2⟩ : ∃ W, w1.alloc (.cells #[.int .u64 (pb l n : Nat), .int .i64 n] 45) = W := ⟨_, rfl⟩
    rw [hbe] at X1 hz2 hzb ⊢
    rw [hw2] at X1 B1 hz2 ⊢
    clear hw2 hbe
    have X2 : Hid (Vr w2 b (pb (driveI 0 l) n) n) := hid X1.out
    clear X1
    go_loopw [17] (fun i wr => ∃ k : Nat, i = .int .i64 k ∧ k ≤ S ∧ Hid (Vr wr b (pb (driveI k l) n) n) ∧ b < wr.heap.size ∧ Hid (Below w.heap.size w wr)) (fun i _ => S - (intOf i).toNat)
    case atStart => exact ⟨0, rfl, Nat.zero_le _, X2, by omega, B1⟩
    case round =>
      clear X2 hz2 B1
      obtain ⟨k, rfl, hk, X, hbz, HB⟩ := hrel
      have c0 := X.out.c0
      have c1 := X.out.c1
      by_cases hlt : k < S
      · have hlt2 : (k : Int) < (S : Int) := by omega
        have CDk := hid (CD.out k)
        rw [← driveI_last] at CDk
        obtain ⟨x, hx⟩ : ∃ x, pb (driveI k l) n = x := ⟨_, rfl⟩
        obtain ⟨y, hy⟩ : ∃ y, pb (driveI (k + 1) l) n = y := ⟨_, rfl⟩
        rw [hx] at c0 CDk X
        rw [hy] at CDk
        have HYY := hid hy
        clear hx hy
        go_wp2_with fail
        with_reducible refine Calls.mono (CDk.out _) ?_
        rintro e w4 ⟨rfl, b4⟩
        have hs4 := b4.size
        have X4 := X.out.below b4 (by omega)
        have f0 := X4.fz 0
        have f1 := X4.fz 1
        have j0 := X4.c0
        have j1 := X4.c1
        have X5 : Hid (Vr ((w4.setCell ⟨b, 0, none⟩ (.int .u64 y)).setCell ⟨b, 1, none⟩ (.int .i64 n)) b (pb (driveI (k + 1) l) n) n) := hid (by rw [HYY.out]; exact X4.set y n)
        have B5 := hid (((HB.out.trans (b4.mono (by omega))).setCell (p := ⟨b, 0, none⟩) (by simp only []; omega) (.int .u64 y)).setCell (p := ⟨b, 1, none⟩) (by simp only []; omega) (.int .i64 n))
        have hz5 : ((w4.setCell ⟨b, 0, none⟩ (.int .u64 y)).setCell ⟨b, 1, none⟩ (.int .i64 n)).heap.size = w4.heap.size := by simp [World.setCell]
        clear X4 b4 HB X c0 c1
        go_wp2_with fail
        go_roundw
        case rel => exact ⟨k + 1, by go_num, by omega, X5, by omega, B5⟩
        case measure => simp [intOf]; omega
      · obtain rfl : k = S := by omega
        obtain ⟨x, hx⟩ : ∃ x, pb (driveI k l) n = x := ⟨_, rfl⟩
        rw [hx] at c0 CR
        clear hx X
        go_wp2_with fail
        with_reducible refine Calls.mono (CR.out _) ?_
        rintro e w3 ⟨A3, c3, rfl, o3, b3⟩
        have O3 := hid (own_mono o3 HB.out.size)
        have B3 := hid (below_tr HB.out b3)
        clear b3 o3
        go_wp2
        go_ret
        exact ⟨_, n, _, rfl, by rw [HV.out]; exact O3.out, h2, B3.out⟩

set_option maxHeartbeats 800000 in
theorem implDrivenOf_any (A : Option Addr) (n c : Nat) (l : List Int) (w : World) (hs : Sl w w.heap.size A n l) :
    Calls Try.prog 16 #[.slice A n c] w fun e w' => ∃ A2 m c2, e = .returned (.slice A2 m c2) ∧ w'.ownsRow w.heap.size 3 1 (.slice A2 m c2) m (ints (drivenOut l)) ∧ m ≤ 16 ∧ Below w.heap.size w w' := by
  have HE := hid (show drivenAft l 1 = drivenOut l from by
    unfold drivenAft drivenOut
    rw [show within 1 0 60 = true from by decide, Bool.and_true]
    rfl)
  have CA := hid (implDrivenAfter_any A n c l 1 w hs)
  rw [HE.out] at CA
  go_enter Try.func16, Try.ntmps16
  go_wp2_with fail
  with_reducible refine Calls.mono CA.out ?_
  rintro e w3 ⟨A3, m, c3, rfl, o3, hm, b3⟩
  have O3 := hid o3
  have B3 := hid b3
  clear o3 b3
  go_wp2
  go_ret
  exact ⟨_, m, _, rfl, O3.out, hm, B3.out⟩

attribute [local go_sem] Oper.semAt_some

set_option maxRecDepth 100000 in
set_option maxHeartbeats 3200000 in
theorem flowing_yes (A : Option Addr) (n c : Nat) (l : List Int) (w : World) (hs : Sl w w.heap.size A n l) (hok : bitsOk l = true) :
    Calls Try.prog 39 #[.slice A n c] w fun e w' => e = .returned (.int .i64 (flowingOut l)) ∧ Below w.heap.size w w' := by
  have HL := hid hs.len
  obtain ⟨hb, h1, h2⟩ := bitsOk_iff.1 hok
  rw [HL.out] at h1 h2
  obtain ⟨hk1, hk2, hk3⟩ := flowK_spec hok
  rw [HL.out] at hk3
  have HKE := hid hk1
  have HK := hid hk3
  clear hk1 hk2 hk3
  have HOK := hid hok
  have HV := hid (show flowingOut l = (flowK l : Int) from by unfold flowingOut; rw [if_pos hok])
  have CK := hid (bitsI_any A n c l w w.heap.size hs)
  rw [hok] at CK
  obtain ⟨T, hT⟩ : ∃ T, n / 2 = T := ⟨_, rfl⟩
  have hT8 : T ≤ 8 := by omega
  have htd : ((n : Int)).tdiv 2 = (T : Int) := by rw [Int.tdiv_eq_ediv_of_nonneg (by omega)]; omega
  have hwt : IntKind.i64.wrap (T : Int) = (T : Int) := IntWalk.i64_in _ (by omega)
  have HTT := hid hT
  clear hT
  obtain ⟨E, hE⟩ : ∃ E, endN l = E := ⟨_, rfl⟩
  have hE16 : E ≤ 16 := by rw [← hE]; unfold endN; have := ones_le l; rw [HL.out] at this; omega
  have hEO : endOut l = (E : Int) := by rw [← hE]; unfold endOut; rw [if_pos hok]
  have HEE := hid hE
  have hz0 : (w.alloc (.cells #[.int .i64 0] 3)).heap.size = w.heap.size + 1 := by simp
  have b0 : Below w.heap.size w (w.alloc (.cells #[.int .i64 0] 3)) := (Below.refl _ _).alloc (Nat.le_refl _) _
  have CE := hid (implEndFlow_any A n c l _ (hs.on b0))
  rw [hEO] at CE
  have CV := hid (fun (W : World) (hW : Below w.heap.size w W) => bitRingOf_any A n c l W (hs.on hW) h2 hb)
  have HB0 := hid b0
  have HBB := hid hb
  have X0 := Boxed.new w 3 (.int .i64 0)
  have HX0 := hid X0
  have HZ0 := hid hz0
  clear hE hEO hok hb b0 X0 hz0 hs
  refine (callsIn_wide (n := 5)).1 ?_
  have hwd : Fence.wide.depth.isSome = false := rfl
  have hwr : Fence.wide.round = none := rfl
  have hf1 : Fence.wide.fn 19 := trivial
  have hf2 : Fence.wide.fn 30 := trivial
  have hf3 : Fence.wide.fn 57 := trivial
  have hf4 : Fence.wide.fn 48 := trivial
  refine callsIn_of_wp_marks Try.func39 rfl trivial ?_ rfl
  simp only [Try.ntmps39, List.size_toArray, List.length_cons, List.length_nil, Nat.reduceAdd, Nat.reduceSub, Array.replicate_succ, Array.replicate_zero, List.push_toArray, List.append_toArray, List.nil_append, List.cons_append]
  gi_wp2_with (first
    | (gi_at_call 19; refine (callsIn_wide.2 CK.out).mono ?_; rintro e w' ⟨rfl, rfl⟩)
    | (gi_at_call 30; refine (callsIn_wide.2 CE.out).mono ?_; rintro e w2 ⟨rfl, b2⟩; rw [HZ0.out] at b2)
    | (gi_at_call 48; refine (callsIn_wide.2 (CV.out _ ((HB0.out.trans (b2.mono (by omega))).alloc (by have h := b2.size; rw [HZ0.out] at h; omega) _))).mono ?_; rintro e w3 ⟨rfl, b3⟩)
    | (gi_at_call 57; refine (callsIn_wide.2 (flowsF_any _ _ _ _)).mono ?_; rintro e w' ⟨rfl, rfl⟩))
  obtain ⟨z, hz⟩ : ∃ z, w2.heap.size = z := ⟨_, rfl⟩
  have hz2 : w.heap.size + 1 ≤ z := by rw [← hz]; have h := b2.size; rw [HZ0.out] at h; exact h
  have hza : (w2.alloc (.cells #[.int .i64 E] 3)).heap.size = z + 1 := by rw [← hz]; simp
  rw [hza] at b3
  have hz3 : z + 1 ≤ w3.heap.size := by have h := b3.size; rw [hza] at h; exact h
  have b4 : Below w.heap.size w (w2.alloc (.cells #[.int .i64 E] 3)) := (HB0.out.trans (b2.mono (by omega))).alloc (by omega) _
  have b5 : Below w.heap.size w w3 := b4.trans (b3.mono (by omega))
  have y0 : Boxed w3 w.heap.size 3 (.int .i64 0) := (b3.block _ (by omega)).trans (Boxed.alloc ((b2.block _ (by omega)).trans HX0.out) _)
  have y1 : Boxed w3 z 3 (.int .i64 E) := (b3.block _ (by omega)).trans (by rw [← hz]; exact Boxed.new w2 _ _)
  rw [hz]
  obtain ⟨g, hg⟩ : ∃ g, w3.heap.size = g := ⟨_, rfl⟩
  rw [hg] at hz3 ⊢
  obtain ⟨W0, hW0⟩ : ∃ W0 : World, (w3.alloc (.cells #[.int .u64 (pb l n : Nat), .int .i64 n] 45)).alloc (.cells #[.int .i64 T] 3) = W0 := ⟨_, rfl⟩
  rw [hW0]
  have hsz : W0.heap.size = g + 2 := by rw [← hW0, ← hg]; simp
  have hb0 : Below w.heap.size w W0 := by rw [← hW0]; exact (b5.alloc (by omega) _).alloc (by simp; omega) _
  have x0 : Boxed W0 w.heap.size 3 (.int .i64 0) := by rw [← hW0]; exact (y0.alloc _).alloc _
  have x1 : Boxed W0 z 3 (.int .i64 E) := by rw [← hW0]; exact (y1.alloc _).alloc _
  have v1 : Vr W0 g (pb l n) n := by rw [← hW0, ← hg]; exact (Vr.new w3 (pb l n) n).on (row := none) (grown_alloc _ _ none) (by simp)
  have hc2 : W0.cell? ⟨g + 1, 0, none⟩ = some (.int .i64 T) := by
    rw [← hW0, ← hg]
    have h1 := Boxed.new (w3.alloc (.cells #[.int .u64 (pb l n : Nat), .int .i64 n] 45)) 3 (.int .i64 T)
    rw [World.size_alloc] at h1
    exact h1.cell
  clear hW0 hg y0 y1 b5 b4 b3 b2 hza hz CE CV HX0 HZ0 HB0 CK
  have eg : ∀ args w, (callFunc 67 args).run Try.prog w = .ok (.enter 67 args) w := enters_of Try.func67 (by kernel_rfl) rfl
  refine range_bareX (n := 5) rfl eg ?_
  intro rc W1 hs1 hb1 hl1 hd1 hY
  have hbW := hb0.trans (hb1.mono (by omega))
  refine (flows_in (5 - 1) (W0.heap.size + 1) g n T l
    (fun k W => W.heap[W0.heap.size + 1]? = some (.loop (rc .ready none)) ∧ W.heap[W0.heap.size]? = some (.deferred (some [])) ∧
      Boxed W w.heap.size 3 (.int .i64 k) ∧ Boxed W z 3 (.int .i64 E) ∧ (∀ j, j < k → flowN (driveI j l) ≠ E) ∧ Below w.heap.size w W)
    (fun W => ∃ k : Nat, k ≤ T ∧ W.heap[W0.heap.size + 1]? = some (.loop (rc .done (some (.exit 0)))) ∧ W.heap[W0.heap.size]? = some (.deferred (some [])) ∧
      Boxed W w.heap.size 3 (.int .i64 k) ∧ flowK l = k ∧ Below w.heap.size w W) W1 (W0.heap.size + 2) hs1
    HL.out h1 h2 HBB.out (by omega) ((hb1.block _ (by omega)).trans v1) ((hb1.cell (p := ⟨g + 1, 0, none⟩) (by simp; omega)).trans hc2) (by omega) ?kept ?yields ?start).mono ?behind
  case kept =>
    rintro k x W W' ⟨g1, g2, g3, g4, g5, g6⟩ hm hgr
    have hlt : W0.heap.size + 2 < W.heap.size := hm.lt
    exact ⟨(hgr.block _ (by omega) (by simp)).trans g1, (hgr.block _ (by omega) (by simp)).trans g2, g3.kept hgr (by simp; omega), g4.kept hgr (by simp; omega), g5, g6.grown hgr g6.size (by intro i hi; cases hi; omega)⟩
  case start =>
    intro W hgr
    exact ⟨(hgr.block _ (by omega) (by simp)).trans hl1, (hgr.block _ (by omega) (by simp)).trans hd1, Boxed.kept (W := W1) ((hb1.block _ (by omega)).trans x0) hgr (by simp), Boxed.kept (W := W1) ((hb1.block _ (by omega)).trans x1) hgr (by simp), fun j h => absurd h (by omega), hbW.trans ((below_grown hgr).mono hbW.size)⟩
  case yields =>
    rintro k x W ⟨hl, hd, hv, hu, hpre, hb⟩ hm hkT
    refine hY #[.int .i64 (flowN (driveI k l))] W _ rfl hl ⟨?a1, ?w1, ?assign, ?ready, ?body⟩
    case assign =>
      intro K hK
      gi_wp2
      exact hK
    case ready => exact hl
    have hsW : w.heap.size ≤ W.heap.size := hb.size
    have hlW : W0.heap.size + 1 < W.heap.size := (Array.getElem?_eq_some_iff.1 hl).1
    obtain ⟨Wb, hWb⟩ : ∃ Wb, W.putObj (W0.heap.size + 1) (.loop (rc .busy none)) = Wb := ⟨_, rfl⟩
    rw [hWb]
    have lb : Wb.heap[W0.heap.size + 1]? = some (.loop (rc .busy none)) := by rw [← hWb]; exact World.putObj_heap_same hlW
    have db : Wb.heap[W0.heap.size]? = some (.deferred (some [])) := by rw [← hWb]; exact (World.putObj_heap_other (by omega)).trans hd
    have vb : Boxed Wb w.heap.size 3 (.int .i64 k) := by rw [← hWb]; exact boxed_putX hv _ (by omega)
    have ub : Boxed Wb z 3 (.int .i64 E) := by rw [← hWb]; exact boxed_putX hu _ (by omega)
    have bb : Below w.heap.size w Wb := by rw [← hWb]; exact below_putX hb _ (by omega) hsW
    have mb : Vr Wb (W0.heap.size + 2) x n := by rw [← hWb]; exact (World.putObj_heap_other (by omega)).trans hm
    have hc1 := vb.cell
    have hf1 := vb.frozen
    have hc2 := ub.cell
    have hzz : z + 1 < W0.heap.size := by omega
    clear hl hd hv hu hb hWb hm hsz
    by_cases hfl : flowN (driveI k l) = E
    · have HV2 := hid (show flowK l = k from flowK_at HOK.out (by rw [hfl, HEE.out]) (by rw [HEE.out]; exact hpre))
      rw [hfl]
      have hee : ((E : Int) == (E : Int)) = true := by simp
      clear hfl hpre
      gi_wp2
      exact ⟨lb, .inr ⟨rfl, k, hkT, World.putObj_heap_same (Array.getElem?_eq_some_iff.1 lb).1, (World.putObj_heap_other (by omega)).trans db, boxed_putX vb _ (by omega), HV2.out, below_putX bb _ (by omega) bb.size⟩⟩
    · have HP := hid (show ∀ j, j < k + 1 → flowN (driveI j l) ≠ E from fun j hj => by
        by_cases h : j < k
        · exact hpre j h
        · obtain rfl : j = k := by omega
          exact hfl)
      obtain ⟨f, hf⟩ : ∃ f, flowN (driveI k l) = f := ⟨_, rfl⟩
      rw [hf] at hfl ⊢
      have hee : ((f : Int) == (E : Int)) = false := by simp; omega
      have hee2 : ¬ (f : Int) = (E : Int) := by omega
      have HE1 := hid (show (k : Int) + 1 = ((k + 1 : Nat) : Int) from by omega)
      have V2 := hid (vb.set (.int .i64 ((k : Int) + 1)))
      have U2 := hid (Boxed.other (B' := w.heap.size) (u := .int .i64 ((k : Int) + 1)) ub (by omega))
      have hK3 := KeepsOthers.setCell Wb ⟨w.heap.size, 0, none⟩ (.int .i64 ((k : Int) + 1))
      have hl3 := hK3.same _ _ lb rfl
      have hd3 := hK3.same _ _ db rfl
      have b3 := hid (bb.setCell (p := ⟨w.heap.size, 0, none⟩) (Nat.le_refl _) (.int .i64 ((k : Int) + 1)))
      have m3 := hid (show Vr (Wb.setCell ⟨w.heap.size, 0, none⟩ (.int .i64 ((k : Int) + 1))) (W0.heap.size + 2) x n from (heap_setCell_other Wb ⟨w.heap.size, 0, none⟩ _ _ (by simp; omega)).trans mb)
      clear hf hfl hpre mb bb vb ub
      gi_wp2
      exact ⟨hl3, .inl ⟨rfl, ⟨World.putObj_heap_same (Array.getElem?_eq_some_iff.1 hl3).1, (World.putObj_heap_other (by omega)).trans hd3, boxed_putX V2.out _ (by omega), boxed_putX U2.out _ (by omega), HP.out, below_putX b3.out _ (by omega) b3.out.size⟩, (World.putObj_heap_other (by omega)).trans m3.out⟩⟩
  case behind =>
    rintro e W' ⟨hv, (⟨hl, hd, hv2, hu2, hall, hb⟩ | ⟨k, hkT, hl, hd, hv2, hst, hb⟩)⟩
    · exact absurd HKE.out (by rw [HEE.out]; exact hall (flowK l) (by have := HK.out; have := HTT.out; omega))
    · refine ⟨hv, .inr ⟨_, hl, fun o => ?_⟩⟩
      obtain ⟨W2, hW2⟩ : ∃ W2, W'.putObj (W0.heap.size + 1) o = W2 := ⟨_, rfl⟩
      rw [hW2]
      have hcv : W2.cell? ⟨w.heap.size, 0, none⟩ = some (.int .i64 k) := by rw [← hW2]; exact (boxed_putX hv2 _ (by omega)).cell
      have hK2 : W2.heap[W0.heap.size]? = some (.deferred (some [])) := by rw [← hW2]; exact (World.putObj_heap_other (by omega)).trans hd
      have hb2 : Below w.heap.size w W2 := by rw [← hW2]; exact below_putX hb _ (by omega) hb.size
      have HST := hid hst
      have hzz : z + 1 < W0.heap.size := by omega
      clear hW2 hb hl hd hv2 hst hsz
      gi_wp2
      refine ⟨by simp, .inl ⟨_, _, rfl, run_takeDeferred hK2, ?_⟩⟩
      exact ⟨_, results_tmp rfl _ _ _, by rw [HV.out, HST.out]; rfl, below_putX hb2 _ (by omega) hb2.size⟩

theorem implFlowingAfter_any (A : Option Addr) (n c : Nat) (l : List Int) (w : World) (hs : Sl w w.heap.size A n l) :
    Calls Try.prog 39 #[.slice A n c] w fun e w' => e = .returned (.int .i64 (flowingOut l)) ∧ Below w.heap.size w w' := by
  cases hok : bitsOk l with
  | true => exact flowing_yes A n c l w hs hok
  | false =>
    have HL := hid hs.len
    have CK := hid (bitsI_any A n c l w w.heap.size hs)
    have HV := hid (show flowingOut l = -1 from by unfold flowingOut; rw [hok]; rfl)
    rw [hok] at CK
    clear hok
    go_enter Try.func39, Try.ntmps39
    go_wp2_with fail
    with_reducible refine Calls.mono CK.out ?_
    rintro e w' ⟨rfl, rfl⟩
    go_wp2
    go_ret
    exact ⟨ret_int HV.out.symm, Below.refl _ _⟩
end Go.Proofs.Ytmjcefidhigppaa
