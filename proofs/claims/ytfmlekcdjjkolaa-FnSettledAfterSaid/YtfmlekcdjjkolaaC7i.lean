/-
  Walks of the program's VotedAfter, VotedOf, OpposedOf, SettledAfter. No statement is proved here.
-/
import Derived.Test.YtfmlekcdjjkolaaC7h
import Derived.Test.YtfmlekcdjjkolaaC7b
import Derived.Test.YtfmlekcdjjkolaaC7s
namespace Go.Proofs.Ytfmlekcdjjkolaa
open Go.RowKit
set_option linter.unusedVariables false
set_option linter.unusedSimpArgs false

set_option maxRecDepth 100000 in
set_option maxHeartbeats 3200000 in
theorem implOpposedOf_any (A : Option Addr) (n c : Nat) (l : List Int) (w : World) (hs : Sl w w.heap.size A n l) :
    Calls Try.prog 25 #[.slice A n c] w fun e w' => ∃ A2 m c2, e = .returned (.slice A2 m c2) ∧ w'.ownsRow w.heap.size 3 1 (.slice A2 m c2) m (ints (oppOut l)) ∧ m ≤ 40 ∧ Below w.heap.size w w' := by
  have HL := hid hs.len
  have CK := hid (votesI_any A n c l w w.heap.size hs)
  cases hok : votesOk l with
  | false =>
    have HV := hid (show oppOut l = [] from by unfold oppOut; rw [hok]; rfl)
    rw [hok] at CK
    clear hok
    go_enter Try.func25, Try.ntmps25
    go_wp2_with fail
    with_reducible refine Calls.mono CK.out ?_
    rintro e w' ⟨rfl, rfl⟩
    go_wp2
    go_ret
    exact ⟨_, 0, _, rfl, by rw [HV.out]; exact World.ownsRow_nil _ _ _ _, by omega, Below.refl _ _⟩
  | true =>
    have HV := hid (show oppOut l = oppL l from by unfold oppOut; rw [if_pos hok])
    obtain ⟨⟨h1, h2⟩, hb⟩ := votesOk_iff.1 hok
    rw [HL.out] at h1 h2
    rw [hok] at CK
    have CV := hid (votesOf_any A n c l w hs h2 hb)
    have CO := hid (fun W : World => opposed_any l n W HL.out h2 hb)
    have CR := hid (fun W : World => voteRow_any (oppL l) n W (by rw [opp_len, HL.out]) h2 (opp_bits hb))
    clear hok hb hs
    go_enter Try.func25, Try.ntmps25
    go_wp2_with fail
    with_reducible refine Calls.mono CK.out ?_
    rintro e w' ⟨rfl, rfl⟩
    go_wp2_with fail
    with_reducible refine Calls.mono CV.out ?_
    rintro e w1 ⟨rfl, b1⟩
    go_wp2_with fail
    with_reducible refine Calls.mono (CO.out w1) ?_
    rintro e w2 ⟨rfl, b2⟩
    go_wp2_with fail
    with_reducible refine Calls.mono (CR.out w2) ?_
    rintro e w3 ⟨A3, c3, rfl, o3, b3⟩
    have HB2 := hid (b1.trans (b2.mono b1.size))
    have O3 := hid (own_mono o3 HB2.out.size)
    have HB3 := hid (HB2.out.trans (b3.mono HB2.out.size))
    clear b1 b2 b3 o3
    go_wp2
    go_ret
    exact ⟨_, n, _, rfl, by rw [HV.out]; exact O3.out, h2, HB3.out⟩

set_option maxRecDepth 100000 in
set_option maxHeartbeats 3200000 in
theorem implVotedAfter_any (A : Option Addr) (n c : Nat) (l : List Int) (s : Int) (w : World) (hs : Sl w w.heap.size A n l) :
    Calls Try.prog 17 #[.slice A n c, .int .i64 s] w fun e w' => ∃ A2 m c2, e = .returned (.slice A2 m c2) ∧ w'.ownsRow w.heap.size 3 1 (.slice A2 m c2) m (ints (votedN l s)) ∧ m ≤ 40 ∧ Below w.heap.size w w' := by
  have HL := hid hs.len
  have CK := hid (votesI_any A n c l w w.heap.size hs)
  cases hok : (votesOk l && within s 0 60) with
  | false =>
    have HV := hid (show votedN l s = [] from by unfold votedN; rw [hok]; rfl)
    cases h0 : votesOk l with
    | false =>
      rw [h0] at CK
      clear hok h0
      go_enter Try.func17, Try.ntmps17
      go_wp2_with fail
      with_reducible refine Calls.mono CK.out ?_
      rintro e w' ⟨rfl, rfl⟩
      go_wp2
      go_ret
      exact ⟨_, 0, _, rfl, by rw [HV.out]; exact World.ownsRow_nil _ _ _ _, by omega, Below.refl _ _⟩
    | true =>
      rw [h0, Bool.true_and] at hok
      rw [h0] at CK
      clear h0
      go_enter Try.func17, Try.ntmps17
      go_wp2_with fail
      with_reducible refine Calls.mono CK.out ?_
      rintro e w' ⟨rfl, rfl⟩
      go_wp2_with (go_at_call 37; refine (stepsOk7_any _ _).mono ?_; rintro e w' ⟨rfl, rfl⟩)
      go_ret
      exact ⟨_, 0, _, rfl, by rw [HV.out]; exact World.ownsRow_nil _ _ _ _, by omega, Below.refl _ _⟩
  | true =>
    have hok2 : votesOk l = true ∧ within s 0 60 = true := by simpa using hok
    obtain ⟨h0, hws⟩ := hok2
    obtain ⟨⟨h1, h2⟩, hb⟩ := votesOk_iff.1 h0
    rw [HL.out] at h1 h2
    have hsb := within_iff.1 hws
    obtain ⟨S, rfl⟩ : ∃ S : Nat, s = S := Int.eq_ofNat_of_zero_le hsb.1
    have HV := hid (show votedN l S = voteN S l from by unfold votedN; rw [if_pos hok, Int.toNat_natCast])
    rw [h0] at CK
    have HP := hid (fun k => voted_pk (n := n) (by rw [voteN_len, HL.out]) h1 (voteN_bits hb k))
    have CV := hid (votesOf_any A n c l w hs h2 hb)
    have CR := hid (fun W : World => voteRow_any (voteN S l) n W (by rw [voteN_len, HL.out]) h2 (voteN_bits hb S))
    clear hok h0 hb hs
    go_enter Try.func17, Try.ntmps17
    go_wp2_with fail
    with_reducible refine Calls.mono CK.out ?_
    rintro e w' ⟨rfl, rfl⟩
    go_wp2_with (first
      | (go_at_call 37; refine (stepsOk7_any _ _).mono ?_; rintro e w' ⟨rfl, rfl⟩)
      | (go_at_call 38; with_reducible refine Calls.mono CV.out ?_; rintro e w1 ⟨rfl, b1⟩))
    have QX := hid (Vb.new w1 (pk l n) n)
    have QB := hid (b1.alloc b1.size (.cells #[.int .u64 (pk l n : Nat), .int .i64 n] 43))
    have hz1 : w1.heap.size + 1 ≤ (w1.alloc (.cells #[.int .u64 (pk l n : Nat), .int .i64 n] 43)).heap.size := by simp
    have hw1 := b1.size
    obtain ⟨b, hb⟩ : ∃ b, w1.heap.size = b := ⟨_, rfl⟩
    obtain ⟨w2, hw2⟩ : ∃ w2, w1.alloc (.cells #[.int .u64 (pk l n : Nat), .int .i64 n] 43) = w2 := ⟨_, rfl⟩
    rw [hw2] at QX QB hz1 ⊢
    rw [hb] at QX hz1 hw1 ⊢
    clear hw2 hb b1 CV
    go_loopw [17] (fun i wr => ∃ k : Nat, i = .int .i64 k ∧ k ≤ S ∧ Hid (Vb wr b (pk (voteN k l) n) n) ∧ b + 1 ≤ wr.heap.size ∧ Hid (Below w.heap.size w wr)) (fun i _ => S - (intOf i).toNat)
    case atStart => exact ⟨0, rfl, Nat.zero_le _, QX, hz1, QB⟩
    case round =>
      clear QX QB hz1
      obtain ⟨k, rfl, hk, QX, hz1, QB⟩ := hrel
      have d0 := QX.out.c0
      have d1 := QX.out.c1
      by_cases hlt : k < S
      · have hlt' : (k : Int) < (S : Int) := by omega
        have CW := hid (voted_any (pk (voteN k l) n) n wr h1 h2 (pk_lt _ _))
        rw [HP.out k, ← voteN_succ] at CW
        go_wp2_with (go_at_call 39; with_reducible refine Calls.mono CW.out ?_; rintro e w3 ⟨rfl, b3⟩; have Y := QX.out.below b3 (by omega); have g0 := Y.fz 0; have g1 := Y.fz 1; have j0 := Y.c0; have j1 := Y.c1)
        have hz3 := b3.size
        have Q1 := hid (Y.set (pk (voteN (k + 1) l) n) n)
        have Q2 := hid (((QB.out.trans (b3.mono QB.out.size)).setCell (p := ⟨b, 0, none⟩) hw1 (.int .u64 (pk (voteN (k + 1) l) n : Nat))).setCell (p := ⟨b, 1, none⟩) hw1 (.int .i64 n))
        have hz4 : b + 1 ≤ ((w3.setCell ⟨b, 0, none⟩ (.int .u64 (pk (voteN (k + 1) l) n : Nat))).setCell ⟨b, 1, none⟩ (.int .i64 n)).heap.size := by simp [World.setCell]; omega
        go_roundw
        case rel => exact ⟨k + 1, by go_num, by omega, Q1, hz4, Q2⟩
        case measure => simp [intOf]; omega
      · obtain rfl : k = S := by omega
        go_wp2_with fail
        with_reducible refine Calls.mono (CR.out wr) ?_
        rintro e w3 ⟨A3, c3, rfl, o3, b3⟩
        have O3 := hid (own_mono o3 QB.out.size)
        have HB3 := hid (QB.out.trans (b3.mono QB.out.size))
        clear b3 o3
        go_wp2
        go_ret
        exact ⟨_, n, _, rfl, by rw [HV.out]; exact O3.out, h2, HB3.out⟩

set_option maxHeartbeats 800000 in
theorem implVotedOf_any (A : Option Addr) (n c : Nat) (l : List Int) (w : World) (hs : Sl w w.heap.size A n l) :
    Calls Try.prog 20 #[.slice A n c] w fun e w' => ∃ A2 m c2, e = .returned (.slice A2 m c2) ∧ w'.ownsRow w.heap.size 3 1 (.slice A2 m c2) m (ints (votedOut l)) ∧ m ≤ 40 ∧ Below w.heap.size w w' := by
  have HE := hid (show votedN l 1 = votedOut l from by
    unfold votedN votedOut
    rw [show within 1 0 60 = true from by decide, Bool.and_true]
    rfl)
  have CA := hid (implVotedAfter_any A n c l 1 w hs)
  rw [HE.out] at CA
  go_enter Try.func20, Try.ntmps20
  go_wp2_with fail
  with_reducible refine Calls.mono CA.out ?_
  rintro e w3 ⟨A3, m, c3, rfl, o3, hm, b3⟩
  have O3 := hid o3
  have B3 := hid b3
  clear o3 b3
  go_wp2
  go_ret
  exact ⟨_, m, _, rfl, O3.out, hm, B3.out⟩

set_option maxRecDepth 100000 in
set_option maxHeartbeats 3200000 in
theorem implSettledAfter_any (A : Option Addr) (n c : Nat) (l : List Int) (w : World) (hs : Sl w w.heap.size A n l) :
    Calls Try.prog 22 #[.slice A n c] w fun e w' => e = .returned (.int .i64 (settleC l)) ∧ Below w.heap.size w w' := by
  have HL := hid hs.len
  have CK := hid (votesI_any A n c l w w.heap.size hs)
  cases hok : votesOk l with
  | false =>
    have HV := hid (show settleC l = -1 from by unfold settleC; rw [hok]; rfl)
    rw [hok] at CK
    clear hok
    go_enter Try.func22, Try.ntmps22
    go_wp2_with fail
    with_reducible refine Calls.mono CK.out ?_
    rintro e w' ⟨rfl, rfl⟩
    go_wp2
    go_ret
    exact ⟨ret_int HV.out.symm, Below.refl _ _⟩
  | true =>
    obtain ⟨⟨h1, h2⟩, hb⟩ := votesOk_iff.1 hok
    rw [HL.out] at h1 h2
    have HV := hid (show settleC l = settleL l from by unfold settleC; rw [if_pos hok])
    rw [hok] at CK
    have HP := hid (fun k => voted_pk (n := n) (by rw [voteN_len, HL.out]) h1 (voteN_bits hb k))
    have HS := hid (fun (k : Nat) (h : l.length ≤ 2 * k + 2) => voteN_still hb h)
    have HJ := hid (fun (k : Nat) (h : pk (voteN (k + 1) l) n = pk (voteN k l) n) => show voteL (voteN k l) = voteN k l from by
      rw [← voteN_succ]; exact pk_inj (by rw [voteN_len, HL.out]) (by rw [voteN_len, HL.out]) (voteN_bits hb _) (voteN_bits hb _) h)
    have CV := hid (votesOf_any A n c l w hs h2 hb)
    have CW := hid (fun (k : Nat) (W : World) => voted_any (pk (voteN k l) n) n W h1 h2 (pk_lt _ _))
    have CW' := hid (fun (k : Nat) (W : World) => by have h := CW.out k W; rw [HP.out k, ← voteN_succ] at h; exact h)
    clear hok hb hs
    go_enter Try.func22, Try.ntmps22
    go_wp2_with fail
    with_reducible refine Calls.mono CK.out ?_
    rintro e w' ⟨rfl, rfl⟩
    go_wp2_with fail
    with_reducible refine Calls.mono CV.out ?_
    rintro e w1 ⟨rfl, b1⟩
    have QX1 := hid (Vb.new w1 (pk l n) n)
    have QB1 := hid (b1.alloc b1.size (.cells #[.int .u64 (pk l n : Nat), .int .i64 n] 43))
    have hz1 : w1.heap.size + 1 = (w1.alloc (.cells #[.int .u64 (pk l n : Nat), .int .i64 n] 43)).heap.size := by simp
    have hw1 := b1.size
    go_wp2_with fail
    obtain ⟨a, ha⟩ : ∃ a, w1.heap.size = a := ⟨_, rfl⟩
    obtain ⟨w2, hw2⟩ : ∃ w2, w1.alloc (.cells #[.int .u64 (pk l n : Nat), .int .i64 n] 43) = w2 := ⟨_, rfl⟩
    rw [hw2] at QX1 QB1 hz1 ⊢
    rw [ha] at QX1 hz1 hw1 ⊢
    clear hw2 ha b1 CV
    refine Calls.mono (show Calls Try.prog 39 #[.agg #[.int .u64 (pk l n : Nat), .int .i64 n]] w2 _ from CW'.out 0 w2) ?_
    rintro e w3 ⟨rfl, b3⟩
    have hz3 := b3.size
    have QX3 := hid ((QX1.out.below b3 (by omega)).on (row := none) (grown_alloc _ (.cells #[.int .u64 (pk (voteN (0 + 1) l) n : Nat), .int .i64 n] 43) none) (by simp))
    have QY3 := hid (Vb.new w3 (pk (voteN (0 + 1) l) n) n)
    have QB3 := hid ((QB1.out.trans (b3.mono QB1.out.size)).alloc (by omega) (.cells #[.int .u64 (pk (voteN (0 + 1) l) n : Nat), .int .i64 n] 43))
    have hz4 : (w3.alloc (.cells #[.int .u64 (pk (voteN (0 + 1) l) n : Nat), .int .i64 n] 43)).heap.size = w3.heap.size + 1 := by simp
    clear b3 QX1 QB1
    go_wp2
    obtain ⟨b, hb⟩ : ∃ b, w3.heap.size = b := ⟨_, rfl⟩
    rw [hb] at QY3 hz4 hz3 ⊢
    clear hb
    obtain ⟨w4, hw4⟩ : ∃ w4, w3.alloc (.cells #[.int .u64 (pk (voteN (0 + 1) l) n : Nat), .int .i64 n] 43) = w4 := ⟨_, rfl⟩
    rw [hw4] at QX3 QY3 QB3 hz4 ⊢
    clear hw4
    go_loopw [3, 5] (fun i nx wr => ∃ (k b : Nat), i = .int .i64 k ∧ nx = .pointer (some ⟨b, 0, none⟩) ∧ k ≤ 20 ∧ a < b ∧ b < wr.heap.size ∧ Hid (Vb wr a (pk (voteN k l) n) n) ∧ Hid (Vb wr b (pk (voteN (k + 1) l) n) n) ∧ Hid (Below w.heap.size w wr) ∧ Hid (∀ j, j < k → voteL (voteN j l) ≠ voteN j l)) (fun i _ _ => 41 - (intOf i).toNat)
    case atStart => exact ⟨0, b, rfl, rfl, by omega, by omega, by omega, QX3, QY3, QB3, hid (fun j hj => absurd hj (by omega))⟩
    case round =>
      clear QX3 QY3 QB3 hz4 hz3
      obtain ⟨k, b, rfl, rfl, hk, hab, hbz, QX, QY, QB, QN⟩ := hrel
      have d0 := QX.out.c0
      have d1 := QX.out.c1
      have e0 := QY.out.c0
      have e1 := QY.out.c1
      have g0 := QX.out.fz 0
      have g1 := QX.out.fz 1
      by_cases he : pk (voteN (k + 1) l) n = pk (voteN k l) n
      · have HF := hid (show settleC l = (k : Int) from by
          rw [HV.out, settle_eq (l := l) (s := k) ⟨HJ.out k he, QN.out⟩ (by omega)])
        obtain ⟨p, hp⟩ : ∃ p, pk (voteN k l) n = p := ⟨_, rfl⟩
        rw [he, hp] at e0
        rw [hp] at d0
        clear he hp
        go_wp2
        go_ret
        exact ⟨ret_int HF.out.symm, QB.out⟩
      · have hkk : 2 * k + 2 < n := by
          rcases Nat.lt_or_ge (2 * k + 2) n with h | h
          · exact h
          · exact absurd (by rw [voteN_succ, HS.out k (by rw [HL.out]; omega)]) he
        have QN' : Hid (∀ j, j < k + 1 → voteL (voteN j l) ≠ voteN j l) := hid (fun j hj => by
          rcases (show j < k ∨ j = k by omega) with h | rfl
          · exact QN.out j h
          · intro h; exact he (by rw [voteN_succ, h]))
        obtain ⟨q, hq⟩ : ∃ q, pk (voteN (k + 1) l) n = q := ⟨_, rfl⟩
        have QX5 := hid ((QX.out.set q n).on (row := none) (grown_alloc _ (.cells #[.int .u64 q, .int .i64 n] 43) none) (by simp))
        have QY5 := hid (Vb.new ((wr.setCell ⟨a, 0, none⟩ (.int .u64 q)).setCell ⟨a, 1, none⟩ (.int .i64 n)) q n)
        have hs5 : ((wr.setCell ⟨a, 0, none⟩ (.int .u64 q)).setCell ⟨a, 1, none⟩ (.int .i64 n)).heap.size = wr.heap.size := by simp [World.setCell]
        have hz5 : (((wr.setCell ⟨a, 0, none⟩ (.int .u64 q)).setCell ⟨a, 1, none⟩ (.int .i64 n)).alloc (.cells #[.int .u64 q, .int .i64 n] 43)).heap.size = wr.heap.size + 1 := by rw [← hs5]; simp
        have QB5 := hid (((QB.out.setCell (p := ⟨a, 0, none⟩) hw1 (.int .u64 q)).setCell (p := ⟨a, 1, none⟩) hw1 (.int .i64 n)).alloc (by rw [hs5]; omega) (.cells #[.int .u64 q, .int .i64 n] 43))
        rw [hs5] at QY5
        have CC := hid (CW'.out (k + 1) (((wr.setCell ⟨a, 0, none⟩ (.int .u64 q)).setCell ⟨a, 1, none⟩ (.int .i64 n)).alloc (.cells #[.int .u64 q, .int .i64 n] 43)))
        have z0 := QX5.out.c0
        have z1 := QX5.out.c1
        have HQ := hid hq
        rw [hq] at CC
        obtain ⟨p, hp⟩ : ∃ p, pk (voteN k l) n = p := ⟨_, rfl⟩
        rw [hq] at e0 he
        rw [hp] at d0 he
        have he' : ((q : Int) == (p : Int)) = false := by simp; omega
        clear hp hq
        go_wp2_with fail
        with_reducible refine Calls.mono CC.out ?_
        rintro e w5 ⟨rfl, b5⟩
        rw [hz5] at b5
        have hz6 := b5.size
        rw [hz5] at hz6
        have Y := QY5.out.below b5 (by omega)
        have X := QX5.out.below b5 (by omega)
        have r0 := Y.fz 0
        have r1 := Y.fz 1
        have j0 := Y.c0
        have j1 := Y.c1
        have Y6 := hid (Y.set (pk (voteN (k + 1 + 1) l) n) n)
        have X6 : Hid (Vb ((w5.setCell ⟨wr.heap.size, 0, none⟩ (.int .u64 (pk (voteN (k + 1 + 1) l) n : Nat))).setCell ⟨wr.heap.size, 1, none⟩ (.int .i64 n)) a (pk (voteN (k + 1) l) n) n) := hid (by
          rw [HQ.out]
          exact (heap_setCell_other _ _ _ _ (by simp; omega)).trans ((heap_setCell_other _ _ _ _ (by simp; omega)).trans X))
        have hwz := QB.out.size
        have B6 := hid (((QB5.out.trans (b5.mono (by omega))).setCell (p := ⟨wr.heap.size, 0, none⟩) hwz (.int .u64 (pk (voteN (k + 1 + 1) l) n : Nat))).setCell (p := ⟨wr.heap.size, 1, none⟩) hwz (.int .i64 n))
        have hz7 : ((w5.setCell ⟨wr.heap.size, 0, none⟩ (.int .u64 (pk (voteN (k + 1 + 1) l) n : Nat))).setCell ⟨wr.heap.size, 1, none⟩ (.int .i64 n)).heap.size = w5.heap.size := by simp [World.setCell]
        clear QX QY QB QN QX5 QY5 QB5 CC b5 X Y z0 z1 d0 d1 e0 e1 g0 g1
        go_wp2
        go_roundw
        case rel => exact ⟨k + 1, wr.heap.size, by go_num, rfl, by omega, by omega, by omega, X6, Y6, B6, QN'⟩
        case measure => simp [intOf]; omega
end Go.Proofs.Ytfmlekcdjjkolaa
