/-
  The walk of the model's draw of counters. No statement is proved here.
-/
import Derived.Test.YtdacjpaaffpfgaaDrO
import Derived.Test.YtdacjpaaffpfgaaExC
import Derived.Maps.AppendAt
namespace Go.Proofs.Ytdacjpaaffpfgaa
open Go.RowKit
set_option linter.unusedVariables false
set_option linter.unusedSimpArgs false

/-- A counter that grows: the box b, its two rows from B on. -/
theorem Ctr.app0 {w w1 w2 : World} {B : Nat} {A A2 : Option Addr} {i c j c2 : Nat} {D C : List Int} {x : Int} {v2 : Value} (h : Ctr w B A i c A2 j c2 D C) (hB : B ≤ w.heap.size)
    (e1 : w.alloc (.cells #[.int .i64 x] 3) = w1) (ho : w2.ownsRow B 3 1 v2 (i + 1) (ints D ++ [.int .i64 x])) (hg : w1.grownBy w2 (Value.slice A i c).ownBlock) (hat : v2.ownBlock = (Value.slice A i c).ownBlock ∨ v2.ownBlock = some w1.heap.size) :
    ∃ A3 c3, v2 = .slice A3 (i + 1) c3 ∧ Ctr w2 B A3 (i + 1) c3 A2 j c2 (D ++ [x]) C ∧ Below B w w2 := by
  obtain ⟨g2, c3, rfl, _, _⟩ := own_shape ho
  subst e1
  have he := (h.e.alloc (.cells #[.int .i64 x] 3)).kept hg (by
    rcases hk : (Value.slice A2 j c2).ownBlock with _ | k
    · exact .inl rfl
    · exact .inr fun e => h.ap k e.symm hk)
  refine ⟨_, _, rfl, ⟨by simpa [ints] using ho, he, fun k hk hk2 => ?_⟩, ((Below.refl _ _).alloc hB _).grown hg (by simp; omega) (fun k hk => (h.d.lt k hk).1)⟩
  rcases hat with hat | hat
  · rw [hat] at hk; exact h.ap k hk hk2
  · rw [hat] at hk; injection hk with hk; have := (h.e.lt k hk2).2; simp at hk; omega
theorem Ctr.app1 {w w1 w2 : World} {B : Nat} {A A2 : Option Addr} {i c j c2 : Nat} {D C : List Int} {x : Int} {v2 : Value} (h : Ctr w B A i c A2 j c2 D C) (hB : B ≤ w.heap.size)
    (e1 : w.alloc (.cells #[.int .i64 x] 3) = w1) (ho : w2.ownsRow B 3 1 v2 (j + 1) (ints C ++ [.int .i64 x])) (hg : w1.grownBy w2 (Value.slice A2 j c2).ownBlock) (hat : v2.ownBlock = (Value.slice A2 j c2).ownBlock ∨ v2.ownBlock = some w1.heap.size) :
    ∃ A3 c3, v2 = .slice A3 (j + 1) c3 ∧ Ctr w2 B A i c A3 (j + 1) c3 D (C ++ [x]) ∧ Below B w w2 := by
  obtain ⟨g2, c3, rfl, _, _⟩ := own_shape ho
  subst e1
  have hd := (h.d.alloc (.cells #[.int .i64 x] 3)).kept hg (by
    rcases hk : (Value.slice A i c).ownBlock with _ | k
    · exact .inl rfl
    · exact .inr fun e => h.ap k hk e.symm)
  refine ⟨_, _, rfl, ⟨hd, by simpa [ints] using ho, fun k hk hk2 => ?_⟩, ((Below.refl _ _).alloc hB _).grown hg (by simp; omega) (fun k hk => (h.e.lt k hk).1)⟩
  rcases hat with hat | hat
  · rw [hat] at hk2; exact h.ap k hk hk2
  · rw [hat] at hk2; injection hk2 with hk2; have := (h.d.lt k hk).2; simp at hk2; omega
theorem Ctr.keptG {w w' : World} {B g : Nat} {A A2 : Option Addr} {i c j c2 : Nat} {D C : List Int} (h : Ctr w B A i c A2 j c2 D C) (hg : w.grownBy w' (some g)) (hB : g < B) : Ctr w' B A i c A2 j c2 D C :=
  ⟨h.d.kept hg (own_ne h.d hB), h.e.kept hg (own_ne h.e hB), h.ap⟩
theorem grown_below {w w' w2 : World} {B g : Nat} (h : w.grownBy w' (some g)) (hb : Below B w' w2) (hB : w.heap.size ≤ B) : w.grownBy w2 (some g) :=
  ⟨hb.os.trans h.os, hb.tape.trans h.tape, hb.output.trans h.output, Nat.le_trans h.size hb.size, fun k hk hne => (hb.block k (by omega)).trans (h.block k hk hne)⟩

set_option maxRecDepth 100000 in
set_option maxHeartbeats 6400000 in
theorem counter_any (g P : Nat) (m : Int) (w : World) (hr : Rd w g P) (hP : P < 100000) (hm : 1 ≤ m) (hm2 : m ≤ 1000000) :
    Calls Try.prog 43 #[.pointer (some ⟨g, 0, none⟩), .int .i64 m] w fun e w' => ∃ A n c A2 n2 c2 D C, e = .returned (ctr A n c A2 n2 c2) ∧ Ctr w' w.heap.size A n c A2 n2 c2 D C ∧ n ≤ 8 ∧ n2 ≤ 9 ∧ Rd w' g (P + 40) ∧ w.grownBy w' (some g) := by
  obtain ⟨i0, hi, hz0, hz1, hz2⟩ := info_parts info_int
  have hglt := hr.lt
  obtain ⟨b, hb⟩ : ∃ b, w.heap.size = b := ⟨_, rfl⟩
  have X0 := (Bk.new w (.slice none 0 0) (.slice none 0 0)).on (row := none) (grown_alloc _ (.cells #[.slice none 0 0, .slice none 0 0] 25) none) (by simp)
  have X1 := Bk.new (w.alloc (.cells #[.slice none 0 0, .slice none 0 0] 25)) (.slice none 0 0) (.slice none 0 0)
  have hz : (w.alloc (.cells #[.slice none 0 0, .slice none 0 0] 25)).heap.size = b + 1 := by simp [hb]
  have hz2' : ((w.alloc (.cells #[.slice none 0 0, .slice none 0 0] 25)).alloc (.cells #[.slice none 0 0, .slice none 0 0] 25)).heap.size = b + 2 := by simp [hb]
  have r0 := (hr.grown (grown_alloc w (.cells #[.slice none 0 0, .slice none 0 0] 25) none) (by simp)).grown (grown_alloc _ (.cells #[.slice none 0 0, .slice none 0 0] 25) none) (by simp)
  have g0 : w.grownBy ((w.alloc (.cells #[.slice none 0 0, .slice none 0 0] 25)).alloc (.cells #[.slice none 0 0, .slice none 0 0] 25)) (some g) := World.grownBy.andThen (row' := none) (grown_alloc w _ (some g)) (grown_alloc _ _ _) (by simp)
  rw [hz] at X1
  rw [hb] at X0 hglt
  go_enter Try.func43, Try.ntmps43
  go_wp2_with fail
  obtain ⟨w0, e0⟩ : ∃ W, ((w.alloc (.cells #[.slice none 0 0, .slice none 0 0] 25)).alloc (.cells #[.slice none 0 0, .slice none 0 0] 25)) = W := ⟨_, rfl⟩
  rw [e0] at X0 X1 hz2' r0 g0 ⊢
  clear e0 hz
  refine (pick_any g P 8 _ r0 (by omega) (by omega) (by omega)).mono ?_
  rintro e w1 ⟨K, rfl, K0, K1, r1, g1⟩
  have Y0 := hid (X0.on g1 (by simp; omega))
  have Y1 := hid (X1.on g1 (by simp; omega))
  have hs1 : b + 2 ≤ w1.heap.size := by have := g1.size; omega
  have G1 := hid (g0.andThen g1 (by simp))
  have CC := hid (Ctr.none w1 (b + 2))
  have R1 := hid r1
  clear g0 g1 X0 X1 r0 r1 hz2'
  go_wp2
  go_loopw [6] (fun kk wr => ∃ (A A2 : Option Addr) (i c c2 j : Nat) (D C : List Int), kk = .int .i64 j ∧ i + j ≤ 8 ∧ 1 ≤ i + j ∧ Hid (Bk wr b (.slice none 0 0) (.slice none 0 0)) ∧ Hid (Bk wr (b + 1) (.slice A i c) (.slice A2 i c2)) ∧ Hid (Ctr wr (b + 2) A i c A2 i c2 D C) ∧ b + 2 ≤ wr.heap.size ∧ Hid (Rd wr g (P + 2 + i)) ∧ Hid (w.grownBy wr (some g))) (fun kk _ => (intOf kk).toNat)
  case atStart =>
    obtain ⟨K, rfl⟩ := Int.eq_ofNat_of_zero_le K0
    exact ⟨none, none, 0, 0, 0, K + 1, [], [], by go_num, by omega, by omega, Y0, Y1, CC, hs1, hid (R1.out.more (by omega)), G1⟩
  case round =>
    clear Y0 Y1 CC hs1 R1 G1
    obtain ⟨A, A2, i, c, c2, j, D, C, rfl, hij, hij1, Y0, Y1, CC, hsz, RR, GG⟩ := hrel
    by_cases hj : 0 < j
    · go_wp2_with fail
      refine (pick_any g _ 3 _ RR.out (by omega) (by omega) (by omega)).mono ?_
      rintro e w1 ⟨x, rfl, x0, x1, r1, g1⟩
      have o1 := CC.out.keptG g1 (by omega)
      have q0 := Y0.out.on g1 (by simp; omega)
      have q1 := Y1.out.on g1 (by simp; omega)
      have c0 := q1.c0
      have f0 := q1.fz 0
      have z1 := g1.size
      have hx2 : 0 ≤ x % 2 ∧ x % 2 ≤ 1 := by omega
      have hx3 : 0 ≤ x / 2 ∧ x / 2 ≤ 1 := by omega
      have od := o1.d
      have W1 : b + 1 < w1.heap.size := by omega
      go_wp2_with (first
        | (at_builtin; refine wpList_append_own_at _ rfl (.tmp 19) (.tmp 22) 23 rfl (b + 2) 3 i0 (.int .i64 0) 1 8 Try.underlying23 hi hz0 hz1 hz2 rfl (by decide) (.slice A i c) _ _ rfl (od.alloc _) ⟨w1.heap.size, 0, none⟩ 1 1 [.int .i64 (x % 2)] rfl rfl (cell_one_new _ _ _) (by simp [Value.oneCell']) (by simp only [maxLen]; omega) (by omega) (by simp; omega) ?_; intro v2 w2 hown2 hgrow2 _ hat2; obtain ⟨A3, c3, rfl, CC2, B2⟩ := Ctr.app0 o1 (by omega) rfl hown2 hgrow2 hat2; have q2 := q1.below B2 (by omega); have f2 := q2.fz 0; have t2 := q2.c0; have q3 := q2.set0 (.slice A3 (i + 1) c3); have t3 := q3.c1; have CC3 := CC2.putAt (i := 0) (show b + 1 < b + 2 by omega) (.slice A3 (i + 1) c3); have ze : (w2.setCell ⟨b + 1, 0, none⟩ (.slice A3 (i + 1) c3)).heap.size = w2.heap.size := (by simp [World.setCell]); have zb := B2.size)
        | (at_builtin; refine wpList_append_own_at _ rfl (.tmp 26) (.tmp 29) 23 rfl (b + 2) 3 i0 (.int .i64 0) 1 8 Try.underlying23 hi hz0 hz1 hz2 rfl (by decide) (.slice A2 i c2) _ _ rfl (CC3.e.alloc _) ⟨w2.heap.size, 0, none⟩ 1 1 [.int .i64 (x / 2)] rfl rfl (by rw [← ze]; exact cell_one_new _ _ _) (by simp [Value.oneCell']) (by simp only [maxLen]; omega) (by omega) (by simp; omega) ?_; intro v4 w4 hown4 hgrow4 _ hat4; obtain ⟨A4, c4, rfl, CC4, B4⟩ := Ctr.app1 CC3 (by omega) rfl hown4 hgrow4 hat4; have q4 := q3.below B4 (by omega); have f4 := q4.fz 1; have t4 := q4.c1))
      have BB : Below (b + 1) w1 (w4.setCell ⟨b + 1, 1, none⟩ (.slice A4 (i + 1) c4)) := (((B2.mono (by omega)).trans (below_put w2 (b + 1) 0 _)).trans (B4.mono (by omega))).trans (below_put w4 (b + 1) 1 _)
      have zz := BB.size
      have Q0 := hid (q0.below BB (by omega))
      have Q1 := hid (q4.set1 (.slice A4 (i + 1) c4))
      have QC := hid (CC4.putAt (i := 1) (show b + 1 < b + 2 by omega) (.slice A4 (i + 1) c4))
      have QR := hid (r1.below BB (by omega))
      have QG := hid (grown_below (GG.out.andThen g1 (by simp)) BB (by omega))
      go_roundw
      case rel => exact ⟨A3, A4, i + 1, c3, c4, j - 1, _, _, by go_num, by omega, by omega, Q0, Q1, QC, by omega, hid (QR.out.more (by omega)), QG⟩
      case measure => simp [intOf]; omega
    · obtain rfl : j = 0 := by omega
      go_wp2_with fail
      refine (odd_any g _ m _ RR.out (by omega) hm hm2).mono ?_
      rintro e w1 ⟨bb, rfl, r1, g1⟩
      have o1 := CC.out.keptG g1 (by omega)
      have q0 := Y0.out.on g1 (by simp; omega)
      have q1 := Y1.out.on g1 (by simp; omega)
      have G1 := GG.out.andThen g1 (by simp)
      have z1 := g1.size
      clear g1 Y0 Y1 CC RR GG
      cases bb with
      | false =>
        have c0 := q1.c0
        have c1 := q1.c1
        have d0 := q0.c0
        have d1 := q0.c1
        have f0 := q0.fz 0
        have f1 := q0.fz 1
        have Q0 := hid q0
        have Q1 := hid q1
        have QC := hid o1
        have QR := hid r1
        have QG := hid G1
        clear q0 q1 o1 r1 G1
        go_wp2
        (try simp only [Exit.inBlock, Exit.then])
        refine bodyPost_ret (results_b1 rfl _ _ b 25 _ (0, 0) _ (by simp [Act.put]) (Q0.out.set (.slice A i c) (.slice A2 i c2)) Try.underlying25 rfl size_ctr) rfl ?_
        exact ⟨A, i, c, A2, i, c2, _, _, rfl, ((QC.out.putAt (by omega) _).putAt (by omega) _).mono (by omega), by omega, by omega, (QR.out.below (below_put2 _ b _ _) hglt).more (by omega), grown_below QG.out (below_put2 _ b _ _) (by omega)⟩
      | true =>
        go_wp2_with fail
        refine (pick_any g _ 3 _ r1 (by omega) (by omega) (by omega)).mono ?_
        rintro e w2 ⟨y, rfl, y0, y1, r2, g2⟩
        replace o1 := o1.keptG g2 (by omega)
        replace q0 := q0.on g2 (by simp; omega)
        replace q1 := q1.on g2 (by simp; omega)
        replace G1 := G1.andThen g2 (by simp)
        have z2 := g2.size
        have d0 := q0.c0
        have d1 := q0.c1
        have f0 := q0.fz 0
        have f1 := q0.fz 1
        have c0 := q1.c0
        have c1 := q1.c1
        clear g2
        rcases (show y = 0 ∨ y = 1 ∨ y = 2 by omega) with rfl | rfl | rfl
        · have Q0 := hid q0
          have QC := hid (Ctr.none w2 (b + 2))
          have QR := hid r2
          have QG := hid G1
          clear q0 q1 o1 r1 G1 r2 c0 c1
          go_wp2
          (try simp only [Exit.inBlock, Exit.then])
          refine bodyPost_ret (results_b1 rfl _ _ b 25 _ (0, 0) _ (by simp [Act.put]) (Q0.out.set (.slice none 0 0) (.slice none 0 0)) Try.underlying25 rfl size_ctr) rfl ?_
          exact ⟨none, 0, 0, none, 0, 0, _, _, rfl, ((QC.out.putAt (by omega) _).putAt (by omega) _).mono (by omega), by omega, by omega, (QR.out.below (below_put2 _ b _ _) hglt).more (by omega), grown_below QG.out (below_put2 _ b _ _) (by omega)⟩
        · obtain ⟨i, rfl⟩ : ∃ i', i = i' + 1 := ⟨i - 1, by omega⟩
          obtain ⟨g2, c2', hv2, hb2, hb3⟩ := own_shape o1.d
          injection hv2 with e1 e2 e3
          subst e1
          subst e3
          have hcell := own_cell (j := 0) o1.d o1.lenD (by omega)
          have hfz := o1.d.frozenAt 0
          have hst := o1.d.stored 0 (.int .i64 2)
          rw [ints_set] at hst
          have he := o1.e.kept hst.2 (by
            rcases hk : (Value.slice A2 (i + 1) c2).ownBlock with _ | k
            · exact .inl rfl
            · exact .inr fun e => o1.ap k e.symm hk)
          have QC : Hid (Ctr (w2.setCell ⟨g2, 0, none⟩ (.int .i64 2)) (b + 2) (some ⟨g2, 0, none⟩) (i + 1) c A2 (i + 1) c2 _ C) := hid ⟨hst.1, he, o1.ap⟩
          have L : Below (b + 2) w2 (w2.setCell ⟨g2, 0, none⟩ (.int .i64 2)) := (Below.refl _ _).setCell hb2 _
          have Q0 := hid (q0.below L (by omega))
          have Q1 := q1.below L (by omega)
          have QR := hid (r2.below L (by omega))
          have QG := hid (grown_below G1 L (by omega))
          have d0' := Q0.out.c0
          have d1' := Q0.out.c1
          have f0' := Q0.out.fz 0
          have f1' := Q0.out.fz 1
          have c0' := Q1.c0
          have c1' := Q1.c1
          clear q0 q1 o1 r1 G1 r2 Q1 hst he L
          go_wp2
          (try simp only [Exit.inBlock, Exit.then])
          refine bodyPost_ret (results_b1 rfl _ _ b 25 _ (0, 0) _ (by simp [Act.put]) (Q0.out.set (.slice (some ⟨g2, 0, none⟩) (i + 1) c) (.slice A2 (i + 1) c2)) Try.underlying25 rfl size_ctr) rfl ?_
          exact ⟨(some ⟨g2, 0, none⟩), (i + 1), c, A2, (i + 1), c2, _, _, rfl, ((QC.out.putAt (by omega) _).putAt (by omega) _).mono (by omega), by omega, by omega, (QR.out.below (below_put2 _ b _ _) hglt).more (by omega), grown_below QG.out (below_put2 _ b _ _) (by omega)⟩
        · have q1f := q1.fz 1
          have oe := o1.e
          go_wp2_with (at_builtin; refine wpList_append_own_at _ rfl (.tmp 38) (.tmp 39) 23 rfl (b + 2) 3 i0 (.int .i64 0) 1 8 Try.underlying23 hi hz0 hz1 hz2 rfl (by decide) (.slice A2 i c2) _ _ rfl (oe.alloc _) ⟨w2.heap.size, 0, none⟩ 1 1 [.int .i64 0] rfl rfl (cell_one_new _ _ _) (by simp [Value.oneCell']) (by simp only [maxLen]; omega) (by omega) (by simp; omega) ?_; intro v4 w4 hown4 hgrow4 _ hat4; obtain ⟨A4, c4, rfl, CC4, B4⟩ := Ctr.app1 o1 (by omega) rfl hown4 hgrow4 hat4; have q4 := q1.below B4 (by omega); have f4 := q4.fz 1; have t4 := q4.c1; have BB : Below (b + 1) w2 (w4.setCell ⟨b + 1, 1, none⟩ (.slice A4 (i + 1) c4)) := (B4.mono (by omega)).trans (below_put w4 (b + 1) 1 _); have Q0 := hid (q0.below BB (by omega)); have d0' := Q0.out.c0; have d1' := Q0.out.c1; have f0' := Q0.out.fz 0; have f1' := Q0.out.fz 1; have Q1 := hid (q4.set1 (.slice A4 (i + 1) c4)); have c0' := Q1.out.c0; have c1' := Q1.out.c1)
          have QC := hid (CC4.putAt (i := 1) (show b + 1 < b + 2 by omega) (.slice A4 (i + 1) c4))
          have QR := hid (r2.below BB (by omega))
          have QG := hid (grown_below G1 BB (by omega))
          (try simp only [Exit.inBlock, Exit.then])
          refine bodyPost_ret (results_b1 rfl _ _ b 25 _ (0, 0) _ (by simp [Act.put]) (Q0.out.set (.slice A i c) (.slice A4 (i + 1) c4)) Try.underlying25 rfl size_ctr) rfl ?_
          exact ⟨A, i, c, A4, (i + 1), c4, _, _, rfl, ((QC.out.putAt (by omega) _).putAt (by omega) _).mono (by omega), by omega, by omega, (QR.out.below (below_put2 _ b _ _) hglt).more (by omega), grown_below QG.out (below_put2 _ b _ _) (by omega)⟩
end Go.Proofs.Ytdacjpaaffpfgaa
