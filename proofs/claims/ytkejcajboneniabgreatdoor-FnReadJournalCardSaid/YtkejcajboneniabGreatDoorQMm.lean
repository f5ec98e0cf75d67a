/-
  Texts put together: Dd12 De12 Dm12. No statement is proved here.
-/
import Derived.Test.YtkejcajboneniabGreatDoorQDr12
import Derived.Test.YtkejcajboneniabGreatDoorQMj
import Derived.Deep.RegionHeld3
import Derived.Test.YtkejcajboneniabGreatDoorQMl
import Derived.Test.YtkejcajboneniabGreatDoorQDl12
import Derived.Test.YtkejcajboneniabGreatDoorQMk
set_option linter.unusedVariables false
set_option linter.unusedSimpArgs false
namespace Go.Proofs.YtkejcajboneniabGreatDoor
open Go.RowKit

theorem grown_of_below {w w' : World} (h : Below w.heap.size w w') : w.grownBy w' none := ⟨h.os, h.tape, h.output, h.size, fun k hk _ => h.block k hk⟩
theorem DkF.lo {w w' : World} {B n c m c2 g : Nat} {A A2 : Option Addr} {D : Dk} (h : DkF w B A n c A2 m c2 D) (hg : w.grownBy w' (some g)) (hlt : g < B) : DkF w' B A n c A2 m c2 D :=
  h.elim fun vs k => ⟨vs, k.now.kept hg (.inr fun e => by have := own_lo k.now g e; omega), k.past.kept hg (.inr fun e => by have := own_lo k.past g e; omega), k.rows.keep (fun v n xs ho => ho.kept hg (.inr fun e => by have := own_lo ho g e; omega))⟩
theorem grown_put {w w1 : World} {row : Option Nat} {L : Nat} (h : w.grownBy w1 row) (hL : w.heap.size ≤ L) (x y : Value) : w.grownBy ((w1.setCell ⟨L, 0, none⟩ x).setCell ⟨L, 1, none⟩ y) row :=
  (h.andThen (grown_set w1 ⟨L, 0, none⟩ x rfl) (fun k hk => by cases hk; exact .inl hL)).andThen (grown_set _ ⟨L, 1, none⟩ y rfl) (fun k hk => by cases hk; exact .inl hL)
theorem rd_put {w : World} {g P L : Nat} (h : Rd w g P) (hL : g < L) (x y : Value) : Rd ((w.setCell ⟨L, 0, none⟩ x).setCell ⟨L, 1, none⟩ y) g P :=
  (h.grown (grown_set w ⟨L, 0, none⟩ x rfl) (fun k hk => by cases hk; exact hL)).grown (grown_set _ ⟨L, 1, none⟩ y rfl) (fun k hk => by cases hk; exact hL)
theorem cutH {T G : Prop} (h : Hid T → G) (r : T) : G := h (hid r)
theorem DkF.put {w : World} {B n c m c2 b i : Nat} {A A2 : Option Addr} {D : Dk} {u v : Value} (h : DkF w B A n c A2 m c2 D) (hd : Db w b u v) (x : Value) : DkF (w.setCell ⟨b, i, none⟩ x) B A n c A2 m c2 D :=
  h.elim fun vs k => ⟨vs, own_box x k.now (hd.ne_int k.now), own_box x k.past (hd.ne_row k.past), k.rows.box x hd⟩
theorem DkF.lens {w : World} {B n c m c2 : Nat} {A A2 : Option Addr} {D : Dk} (h : DkF w B A n c A2 m c2 D) : n = D.now.length ∧ m = D.past.length :=
  ⟨by have := h.read.now.len; omega, by have := h.read.past.len; omega⟩
theorem do_now (D : Dk) (a : Int × Int) : (deskDo D a).1.now.length ≤ 16 ∧ (deskDo D a).1.past.length ≤ D.past.length + 1 := by
  unfold deskDo
  by_cases h : deskOk D = true
  · rw [if_pos h]
    obtain ⟨h1, h2, h3⟩ := deskOk_iff.1 h
    have hn := (bitsOk_iff.1 h2).2.2
    by_cases hb : undoB D a.1 a.2 = true
    · rw [if_pos hb]
      unfold undoB at hb
      rw [Bool.and_eq_true] at hb
      obtain ⟨q, l, e1, e2, e3⟩ := last_getD (p := D.past) (by simpa using hb.2)
      show (D.past.getLast?.getD []).length ≤ 16 ∧ D.past.dropLast.length ≤ _
      rw [e2, e3]
      exact ⟨(bitsOk_iff.1 (h1 l (by rw [e1]; simp))).2.2, by rw [e1]; simp; omega⟩
    · rw [if_neg hb]
      by_cases hs : stayB D a.1 a.2 = true
      · rw [if_pos hs]
        exact ⟨hn, Nat.le_succ _⟩
      · rw [if_neg hs]
        have hne : (madeL D.now a.1 a.2).isEmpty = false := by
          unfold stayB at hs; rw [Bool.or_eq_true] at hs
          cases hh : (madeL D.now a.1 a.2).isEmpty with
          | false => rfl
          | true => exact absurd (.inl hh) hs
        refine ⟨(bitsOk_iff.1 (made_ok h2 _ _ hne)).2.2, ?_⟩
        show (trimL (D.past ++ [D.now])).length ≤ _
        unfold trimL
        split <;> simp
  · rw [if_neg h]
    simp [noDk]

theorem newOut_len (l : List Int) : (newOut l).now.length ≤ l.length ∧ (newOut l).past = [] := by
  unfold newOut
  by_cases h : bitsOk l = true
  · rw [if_pos h]; exact ⟨Nat.le_refl _, rfl⟩
  · rw [if_neg h]; exact ⟨Nat.zero_le _, rfl⟩

set_option maxRecDepth 100000 in
set_option maxHeartbeats 6400000 in
theorem deskDraw_any (g P : Nat) (M : Int) (w : World) (hr : Rd w g P) (hP : P < 9000) (hM : 1 ≤ M) (hM2 : M ≤ 1000000) :
    Calls Tryz.prog 47 #[.pointer (some ⟨g, 0, none⟩), .int .i64 M] w fun e w' => ∃ A n c A2 m c2 D, e = .returned (dsk A n c A2 m c2) ∧ DkF w' w.heap.size A n c A2 m c2 D ∧ n ≤ 17 ∧ m ≤ 6 ∧ Rd w' g (P + 100) ∧ w.grownBy w' (some g) := by
  obtain ⟨j0, hj, hjz0, hjz1, hjz2⟩ := info_rows
  have hglt := hr.lt
  have g0 := grown_alloc w (.cells #[.slice none 0 0, .slice none 0 0] 31) (some g)
  have r0 := hr.grown (grown_alloc w (.cells #[.slice none 0 0, .slice none 0 0] 31) none) (by simp)
  have XR := Db.new w (.slice none 0 0) (.slice none 0 0)
  obtain ⟨w0, e0⟩ : ∃ W, w.alloc (.cells #[.slice none 0 0, .slice none 0 0] 31) = W := ⟨_, rfl⟩
  have hz0 : w0.heap.size = w.heap.size + 1 := by rw [← e0]; simp
  go_enter Tryz.func47, Tryz.ntmps47
  rw [e0] at g0 r0 XR
  have C1 := hid (bitsz_any g P 0 w0 r0 (by omega) (by omega) (by omega))
  go_wp2_with fail
  clear e0
  with_reducible refine Calls.mono C1.out ?_
  rintro e w1 ⟨A1, n1, c1, l1, rfl, o1, hn1, r1, g1⟩
  have XR1 := XR.on g1 (by simp; omega)
  have G1 := g0.andThen g1 (by simp)
  have hz1 := g1.size
  have hl1 := (Sl.of_own o1).len
  have C2 := hid (specDeskNew_any A1 n1 c1 l1 w1 (Sl.of_own o1))
  have HR1 := hid r1
  have HG1 := hid G1
  have HXR1 := hid XR1
  clear g0 r0 XR C1 o1 r1 g1 XR1 G1
  go_wp2_with fail
  with_reducible refine Calls.mono C2.out ?_
  rintro e w2 ⟨A3, n3, c3, A4, m4, c4, rfl, F2, b2⟩
  obtain ⟨W, eW⟩ : ∃ W, w2.alloc (.cells #[.slice A3 n3 c3, .slice A4 m4 c4] 31) = W := ⟨_, rfl⟩
  have gW := (grown_of_below b2).trans (show w2.grownBy W none by rw [← eW]; exact grown_alloc _ _ _)
  have XO : Db W w2.heap.size (.slice A3 n3 c3) (.slice A4 m4 c4) := by rw [← eW]; exact Db.new _ _ _
  have FW : DkF W w.heap.size A3 n3 c3 A4 m4 c4 (newOut l1) := (F2.onto (show w2.grownBy W none by rw [← eW]; exact grown_alloc _ _ _)).mono (by omega)
  have HRW := HR1.out.grown gW (by simp)
  have HGW := HG1.out.andThen gW (by simp)
  have HXW := HXR1.out.on gW (by simp)
  obtain ⟨o, ho⟩ : ∃ o, w2.heap.size = o := ⟨_, rfl⟩
  have hb2 := b2.size
  have hoB : w.heap.size + 1 ≤ o := by omega
  rw [ho] at XO
  have hnew := newOut_len l1
  have hls := FW.lens
  have HM := hid (show m4 = 0 by rw [hls.2, hnew.2]; rfl)
  have hn3 : n3 ≤ 17 := by rw [hls.1]; have := hnew.1; omega
  clear hls hnew
  have C3 := hid (pick_any g _ 6 W HRW (by omega) (by omega) (by omega))
  have HF := hid FW
  have HG := hid HGW
  have HX := hid HXW
  have HO := hid XO
  clear F2 b2 gW XO FW HRW HGW HXW C2 HR1 HG1 HXR1 hz0 hz1 hb2
  go_wp2_with fail
  clear eW ho
  with_reducible refine Calls.mono C3.out ?_
  rintro e w3 ⟨K, rfl, hK0, hK1, r3, g3⟩
  obtain ⟨K, rfl⟩ : ∃ k : Nat, K = k := Int.eq_ofNat_of_zero_le hK0
  have F3 := hid (HF.out.lo g3 hglt)
  have G3 := hid (HG.out.andThen g3 (by simp))
  have X3 := hid (HX.out.on g3 (by simp; omega))
  have O3 := hid (HO.out.on g3 (by simp; omega))
  have R3 := hid r3
  clear r3 g3 C3 HF HG HX HO
  go_wp2_with fail
  go_loopw [7] (fun kk wr => ∃ (i j : Nat) (A : Option Addr) (n c : Nat) (A2 : Option Addr) (m c2 : Nat) (D : Dk), kk = .int .i64 j ∧ i + j ≤ 5 ∧ m ≤ i ∧ n ≤ 17 ∧ Hid (Db wr o (.slice A n c) (.slice A2 m c2)) ∧ Hid (DkF wr w.heap.size A n c A2 m c2 D) ∧ Hid (Db wr w.heap.size (.slice none 0 0) (.slice none 0 0)) ∧ Hid (Rd wr g (P + 41 + 5 * i)) ∧ Hid (w.grownBy wr (some g))) (fun kk _ => (intOf kk).toNat)
  case atStart => exact ⟨0, K, A3, n3, c3, A4, m4, c4, _, rfl, by omega, by have := HM.out; omega, hn3, O3, F3, X3, hid (R3.out.more (by omega)), G3⟩
  case round =>
    clear F3 G3 X3 O3 R3 HM hn3
    obtain ⟨i, j, A, n, c, A2, m, c2, D, rfl, hij, hmi, hn, HO, HF, HX, HR, HG⟩ := hrel
    have hoz := HO.out.lt
    have hwz := HG.out.size
    by_cases hjp : 0 < j
    · have hji : (0 : Int) < (j : Int) := by omega
      have hgo : some o ≠ some g := by simp; omega
      have hD8 := hid (show D.past.length < 8 by have := HF.out.lens; omega)
      have KX := hid (fun (W' : World) (hW : wr.grownBy W' (some g)) => show W'.cell? ⟨o, 0, none⟩ = some (.slice A n c) ∧ W'.cell? ⟨o, 1, none⟩ = some (.slice A2 m c2) from by
        have h := HO.out.on hW hgo
        exact ⟨h.c0, h.c1⟩)
      have CD := hid (fun (W' : World) (hR : Rd W' g (P + 41 + 5 * i)) => deedDraw_any g _ A n c W' hR (by omega) hn)
      have CO := hid (fun (W' : World) (k N : Int) (hW : wr.grownBy W' (some g)) => specDeskDo_any A n c A2 m c2 D k N W' ((HF.out.lo hW hglt).read))
      have hd1 : wr.grownBy wr.drew (some g) := (World.grownBy.refl wr (some g)).andThen (drewN_gA wr 1) (by simp)
      have hd2 : wr.grownBy (wr.alloc (.cells #[.slice none 0 0, .slice none 0 0] 31)).drew (some g) := (grown_alloc wr (.cells #[.slice none 0 0, .slice none 0 0] 31) (some g)).andThen (drewN_gA _ 1) (by simp)
      have rd1 : Rd wr.drew g (P + 41 + 5 * i) := HR.out.grown (drewN_gA wr 1) (by simp)
      have rd2 : Rd (wr.alloc (.cells #[.slice none 0 0, .slice none 0 0] 31)).drew g (P + 41 + 5 * i) := HR.out.grown ((grown_alloc wr (.cells #[.slice none 0 0, .slice none 0 0] 31) none).trans (drewN_gA _ 1)) (by simp)
      have X1 : Db (wr.alloc (.cells #[.slice none 0 0, .slice none 0 0] 31)).drew wr.heap.size (.slice none 0 0) (.slice none 0 0) := Db.new wr (.slice none 0 0) (.slice none 0 0)
      have hwg : some wr.heap.size ≠ some g := by simp; omega
      have HX1 := hid X1
      have R1 := hid rd1
      have R2 := hid rd2
      obtain ⟨x0, x1⟩ := KX.out wr (World.grownBy.refl _ _)
      clear X1 rd1 rd2
      go_wp2
      rename_i KK hKK
      replace hKK := hid hKK
      apply cutH
      · intro REST
        go_region_held3 (fun w' => w'.cell? ⟨o, 0, none⟩ = some (.slice A n c) ∧ w'.cell? ⟨o, 1, none⟩ = some (.slice A2 m c2))
          (first
            | go_keep
            | assumption
            | exact KX.out _ ‹_›
            | exact kx2 _ _)
          (first
            | (go_at_call 96; (with_reducible refine Calls.mono (CD.out wr.drew R1.out) ?_); rintro e w5 ⟨a, rfl, ha, r5, g5⟩; have G5 : wr.grownBy w5 (some g) := hd1.andThen g5 (by simp); have kx5 := KX.out _ G5; have g5a := grown_alloc w5 (.cells #[.slice none 0 0, .slice none 0 0] 31) none; have G5a : wr.grownBy (w5.alloc (.cells #[.slice none 0 0, .slice none 0 0] 31)) (some g) := G5.andThen g5a (by simp); have kx5a := KX.out _ G5a; have r5a := r5.grown g5a (by simp))
            | (go_at_call 96; (with_reducible refine Calls.mono (CD.out (wr.alloc (.cells #[.slice none 0 0, .slice none 0 0] 31)).drew R2.out) ?_); rintro e w5 ⟨a, rfl, ha, r5, g5⟩; have G5 : wr.grownBy w5 (some g) := hd2.andThen g5 (by simp); have kx5 := KX.out _ G5; have yx5 : Db w5 wr.heap.size (.slice none 0 0) (.slice none 0 0) := HX1.out.on g5 hwg; have hq : wr.heap.size ≤ wr.heap.size := Nat.le_refl _)
            | (go_at_call 63; (with_reducible refine Calls.mono (CO.out w5 a.1 a.2 G5) ?_); rintro e w7 ⟨A3, n3, c3, A4, m4, c4, rfl, F7p, b7⟩; have G7 : wr.grownBy w7 (some g) := G5.andThen (grown_of_below b7) (by simp); have kx7 := KX.out _ G7; have r7 := r5.grown (grown_of_below b7) (by simp); have F7 := (F7p.2 hD8.out).mono (Nat.le_trans hwz G5.size); (try (have yx7 := yx5.below b7 yx5.lt; have yx0 := yx7.c0; have yx1 := yx7.c1; have yf0 := yx7.fz 0; have yf1 := yx7.fz 1; have kx2 := fun x y => KX.out _ (grown_put G7 hq x y))))
            | (go_at_call 63; (with_reducible refine Calls.mono (CO.out (w5.alloc (.cells #[.slice none 0 0, .slice none 0 0] 31)) a.1 a.2 G5a) ?_); rintro e w7 ⟨A3, n3, c3, A4, m4, c4, rfl, F7p, b7⟩; have G7 : wr.grownBy w7 (some g) := G5a.andThen (grown_of_below b7) (by simp); have kx7 := KX.out _ G7; have r7 := r5a.grown (grown_of_below b7) (by simp); have F7 := (F7p.2 hD8.out).mono (Nat.le_trans hwz G5a.size); have hq : wr.heap.size ≤ w5.heap.size := G5.size; have yx7 : Db w7 w5.heap.size (.slice none 0 0) (.slice none 0 0) := (Db.new w5 _ _).below b7 (by simp); have yx0 := yx7.c0; have yx1 := yx7.c1; have yf0 := yx7.fz 0; have yf1 := yx7.fz 1; have kx2 := fun x y => KX.out _ (grown_put G7 hq x y)))
        · have VX := Db.new w7 (.slice A3 n3 c3) (.slice A4 m4 c4)
          have FX := F7.onto (grown_alloc w7 (.cells #[.slice A3 n3 c3, .slice A4 m4 c4] 31) none)
          have GX := G7.andThen (grown_alloc w7 (.cells #[.slice A3 n3 c3, .slice A4 m4 c4] 31) none) (by simp)
          have RX := r7.grown (grown_alloc w7 (.cells #[.slice A3 n3 c3, .slice A4 m4 c4] 31) none) (by simp)
          have hs : o < w7.heap.size := by have := G7.size; omega
          obtain ⟨V, e⟩ : ∃ V, w7.alloc (.cells #[.slice A3 n3 c3, .slice A4 m4 c4] 31) = V := ⟨_, rfl⟩
          rw [e] at VX FX GX RX ⊢
          obtain ⟨s, hqq⟩ : ∃ s, w7.heap.size = s := ⟨_, rfl⟩
          rw [hqq] at VX hs ⊢
          rename_i hh
          clear hh e hqq F7p F7
          revert hs
          revert RX
          revert GX
          revert FX
          revert VX
          revert s
          revert V
          revert c4
          revert m4
          revert A4
          revert c3
          revert n3
          revert A3
          clear ha
          clear r5 g5 G5 kx5 g5a G5a kx5a r5a
          revert a
          exact REST.out
        all_goals exact REST.out a A3 n3 c3 A4 m4 c4 _ _ (yx7.set _ _) (F7.box2 yx7 _ _) (grown_put G7 hq _ _) (rd_put r7 (by omega) _ _) (by omega)
      intro a A3 n3 c3 A4 m4 c4 V s VX FX GX RX hs
      refine hKK.out _ _ ?_
      clear hKK x0 x1
      have hdn := do_now D a
      have hle := FX.lens
      have hlD := HF.out.lens
      obtain ⟨D2, yes, hE⟩ : ∃ D2 yes, deskDo D (a.1, a.2) = (D2, yes) := ⟨_, _, rfl⟩
      rw [show deskDo D a = (D2, yes) from hE] at hdn
      rw [hE] at FX hle ⊢
      have hnm : n3 ≤ 16 ∧ m4 ≤ m + 1 := by
        simp only at hdn hle
        omega
      have hn3 := hnm.1
      have hm4 := hnm.2
      have O := HO.out.on GX hgo
      have XV := HX.out.on GX (by simp; omega)
      have GV := HG.out.andThen GX (by simp)
      have FV := HF.out.lo GX hglt
      have s0 := VX.c0
      have s1 := VX.c1
      have o0 := O.c0
      have o1 := O.c1
      have o2 := O.fz 0
      have o3 := O.fz 1
      have HOV := hid O
      have HXV := hid XV
      have HGV := hid GV
      have HFV := hid FV
      have HF2 := hid FX
      have HRV := hid RX
      clear hE hdn hle hlD hnm VX FX GX RX O XV GV FV KX CD CO hd1 hd2 HX1 R1 R2 HO HX HF HR HG
      cases yes with
      | false =>
        go_wp2
        go_roundw
        case rel => exact ⟨i + 1, j - 1, A, n, c, A2, m, c2, D, by go_num, by omega, by omega, hn, HOV, HFV, HXV, hid (HRV.out.more (by omega)), HGV⟩
        case measure => simp [intOf]; omega
      | true =>
        go_wp2
        go_roundw
        case rel => exact ⟨i + 1, j - 1, A3, n3, c3, A4, m4, c4, D2, by go_num, by omega, by omega, by omega, hid (HOV.out.set _ _), hid (HF2.out.box2 HOV.out _ _), hid ((HXV.out.other (by omega) 0 _).other (by omega) 1 _), hid (rd_put (HRV.out.more (by omega)) (by omega) _ _), hid (grown_put HGV.out (by omega) _ _)⟩
        case measure => simp [intOf]; omega
    · obtain rfl : j = 0 := by omega
      have C8 := hid (odd_any g _ M wr HR.out (by omega) hM hM2)
      have hgo : some o ≠ some g := by simp; omega
      have hRg : some w.heap.size ≠ some g := by simp; omega
      go_wp2_with fail
      with_reducible refine Calls.mono C8.out ?_
      rintro e w8 ⟨b, rfl, r8, g8⟩
      have O8 := hid (HO.out.on g8 hgo)
      have F8 := hid (HF.out.lo g8 hglt)
      have X8 := hid (HX.out.on g8 hRg)
      have R8 := hid r8
      have G8 := hid (HG.out.andThen g8 (by simp))
      clear r8 g8 C8 HO HF HX HR HG hwz hoz
      have END : ∀ (W' : World) (A : Option Addr) (n c : Nat) (A2 : Option Addr) (m c2 : Nat) (D : Dk), Db W' w.heap.size (.slice none 0 0) (.slice none 0 0) → DkF W' w.heap.size A n c A2 m c2 D → Rd W' g (P + 100) → w.grownBy W' (some g) →
          Db ((W'.setCell ⟨w.heap.size, 0, none⟩ (.slice A n c)).setCell ⟨w.heap.size, 1, none⟩ (.slice A2 m c2)) w.heap.size (.slice A n c) (.slice A2 m c2) ∧ DkF ((W'.setCell ⟨w.heap.size, 0, none⟩ (.slice A n c)).setCell ⟨w.heap.size, 1, none⟩ (.slice A2 m c2)) w.heap.size A n c A2 m c2 D ∧ Rd ((W'.setCell ⟨w.heap.size, 0, none⟩ (.slice A n c)).setCell ⟨w.heap.size, 1, none⟩ (.slice A2 m c2)) g (P + 100) ∧ w.grownBy ((W'.setCell ⟨w.heap.size, 0, none⟩ (.slice A n c)).setCell ⟨w.heap.size, 1, none⟩ (.slice A2 m c2)) (some g) := fun W' A n c A2 m c2 D h1 h2 h3 h4 =>
        ⟨h1.set _ _, h2.box2 h1 _ _, rd_put h3 hglt _ _, grown_put h4 (Nat.le_refl _) _ _⟩
      have HEND := hid END
      clear END
      have o0 := O8.out.c0
      have o1 := O8.out.c1
      have o2 := O8.out.fz 0
      have o3 := O8.out.fz 1
      have x0 := X8.out.c0
      have x1 := X8.out.c1
      have x2 := X8.out.fz 0
      have x3 := X8.out.fz 1
      cases b with
      | false =>
        go_wp2
        (try simp only [Exit.inBlock, Exit.then])
        obtain ⟨e1, e2, e3, e4⟩ := HEND.out w8 A n c A2 m c2 D X8.out F8.out (R8.out.more (by omega)) G8.out
        refine bodyPost_ret (results_cell_row rfl _ _ w.heap.size 31 _ (0, 0) _ (by simp [Act.put]) e1 Tryz.underlying31 rfl size_desk) rfl ?_
        exact ⟨A, n, c, A2, m, c2, D, rfl, e2, hn, by omega, e3, e4⟩
      | true =>
        have C9 := hid (pick_any g _ 3 w8 R8.out (by omega) (by omega) (by omega))
        clear o0 o1 o2 o3 x0 x1 x2 x3
        go_wp2_with fail
        with_reducible refine Calls.mono C9.out ?_
        rintro e w9 ⟨x, rfl, hx0, hx1, r9, g9⟩
        have O9 := hid (O8.out.on g9 hgo)
        have F9 := hid (F8.out.lo g9 hglt)
        have X9 := hid (X8.out.on g9 hRg)
        have R9 := hid (r9.more (show P + 41 + 5 * i + 1 + 1 ≤ P + 100 by omega))
        have G9 := hid (G8.out.andThen g9 (by simp))
        have o0 := O9.out.c0
        have o1 := O9.out.c1
        have o2 := O9.out.fz 0
        have o3 := O9.out.fz 1
        have x0 := X9.out.c0
        have x1 := X9.out.c1
        have x2 := X9.out.fz 0
        have x3 := X9.out.fz 1
        clear r9 g9 C9 O8 F8 X8 R8 G8
        rcases (show x = 0 ∨ x = 1 ∨ x = 2 by omega) with rfl | rfl | rfl
        · have hwz := G9.out.size
          have gE := grown_alloc w9 (.cells #[.int .i64 2] 3) none
          have OL : (w9.alloc (.cells #[.int .i64 2] 3)).ownsRow w.heap.size 3 1 (.slice (some ⟨w9.heap.size, 0, none⟩) 1 1) 1 (ints [2]) := World.ownsRow_lit w9 #[.int .i64 2] 1 hwz (by simp [maxLen]) rfl
          have OE := O9.out.on (row := none) gE (by simp)
          have XE := X9.out.on (row := none) gE (by simp)
          obtain ⟨vs, ON, OP, OR⟩ := F9.out
          have FE : DkF (w9.alloc (.cells #[.int .i64 2] 3)) w.heap.size (some ⟨w9.heap.size, 0, none⟩) 1 1 A2 m c2 ⟨[2], D.past⟩ := ⟨vs, OL, own_kept_none OP gE, OR.onto gE⟩
          have RE := R9.out.grown gE (by simp)
          have GE := G9.out.andThen gE (by simp)
          obtain ⟨e1, e2, e3, e4⟩ := HEND.out ((w9.alloc (.cells #[.int .i64 2] 3)).setCell ⟨o, 0, none⟩ (.slice (some ⟨w9.heap.size, 0, none⟩) 1 1)) (some ⟨w9.heap.size, 0, none⟩) 1 1 A2 m c2 ⟨[2], D.past⟩ (XE.other (by omega) 0 _) (FE.put OE _) (RE.grown (grown_set _ ⟨o, 0, none⟩ _ rfl) (fun k hk => by cases hk; show g < o; omega)) (GE.andThen (grown_set _ ⟨o, 0, none⟩ _ rfl) (fun k hk => by cases hk; left; show w.heap.size ≤ o; omega))
          have k0 := OE.c0
          have k1 := OE.c1
          have k2 := OE.fz 0
          have k3 := OE.fz 1
          have k4 := XE.c0
          have k5 := XE.c1
          have k6 := XE.fz 0
          have k7 := XE.fz 1
          clear OL OE XE ON OP OR FE RE GE gE
          have E1 := hid e1
          have E2 := hid e2
          have E3 := hid e3
          have E4 := hid e4
          clear e1 e2 e3 e4
          go_wp2
          (try simp only [Exit.inBlock, Exit.then])
          refine bodyPost_ret (results_cell_row rfl _ _ w.heap.size 31 _ (0, 0) _ (by simp [Act.put]) E1.out Tryz.underlying31 rfl size_desk) rfl ?_
          exact ⟨_, 1, 1, A2, m, c2, _, rfl, E2.out, by omega, by omega, E3.out, E4.out⟩
        · have hwz := G9.out.size
          have gE1 := grown_alloc w9 (.cells #[] 3) none
          have gE2 := grown_alloc (w9.alloc (.cells #[] 3)) (.cells #[.slice (some ⟨w9.heap.size, 0, none⟩) 0 0] 28) none
          have gE := gE1.trans gE2
          have OL : (w9.alloc (.cells #[] 3)).ownsRow w.heap.size 3 1 (.slice (some ⟨w9.heap.size, 0, none⟩) 0 0) 0 (ints []) := World.ownsRow_lit w9 #[] 0 hwz (by simp [maxLen]) rfl
          obtain ⟨vs, ON, OP, OR⟩ := F9.out
          have oP2 := own_kept_none OP gE
          have OE := O9.out.on (row := none) gE (by simp)
          have XE := X9.out.on (row := none) gE (by simp)
          have HR := hid (OR.onto gE)
          have HN := hid (own_kept_none ON gE)
          have HL := hid (own_kept_none OL gE2)
          have HRE := hid (R9.out.grown gE (by simp))
          have HGE := hid (G9.out.andThen gE (by simp))
          have HP := hid oP2
          have hblk := oP2.lt
          have hc1 : ∀ (j : Nat) (u : Value), [Value.slice (some ⟨w9.heap.size, 0, none⟩) 0 0][j]? = some u → ((w9.alloc (.cells #[] 3)).alloc (.cells #[.slice (some ⟨w9.heap.size, 0, none⟩) 0 0] 28)).cell? ((⟨w9.heap.size + 1, 0, none⟩ : Addr).add j) = some u := by
            have h := cell_one_new (w9.alloc (.cells #[] 3)) (.slice (some ⟨w9.heap.size, 0, none⟩) 0 0) 28
            rwa [show (w9.alloc (.cells #[] 3)).heap.size = w9.heap.size + 1 by simp] at h
          clear gE1 gE2 gE OL ON OP OR
          go_wp2_with (at_builtin; refine wpList_append_own _ rfl _ _ 29 rfl w.heap.size 28 j0 (.slice none 0 0) 1 24 Tryz.underlying29 hj hjz0 hjz1 hjz2 rfl (by decide) (.slice A2 m c2) _ _ rfl oP2 ⟨w9.heap.size + 1, 0, none⟩ 1 1 [.slice (some ⟨w9.heap.size, 0, none⟩) 0 0] rfl rfl hc1 (by simp [Value.oneCell']) (by simp only [maxLen]; omega) (by omega) (by simp; omega) ?_; intro v7 w7 o7 g7 _; obtain ⟨g7b, c7, rfl, hg7b, hlt7⟩ := own_shape1 o7 (by omega); have U7 := OE.on g7 (OE.ne_row oP2); have u0 := U7.c0; have u1 := U7.c1; have t0 := U7.fz 0; have t1 := U7.fz 1; have UR7 := XE.on g7 (XE.ne_row oP2); have q0 := UR7.c0; have q1 := UR7.c1; have q2 := UR7.fz 0; have q3 := UR7.fz 1)
          have RX := (HR.out.beside HP.out g7).snoc ⟨_, _, _, rfl, own_beside HL.out HP.out g7⟩
          have FX : DkF w7 w.heap.size A n c (some ⟨g7b, 0, none⟩) (m + 1) c7 ⟨D.now, D.past ++ [[]]⟩ := ⟨_, own_beside HN.out HP.out g7, o7, RX⟩
          have hw1 : w.heap.size ≤ ((w9.alloc (.cells #[] 3)).alloc (.cells #[.slice (some ⟨w9.heap.size, 0, none⟩) 0 0] 28)).heap.size := by simp; omega
          have RE := HRE.out.grown g7 (fun k hk => by have := (hblk k hk).1; omega)
          have GE := HGE.out.andThen g7 (fun k hk => .inl (hblk k hk).1)
          obtain ⟨e1, e2, e3, e4⟩ := HEND.out (w7.setCell ⟨o, 1, none⟩ (.slice (some ⟨g7b, 0, none⟩) (m + 1) c7)) A n c (some ⟨g7b, 0, none⟩) (m + 1) c7 ⟨D.now, D.past ++ [[]]⟩ (UR7.other (by omega) 1 _) (FX.put U7 _) (RE.grown (grown_set _ ⟨o, 1, none⟩ _ rfl) (fun k hk => by cases hk; show g < o; omega)) (GE.andThen (grown_set _ ⟨o, 1, none⟩ _ rfl) (fun k hk => by cases hk; left; show w.heap.size ≤ o; omega))
          (try simp only [Exit.inBlock, Exit.then])
          refine bodyPost_ret (results_cell_row rfl _ _ w.heap.size 31 _ (0, 0) _ (by simp [Act.put]) e1 Tryz.underlying31 rfl size_desk) rfl ?_
          exact ⟨A, n, c, _, m + 1, c7, _, rfl, e2, hn, by omega, e3, e4⟩
        · obtain ⟨e1, e2, e3, e4⟩ := HEND.out w9 none 0 0 none 0 0 noDk X9.out (DkF.no _ _) R9.out G9.out
          go_wp2
          (try simp only [Exit.inBlock, Exit.then])
          refine bodyPost_ret (results_cell_row rfl _ _ w.heap.size 31 _ (0, 0) _ (by simp [Act.put]) e1 Tryz.underlying31 rfl size_desk) rfl ?_
          exact ⟨none, 0, 0, none, 0, 0, _, rfl, e2, by omega, by omega, e3, e4⟩
end Go.Proofs.YtkejcajboneniabGreatDoor
namespace Go.Proofs.YtkejcajboneniabGreatDoor
open Go.RowKit

section
variable {P : Program} {fn : Func} {p p2 : Tmp} {ty ty2 : TypeId}
end

theorem own_boxS {w : World} {B n b k sz : Nat} {v : Value} {e t : TypeId} {xs : List Value} {cs : Array Value} {fr : Nat × Nat} (x : Value) (h : w.ownsRow B e sz v n xs) (hb : w.heap[b]? = some (.cells cs t fr)) (hT : t ≠ e) : (w.setCell ⟨b, k, none⟩ x).ownsRow B e sz v n xs := by
  refine ⟨h.1, ?_⟩
  rcases h.2 with h2 | ⟨g, cap, cur, h1, h2, h3, h4⟩
  · exact .inl h2
  · refine .inr ⟨g, cap, cur, h1, h2, (heap_setCell_other _ _ _ _ ?_).trans h3, h4⟩
    rintro rfl
    rw [h3] at hb
    injection hb with e1
    injection e1 with e2 e3 e4
    exact hT e3.symm
theorem flat_zeros (n : Nat) : ints (flat (List.replicate n (0, 0))) = (madeCells (deedV (0, 0)).cells (n * 2)).toList := by
  rw [madeDeeds]
  congr 1
  induction n with
  | zero => rfl
  | succ n ih =>
    rw [List.replicate_succ, show (n + 1) * 2 = n * 2 + 2 from by omega]
    show 0 :: 0 :: flat (List.replicate n (0, 0)) = _
    rw [ih]
    rfl

set_option maxRecDepth 100000 in
set_option maxHeartbeats 3200000 in
theorem drawDeskRun_any (A : Option Addr) (n c : Nat) (w : World) (hs : By w w.heap.size A n) (hc : n ≤ c) :
    Calls Tryz.prog 12 #[.slice A n c] w fun e w' => ∃ A1 n1 c1 A2 m2 c2 D AL nL cL L, e = .returned (.tuple #[dsk A1 n1 c1 A2 m2 c2, .slice AL nL cL]) ∧ DkF w' w.heap.size A1 n1 c1 A2 m2 c2 D ∧ w'.ownsRow w.heap.size 39 2 (.slice AL nL cL) nL (ints (flat L)) ∧ n1 ≤ 17 ∧ m2 ≤ 6 ∧ nL ≤ 41 ∧ Below w.heap.size w w' := by
  obtain ⟨i0, hi, hz0, hz1, hz2⟩ := info_parts info_deed
  obtain ⟨W0, hW0⟩ : ∃ W0, w.alloc (.cells #[.slice none 0 0, .slice none 0 0] 31) = W0 := ⟨_, rfl⟩
  have b0 : Below w.heap.size w W0 := by rw [← hW0]; exact (Below.refl _ _).alloc (Nat.le_refl _) _
  have X0 : Db W0 w.heap.size (.slice none 0 0) (.slice none 0 0) := by rw [← hW0]; exact Db.new w _ _
  have hs0 : W0.heap.size = w.heap.size + 1 := by rw [← hW0]; simp
  have hsW := hs.on b0
  go_enter Tryz.func12, Tryz.ntmps12
  go_wp2_with fail
  refine (open_any A n c _ hsW hc).mono ?_
  rintro e w1 ⟨g, rfl, r1, hg, b1⟩
  have X1 := X0.below b1 (by omega)
  have hz1' := b1.size
  have C2 := hid (deskDraw_any g 0 12 w1 r1 (by omega) (by omega) (by omega))
  have hgl1 := r1.lt
  clear r1
  go_wp2_with fail
  clear hW0
  with_reducible refine Calls.mono C2.out ?_
  rintro e w2 ⟨A1, n1, c1, A2, m2, c2, D, rfl, F2, hn1, hm2, r2, g2⟩
  have b2 := b1.grown g2 hz1' (by intro k hk; cases hk; exact hg)
  have X2 := X1.on g2 (by simp; omega)
  obtain ⟨W, eW⟩ : ∃ W, w2.alloc (.cells #[.slice A1 n1 c1, .slice A2 m2 c2] 31) = W := ⟨_, rfl⟩
  have gW : w2.grownBy W none := by rw [← eW]; exact grown_alloc _ _ _
  have XO : Db W w2.heap.size (.slice A1 n1 c1) (.slice A2 m2 c2) := by rw [← eW]; exact Db.new _ _ _
  have hzW : W.heap.size = w2.heap.size + 1 := by rw [← eW]; simp
  have hz2' := g2.size
  have gl2 := r2.lt
  obtain ⟨o, ho⟩ : ∃ o, w2.heap.size = o := ⟨_, rfl⟩
  rw [ho] at XO hzW hz2' gl2
  have hgo : some o ≠ some g := by simp; omega
  have hRg : some w.heap.size ≠ some g := by simp; omega
  have hne1 : o ≠ w.heap.size := by omega
  have HXO := hid XO
  have HR := hid (r2.grown gW (by simp))
  have HX := hid (X2.on gW (by simp))
  have HF := hid (F2.onto gW)
  have hw1 : w.heap.size ≤ w1.heap.size := by omega
  have hw2 : w.heap.size < W.heap.size := by omega
  have HB := hid (b2.trans ((below_grown gW).mono b2.size))
  have HGB := hid hg
  have HB0 := hid b0
  have C3 := hid (odd_any g 100 30 W HR.out (by omega) (by omega) (by omega))
  clear r2 g2 b2 X2 F2 X0 X1 C2 gW XO hz1' hz2' hzW hs0 b1 b0 hg gl2 HR
  go_wp2_with fail
  clear eW ho
  with_reducible refine Calls.mono C3.out ?_
  rintro e w3 ⟨b, rfl, r3, g3⟩
  have hz3 := g3.size
  have XO3 := HXO.out.on g3 hgo
  have X3 := HX.out.on g3 hRg
  have F3 := HF.out.lo g3 hgl1
  have B3 := HB.out.grown g3 HB.out.size (by intro k hk; cases hk; exact HGB.out)
  have BW := HB0.out.trans (B3.mono HB0.out.size)
  have hwz : w.heap.size ≤ w3.heap.size := BW.size
  have FIN : ∀ (V : World) (AL : Option Addr) (nL cL : Nat) (L : List (Int × Int)), Db V w.heap.size (.slice none 0 0) (.slice none 0 0) → DkF V w1.heap.size A1 n1 c1 A2 m2 c2 D → V.ownsRow w.heap.size 39 2 (.slice AL nL cL) nL (ints (flat L)) → Below w.heap.size w V →
      Db ((V.setCell ⟨w.heap.size, 0, none⟩ (.slice A1 n1 c1)).setCell ⟨w.heap.size, 1, none⟩ (.slice A2 m2 c2)) w.heap.size (.slice A1 n1 c1) (.slice A2 m2 c2) ∧ DkF ((V.setCell ⟨w.heap.size, 0, none⟩ (.slice A1 n1 c1)).setCell ⟨w.heap.size, 1, none⟩ (.slice A2 m2 c2)) w.heap.size A1 n1 c1 A2 m2 c2 D ∧ ((V.setCell ⟨w.heap.size, 0, none⟩ (.slice A1 n1 c1)).setCell ⟨w.heap.size, 1, none⟩ (.slice A2 m2 c2)).ownsRow w.heap.size 39 2 (.slice AL nL cL) nL (ints (flat L)) ∧ Below w.heap.size w ((V.setCell ⟨w.heap.size, 0, none⟩ (.slice A1 n1 c1)).setCell ⟨w.heap.size, 1, none⟩ (.slice A2 m2 c2)) := fun V AL nL cL L h1 h2 h3 h4 =>
    ⟨h1.set _ _, (h2.mono hw1).box2 h1 _ _, own_boxS _ (own_boxS _ h3 h1 (by decide)) (h1.set0 _) (by decide), (h4.setCell (p := ⟨w.heap.size, 0, none⟩) (Nat.le_refl _) _).setCell (p := ⟨w.heap.size, 1, none⟩) (Nat.le_refl _) _⟩
  have HFIN := hid FIN
  have HBG := hid (show w.heap.size ≤ g by have := HGB.out; have := HB0.out.size; omega)
  have HXO3 := hid XO3
  have HX3 := hid X3
  have HF3 := hid F3
  have HBW := hid BW
  have HR3 := hid r3
  have o0 := XO3.c0
  have o1 := XO3.c1
  clear FIN XO3 X3 F3 B3 BW r3 g3 HXO HX HF HB HGB HB0 C3
  cases b with
  | true =>
    have hmk : ∀ W : World, (Instr.makeSlice 24 (.int .i64 41) (.int .i64 41)).run Tryz.prog W = .ok (.slice (some ⟨W.heap.size, 0, none⟩) 41 41) (W.alloc (.cells (madeCells #[.int .i64 0, .int .i64 0] 82) 39)) := fun W => by
      have h := run_make (P := Tryz.prog) W 24 39 i0 _ Tryz.underlying24 hi hz0 .i64 .i64 41 41 (by omega) (by omega) (by rw [hz2]; omega) (by omega)
      rw [hz1] at h
      exact h
    have hlit : ∀ W : World, w.heap.size ≤ W.heap.size → (W.alloc (.cells (madeCells #[.int .i64 0, .int .i64 0] 82) 39)).ownsRow w.heap.size 39 2 (.slice (some ⟨W.heap.size, 0, none⟩) 41 41) 41 (ints (flat (List.replicate 41 (0, 0)))) := fun W hW => by
      have h := World.ownsRow_lit (base := w.heap.size) (size := 2) (e := 39) W (madeCells #[.int .i64 0, .int .i64 0] 82) 41 hW (by simp [maxLen]) (by simp [madeCells])
      rw [flat_zeros 41]; exact h
    have gd := drewN_gA w3 1
    have XD := HX3.out.on gd (by simp)
    have FD := HF3.out.onto gd
    have BD := HBW.out.trans ((below_grown gd).mono hwz)
    -- the make first
    have gm := grown_alloc w3.drew (.cells (madeCells #[.int .i64 0, .int .i64 0] 82) 39) none
    obtain ⟨e1, e2, e3, e4⟩ := HFIN.out _ _ 41 41 _ (XD.on gm (by simp)) (FD.onto gm) (hlit w3.drew hwz) (BD.trans ((below_grown gm).mono BD.size))
    -- the store first
    have XS := XD.set (.slice A1 n1 c1) (.slice A2 m2 c2)
    have FS := (FD.mono hw1).box2 XD (.slice A1 n1 c1) (.slice A2 m2 c2)
    have BS := (BD.setCell (p := ⟨w.heap.size, 0, none⟩) (Nat.le_refl _) (.slice A1 n1 c1)).setCell (p := ⟨w.heap.size, 1, none⟩) (Nat.le_refl _) (.slice A2 m2 c2)
    have gs := grown_alloc ((w3.drew.setCell ⟨w.heap.size, 0, none⟩ (.slice A1 n1 c1)).setCell ⟨w.heap.size, 1, none⟩ (.slice A2 m2 c2)) (.cells (madeCells #[.int .i64 0, .int .i64 0] 82) 39) none
    have E1 := hid e1
    have E2 := hid e2
    have E3 := hid e3
    have E4 := hid e4
    have D1 := hid (XS.on gs (by simp))
    have D2 := hid (FS.onto gs)
    have hD3 := hlit _ BS.size
    rw [show (((w3.drewN 1).setCell ⟨w.heap.size, 0, none⟩ (.slice A1 n1 c1)).setCell ⟨w.heap.size, 1, none⟩ (.slice A2 m2 c2)).heap.size = w3.heap.size by simp <;> rfl] at hD3
    have D3 := hid hD3
    clear hD3
    have D4 := hid (BS.trans ((below_grown gs).mono BS.size))
    have x0 := HX3.out.c0
    have x1 := HX3.out.c1
    have x2 := HX3.out.fz 0
    have x3 := HX3.out.fz 1
    have hx3 := HX3.out.lt
    have ho3 := HXO3.out.lt
    clear e1 e2 e3 e4 gd XD FD BD gm XS FS BS gs hlit
    go_wp2_with fail
    go_region
    go_wp2
    (try simp only [Exit.inBlock, Exit.then])
    refine bodyPost_ret (results_db rfl _ _ w.heap.size 31 _ (0, 0) _ (by simp [Act.put]) D1.out Tryz.underlying31 rfl size_desk) rfl ?_
    exact ⟨A1, n1, c1, A2, m2, c2, D, _, 41, 41, _, rfl, D2.out, D3.out, hn1, hm2, by omega, D4.out⟩
  | false =>
    have KX := hid (fun (W' : World) (hW : w3.grownBy W' (some g)) => show W'.cell? ⟨o, 0, none⟩ = some (.slice A1 n1 c1) ∧ W'.cell? ⟨o, 1, none⟩ = some (.slice A2 m2 c2) from by
      have h := HXO3.out.on hW hgo
      exact ⟨h.c0, h.c1⟩)
    have CD := hid (deedsDraw_any g _ A1 n1 c1 w3.drew (HR3.out.grown (drewN_gA w3 1) (by simp)) (by omega) hn1)
    have hd1 : w3.grownBy w3.drew (some g) := (World.grownBy.refl w3 (some g)).andThen (drewN_gA w3 1) (by simp)
    have hgg := HBG.out
    go_wp2_with fail
    go_region_held3 (fun w' => w'.cell? ⟨o, 0, none⟩ = some (.slice A1 n1 c1) ∧ w'.cell? ⟨o, 1, none⟩ = some (.slice A2 m2 c2))
      (first
        | go_keep
        | assumption
        | exact kx2 _ _)
      (first
        | (go_at_call 49; (with_reducible refine Calls.mono CD.out ?_); rintro e w5 ⟨AL, nL, cL, L, rfl, oL, hnL, r5, g5⟩; have G5 : w3.grownBy w5 (some g) := hd1.andThen g5 (by simp); have kx5 := KX.out _ G5; have X5 := HX3.out.on G5 hRg; have x5 := X5.c0; have x6 := X5.c1; have x7 := X5.fz 0; have x8 := X5.fz 1; have XO5 := HXO3.out.on G5 hgo; have kx2 := fun x y => And.intro ((XO5.other hne1 0 x).other hne1 1 y).c0 ((XO5.other hne1 0 x).other hne1 1 y).c1))
    obtain ⟨e1, e2, e3, e4⟩ := HFIN.out w5 AL nL cL L X5 (HF3.out.lo G5 hgl1) (own_mono oL hwz) (HBW.out.grown G5 hwz (by intro k hk; cases hk; exact hgg))
    have E1 := hid e1
    have E2 := hid e2
    have E3 := hid e3
    have E4 := hid e4
    clear e1 e2 e3 e4 kx2 kx5 X5 XO5
    go_wp2
    (try simp only [Exit.inBlock, Exit.then])
    refine bodyPost_ret (results_db rfl _ _ w.heap.size 31 _ (0, 0) _ (by simp [Act.put]) E1.out Tryz.underlying31 rfl size_desk) rfl ?_
    exact ⟨A1, n1, c1, A2, m2, c2, D, AL, nL, cL, L, rfl, E2.out, E3.out, hn1, hm2, by omega, E4.out⟩
end Go.Proofs.YtkejcajboneniabGreatDoor
namespace Go.Proofs.YtkejcajboneniabGreatDoor
open Go.RowKit

theorem made_strs (n : Nat) : (madeCells (encStr []).cells (n * 1)).toList = strs (List.replicate n []) := by
  simp only [madeCells, strs, encStr, Value.cells, List.map_replicate]
  apply List.ext_getElem?
  intro j
  by_cases h : j < n
  · simp [h, Nat.mod_one]
  · simp [show n ≤ j by omega]
theorem other_typeF {w : World} {B B2 n k : Nat} {v u : Value} {e t : TypeId} {xs ys : List Value} (h : w.ownsRow B e 1 v n xs) (hu : w.ownsRow B2 t 1 u k ys) (hT : e ≠ t) : u.ownBlock = none ∨ u.ownBlock ≠ v.ownBlock := by
  rcases h.2 with ⟨h1, h2⟩ | ⟨g, cap, cur, h1, h2, h3, h4⟩
  · rcases hq : u.ownBlock with _ | q
    · exact .inl rfl
    · exact .inr (by rw [h1]; simp [Value.ownBlock])
  · right
    intro e1
    rw [h1] at e1
    exact own_blk_ne h3 hu hT e1.symm
theorem DkF.beside2F {w w' : World} {B B2 n c m c2 nX : Nat} {A A2 : Option Addr} {D : Dk} {v : Value} {xs : List Value} (h : DkF w B A n c A2 m c2 D) (ho : w.ownsRow B2 9 1 v nX xs) (hg : w.grownBy w' v.ownBlock) : DkF w' B A n c A2 m c2 D :=
  h.elim fun vs k => ⟨vs, k.now.kept hg (other_typeF ho k.now (by decide)), k.past.kept hg (other_typeF ho k.past (by decide)), k.rows.keep (fun u q ys hu => hu.kept hg (other_typeF ho hu (by decide)))⟩

set_option maxRecDepth 100000 in
set_option maxHeartbeats 3200000 in
theorem drawDeskLine_any (A : Option Addr) (n c : Nat) (w : World) (hs : By w w.heap.size A n) (hc : n ≤ c) :
    Calls Tryz.prog 20 #[.slice A n c] w fun e w' => ∃ A1 n1 c1 A2 m2 c2 D, ∃ s : List UInt8, e = .returned (.tuple #[dsk A1 n1 c1 A2 m2 c2, encStr s]) ∧ DkF w' w.heap.size A1 n1 c1 A2 m2 c2 D ∧ n1 ≤ 17 ∧ m2 ≤ 6 ∧ s.length ≤ 300 ∧ Below w.heap.size w w' := by
  obtain ⟨W0, hW0⟩ : ∃ W0, w.alloc (.cells #[.slice none 0 0, .slice none 0 0] 31) = W0 := ⟨_, rfl⟩
  have b0 : Below w.heap.size w W0 := by rw [← hW0]; exact (Below.refl _ _).alloc (Nat.le_refl _) _
  have X0 : Db W0 w.heap.size (.slice none 0 0) (.slice none 0 0) := by rw [← hW0]; exact Db.new w _ _
  have hs0 : W0.heap.size = w.heap.size + 1 := by rw [← hW0]; simp
  have hsW := hs.on b0
  go_enter Tryz.func20, Tryz.ntmps20
  go_wp2_with fail
  refine (open_any A n c _ hsW hc).mono ?_
  rintro e w1 ⟨g, rfl, r1, hg, b1⟩
  have X1 := X0.below b1 (by omega)
  have hz1' := b1.size
  have C2 := hid (deskDraw_any g 0 12 w1 r1 (by omega) (by omega) (by omega))
  have hgl1 := r1.lt
  clear r1
  go_wp2_with fail
  clear hW0
  with_reducible refine Calls.mono C2.out ?_
  rintro e w2 ⟨A1, n1, c1, A2, m2, c2, D, rfl, F2, hn1, hm2, r2, g2⟩
  have b2 := b1.grown g2 hz1' (by intro k hk; cases hk; exact hg)
  have X2 := X1.on g2 (by simp; omega)
  obtain ⟨W, eW⟩ : ∃ W, w2.alloc (.cells #[.slice A1 n1 c1, .slice A2 m2 c2] 31) = W := ⟨_, rfl⟩
  have gW : w2.grownBy W none := by rw [← eW]; exact grown_alloc _ _ _
  have XO : Db W w2.heap.size (.slice A1 n1 c1) (.slice A2 m2 c2) := by rw [← eW]; exact Db.new _ _ _
  have hzW : W.heap.size = w2.heap.size + 1 := by rw [← eW]; simp
  have hz2' := g2.size
  have gl2 := r2.lt
  obtain ⟨o, ho⟩ : ∃ o, w2.heap.size = o := ⟨_, rfl⟩
  rw [ho] at XO hzW hz2' gl2
  have hgo : some o ≠ some g := by simp; omega
  have hRg : some w.heap.size ≠ some g := by simp; omega
  have hne1 : o ≠ w.heap.size := by omega
  have HXO := hid XO
  have HR := hid (r2.grown gW (by simp))
  have HX := hid (X2.on gW (by simp))
  have HF := hid (F2.onto gW)
  have hw1 : w.heap.size ≤ w1.heap.size := by omega
  have hw2 : w.heap.size < W.heap.size := by omega
  have HB := hid (b2.trans ((below_grown gW).mono b2.size))
  have HGB := hid hg
  have HB0 := hid b0
  have hoz := HXO.out.lt
  have KX := hid (fun (W' : World) (hW : W.grownBy W' (some g)) => show W'.cell? ⟨o, 0, none⟩ = some (.slice A1 n1 c1) ∧ W'.cell? ⟨o, 1, none⟩ = some (.slice A2 m2 c2) from by
    have h := HXO.out.on hW hgo
    exact ⟨h.c0, h.c1⟩)
  have CD := hid (lineDraw_any g 100 A1 n1 c1 W.drew (HR.out.grown (drewN_gA W 1) (by simp)) (by omega) hn1)
  have hd1 : W.grownBy W.drew (some g) := (World.grownBy.refl W (some g)).andThen (drewN_gA W 1) (by simp)
  have o0 := HXO.out.c0
  have o1 := HXO.out.c1
  have hwg : w.heap.size ≤ g := by have := HGB.out; have := HB0.out.size; omega
  have BW := hid (HB0.out.trans (HB.out.mono HB0.out.size))
  clear r2 g2 b2 X2 F2 X0 X1 C2 gW XO hz1' hz2' hzW hs0 b1 b0 hg gl2 HR
  go_wp2_with fail
  clear eW ho
  go_region_held3 (fun w' => w'.cell? ⟨o, 0, none⟩ = some (.slice A1 n1 c1) ∧ w'.cell? ⟨o, 1, none⟩ = some (.slice A2 m2 c2))
    (first
      | go_keep
      | assumption
      | exact kx2 _ _)
    (first
      | (go_at_call 61; (with_reducible refine Calls.mono CD.out ?_); rintro e w5 ⟨s, rfl, hs5, r5, g5⟩; have G5 : W.grownBy w5 (some g) := hd1.andThen g5 (by simp); have kx5 := KX.out _ G5; have X5 := HX.out.on G5 hRg; have x5 := X5.c0; have x6 := X5.c1; have x7 := X5.fz 0; have x8 := X5.fz 1; have XO5 := HXO.out.on G5 hgo; have kx2 := fun x y => And.intro ((XO5.other hne1 0 x).other hne1 1 y).c0 ((XO5.other hne1 0 x).other hne1 1 y).c1))
  have e1 := hid (X5.set (.slice A1 n1 c1) (.slice A2 m2 c2))
  have e2 := hid (((HF.out.lo G5 hgl1).mono hw1).box2 X5 (.slice A1 n1 c1) (.slice A2 m2 c2))
  have e3 := hid (((BW.out.grown G5 BW.out.size (by intro k hk; cases hk; exact hwg)).setCell (p := ⟨w.heap.size, 0, none⟩) (Nat.le_refl _) (.slice A1 n1 c1)).setCell (p := ⟨w.heap.size, 1, none⟩) (Nat.le_refl _) (.slice A2 m2 c2))
  clear kx2 kx5 X5 XO5
  go_wp2
  (try simp only [Exit.inBlock, Exit.then])
  refine bodyPost_ret (results_db rfl _ _ w.heap.size 31 _ (0, 0) _ (by simp [Act.put]) e1.out Tryz.underlying31 rfl size_desk) rfl ?_
  exact ⟨A1, n1, c1, A2, m2, c2, D, s, rfl, e2.out, hn1, hm2, hs5, e3.out⟩

set_option maxRecDepth 100000 in
set_option maxHeartbeats 3200000 in
theorem drawDeskSay_any (A : Option Addr) (n c : Nat) (w : World) (hs : By w w.heap.size A n) (hc : n ≤ c) :
    Calls Tryz.prog 29 #[.slice A n c] w fun e w' => ∃ A1 n1 c1 A2 m2 c2 D AL nL cL ls, e = .returned (.tuple #[dsk A1 n1 c1 A2 m2 c2, .slice AL nL cL]) ∧ DkF w' w.heap.size A1 n1 c1 A2 m2 c2 D ∧ w'.ownsRow w.heap.size 9 1 (.slice AL nL cL) nL (strs ls) ∧ (∀ s ∈ ls, s.length ≤ 300) ∧ n1 ≤ 17 ∧ m2 ≤ 6 ∧ nL ≤ 41 ∧ Below w.heap.size w w' := by
  obtain ⟨i0, hi, hz0, hz1, hz2⟩ := info_parts info_str
  obtain ⟨W0, hW0⟩ : ∃ W0, w.alloc (.cells #[.slice none 0 0, .slice none 0 0] 31) = W0 := ⟨_, rfl⟩
  have b0 : Below w.heap.size w W0 := by rw [← hW0]; exact (Below.refl _ _).alloc (Nat.le_refl _) _
  have X0 : Db W0 w.heap.size (.slice none 0 0) (.slice none 0 0) := by rw [← hW0]; exact Db.new w _ _
  have hs0 : W0.heap.size = w.heap.size + 1 := by rw [← hW0]; simp
  have hsW := hs.on b0
  go_enter Tryz.func29, Tryz.ntmps29
  go_wp2_with fail
  refine (open_any A n c _ hsW hc).mono ?_
  rintro e w1 ⟨g, rfl, r1, hg, b1⟩
  have X1 := X0.below b1 (by omega)
  have hz1' := b1.size
  have C2 := hid (deskDraw_any g 0 12 w1 r1 (by omega) (by omega) (by omega))
  have hgl1 := r1.lt
  clear r1
  go_wp2_with fail
  clear hW0
  with_reducible refine Calls.mono C2.out ?_
  rintro e w2 ⟨A1, n1, c1, A2, m2, c2, D, rfl, F2, hn1, hm2, r2, g2⟩
  have b2 := b1.grown g2 hz1' (by intro k hk; cases hk; exact hg)
  have X2 := X1.on g2 (by simp; omega)
  obtain ⟨W, eW⟩ : ∃ W, w2.alloc (.cells #[.slice A1 n1 c1, .slice A2 m2 c2] 31) = W := ⟨_, rfl⟩
  have gW : w2.grownBy W none := by rw [← eW]; exact grown_alloc _ _ _
  have XO : Db W w2.heap.size (.slice A1 n1 c1) (.slice A2 m2 c2) := by rw [← eW]; exact Db.new _ _ _
  have hzW : W.heap.size = w2.heap.size + 1 := by rw [← eW]; simp
  have hz2' := g2.size
  have gl2 := r2.lt
  obtain ⟨o, ho⟩ : ∃ o, w2.heap.size = o := ⟨_, rfl⟩
  rw [ho] at XO hzW hz2' gl2
  have hgo : some o ≠ some g := by simp; omega
  have hRg : some w.heap.size ≠ some g := by simp; omega
  have hne1 : o ≠ w.heap.size := by omega
  have HXO := hid XO
  have HR := hid (r2.grown gW (by simp))
  have HX := hid (X2.on gW (by simp))
  have HF := hid (F2.onto gW)
  have hw1 : w.heap.size ≤ w1.heap.size := by omega
  have hw2 : w.heap.size < W.heap.size := by omega
  have HB := hid (b2.trans ((below_grown gW).mono b2.size))
  have HGB := hid hg
  have HB0 := hid b0
  have hoz := HXO.out.lt
  have hwg : w.heap.size ≤ g := by have := HGB.out; have := HB0.out.size; omega
  have BW := hid (HB0.out.trans (HB.out.mono HB0.out.size))
  have hWz := BW.out.size
  -- the empty list of lines
  have gE := grown_alloc W (.cells #[] 9) none
  have OE := hid (show (W.alloc (.cells #[] 9)).ownsRow W.heap.size 9 1 (.slice (some ⟨W.heap.size, 0, none⟩) 0 0) 0 (strs []) from World.ownsRow_lit W #[] 0 (Nat.le_refl _) (by simp [maxLen]) rfl)
  have RE := HR.out.grown gE (by simp)
  have HXE := hid (HX.out.on gE (by simp))
  have HXOE := hid (HXO.out.on gE (by simp))
  have HFE := hid (HF.out.onto gE)
  have BE := hid (BW.out.trans ((below_grown gE).mono hWz))
  have hgE : g < W.heap.size := HR.out.lt
  have C3 := hid (pick_any g 100 7 (W.alloc (.cells #[] 9)) RE (by omega) (by omega) (by omega))
  clear r2 g2 b2 X2 F2 X0 X1 C2 gW XO hz1' hz2' hzW hs0 b1 b0 hg gl2 HR gE RE HXO HX HF HB HB0 HGB BW
  go_wp2_with fail
  clear eW ho
  with_reducible refine Calls.mono C3.out ?_
  rintro e w3 ⟨K, rfl, hk0, hk1, r3, g3⟩
  obtain ⟨K, rfl⟩ : ∃ k : Nat, K = k := Int.eq_ofNat_of_zero_le hk0
  have O3 := hid (OE.out.kept g3 (.inr (by simp [Value.ownBlock]; omega)))
  have X3 := hid (HXE.out.on g3 hRg)
  have XO3 := hid (HXOE.out.on g3 hgo)
  have F3 := hid (HFE.out.lo g3 hgl1)
  have B3 := hid (BE.out.grown g3 BE.out.size (by intro k hk; cases hk; exact hwg))
  have R3 := hid r3
  have hW3 : W.heap.size ≤ w3.heap.size := by have := g3.size; simp at this; omega
  have hWg : some W.heap.size ≠ some g := by simp; omega
  clear r3 g3 C3 OE HXE HXOE HFE BE
  go_wp2_with fail
  go_loopw [6, 7] (fun v kk wr => ∃ (AL : Option Addr) (i cL : Nat) (ls : List (List UInt8)) (j : Nat), v = .slice AL i cL ∧ kk = .int .i64 j ∧ i + j ≤ 6 ∧ (∀ s ∈ ls, s.length ≤ 300) ∧ Hid (wr.ownsRow W.heap.size 9 1 (.slice AL i cL) i (strs ls)) ∧ W.heap.size ≤ wr.heap.size ∧ Hid (Db wr w.heap.size (.slice none 0 0) (.slice none 0 0)) ∧ Hid (Db wr o (.slice A1 n1 c1) (.slice A2 m2 c2)) ∧ Hid (DkF wr w1.heap.size A1 n1 c1 A2 m2 c2 D) ∧ Hid (Rd wr g (101 + i * 10)) ∧ Hid (Below w.heap.size w wr)) (fun _ kk _ => (intOf kk).toNat)
  case atStart => exact ⟨_, 0, 0, [], K, rfl, rfl, by omega, by simp, O3, hW3, X3, XO3, F3, hid (R3.out.more (by omega)), B3⟩
  case round =>
    clear O3 X3 XO3 F3 R3 B3
    obtain ⟨AL, i, cL, ls, j, rfl, rfl, hij, hls, HO, hWr, HX, HXO, HF, HR, HB⟩ := hrel
    have hls' := hid hls
    have hwz := HB.out.size
    have o0 := HXO.out.c0
    have o1 := HXO.out.c1
    clear hls
    by_cases hj : 0 < j
    · have hji : (0 : Int) < (j : Int) := by omega
      have hvg : (Value.slice AL i cL).ownBlock = none ∨ (Value.slice AL i cL).ownBlock ≠ some g := by
        right
        intro e
        have := own_lo HO.out g e
        omega
      have CD := hid (lineDraw_any g _ A1 n1 c1 wr HR.out (by omega) hn1)
      have hgwr := HR.out.lt
      go_wp2_with fail
      with_reducible refine Calls.mono CD.out ?_
      rintro e w5 ⟨s, rfl, hs5, r5, g5⟩
      have oP := own_kept_none (HO.out.kept g5 hvg) (grown_alloc w5 (.cells #[encStr s] 9) none)
      have gA := grown_alloc w5 (.cells #[encStr s] 9) none
      have hB5 := HB.out.grown g5 hwz (by intro k hk; cases hk; exact hwg)
      have hz5 := hB5.size
      have P1 := hid ((HX.out.on g5 hRg).on (row := none) gA (by simp))
      have P2 := hid ((HXO.out.on g5 hgo).on (row := none) gA (by simp))
      have P3 := hid ((HF.out.lo g5 hgl1).onto gA)
      have P4 := hid oP
      have P5 := hid (hB5.alloc hz5 (.cells #[encStr s] 9))
      have P6 := hid (r5.grown gA (by simp))
      have hg5z := g5.size
      clear g5 r5 gA hB5 CD HX HXO HF HO HB HR o0 o1
      go_wp2_with (at_builtin; refine wpList_append_own _ rfl _ _ 53 rfl W.heap.size 9 i0 (encStr []) 1 16 Tryz.underlying53 hi hz0 hz1 hz2 rfl (by decide) (.slice AL i cL) _ _ rfl oP ⟨w5.heap.size, 0, none⟩ 1 1 [encStr s] rfl rfl (cells_new _ [encStr s] _) (by simp [Value.oneCell']) (by simp only [maxLen]; omega) (by omega) (by simp; omega) ?_; intro v2 w8 o2 g2 _)
      obtain ⟨gx, cx, rfl, hbg, hlt2⟩ := own_shape1 o2 (by omega)
      have hblk := P4.out.lt
      rw [strs_snoc] at o2
      have Q1 := hid (P1.out.on g2 (own_blk_ne P1.out P4.out (by decide)))
      have Q2 := hid (P2.out.on g2 (own_blk_ne P2.out P4.out (by decide)))
      have Q3 := hid (P3.out.beside2F P4.out g2)
      have Q4 := hid o2
      have Q5 := hid (P5.out.grown g2 (by simp; omega) (fun j hj => by have := (hblk j hj).1; omega))
      have Q6 := hid (P6.out.grown g2 (fun j hj => by have := (hblk j hj).1; omega))
      have hz8 := g2.size
      have hls2 : ∀ t ∈ ls ++ [s], t.length ≤ 300 := fun t ht => by
        rcases List.mem_append.1 ht with ht | ht
        · exact hls'.out t ht
        · simp at ht; subst ht; exact hs5
      go_roundw
      case rel => exact ⟨_, i + 1, cx, ls ++ [s], j - 1, rfl, by go_num, by omega, hls2, Q4, by simp at hz8; omega, Q1, Q2, Q3, hid (Q6.out.more (by omega)), Q5⟩
      case measure => simp [intOf]; omega
    · obtain rfl : j = 0 := by omega
      have C8 := hid (odd_any g _ 30 wr HR.out (by omega) (by omega) (by omega))
      have hvg : (Value.slice AL i cL).ownBlock = none ∨ (Value.slice AL i cL).ownBlock ≠ some g := by
        right
        intro e
        have := own_lo HO.out g e
        omega
      go_wp2_with fail
      with_reducible refine Calls.mono C8.out ?_
      rintro e w8 ⟨b, rfl, r8, g8⟩
      have X8 := hid (HX.out.on g8 hRg)
      have XO8 := hid (HXO.out.on g8 hgo)
      have F8 := hid (HF.out.lo g8 hgl1)
      have O8 := hid (HO.out.kept g8 hvg)
      have B8 := hid (HB.out.grown g8 hwz (by intro k hk; cases hk; exact hwg))
      have hz8 := B8.out.size
      have hFIN := hid (fun (V : World) (AL : Option Addr) (nL cL : Nat) (ls : List (List UInt8)) (h1 : Db V w.heap.size (.slice none 0 0) (.slice none 0 0)) (h2 : DkF V w1.heap.size A1 n1 c1 A2 m2 c2 D) (h3 : V.ownsRow w.heap.size 9 1 (.slice AL nL cL) nL (strs ls)) (h4 : Below w.heap.size w V) =>
        show Db ((V.setCell ⟨w.heap.size, 0, none⟩ (.slice A1 n1 c1)).setCell ⟨w.heap.size, 1, none⟩ (.slice A2 m2 c2)) w.heap.size (.slice A1 n1 c1) (.slice A2 m2 c2) ∧ DkF ((V.setCell ⟨w.heap.size, 0, none⟩ (.slice A1 n1 c1)).setCell ⟨w.heap.size, 1, none⟩ (.slice A2 m2 c2)) w.heap.size A1 n1 c1 A2 m2 c2 D ∧ ((V.setCell ⟨w.heap.size, 0, none⟩ (.slice A1 n1 c1)).setCell ⟨w.heap.size, 1, none⟩ (.slice A2 m2 c2)).ownsRow w.heap.size 9 1 (.slice AL nL cL) nL (strs ls) ∧ Below w.heap.size w ((V.setCell ⟨w.heap.size, 0, none⟩ (.slice A1 n1 c1)).setCell ⟨w.heap.size, 1, none⟩ (.slice A2 m2 c2)) from
        ⟨h1.set _ _, (h2.mono hw1).box2 h1 _ _, own_boxS _ (own_boxS _ h3 h1 (by decide)) (h1.set0 _) (by decide), (h4.setCell (p := ⟨w.heap.size, 0, none⟩) (Nat.le_refl _) _).setCell (p := ⟨w.heap.size, 1, none⟩) (Nat.le_refl _) _⟩)
      clear r8 g8 C8 HX HXO HF HO HB HR o0 o1 hvg
      cases b with
      | false =>
        have x0 := X8.out.c0
        have x1 := X8.out.c1
        have x2 := X8.out.fz 0
        have x3 := X8.out.fz 1
        have o0 := XO8.out.c0
        have o1 := XO8.out.c1
        obtain ⟨e1, e2, e3, e4⟩ := hFIN.out w8 AL i cL ls X8.out F8.out (own_mono O8.out hWz) B8.out
        go_wp2
        (try simp only [Exit.inBlock, Exit.then])
        refine bodyPost_ret (results_db rfl _ _ w.heap.size 31 _ (0, 0) _ (by simp [Act.put]) e1 Tryz.underlying31 rfl size_desk) rfl ?_
        exact ⟨A1, n1, c1, A2, m2, c2, D, AL, i, cL, ls, rfl, e2, e3, hls'.out, hn1, hm2, by omega, e4⟩
      | true =>
        have hXm := hid (fun (V : World) (hg : w8.grownBy V none) => show Db V w.heap.size (.slice none 0 0) (.slice none 0 0) ∧ Db V o (.slice A1 n1 c1) (.slice A2 m2 c2) from ⟨X8.out.on hg (by simp), XO8.out.on hg (by simp)⟩)
        go_wp2_with (refine wpList_make_full _ rfl (.const (.int .i64 41)) (.const (.int .i64 41)) 53 rfl w.heap.size 9 i0 _ 1 Tryz.underlying53 hi hz0 hz1 .i64 .i64 41 41 41 rfl rfl rfl rfl (by rw [hz2]; omega) (by simp [maxLen]) hz8 ?_; intro w9 o9 g9; obtain ⟨hx9, ho9⟩ := hXm.out w9 g9; have x0 := hx9.c0; have x1 := hx9.c1; have x2 := hx9.fz 0; have x3 := hx9.fz 1; have o0 := ho9.c0; have o1 := ho9.c1)
        rw [made_strs] at o9
        obtain ⟨e1, e2, e3, e4⟩ := hFIN.out w9 _ 41 41 (List.replicate 41 []) hx9 (F8.out.onto g9) o9 (B8.out.trans ((below_grown g9).mono hz8))
        (try simp only [Exit.inBlock, Exit.then])
        refine bodyPost_ret (results_db rfl _ _ w.heap.size 31 _ (0, 0) _ (by simp [Act.put]) e1 Tryz.underlying31 rfl size_desk) rfl ?_
        exact ⟨A1, n1, c1, A2, m2, c2, D, _, 41, 41, _, rfl, e2, e3, fun s hs => by rw [(List.mem_replicate.1 hs).2]; simp, hn1, hm2, by omega, e4⟩
end Go.Proofs.YtkejcajboneniabGreatDoor
