/-
  Texts put together: Sd12 NestR NestD NestM. No statement is proved here.
-/
import Derived.Test.YtkejcajboneniabGreatDoorQMi
import Derived.Test.YtkejcajboneniabGreatDoorQMa
import Derived.Deep.RegionHeld3
import Derived.Test.YtkejcajboneniabGreatDoorQK12d
import Derived.Test.YtkejcajboneniabGreatDoorQMf
set_option linter.unusedVariables false
set_option linter.unusedSimpArgs false
namespace Go.Proofs.YtkejcajboneniabGreatDoor
open Go.RowKit

theorem sameInts_d (A A2 : Option Addr) (n c n2 c2 : Nat) (l l2 : List Int) (w : World) (hs : Sl w w.heap.size A n l) (hs2 : Sl w w.heap.size A2 n2 l2) :
    Calls Tryz.prog 58 #[.slice A n c, .slice A2 n2 c2] w fun e w' => e = .returned (.bool (decide (l = l2))) ∧ Below w.heap.size w w' :=
  (sameInts_any A A2 n c n2 c2 l l2 w _ _ hs hs2).mono fun e w' ⟨h, m, hm⟩ => ⟨h, hm ▸ below_drewN (Below.refl _ _) m⟩
theorem take_rowD {ls : List (List Int)} {k : Nat} (h : k < ls.length) : ls.take (k + 1) = ls.take k ++ [ls.getD k []] := by
  rw [List.take_succ_eq_append_getElem h, List.getD_eq_getElem?_getD, List.getElem?_eq_getElem h]
  rfl

set_option maxHeartbeats 1600000 in
theorem sameRows_any (A A2 : Option Addr) (m c m2 c2 : Nat) (ls ls2 : List (List Int)) (w : World) (hA : SlS w w.heap.size A m ls) (hB : SlS w w.heap.size A2 m2 ls2) :
    Calls Tryz.prog 59 #[.slice A m c, .slice A2 m2 c2] w fun e w' => e = .returned (.bool (decide (ls = ls2))) ∧ Below w.heap.size w w' := by
  have h1 := hA.len
  have h2 := hB.len
  have hm := hA.max
  by_cases hne : m2 = m
  · subst hne
    have e1 : ((m2 : Int) != (m2 : Int)) = false := by simp
    have BB := hid (Below.refl w.heap.size w)
    have HA := hid hA
    have HB := hid hB
    have H1 := hid h1
    have H2 := hid h2
    clear hA hB h1 h2
    go_enter Tryz.func59, Tryz.ntmps59
    go_wp2_with fail
    go_loopw [5] (fun i wr => ∃ k : Nat, i = .int .i64 k ∧ k ≤ m2 ∧ Hid (ls.take k = ls2.take k) ∧ Hid (Below w.heap.size w wr)) (fun i _ => m2 - (intOf i).toNat)
    case atStart => exact ⟨0, rfl, Nat.zero_le _, hid rfl, BB⟩
    case round =>
      clear BB
      obtain ⟨k, rfl, hk, HT, BB⟩ := hrel
      by_cases hlt : k < m2
      · obtain ⟨b, off, A3, n3, c3, rfl, hb, hc1, o1⟩ := (HA.out.on BB.out).at hlt
        obtain ⟨b2, off2, A4, n4, c4, rfl, hb2, hc2, o2⟩ := (HB.out.on BB.out).at hlt
        have hd : Below wr.heap.size wr wr.drew := (Below.refl _ _).drew
        have CE := hid (sameInts_d A3 A4 n3 c3 n4 c4 _ _ wr.drew (o1.on hd) (o2.on hd))
        have t1 := hid (take_rowD (ls := ls) (k := k) (by rw [H1.out]; exact hlt))
        have t2 := hid (take_rowD (ls := ls2) (k := k) (by rw [H2.out]; exact hlt))
        obtain ⟨r1, hr1⟩ : ∃ r, ls.getD k [] = r := ⟨_, rfl⟩
        obtain ⟨r2, hr2⟩ : ∃ r, ls2.getD k [] = r := ⟨_, rfl⟩
        rw [hr1, hr2] at CE
        rw [hr1] at t1
        rw [hr2] at t2
        have HR1 := hid hr1
        have HR2 := hid hr2
        have KX := hid (fun (W : World) (hW : Below wr.drew.heap.size wr.drew W) => show (W.cell? ⟨b, off + k, none⟩ = some (.slice A3 n3 c3) ∧ W.cell? ⟨b2, off2 + k, none⟩ = some (.slice A4 n4 c4)) from
          ⟨((hd.trans hW).cell (p := ⟨b, off + k, none⟩) hb).trans hc1, ((hd.trans hW).cell (p := ⟨b2, off2 + k, none⟩) hb2).trans hc2⟩)
        have hki : (k : Int) < (m2 : Int) := by omega
        have p7 : (0 : Int) ≤ (k : Int) := by omega
        clear o1 o2 hr1 hr2
        by_cases heq : r1 = r2
        · rw [decide_eq_true heq] at CE
          have HE := hid heq
          clear heq
          go_wp2_with fail
          go_region_held3 (fun w' => w'.cell? ⟨b, off + k, none⟩ = some (.slice A3 n3 c3) ∧ w'.cell? ⟨b2, off2 + k, none⟩ = some (.slice A4 n4 c4))
            (first
              | go_keep
              | assumption)
            (first
              | (go_at_call 58; (with_reducible refine Calls.mono CE.out ?_); rintro r w4 ⟨rfl, st⟩; have kx := KX.out _ st))
          have BB3 := hid (BB.out.trans ((hd.trans st).mono BB.out.size))
          clear st hc1 hc2 BB KX CE kx
          go_wp2
          go_roundw
          case rel => exact ⟨k + 1, by go_num, by omega, hid (by rw [t1.out, t2.out, HT.out, HE.out]), BB3⟩
          case measure => simp [intOf]; omega
        · rw [decide_eq_false heq] at CE
          have HE := hid heq
          clear heq
          go_wp2_with fail
          go_region_held3 (fun w' => w'.cell? ⟨b, off + k, none⟩ = some (.slice A3 n3 c3) ∧ w'.cell? ⟨b2, off2 + k, none⟩ = some (.slice A4 n4 c4))
            (first
              | go_keep
              | assumption)
            (first
              | (go_at_call 58; (with_reducible refine Calls.mono CE.out ?_); rintro r w4 ⟨rfl, st⟩; have kx := KX.out _ st))
          have BB3 := hid (BB.out.trans ((hd.trans st).mono BB.out.size))
          clear st hc1 hc2 BB KX CE kx
          go_wp2
          go_ret
          refine ⟨ret_bool ?_, BB3.out⟩
          symm
          rw [decide_eq_false_iff_not]
          rintro rfl
          exact HE.out (HR1.out.symm.trans HR2.out)
      · obtain rfl : k = m2 := by omega
        go_wp2
        go_ret
        refine ⟨ret_bool ?_, BB.out⟩
        symm
        rw [decide_eq_true_iff]
        have := HT.out
        rwa [List.take_of_length_le (by rw [H1.out]; omega), List.take_of_length_le (by rw [H2.out]; omega)] at this
  · have e1 : ((m : Int) != (m2 : Int)) = true := by simp; omega
    have e2 : ((m : Int) == (m2 : Int)) = false := by simp; omega
    have HF := hid (show decide (ls = ls2) = false by
      rw [decide_eq_false_iff_not]
      rintro rfl
      omega)
    clear hA hB h1 h2 hne
    go_enter Tryz.func59, Tryz.ntmps59
    go_wp2
    go_ret
    exact ⟨ret_bool HF.out.symm, Below.refl _ _⟩

def sameB (D E : Dk) : Bool := decide (D.now = E.now) && decide (D.past = E.past)
theorem sameB_refl (D : Dk) : sameB D D = true := by simp [sameB]

set_option maxRecDepth 100000 in
set_option maxHeartbeats 1600000 in
theorem sameDesk_any (A : Option Addr) (n c : Nat) (A2 : Option Addr) (m c2 : Nat) (A3 : Option Addr) (n3 c3 : Nat) (A4 : Option Addr) (m4 c4 : Nat) (D E : Dk) (w : World) (h1 : DkR w w.heap.size A n c A2 m c2 D) (h2 : DkR w w.heap.size A3 n3 c3 A4 m4 c4 E) :
    Calls Tryz.prog 18 #[dsk A n c A2 m c2, dsk A3 n3 c3 A4 m4 c4] w fun e w' => e = .returned (.bool (sameB D E)) ∧ Below w.heap.size w w' := by
  have z1 : (w.alloc (.cells #[.slice A n c, .slice A2 m c2] 31)).heap.size = w.heap.size + 1 := by simp
  have g1 := grown_alloc (w.alloc (.cells #[.slice A n c, .slice A2 m c2] 31)) (.cells #[.slice A3 n3 c3, .slice A4 m4 c4] 31) none
  have X0 := (Db.new w (.slice A n c) (.slice A2 m c2)).on (row := none) g1 (by simp)
  have X1 := Db.new (w.alloc (.cells #[.slice A n c, .slice A2 m c2] 31)) (.slice A3 n3 c3) (.slice A4 m4 c4)
  rw [z1] at X1
  have B0 := ((Below.refl w.heap.size w).alloc (Nat.le_refl _) (.cells #[.slice A n c, .slice A2 m c2] 31)).alloc (by simp) (.cells #[.slice A3 n3 c3, .slice A4 m4 c4] 31)
  go_enter Tryz.func18, Tryz.ntmps18
  obtain ⟨w0, e0⟩ : ∃ W, (w.alloc (.cells #[.slice A n c, .slice A2 m c2] 31)).alloc (.cells #[.slice A3 n3 c3, .slice A4 m4 c4] 31) = W := ⟨_, rfl⟩
  have hz0 : w0.heap.size = w.heap.size + 2 := by rw [← e0]; simp
  rw [e0] at X0 X1 B0
  have x0 := X0.c0
  have x1 := X0.c1
  have y0 := X1.c0
  have y1 := X1.c1
  have CE := hid (sameInts_d A A3 n c n3 c3 D.now E.now w0 (h1.now.on B0) (h2.now.on B0))
  have CR := hid (fun (W : World) (hW : Below w.heap.size w W) => sameRows_any A2 A4 m c2 m4 c4 D.past E.past W (h1.past.on hW) (h2.past.on hW))
  have HX0 := hid X0
  have HX1 := hid X1
  have HB0 := hid B0
  clear X0 X1 B0 g1 z1 h1 h2
  by_cases heq : D.now = E.now
  · rw [decide_eq_true heq] at CE
    have HS := hid (show sameB D E = decide (D.past = E.past) by unfold sameB; rw [decide_eq_true heq]; simp)
    clear heq
    obtain ⟨bp, hbp⟩ : ∃ b, decide (D.past = E.past) = b := ⟨_, rfl⟩
    rw [hbp] at CR HS
    clear hbp
    go_wp2_with fail
    with_reducible refine Calls.mono CE.out ?_
    rintro e w1 ⟨rfl, b1⟩
    have Y0 := HX0.out.below b1 (by omega)
    have Y1 := HX1.out.below b1 (by omega)
    have u1 := Y0.c1
    have v1 := Y1.c1
    have HB1 := hid (HB0.out.trans (b1.mono (by omega)))
    clear b1 x0 x1 y0 y1 e0 Y0 Y1
    go_wp2_with fail
    with_reducible refine Calls.mono (CR.out _ HB1.out) ?_
    rintro e w2 ⟨rfl, b2⟩
    have HB2 := hid (HB1.out.trans (b2.mono HB1.out.size))
    clear b2
    go_wp2
    go_ret
    exact ⟨ret_bool HS.out.symm, HB2.out⟩
  · rw [decide_eq_false heq] at CE
    have HS := hid (show sameB D E = false by unfold sameB; rw [decide_eq_false heq]; simp)
    clear heq
    go_wp2_with fail
    with_reducible refine Calls.mono CE.out ?_
    rintro e w1 ⟨rfl, b1⟩
    have HB1 := hid (HB0.out.trans (b1.mono (by omega)))
    clear b1 x0 x1 y0 y1 e0
    go_wp2
    go_ret
    exact ⟨ret_bool HS.out.symm, HB1.out⟩

set_option maxRecDepth 100000 in
set_option maxHeartbeats 1600000 in
theorem noDesk_any (A : Option Addr) (n c : Nat) (A2 : Option Addr) (m c2 : Nat) (D : Dk) (w : World) (h1 : DkR w w.heap.size A n c A2 m c2 D) :
    Calls Tryz.prog 22 #[dsk A n c A2 m c2] w fun e w' => e = .returned (.bool (sameB D noDk)) ∧ Below w.heap.size w w' := by
  have X0 := Db.new w (.slice A n c) (.slice A2 m c2)
  have B0 := (Below.refl w.heap.size w).alloc (Nat.le_refl _) (.cells #[.slice A n c, .slice A2 m c2] 31)
  go_enter Tryz.func22, Tryz.ntmps22
  obtain ⟨w0, e0⟩ : ∃ W, w.alloc (.cells #[.slice A n c, .slice A2 m c2] 31) = W := ⟨_, rfl⟩
  rw [e0] at X0 B0
  have x0 := X0.c0
  have x1 := X0.c1
  have CE := hid (sameDesk_any A n c A2 m c2 none 0 0 none 0 0 D noDk w0 (h1.on B0) (DkR.no _ _))
  have HB0 := hid B0
  clear X0 B0 h1
  go_wp2_with fail
  clear e0
  with_reducible refine Calls.mono CE.out ?_
  rintro e w1 ⟨rfl, b1⟩
  have HB1 := hid (HB0.out.trans (b1.mono HB0.out.size))
  clear b1
  go_wp2
  go_ret
  exact ⟨rfl, HB1.out⟩
end Go.Proofs.YtkejcajboneniabGreatDoor
namespace Go.Proofs.YtkejcajboneniabGreatDoor
open Go.RowKit

set_option maxHeartbeats 800000 in
theorem szIntS_okK (A : Option Addr) (n c : Nat) (s : Int) (w : World) (h : (n : Int) ≤ s) (hs : s ≤ 1048576) :
    Calls Tryz.prog 79 #[.slice A n c, .int .i64 s] w fun e w' => e = .returned (.int .i64 (s - n)) ∧ w = w' := by
  have h1 : decide (s - (n : Int) < 0) = false := by simp; omega
  have h2 : ¬ s - (n : Int) < 0 := by omega
  go_enter Tryz.func79, Tryz.ntmps79
  go_wp2
  go_ret
  exact ⟨rfl, rfl⟩
set_option maxHeartbeats 800000 in
theorem szIntS_bigK (A : Option Addr) (n c : Nat) (s : Int) (w : World) (h : s < (n : Int)) (hs : 0 ≤ s) (hn : n ≤ 9223372036854775807) :
    Calls Tryz.prog 79 #[.slice A n c, .int .i64 s] w fun e w' => e = .returned (.int .i64 (-1)) ∧ w = w' := by
  have h1 : s - (n : Int) < 0 := by omega
  go_enter Tryz.func79, Tryz.ntmps79
  go_wp2
  go_ret
  exact ⟨rfl, rfl⟩

set_option maxHeartbeats 1600000 in
theorem eqIntSS_read (A A2 : Option Addr) (m c m2 c2 : Nat) (ls : List (List Int)) (w : World) (hA : SlS w w.heap.size A m ls) (hB : SlS w w.heap.size A2 m2 ls) :
    Calls Tryz.prog 84 #[.slice A m c, .slice A2 m2 c2] w fun e w' => e = .returned (.bool true) ∧ Below w.heap.size w w' := by
  have h1 := hA.len
  have h2 := hB.len
  have hm := hA.max
  obtain rfl : m2 = m := by omega
  have e1 : ((m2 : Int) != (m2 : Int)) = false := by simp
  have BB := hid (Below.refl w.heap.size w)
  have HA := hid hA
  have HB := hid hB
  clear hA hB h1 h2
  go_enter Tryz.func84, Tryz.ntmps84
  go_wp2_with fail
  go_loopw [5] (fun i wr => ∃ k : Nat, i = .int .i64 k ∧ k ≤ m2 ∧ Hid (Below w.heap.size w wr)) (fun i _ => m2 - (intOf i).toNat)
  case atStart => exact ⟨0, rfl, Nat.zero_le _, BB⟩
  case round =>
    clear BB
    obtain ⟨k, rfl, hk, BB⟩ := hrel
    by_cases hlt : k < m2
    · obtain ⟨b, off, A3, n3, c3, rfl, hb, hc1, o1⟩ := (HA.out.on BB.out).at hlt
      obtain ⟨b2, off2, A4, n4, c4, rfl, hb2, hc2, o2⟩ := (HB.out.on BB.out).at hlt
      have hd : Below wr.heap.size wr wr.drew := (Below.refl _ _).drew
      have CE := hid (eqIntS_b A3 A4 n3 c3 n4 c4 _ _ wr.drew wr.drew.heap.size wr.drew.heap.size (o1.on hd) (o2.on hd))
      rw [decide_eq_true rfl] at CE
      have KX := hid (fun (W : World) (hW : Below wr.drew.heap.size wr.drew W) => show (W.cell? ⟨b, off + k, none⟩ = some (.slice A3 n3 c3) ∧ W.cell? ⟨b2, off2 + k, none⟩ = some (.slice A4 n4 c4)) from
        ⟨((hd.trans hW).cell (p := ⟨b, off + k, none⟩) hb).trans hc1, ((hd.trans hW).cell (p := ⟨b2, off2 + k, none⟩) hb2).trans hc2⟩)
      have hki : (k : Int) < (m2 : Int) := by omega
      have p7 : (0 : Int) ≤ (k : Int) := by omega
      clear o1 o2
      go_wp2_with fail
      go_region_held3 (fun w' => w'.cell? ⟨b, off + k, none⟩ = some (.slice A3 n3 c3) ∧ w'.cell? ⟨b2, off2 + k, none⟩ = some (.slice A4 n4 c4))
        (first
          | go_keep
          | assumption)
        (first
          | (go_at_call 83; (with_reducible refine Calls.mono CE.out ?_); rintro r w4 ⟨rfl, st⟩; have kx := KX.out _ st))
      have BB3 := hid (BB.out.trans ((hd.trans st).mono BB.out.size))
      clear st hc1 hc2 BB KX CE kx
      go_wp2
      go_roundw
      case rel => exact ⟨k + 1, by go_num, by omega, BB3⟩
      case measure => simp [intOf]; omega
    · obtain rfl : k = m2 := by omega
      go_wp2
      go_ret
      exact ⟨rfl, BB.out⟩

/-- How many numbers a list of rows has, counting each row once besides. -/
def szL (ls : List (List Int)) : Nat := (ls.map List.length).sum
theorem szL_take {ls : List (List Int)} {k : Nat} (h : k < ls.length) : szL (ls.take (k + 1)) = szL (ls.take k) + (ls.getD k []).length := by
  unfold szL
  rw [List.take_succ_eq_append_getElem h, List.map_append, List.sum_append, List.getD_eq_getElem?_getD, List.getElem?_eq_getElem h]
  simp

set_option maxHeartbeats 1600000 in
theorem szIntSS_read (A : Option Addr) (m c : Nat) (s : Int) (ls : List (List Int)) (w : World) (hA : SlS w w.heap.size A m ls) (hs0 : 0 ≤ s) (hs1 : s ≤ 1048576) :
    Calls Tryz.prog 80 #[.slice A m c, .int .i64 s] w fun e w' => (∃ r : Int, e = .returned (.int .i64 r) ∧ (r < 0 ∨ (0 ≤ r ∧ (m : Int) + szL ls ≤ s ∧ r ≤ s))) ∧ w = w' := by
  have h1 := hA.len
  have hm := hA.max
  by_cases hneg : s - (m : Int) < 0
  · go_enter Tryz.func80, Tryz.ntmps80
    go_wp2
    go_ret
    exact ⟨⟨_, rfl, .inl (by omega)⟩, rfl⟩
  · have hneg' : decide (s - (m : Int) < 0) = false := by simpa using hneg
    have HA := hid hA
    have H1 := hid h1
    clear hA h1
    go_enter Tryz.func80, Tryz.ntmps80
    go_wp2
    go_loop [1, 5] (fun x i => ∃ (k : Nat) (r : Int), x = .int .i64 r ∧ i = .int .i64 k ∧ k ≤ m ∧ 0 ≤ r ∧ r = s - m - szL (ls.take k)) (fun _ i => m - (intOf i).toNat)
    case atStart => exact ⟨0, s - m, rfl, rfl, Nat.zero_le _, by omega, by simp [szL]⟩
    case round =>
      obtain ⟨k, r, rfl, rfl, hk, hr0, hr⟩ := hrel
      have HR := hid hr
      by_cases hlt : k < m
      · obtain ⟨b, off, A3, n3, c3, rfl, hb, hc1, o1⟩ := HA.out.at hlt
        have hl3 := o1.len
        have hm3 := o1.max
        have hst := szL_take (ls := ls) (k := k) (by rw [H1.out]; exact hlt)
        rw [hl3] at hst
        have HST := hid hst
        have hrs : r ≤ 1048576 := by omega
        have hki : (k : Int) < (m : Int) := by omega
        have p7 : (0 : Int) ≤ (k : Int) := by omega
        clear hl3 hst o1 hr
        by_cases hbig : r < (n3 : Int)
        · have hq := szIntS_bigK A3 n3 c3 r w hbig hr0 hm3
          have HQ := hid hq
          clear hq
          go_wp2_with (go_at_call 79; with_reducible refine Calls.mono HQ.out ?_; rintro e w' ⟨rfl, rfl⟩)
          go_ret
          exact ⟨⟨_, rfl, .inl (by omega)⟩, rfl⟩
        · have hq := szIntS_okK A3 n3 c3 r w (by omega) hrs
          have HQ := hid hq
          have hd3 : decide (r - (n3 : Int) < 0) = false := by simp; omega
          have hd4 : ¬ r - (n3 : Int) < 0 := by omega
          clear hq
          go_wp2_with (go_at_call 79; with_reducible refine Calls.mono HQ.out ?_; rintro e w' ⟨rfl, rfl⟩)
          go_round
          case rel => exact ⟨k + 1, r - n3, rfl, by go_num, by omega, by omega, by rw [HST.out, HR.out]; omega⟩
          case measure => simp [intOf]; omega
      · obtain rfl : k = m := by omega
        have hfin : ls.take k = ls := List.take_of_length_le (by rw [H1.out]; exact Nat.le_refl _)
        rw [hfin] at HR
        go_wp2
        go_ret
        exact ⟨⟨_, rfl, .inr ⟨by have := HR.out; omega, by have := HR.out; omega, by have := HR.out; omega⟩⟩, rfl⟩

set_option maxHeartbeats 1600000 in
theorem szDesk_any (A : Option Addr) (n c : Nat) (A2 : Option Addr) (m c2 : Nat) (D : Dk) (w : World) (h : DkR w w.heap.size A n c A2 m c2 D) :
    Calls Tryz.prog 24 #[dsk A n c A2 m c2, .int .i64 1048576] w fun e w' => (∃ r : Int, e = .returned (.int .i64 r) ∧ (r < 0 ∨ (0 ≤ r ∧ n + m + szL D.past ≤ 1048576 ∧ r ≤ 1048576))) ∧ w.grownBy w' none := by
  have hg := grown_alloc w (.cells #[.slice A n c, .slice A2 m c2] 48) none
  have k0 : (w.alloc (.cells #[.slice A n c, .slice A2 m c2] 48)).cell? ⟨w.heap.size, 0, none⟩ = some (.slice A n c) := by simp
  have k1 : (w.alloc (.cells #[.slice A n c, .slice A2 m c2] 48)).cell? ⟨w.heap.size, 1, none⟩ = some (.slice A2 m c2) := by simp
  have hn := h.now.max
  have H := h.on (below_grown hg)
  by_cases h1 : n ≤ 1048576
  · have C1 := hid (fun W : World => szIntS_okK A n c 1048576 W (by omega) (by omega))
    have C2 := hid (szIntSS_read A2 m c2 ((1048576 : Int) - n) D.past (w.alloc (.cells #[.slice A n c, .slice A2 m c2] 48)) H.past (by omega) (by omega))
    have e1 : decide ((1048576 : Int) - (n : Int) < 0) = false := by simp; omega
    have e2 : ¬ (1048576 : Int) - (n : Int) < 0 := by omega
    clear H h
    go_enter Tryz.func24, Tryz.ntmps24
    go_wp2_with fail
    with_reducible refine Calls.mono (C1.out _) ?_
    rintro e w' ⟨rfl, rfl⟩
    go_wp2_with fail
    with_reducible refine Calls.mono C2.out ?_
    rintro e w' ⟨⟨r, rfl, hr⟩, rfl⟩
    by_cases hr0 : r < 0
    · go_wp2
      go_ret
      exact ⟨⟨_, rfl, .inl (by omega)⟩, hg⟩
    · have hr0' : decide (r < 0) = false := by simpa using hr0
      have HR := hid hr
      clear hr
      go_wp2
      go_ret
      exact ⟨⟨_, rfl, .inr (by have := HR.out; omega)⟩, hg⟩
  · have C1 := hid (fun W : World => szIntS_bigK A n c 1048576 W (by omega) (by omega) hn)
    clear H h
    go_enter Tryz.func24, Tryz.ntmps24
    go_wp2_with fail
    with_reducible refine Calls.mono (C1.out _) ?_
    rintro e w' ⟨rfl, rfl⟩
    go_wp2
    go_ret
    exact ⟨⟨_, rfl, .inl (by omega)⟩, hg⟩

theorem Rows.setK {w w' : World} {B i : Nat} {vs : List Value} {ls : List (List Int)} {u : Value} {l : List Int} (h : Rows w B (vs.take i) (ls.take i)) (hi : i < vs.length) (hl : ls[i]? = some l) (hk : ∀ v n xs, w.ownsRow B 3 1 v n xs → w'.ownsRow B 3 1 v n xs) (hr : Row1 w' B u l) : Rows w' B ((vs.set i u).take (i + 1)) (ls.take (i + 1)) := by
  have h1 := (h.keep hk).snoc hr
  have hil : i < ls.length := (List.getElem?_eq_some_iff.1 hl).1
  have e1 : (vs.set i u).take (i + 1) = vs.take i ++ [u] := by
    rw [List.take_succ_eq_append_getElem (by simpa using hi), List.take_set_of_le (Nat.le_refl _)]
    simp
  have e2 : ls.take (i + 1) = ls.take i ++ [l] := by
    rw [List.take_succ_eq_append_getElem hil, (List.getElem?_eq_some_iff.1 hl).2]
  rw [e1, e2]
  exact h1

theorem row_le {ls : List (List Int)} {k : Nat} (h : k < ls.length) : (ls.getD k []).length ≤ szL ls := by
  unfold szL
  have h1 : (ls.map List.length).sum = ((ls.take k).map List.length).sum + ((ls.drop k).map List.length).sum := by
    rw [← List.sum_append, ← List.map_append, List.take_append_drop]
  rw [h1, List.drop_eq_getElem_cons h, List.map_cons, List.sum_cons, List.getD_eq_getElem?_getD, List.getElem?_eq_getElem h]
  simp
  omega
theorem rows_hi {w : World} {B : Nat} {vs : List Value} {ls : List (List Int)} (h : Rows w B vs ls) : ∀ v ∈ vs, ∀ k, v.ownBlock = some k → k < w.heap.size := by
  intro v hv k hk
  obtain ⟨j, hj, rfl⟩ := List.getElem_of_mem hv
  obtain ⟨A, n, c, e, ho⟩ := h.2 j _ _ (List.getElem?_eq_getElem hj) (List.getElem?_eq_getElem (by have := h.1; omega))
  rw [e] at hk
  exact own_hi ho k hk
theorem apart_set {vs : List Value} {u : Value} {k : Nat} (h : Apart (vs.take k)) (hk : k < vs.length) (hu : ∀ v ∈ vs.take k, v.ownBlock = none ∨ v.ownBlock ≠ u.ownBlock) : Apart ((vs.set k u).take (k + 1)) := by
  have e1 : (vs.set k u).take (k + 1) = vs.take k ++ [u] := by
    rw [List.take_succ_eq_append_getElem (by simpa using hk), List.take_set_of_le (Nat.le_refl _)]
    simp
  rw [e1]
  have hl : (vs.take k).length = k := by rw [List.length_take]; omega
  have flip : ∀ v ∈ vs.take k, u.ownBlock = none ∨ u.ownBlock ≠ v.ownBlock := fun v hv => by
    rcases hu v hv with h1 | h1
    · rcases hq : u.ownBlock with _ | q
      · exact .inl rfl
      · exact .inr (by rw [h1]; simp)
    · exact .inr fun e => h1 e.symm
  intro i j x y hx hy hne
  rcases Nat.lt_or_ge i k with hi | hi
  · rw [List.getElem?_append_left (by omega)] at hx
    rcases Nat.lt_or_ge j k with hj | hj
    · rw [List.getElem?_append_left (by omega)] at hy
      exact h i j x y hx hy hne
    · rw [List.getElem?_append_right (by omega), hl] at hy
      have h0 : j - k = 0 := by
        rcases Nat.eq_zero_or_pos (j - k) with h0 | h0
        · exact h0
        · rw [List.getElem?_eq_none (by simp; omega)] at hy; cases hy
      rw [h0] at hy
      simp at hy
      subst hy
      exact hu x (List.mem_of_getElem? hx)
  · rw [List.getElem?_append_right (by omega), hl] at hx
    have h0 : i - k = 0 := by
      rcases Nat.eq_zero_or_pos (i - k) with h0 | h0
      · exact h0
      · rw [List.getElem?_eq_none (by simp; omega)] at hx; cases hx
    rw [h0] at hx
    simp at hx
    subst hx
    rcases Nat.lt_or_ge j k with hj | hj
    · rw [List.getElem?_append_left (by omega)] at hy
      exact flip y (List.mem_of_getElem? hy)
    · rw [List.getElem?_append_right (by omega), hl] at hy
      have h1 : j - k = 0 := by
        rcases Nat.eq_zero_or_pos (j - k) with h1 | h1
        · exact h1
        · rw [List.getElem?_eq_none (by simp; omega)] at hy; cases hy
      omega

set_option maxRecDepth 100000 in
set_option maxHeartbeats 3200000 in
theorem toIntSS_read (A : Option Addr) (m c : Nat) (ls : List (List Int)) (w : World) (hA : SlS w w.heap.size A m ls) (hsz : m + szL ls ≤ 1048576) :
    Calls Tryz.prog 82 #[.slice A m c] w fun e w' => ∃ g vs, e = .returned (.slice (some ⟨g, 0, none⟩) m m) ∧ w'.ownsRow w.heap.size 28 1 (.slice (some ⟨g, 0, none⟩) m m) m vs ∧ Rows w' w.heap.size vs ls ∧ Apart vs ∧ Below w.heap.size w w' := by
  obtain ⟨j0, hj, hjz0, hjz1, hjz2⟩ := info_rows
  have h1 := hA.len
  have HA := hid hA
  have H1 := hid h1
  clear hA h1
  go_enter Tryz.func82, Tryz.ntmps82
  go_wp2_with (refine wpList_make_full _ rfl (.tmp 6) (.tmp 6) 29 rfl w.heap.size 28 j0 _ 1 Tryz.underlying29 hj hjz0 hjz1 .i64 .i64 m m m rfl rfl rfl rfl (by rw [hjz2]; omega) (by simp only [maxLen]; omega) (Nat.le_refl _) ?_; intro w1 o1 g1)
  have hb1 := hid (below_grown g1)
  have HSZ := hid (fun (k : Nat) (hk : k < m) => row_le (ls := ls) (k := k) (by rw [H1.out]; exact hk))
  have r0 : Rows w1 w.heap.size (((madeCells (Value.slice none 0 0).cells (m * 1)).toList).take 0) (ls.take 0) := Rows.nil _ _
  have ap0 : Apart (((madeCells (Value.slice none 0 0).cells (m * 1)).toList).take 0) := fun i j u v hu => by simp at hu
  have R0 := hid r0
  have AP0 := hid ap0
  have hlt0 := own_hi o1 w.heap.size rfl
  clear g1 r0 ap0
  go_loopw [4] (fun i wr => ∃ (k : Nat) (vs : List Value), i = .int .i64 k ∧ k ≤ m ∧ wr.ownsRow w.heap.size 28 1 (.slice (some ⟨w.heap.size, 0, none⟩) m m) m vs ∧ Hid (Rows wr w.heap.size (vs.take k) (ls.take k)) ∧ Hid (Apart (vs.take k)) ∧ Hid (Below w.heap.size w wr)) (fun i _ => m - (intOf i).toNat)
  case atStart => exact ⟨0, _, rfl, Nat.zero_le _, o1, R0, AP0, hb1⟩
  case round =>
    clear o1 R0 AP0 hb1 hlt0
    obtain ⟨k, vs, rfl, hk, o1, R0, AP0, BB⟩ := hrel
    have hvl : vs.length = m := by have := o1.1; omega
    by_cases hlt : k < m
    · obtain ⟨b, off, A3, n3, c3, rfl, hb, hc1, s3⟩ := (HA.out.on BB.out).at hlt
      have hn3 := s3.len
      have hle := HSZ.out k hlt
      rw [hn3] at hle
      have hwz := BB.out.size
      have hlw := own_hi o1 w.heap.size rfl
      have hki : (k : Int) < (m : Int) := by omega
      have p7 : (0 : Int) ≤ (k : Int) := by omega
      have CT := hid (toIntS_any A3 n3 c3 _ wr s3 (by omega))
      have hlk : ls[k]? = some (ls.getD k []) := by rw [List.getD_eq_getElem?_getD, List.getElem?_eq_getElem (by rw [H1.out]; exact hlt)]; rfl
      obtain ⟨lk, hlke⟩ : ∃ lk, ls.getD k [] = lk := ⟨_, rfl⟩
      rw [hlke] at CT hlk
      have HLK := hid hlk
      have HVL := hid hvl
      have hcz := o1.cellAt k (by omega)
      obtain ⟨vk, hkv⟩ : ∃ x, vs[k]? = some x := ⟨_, List.getElem?_eq_getElem (by omega)⟩
      rw [hkv] at hcz
      have hfz := o1.frozenAt k
      clear hlke s3 hn3 hlk hkv hvl
      go_wp2_with (go_at_call 81; (with_reducible refine Calls.mono CT.out ?_); rintro e w5 ⟨g5, rfl, o5, b5⟩; have hcz5 := (b5.cell (p := ⟨w.heap.size, k, none⟩) hlw).trans hcz; have hfz5 := (own_on o1 b5).frozenAt k)
      have O5 := own_on o1 b5
      have hg5 := o5.lt g5 rfl
      obtain ⟨p1, p2⟩ := O5.stored k (.slice (some ⟨g5, 0, none⟩) n3 n3)
      have RX := R0.out.on b5
      have hm5 := own_mono (base' := w.heap.size) o5 hwz
      have RN := Rows.setK RX (u := .slice (some ⟨g5, 0, none⟩) n3 n3) (by rw [HVL.out]; exact hlt) HLK.out (fun v n xs ho => own_beside ho O5 p2) ⟨_, _, _, rfl, own_beside hm5 O5 p2⟩
      have AN : Apart ((vs.set k (.slice (some ⟨g5, 0, none⟩) n3 n3)).take (k + 1)) := apart_set AP0.out (by rw [HVL.out]; exact hlt) (fun v hv => by
        rcases hob : v.ownBlock with _ | q
        · exact .inl rfl
        · right
          have hq := rows_hi R0.out v hv q hob
          simp [Value.ownBlock]
          omega)
      have QO := hid p1
      have QR := hid RN
      have QA := hid AN
      have QB := hid ((BB.out.trans (b5.mono hwz)).grown p2 (Nat.le_trans hwz b5.size) (by intro j hj; simp [Value.ownBlock] at hj; omega))
      clear p1 p2 RX RN AN o5 b5 O5 hm5 o1 R0 AP0 BB hc1 hcz hfz
      go_roundw
      case rel => exact ⟨k + 1, vs.set k (.slice (some ⟨g5, 0, none⟩) n3 n3), by go_num, by omega, QO.out, QR, QA, QB⟩
      case measure => simp [intOf]; omega
    · obtain rfl : k = m := by omega
      rw [List.take_of_length_le (by omega), List.take_of_length_le (by rw [H1.out]; exact Nat.le_refl _)] at R0
      rw [List.take_of_length_le (by omega)] at AP0
      have O1 := hid o1
      clear o1
      go_wp2
      go_ret
      exact ⟨_, vs, rfl, O1.out, R0.out, AP0.out, BB.out⟩
end Go.Proofs.YtkejcajboneniabGreatDoor
namespace Go.Proofs.YtkejcajboneniabGreatDoor
open Go.RowKit

/-- A desk of one's own whose rows lie apart. -/
def DkY (w : World) (B : Nat) (A : Option Addr) (n c : Nat) (A2 : Option Addr) (m c2 : Nat) (D : Dk) : Prop :=
  w.ownsRow B 3 1 (.slice A n c) n (ints D.now) ∧ (m ≤ c2 ∧ c2 ≤ 9223372036854775807) ∧
    ((A2 = none ∧ m = 0 ∧ D.past = []) ∨ ∃ (g off M C : Nat) (V : List Value), A2 = some ⟨g, off, none⟩ ∧ w.ownsRow B 28 1 (.slice (some ⟨g, 0, none⟩) M C) M V ∧ off + m ≤ M ∧ Rows w B ((V.drop off).take m) D.past ∧ Apart (.slice A n c :: (V.drop off).take m))
section
variable {w w' : World} {B B' n c m c2 : Nat} {A A2 : Option Addr} {D : Dk}
theorem DkY.g (h : DkY w B A n c A2 m c2 D) : DkG w B A n c A2 m c2 D := by
  refine ⟨h.1, h.2.1, ?_⟩
  rcases h.2.2 with h3 | ⟨g, off, M, C, V, e, ho, hm, hr, _⟩
  · exact .inl h3
  · exact .inr ⟨g, off, M, C, V, e, ho, hm, hr⟩
theorem DkY.keep (h : DkY w B A n c A2 m c2 D) (h1 : ∀ v n xs, w.ownsRow B 3 1 v n xs → w'.ownsRow B' 3 1 v n xs) (h2 : ∀ v n xs, w.ownsRow B 28 1 v n xs → w'.ownsRow B' 28 1 v n xs) : DkY w' B' A n c A2 m c2 D := by
  refine ⟨h1 _ _ _ h.1, h.2.1, ?_⟩
  rcases h.2.2 with h3 | ⟨g, off, M, C, V, e, ho, hm, hr, ha⟩
  · exact .inl h3
  · exact .inr ⟨g, off, M, C, V, e, h2 _ _ _ ho, hm, ⟨hr.1, fun j v l hv hl => by
      obtain ⟨A3, n3, c3, e3, ho3⟩ := hr.2 j v l hv hl
      exact ⟨A3, n3, c3, e3, h1 _ _ _ ho3⟩⟩, ha⟩
theorem DkY.on (h : DkY w B A n c A2 m c2 D) (hb : Below w.heap.size w w') : DkY w' B A n c A2 m c2 D := h.keep (fun _ _ _ ho => own_on ho hb) (fun _ _ _ ho => own_on ho hb)
theorem DkY.onto (h : DkY w B A n c A2 m c2 D) (hg : w.grownBy w' none) : DkY w' B A n c A2 m c2 D := h.keep (fun _ _ _ ho => own_kept_none ho hg) (fun _ _ _ ho => own_kept_none ho hg)
theorem DkY.mono (h : DkY w B A n c A2 m c2 D) (hB : B' ≤ B) : DkY w B' A n c A2 m c2 D := h.keep (fun _ _ _ ho => own_mono ho hB) (fun _ _ _ ho => own_mono ho hB)
theorem DkY.box2 {b : Nat} {u v : Value} (h : DkY w B A n c A2 m c2 D) (hd : Db w b u v) (x y : Value) : DkY ((w.setCell ⟨b, 0, none⟩ x).setCell ⟨b, 1, none⟩ y) B A n c A2 m c2 D :=
  h.keep (fun _ _ _ ho => own_box y (own_box x ho (hd.ne_int ho)) ((hd.set0 x).ne_int (own_box (k := 0) x ho (hd.ne_int ho)))) (fun _ _ _ ho => own_box y (own_box x ho (hd.ne_row ho)) ((hd.set0 x).ne_row (own_box (k := 0) x ho (hd.ne_row ho))))
theorem DkY.put {b i : Nat} {u v : Value} (h : DkY w B A n c A2 m c2 D) (hd : Db w b u v) (x : Value) : DkY (w.setCell ⟨b, i, none⟩ x) B A n c A2 m c2 D :=
  h.keep (fun _ _ _ ho => own_box x ho (hd.ne_int ho)) (fun _ _ _ ho => own_box x ho (hd.ne_row ho))
theorem DkY.read (h : DkY w B A n c A2 m c2 D) : DkR w w.heap.size A n c A2 m c2 D := h.g.read
end
theorem DkY.no (w : World) (B : Nat) : DkY w B none 0 0 none 0 0 noDk := ⟨World.ownsRow_nil _ _ _ _, by omega, .inl ⟨rfl, rfl, rfl⟩⟩
theorem apart_cons {u : Value} {vs : List Value} (h : Apart vs) (hu : ∀ v ∈ vs, u.ownBlock = none ∨ u.ownBlock ≠ v.ownBlock) : Apart (u :: vs) := by
  intro i j x y hx hy hne
  rcases i with _ | i
  · simp at hx
    subst hx
    rcases j with _ | j
    · omega
    · simp at hy
      exact hu y (List.mem_of_getElem? hy)
  · simp at hx
    rcases j with _ | j
    · simp at hy
      subst hy
      rcases hu x (List.mem_of_getElem? hx) with h1 | h1
      · rcases hq : x.ownBlock with _ | q
        · exact .inl rfl
        · exact .inr (by rw [h1]; simp)
      · exact .inr fun e => h1 e.symm
    · simp at hy
      exact h i j x y hx hy (by omega)

set_option maxRecDepth 100000 in
set_option maxHeartbeats 3200000 in
theorem toDesk_any (A : Option Addr) (n c : Nat) (A2 : Option Addr) (m c2 : Nat) (D : Dk) (w : World) (h : DkR w w.heap.size A n c A2 m c2 D) (hsz : n + m + szL D.past ≤ 1048576) :
    Calls Tryz.prog 25 #[dsk A n c A2 m c2] w fun e w' => ∃ A3 c3 A4 c4, e = .returned (dsk A3 n c3 A4 m c4) ∧ DkY w' w.heap.size A3 n c3 A4 m c4 D ∧ Below w.heap.size w w' := by
  have z1 : (w.alloc (.cells #[.slice A n c, .slice A2 m c2] 48)).heap.size = w.heap.size + 1 := by simp
  have z2 : ((w.alloc (.cells #[.slice A n c, .slice A2 m c2] 48)).alloc (.cells #[.slice none 0 0, .slice none 0 0] 31)).heap.size = w.heap.size + 2 := by simp
  have g1 := grown_alloc (w.alloc (.cells #[.slice A n c, .slice A2 m c2] 48)) (.cells #[.slice none 0 0, .slice none 0 0] 31) none
  have g2 := grown_alloc ((w.alloc (.cells #[.slice A n c, .slice A2 m c2] 48)).alloc (.cells #[.slice none 0 0, .slice none 0 0] 31)) (.cells #[.slice none 0 0, .slice none 0 0] 31) none
  have g12 := g1.trans g2
  have XA := (g12.block w.heap.size (by simp) (by simp)).trans (heap_alloc_new w (.cells #[.slice A n c, .slice A2 m c2] 48))
  have XR := Db.new (w.alloc (.cells #[.slice A n c, .slice A2 m c2] 48)) (.slice none 0 0) (.slice none 0 0)
  rw [z1] at XR
  replace XR := XR.on (row := none) g2 (by simp)
  have XO := Db.new ((w.alloc (.cells #[.slice A n c, .slice A2 m c2] 48)).alloc (.cells #[.slice none 0 0, .slice none 0 0] 31)) (.slice none 0 0) (.slice none 0 0)
  rw [z2] at XO
  have B0 := (((Below.refl w.heap.size w).alloc (Nat.le_refl _) (.cells #[.slice A n c, .slice A2 m c2] 48)).alloc (by simp) (.cells #[.slice none 0 0, .slice none 0 0] 31)).alloc (by simp; omega) (.cells #[.slice none 0 0, .slice none 0 0] 31)
  obtain ⟨w0, e0⟩ : ∃ W, ((w.alloc (.cells #[.slice A n c, .slice A2 m c2] 48)).alloc (.cells #[.slice none 0 0, .slice none 0 0] 31)).alloc (.cells #[.slice none 0 0, .slice none 0 0] 31) = W := ⟨_, rfl⟩
  have hz0 : w0.heap.size = w.heap.size + 3 := by rw [← e0]; simp
  go_enter Tryz.func25, Tryz.ntmps25
  rw [e0] at XA XR XO B0
  obtain ⟨a0, a1, _, _⟩ := pairCells XA
  have C1 := hid (toIntS_any A n c D.now w0 (h.now.on B0) (by omega))
  have C2 := hid (fun (W : World) (hb : Below w.heap.size w W) => toIntSS_read A2 m c2 D.past W (h.past.on hb) (by omega))
  have HXA := hid XA
  have HXR := hid XR
  have HXO := hid XO
  have HB0 := hid B0
  clear g1 g2 g12 XA XR XO B0 z1 z2 h
  go_wp2_with fail
  with_reducible refine Calls.mono C1.out ?_
  rintro e w1 ⟨g1, rfl, o1, b1⟩
  have hg1 := o1.lt g1 rfl
  have hsz1 := b1.size
  have Y2 := HXO.out.below b1 (by omega)
  have YR := HXR.out.below b1 (by omega)
  have YA := (b1.block w.heap.size (by omega)).trans HXA.out
  have f0 := Y2.fz 0
  have t0 := Y2.c0
  have d1 := Below.setCell (Below.refl (w.heap.size + 2) w1) (p := ⟨w.heap.size + 2, 0, none⟩) (Nat.le_refl _) (.slice (some ⟨g1, 0, none⟩) n n)
  have Q2 := Y2.set0 (.slice (some ⟨g1, 0, none⟩) n n)
  have QR := YR.other (g := w.heap.size + 2) (by omega) 0 (.slice (some ⟨g1, 0, none⟩) n n)
  have QA := (d1.block w.heap.size (by omega)).trans YA
  have QO := own_box (k := 0) (.slice (some ⟨g1, 0, none⟩) n n) o1 (Y2.ne_int o1)
  have HB2 := hid ((HB0.out.trans (b1.mono (by omega))).setCell (p := ⟨w.heap.size + 2, 0, none⟩) (show w.heap.size ≤ w.heap.size + 2 by omega) (.slice (some ⟨g1, 0, none⟩) n n))
  obtain ⟨w2, e2⟩ : ∃ W, w1.setCell ⟨w.heap.size + 2, 0, none⟩ (.slice (some ⟨g1, 0, none⟩) n n) = W := ⟨_, rfl⟩
  have hz2 : w2.heap.size = w1.heap.size := by rw [← e2]; simp [World.setCell]
  rw [e2] at Q2 QR QA QO HB2
  obtain ⟨k0, k1, _, _⟩ := pairCells QA
  have HQ2 := hid Q2
  have HQR := hid QR
  have HQO := hid QO
  clear d1 Y2 YR YA b1 o1 Q2 QR QA QO HXA HXR HXO HB0 a0 a1 C1
  go_wp2_with fail
  with_reducible refine Calls.mono (C2.out _ HB2.out) ?_
  rintro e w3 ⟨g3, vs, rfl, o3, R3, AP3, b3⟩
  have Z2 := HQ2.out.below b3 HQ2.out.lt
  have ZR := HQR.out.below b3 HQR.out.lt
  have f1 := Z2.fz 1
  have t1 := Z2.c1
  have t2 := Z2.c0
  have r0 := ZR.c0
  have r1 := ZR.c1
  have r2 := ZR.fz 0
  have r3 := ZR.fz 1
  have ON := own_on HQO.out b3
  have hw2 := HB2.out.size
  have APN : Apart (.slice (some ⟨g1, 0, none⟩) n n :: vs) := apart_cons AP3 (fun v hv => by
    right
    intro e
    obtain ⟨j, hj, rfl⟩ := List.getElem_of_mem hv
    obtain ⟨A5, n5, c5, e5, ho5⟩ := R3.2 j _ _ (List.getElem?_eq_getElem hj) (List.getElem?_eq_getElem (by have := R3.1; omega))
    rw [e5] at e
    have h1 : (Value.slice A5 n5 c5).ownBlock = some g1 := by rw [← e]; rfl
    have := (ho5.lt g1 h1).1
    omega)
  have FY : DkY w3 w.heap.size (some ⟨g1, 0, none⟩) n n (some ⟨g3, 0, none⟩) m m D := ⟨own_mono ON (by omega), by omega, .inr ⟨g3, 0, m, m, vs, rfl, own_mono o3 hw2, by omega, by rw [List.drop_zero, List.take_of_length_le (by have := o3.1; omega)]; exact R3.mono hw2, by rw [List.drop_zero, List.take_of_length_le (by have := o3.1; omega)]; exact APN⟩⟩
  have HZ2 := hid Z2
  have HZR := hid ZR
  have HFY := hid FY
  have HB3 := hid (HB2.out.trans (b3.mono hw2))
  clear FY Z2 ZR o3 R3 AP3 b3 ON APN HQ2 HQR HQO k0 k1
  go_wp2
  (try simp only [Exit.inBlock, Exit.then])
  refine bodyPost_ret (results_cell_row rfl _ _ (w.heap.size + 1) 31 _ (0, 0) _ (by simp [Act.put]) ((HZR.out.other (g := w.heap.size + 2) (by omega) 1 (.slice (some ⟨g3, 0, none⟩) m m)).set (.slice (some ⟨g1, 0, none⟩) n n) (.slice (some ⟨g3, 0, none⟩) m m)) Tryz.underlying31 rfl size_desk) rfl ?_
  exact ⟨_, _, _, _, rfl, (HFY.out.put HZ2.out _).box2 (HZR.out.other (g := w.heap.size + 2) (by omega) 1 (.slice (some ⟨g3, 0, none⟩) m m)) _ _, ((HB3.out.setCell (p := ⟨w.heap.size + 2, 1, none⟩) (show w.heap.size ≤ w.heap.size + 2 by omega) _).setCell (p := ⟨w.heap.size + 1, 0, none⟩) (show w.heap.size ≤ w.heap.size + 1 by omega) _).setCell (p := ⟨w.heap.size + 1, 1, none⟩) (show w.heap.size ≤ w.heap.size + 1 by omega) _⟩

set_option maxRecDepth 100000 in
set_option maxHeartbeats 1600000 in
theorem eqDesk_any (A : Option Addr) (n c : Nat) (A2 : Option Addr) (m c2 : Nat) (A3 : Option Addr) (n3 c3 : Nat) (A4 : Option Addr) (m4 c4 : Nat) (D : Dk) (w : World) (h1 : DkR w w.heap.size A n c A2 m c2 D) (h2 : DkR w w.heap.size A3 n3 c3 A4 m4 c4 D) :
    Calls Tryz.prog 26 #[dsk A n c A2 m c2, dsk A3 n3 c3 A4 m4 c4] w fun e w' => e = .returned (.bool true) ∧ Below w.heap.size w w' := by
  have z1 : (w.alloc (.cells #[.slice A n c, .slice A2 m c2] 31)).heap.size = w.heap.size + 1 := by simp
  have g1 := grown_alloc (w.alloc (.cells #[.slice A n c, .slice A2 m c2] 31)) (.cells #[.slice A3 n3 c3, .slice A4 m4 c4] 31) none
  have X0 := (Db.new w (.slice A n c) (.slice A2 m c2)).on (row := none) g1 (by simp)
  have X1 := Db.new (w.alloc (.cells #[.slice A n c, .slice A2 m c2] 31)) (.slice A3 n3 c3) (.slice A4 m4 c4)
  rw [z1] at X1
  have B0 := ((Below.refl w.heap.size w).alloc (Nat.le_refl _) (.cells #[.slice A n c, .slice A2 m c2] 31)).alloc (by simp) (.cells #[.slice A3 n3 c3, .slice A4 m4 c4] 31)
  go_enter Tryz.func26, Tryz.ntmps26
  obtain ⟨w0, e0⟩ : ∃ W, (w.alloc (.cells #[.slice A n c, .slice A2 m c2] 31)).alloc (.cells #[.slice A3 n3 c3, .slice A4 m4 c4] 31) = W := ⟨_, rfl⟩
  have hz0 : w0.heap.size = w.heap.size + 2 := by rw [← e0]; simp
  rw [e0] at X0 X1 B0
  have x0 := X0.c0
  have x1 := X0.c1
  have y0 := X1.c0
  have y1 := X1.c1
  have CE := hid (eqIntS_b A A3 n c n3 c3 D.now D.now w0 w0.heap.size w0.heap.size (h1.now.on B0) (h2.now.on B0))
  rw [decide_eq_true rfl] at CE
  have CR := hid (fun (W : World) (hW : Below w.heap.size w W) => eqIntSS_read A2 A4 m c2 m4 c4 D.past W (h1.past.on hW) (h2.past.on hW))
  have HX0 := hid X0
  have HX1 := hid X1
  have HB0 := hid B0
  clear X0 X1 B0 g1 z1 h1 h2
  go_wp2_with fail
  with_reducible refine Calls.mono CE.out ?_
  rintro e w1 ⟨rfl, b1⟩
  have Y0 := HX0.out.below b1 (by omega)
  have Y1 := HX1.out.below b1 (by omega)
  have u1 := Y0.c1
  have v1 := Y1.c1
  have HB1 := hid (HB0.out.trans (b1.mono (by omega)))
  clear b1 x0 x1 y0 y1 e0
  go_wp2_with fail
  with_reducible refine Calls.mono (CR.out _ HB1.out) ?_
  rintro e w2 ⟨rfl, b2⟩
  have HB2 := hid (HB1.out.trans (b2.mono HB1.out.size))
  clear b2
  go_wp2
  go_ret
  exact ⟨rfl, HB2.out⟩
end Go.Proofs.YtkejcajboneniabGreatDoor
namespace Go.Proofs.YtkejcajboneniabGreatDoor
open Go.RowKit

/-- The slice of slices is a piece of an own row: its values are P, they read as ls. -/
def Pc (w : World) (B : Nat) (A2 : Option Addr) (m : Nat) (P : List Value) (ls : List (List Int)) : Prop :=
  P.length = m ∧ Rows w B P ls ∧ ((A2 = none ∧ m = 0) ∨ ∃ (g off M C : Nat) (V : List Value), A2 = some ⟨g, off, none⟩ ∧ w.ownsRow B 28 1 (.slice (some ⟨g, 0, none⟩) M C) M V ∧ off + m ≤ M ∧ P = (V.drop off).take m)
section
variable {w w' : World} {B B' n c m k : Nat} {A A2 : Option Addr} {P : List Value} {ls : List (List Int)} {u : Value}
def OnlyInt (w w' : World) : Prop := w.heap.size ≤ w'.heap.size ∧ ∀ (b : Nat) cs t f, w.heap[b]? = some (Obj.cells cs t f) → t ≠ 3 → w'.heap[b]? = some (Obj.cells cs t f)
theorem OnlyInt.refl (w : World) : OnlyInt w w := ⟨Nat.le_refl _, fun _ _ _ _ h _ => h⟩
theorem OnlyInt.trans {w'' : World} (h1 : OnlyInt w w') (h2 : OnlyInt w' w'') : OnlyInt w w'' := ⟨Nat.le_trans h1.1 h2.1, fun b cs t f h hn => h2.2 b cs t f (h1.2 b cs t f h hn) hn⟩
theorem OnlyInt.none (hg : w.grownBy w' none) : OnlyInt w w' := ⟨hg.size, fun b cs t f h hn => (hg.block b (by
  rcases Nat.lt_or_ge b w.heap.size with h1 | h1
  · exact h1
  · rw [Array.getElem?_eq_none h1] at h; cases h) (by simp)).trans h⟩
theorem OnlyInt.row {v : Value} {xs : List Value} (ho : w.ownsRow B 3 1 v n xs) (hg : w.grownBy w' v.ownBlock) : OnlyInt w w' := ⟨hg.size, fun b cs t f h hn => (hg.block b (by
  rcases Nat.lt_or_ge b w.heap.size with h1 | h1
  · exact h1
  · rw [Array.getElem?_eq_none h1] at h; cases h) (by
  rcases ho.2 with ⟨h1, h2⟩ | ⟨g, cap, cur, hv, hb, hg2, _⟩
  · rw [h1]; simp [Value.ownBlock]
  · intro e
    rw [hv] at e
    injection e with e
    subst e
    rw [h] at hg2
    injection hg2 with e2
    injection e2 with e3 e4 e5
    exact hn e4)).trans h⟩
theorem Db.only {b : Nat} {u v : Value} (h : Db w b u v) (ho : OnlyInt w w') : Db w' b u v := ho.2 _ _ _ _ h (by decide)
/-- The blocks from C on are as they were. -/
def Up (C : Nat) (w w' : World) : Prop := ∀ b, C ≤ b → b < w.heap.size → w'.heap[b]? = w.heap[b]?
theorem Up.refl (C : Nat) (w : World) : Up C w w := fun _ _ _ => rfl
theorem Up.trans {C : Nat} {w'' : World} (h1 : Up C w w') (h2 : Up C w' w'') (hs : w.heap.size ≤ w'.heap.size) : Up C w w'' := fun b hb hl => (h2 b hb (by omega)).trans (h1 b hb hl)
theorem Up.grown {C : Nat} {row : Option Nat} (hg : w.grownBy w' row) (hr : ∀ k, row = some k → k < C) : Up C w w' := fun b hb hl => hg.block b hl (fun e => by have := hr b e.symm; omega)
theorem Up.own {C : Nat} {e : TypeId} {v : Value} {xs : List Value} (h : Up C w w') (ho : w.ownsRow B e 1 v n xs) (hC : C ≤ B) : w'.ownsRow B e 1 v n xs := by
  refine ⟨ho.1, ?_⟩
  rcases ho.2 with h2 | ⟨g, cap, cur, h1, h2, h3, h4⟩
  · exact .inl h2
  · refine .inr ⟨g, cap, cur, h1, h2, (h g (by omega) ?_).trans h3, h4⟩
    rcases Nat.lt_or_ge g w.heap.size with h5 | h5
    · exact h5
    · rw [Array.getElem?_eq_none h5] at h3; cases h3
theorem DkY.up {C c2 : Nat} {D : Dk} (h : DkY w B A n c A2 m c2 D) (hU : Up C w w') (hC : C ≤ B) : DkY w' B A n c A2 m c2 D := h.keep (fun _ _ _ ho => hU.own ho hC) (fun _ _ _ ho => hU.own ho hC)
theorem Pc.len (h : Pc w B A2 m P ls) : ls.length = m := by have := h.1; have := h.2.1.1; omega
theorem Pc.at (h : Pc w B A2 m P ls) (hk : k < m) : ∃ g off Ai ni ci l, A2 = some ⟨g, off, none⟩ ∧ w.cell? ⟨g, off + k, none⟩ = some (.slice Ai ni ci) ∧ P[k]? = some (.slice Ai ni ci) ∧ ls[k]? = some l ∧ w.ownsRow B 3 1 (.slice Ai ni ci) ni (ints l) := by
  obtain ⟨_, h0⟩ | ⟨g, off, M, C, V, e, ho, hm, hP⟩ := h.2.2
  · omega
  have hl : ls[k]? = some (ls[k]'(by have := h.len; omega)) := List.getElem?_eq_getElem _
  obtain ⟨Ai, ni, ci, hv, ho2⟩ := h.2.1.at hl
  refine ⟨g, off, Ai, ni, ci, _, e, ?_, hv, hl, ho2⟩
  rw [ho.cellAt (off + k) (by omega), ← hv, hP, List.getElem?_take_of_lt hk, List.getElem?_drop]
theorem Pc.step {Ai : Option Addr} {ni ci : Nat} {xs : List Value} {l2 : List Int} (h : Pc w B A2 m P ls) (hu : P[k]? = some (.slice Ai ni ci)) (hap : Apart P) (ho : w.ownsRow B 3 1 (.slice Ai ni ci) ni xs) (hg : w.grownBy w' (Value.slice Ai ni ci).ownBlock) (hr : Row1 w' B (.slice Ai ni ci) l2) : Pc w' B A2 m P (ls.set k l2) :=
  ⟨h.1, h.2.1.set hu hap hg hr, by
    obtain h0 | ⟨g, off, M, C, V, e, ho2, hm2, hP⟩ := h.2.2
    · exact .inl h0
    exact .inr ⟨g, off, M, C, V, e, ho2.kept hg (own_types' ho ho2), hm2, hP⟩⟩
theorem Pc.kept {xs : List Value} (h : Pc w B A2 m P ls) (ho : w.ownsRow B 3 1 (.slice A n c) n xs) (hap : Apart (.slice A n c :: P)) (hg : w.grownBy w' (Value.slice A n c).ownBlock) : Pc w' B A2 m P ls :=
  ⟨h.1, ⟨h.2.1.1, fun j v l hv hl => by
    obtain ⟨A3, n3, c3, e3, ho3⟩ := h.2.1.2 j v l hv hl
    have := hap (j + 1) 0 v _ (by simpa using hv) rfl (by omega)
    rw [e3] at this
    exact ⟨A3, n3, c3, e3, ho3.kept hg this⟩⟩, by
    obtain h0 | ⟨g, off, M, C, V, e, ho2, hm2, hP⟩ := h.2.2
    · exact .inl h0
    exact .inr ⟨g, off, M, C, V, e, ho2.kept hg (own_types' ho ho2), hm2, hP⟩⟩
theorem Pc.onto (h : Pc w B A2 m P ls) (hg : w.grownBy w' none) : Pc w' B A2 m P ls :=
  ⟨h.1, h.2.1.onto hg, by
    obtain h0 | ⟨g, off, M, C, V, e, ho2, hm2, hP⟩ := h.2.2
    · exact .inl h0
    exact .inr ⟨g, off, M, C, V, e, own_kept_none ho2 hg, hm2, hP⟩⟩
theorem Pc.hi (h : Pc w B A2 m P ls) : ∀ (j : Nat) v, P[j]? = some v → ∀ k, v.ownBlock = some k → k < w.heap.size := fun j v hv => by
  have hl : ls[j]? = some (ls[j]'(by have := (List.getElem?_eq_some_iff.1 hv).1; have := h.1; have := h.len; omega)) := List.getElem?_eq_getElem _
  obtain ⟨Ai, ni, ci, e, ho⟩ := h.2.1.2 j v _ hv hl
  rw [e]
  exact own_hi ho
theorem Pc.on (h : Pc w B A2 m P ls) (hb : Below w.heap.size w w') : Pc w' B A2 m P ls :=
  ⟨h.1, h.2.1.on hb, by
    obtain h0 | ⟨g, off, M, C, V, e, ho2, hm2, hP⟩ := h.2.2
    · exact .inl h0
    exact .inr ⟨g, off, M, C, V, e, own_on ho2 hb, hm2, hP⟩⟩
theorem Apart.tail {u : Value} (h : Apart (u :: P)) : Apart P := fun i j x y hx hy hne => h (i + 1) (j + 1) x y (by simpa using hx) (by simpa using hy) (by omega)
theorem Apart.head {u v : Value} (h : Apart (u :: P)) (hv : P[k]? = some v) : u.ownBlock = none ∨ u.ownBlock ≠ v.ownBlock := h 0 (k + 1) u v rfl (by simpa using hv) (by omega)
theorem DkY.pc {c2 : Nat} {D : Dk} (h : DkY w B A n c A2 m c2 D) : ∃ P, Pc w B A2 m P D.past ∧ Apart (.slice A n c :: P) ∧ (∀ w' B' D', w'.ownsRow B' 3 1 (.slice A n c) n (ints D'.now) → Pc w' B' A2 m P D'.past → DkY w' B' A n c A2 m c2 D') := by
  rcases h.2.2 with ⟨e1, e2, e3⟩ | ⟨g, off, M, C, V, e, ho, hm, hr, ha⟩
  · subst e2
    refine ⟨[], ⟨rfl, by rw [e3]; exact ⟨rfl, fun j v l hv => by simp at hv⟩, by exact .inl ⟨e1, rfl⟩⟩, ?_, fun w' B' D' h1 h2 => ⟨h1, h.2.1, .inl ⟨e1, rfl, ?_⟩⟩⟩
    · exact apart_cons (fun i j x y hx => by simp at hx) (fun v hv => by simp at hv)
    · exact List.eq_nil_of_length_eq_zero h2.len
  · have hV := outer_len ho
    refine ⟨(V.drop off).take m, ⟨by rw [List.length_take, List.length_drop]; omega, hr, .inr ⟨g, off, M, C, V, e, ho, hm, rfl⟩⟩, ha, fun w' B' D' h1 h2 => ⟨h1, h.2.1, ?_⟩⟩
    obtain ⟨h0, _⟩ | ⟨g', off', M', C', V', e', ho', hm', hP'⟩ := h2.2.2
    · rw [e] at h0; cases h0
    · refine .inr ⟨g', off', M', C', V', e', ho', hm', ?_⟩
      rw [← hP']
      exact ⟨h2.2.1, ha⟩
end

set_option maxHeartbeats 3200000 in
theorem markRows_any (A2 : Option Addr) (m c2 B : Nat) (P : List Value) (ls : List (List Int)) (k0 : Int) (AN : Option Addr) (nN cN : Nat) (xs : List Value) (w : World) (HP : Pc w B A2 m P ls) (oN : w.ownsRow B 3 1 (.slice AN nN cN) nN xs) (hap : Apart (.slice AN nN cN :: P)) (hk0 : 0 ≤ k0) (hk1 : k0 + ((ls.map List.length).sum : Int) ≤ 2000000000) (hm : m ≤ 1000000000) (hB : B ≤ w.heap.size) (C : Nat) (hC : ∀ (j : Nat) (v : Value), P[j]? = some v → ∀ k, v.ownBlock = some k → k < C) :
    Calls Tryz.prog 86 #[.slice A2 m c2, .int .i64 k0] w fun e w' => e = .returned (.int .i64 (k0 + ((ls.map List.length).sum : Int))) ∧ Pc w' B A2 m P (mkL k0 (ls.map List.length)) ∧ w'.ownsRow B 3 1 (.slice AN nN cN) nN xs ∧ Below B w w' ∧ OnlyInt w w' ∧ Up C w w' := by
  have HC := hid hC
  clear hC
  have h2 : ls.length = m := HP.len
  have HA := hid HP
  rw [← partMk_zero k0 ls] at HA
  have HAP := hid hap
  have HL2 := hid h2
  have BB := hid (Below.refl B w)
  have HN := hid oN
  clear HP hap oN
  have hz : (k0 : Int) = k0 + (sumTo (ls.map List.length) 0 : Int) := by simp [sumTo]
  have HZ := hid hz
  clear hz
  go_enter Tryz.func86, Tryz.ntmps86
  go_wp2_with fail
  go_loopw [1, 5] (fun x i wr => ∃ k : Nat, x = .int .i64 (k0 + (sumTo (ls.map List.length) k : Int)) ∧ i = .int .i64 k ∧ k ≤ m ∧ Hid (Pc wr B A2 m P (partMk k0 ls k)) ∧ Hid (wr.ownsRow B 3 1 (.slice AN nN cN) nN xs) ∧ Hid (Below B w wr) ∧ w.heap.size ≤ wr.heap.size ∧ Hid (OnlyInt w wr) ∧ Hid (Up C w wr)) (fun _ i _ => m - (intOf i).toNat)
  case atStart => exact ⟨0, by rw [← HZ.out], rfl, Nat.zero_le _, HA, HN, BB, Nat.le_refl _, hid (OnlyInt.refl w), hid (Up.refl C w)⟩
  case round =>
    clear HA BB HZ HN
    obtain ⟨k, rfl, rfl, hk, HA, HN, BB, hsz, HO, HU⟩ := hrel
    by_cases hlt : k < m
    · have hkl : k < ls.length := by omega
      obtain ⟨g, off, Ai, ni, ci, l, rfl, hc1, hv1, hl1, o1⟩ := HA.out.at hlt
      rw [partMk_at hkl] at hl1
      injection hl1 with hl1
      subst hl1
      have hni : (ls[k]).length = ni := by have := o1.1; simpa using this
      have hs1 := sumTo_le (ls.map List.length) (k + 1)
      rw [sumTo_succ (by simpa using hkl)] at hs1
      have hsE := sumTo_succ (lens := ls.map List.length) (i := k) (by simpa using hkl)
      rw [List.getElem_map, hni] at hs1 hsE
      have hset := partMk_set (k0 := k0) hkl
      rw [hni] at hset
      obtain ⟨s0, hs0⟩ : ∃ s0, sumTo (ls.map List.length) k = s0 := ⟨_, rfl⟩
      rw [hs0] at hs1 hsE hset
      rw [hs0]
      obtain ⟨S0, hS0⟩ : ∃ S0, (ls.map List.length).sum = S0 := ⟨_, rfl⟩
      rw [hS0] at hk1 hs1
      have HE := hid hsE
      have HSET := hid hset
      have hki : (k : Int) < (m : Int) := by omega
      clear hs0 hsE hset hni
      have CM := hid (markIntS_any Ai ni ci B (ls[k]) (k0 + (s0 : Int)) wr o1 (by omega) (by omega) (by omega))
      have HO1 := hid o1
      have HHV := hid hv1
      clear hS0 o1 hv1
      go_wp2_with fail
      with_reducible refine Calls.mono CM.out ?_
      rintro r w4 ⟨rfl, o4, g4⟩
      have HA4 := hid (HA.out.step HHV.out HAP.out.tail HO1.out g4 ⟨_, _, _, rfl, o4⟩)
      rw [HSET.out] at HA4
      have HN4 := hid (HN.out.kept g4 (HAP.out.head HHV.out))
      have BB4 := hid (BB.out.grown g4 (by omega) (own_lo HO1.out))
      have hsz4 : w.heap.size ≤ w4.heap.size := Nat.le_trans hsz g4.size
      have HU4 := hid (HU.out.trans (Up.grown g4 (HC.out _ _ HHV.out)) hsz)
      have HO4 := hid (HO.out.trans (OnlyInt.row HO1.out g4))
      clear g4 o4 HO1 HA HN BB hc1 CM HHV HO HU
      go_wp2
      go_roundw
      case rel => exact ⟨k + 1, by rw [HE.out]; simp; omega, by go_num, by omega, HA4, HN4, BB4, hsz4, HO4, HU4⟩
      case measure => simp [intOf]; omega
    · obtain rfl : k = m := by omega
      have hs : sumTo (ls.map List.length) k = (ls.map List.length).sum := by unfold sumTo; rw [List.take_of_length_le (by simp; omega)]
      rw [partMk_all h2] at HA
      rw [hs]
      clear hs
      go_wp2
      go_ret
      exact ⟨rfl, HA.out, HN.out, BB.out, HO.out, HU.out⟩

set_option maxHeartbeats 1600000 in
theorem heldRows_any (A2 : Option Addr) (m c2 B : Nat) (P : List Value) (lens : List Nat) (k0 : Int) (w : World) (HP : Pc w B A2 m P (mkL k0 lens)) (hk0 : 0 ≤ k0) (hk1 : k0 + (lens.sum : Int) ≤ 2000000000) (hm : m ≤ 1000000000) :
    Calls Tryz.prog 88 #[.slice A2 m c2, .int .i64 k0] w fun e w' => e = .returned (.int .i64 (k0 + (lens.sum : Int))) ∧ w = w' := by
  have h2 : lens.length = m := by have := HP.len; rw [mkL_len] at this; omega
  have HZ := hid (show (k0 : Int) = k0 + (sumTo lens 0 : Int) from by simp [sumTo])
  have HA := hid HP
  clear HP
  go_enter Tryz.func88, Tryz.ntmps88
  go_wp2_with fail
  go_loopw [1, 5] (fun x i wr => ∃ k : Nat, x = .int .i64 (k0 + (sumTo lens k : Int)) ∧ i = .int .i64 k ∧ k ≤ m ∧ wr = w) (fun _ i _ => m - (intOf i).toNat)
  case atStart => exact ⟨0, by rw [← HZ.out], rfl, Nat.zero_le _, by first | rfl | trivial⟩
  case round =>
    obtain ⟨k, rfl, rfl, hk, rfl⟩ := hrel
    clear HZ
    by_cases hlt : k < m
    · have hkl : k < lens.length := by omega
      obtain ⟨g, off, Ai, ni, ci, l, rfl, hc1, hv1, hl1, o1⟩ := HA.out.at hlt
      rw [mkL_at hkl] at hl1
      injection hl1 with hl1
      subst hl1
      have hni : lens[k] = ni := by have := o1.1; simpa [marks_len] using this
      have hs1 := sumTo_le lens (k + 1)
      have hsE := sumTo_succ hkl
      rw [hsE] at hs1
      rw [hni] at hs1 hsE o1
      have HE := hid hsE
      obtain ⟨s0, hs0⟩ : ∃ s0, sumTo lens k = s0 := ⟨_, rfl⟩
      rw [hs0] at hs1 HE o1
      rw [hs0]
      obtain ⟨S0, hS0⟩ : ∃ S0, lens.sum = S0 := ⟨_, rfl⟩
      have hk1' := hk1
      rw [hS0] at hk1' hs1
      have hki : (k : Int) < (m : Int) := by omega
      have CM := hid (heldIntS_any Ai ni ci (k0 + (s0 : Int)) wr wr.heap.size (Sl.of_own o1) (by omega) (by omega))
      have hpos : 0 ≤ k0 + (s0 : Int) + (ni : Int) := by omega
      clear hS0 hs0 hsE hni o1 hv1
      go_wp2_with fail
      with_reducible refine Calls.mono CM.out ?_
      rintro r w4 ⟨rfl, rfl⟩
      go_wp2
      go_roundw
      case rel => exact ⟨k + 1, by rw [HE.out]; simp; omega, by go_num, by omega, by first | rfl | trivial⟩
      case measure => simp [intOf]; omega
    · obtain rfl : k = m := by omega
      have hs : sumTo lens k = lens.sum := by unfold sumTo; rw [List.take_of_length_le (by omega)]
      rw [hs]
      clear hs
      go_wp2
      go_ret
      exact ⟨rfl, rfl⟩

/-- A desk marked from 1. -/
def mkD (n : Nat) (lens : List Nat) : Dk := ⟨marks 1 n, mkL (1 + (n : Int)) lens⟩

set_option maxHeartbeats 1600000 in
theorem markDeskP_any (A : Option Addr) (n c : Nat) (A2 : Option Addr) (m c2 B C : Nat) (P : List Value) (D : Dk) (w : World) (hP : Pc w B A2 m P D.past) (ho : w.ownsRow B 3 1 (.slice A n c) n (ints D.now)) (ha : Apart (.slice A n c :: P)) (hcn : ∀ k, (Value.slice A n c).ownBlock = some k → k < C) (hC : ∀ (j : Nat) v, P[j]? = some v → ∀ k, v.ownBlock = some k → k < C) (hk : n + szL D.past ≤ 1000000000) (hm : m ≤ 1000000000) (hB : B ≤ w.heap.size) :
    Calls Tryz.prog 27 #[dsk A n c A2 m c2, .int .i64 1] w fun e w' => e = .returned (.int .i64 (1 + (n : Int) + (szL D.past : Int))) ∧ Pc w' B A2 m P (mkL (1 + (n : Int)) (D.past.map List.length)) ∧ w'.ownsRow B 3 1 (.slice A n c) n (ints (marks 1 n)) ∧ Below B w w' ∧ OnlyInt w w' ∧ Up C w w' := by
  have gA := grown_alloc w (.cells #[.slice A n c, .slice A2 m c2] 31) none
  have XA := Db.new w (.slice A n c) (.slice A2 m c2)
  have P0 := hP.onto gA
  have o0 := own_kept_none ho gA
  have B0 := (Below.refl B w).alloc hB (.cells #[.slice A n c, .slice A2 m c2] 31)
  have I0 := OnlyInt.none gA
  have U0 : Up C w (w.alloc (.cells #[.slice A n c, .slice A2 m c2] 31)) := Up.grown gA (fun k hk => by cases hk)
  have HC := hid hC
  have HCN := hid hcn
  go_enter Tryz.func27, Tryz.ntmps27
  obtain ⟨w0, e0⟩ : ∃ W, w.alloc (.cells #[.slice A n c, .slice A2 m c2] 31) = W := ⟨_, rfl⟩
  have hz0 : w0.heap.size = w.heap.size + 1 := by rw [← e0]; simp
  rw [e0] at XA P0 o0 B0 I0 U0
  have x0 := XA.c0
  have CM := hid (markIntS_any A n c B D.now 1 w0 o0 (by omega) (by omega) (by omega))
  have HX := hid XA
  have HP0 := hid P0
  have HO0 := hid o0
  have HB0 := hid B0
  have HI0 := hid I0
  have HU0 := hid U0
  have HAP := hid ha
  clear XA P0 o0 B0 I0 U0 gA hP ho ha hC hcn
  go_wp2_with fail
  with_reducible refine Calls.mono CM.out ?_
  rintro e w1 ⟨rfl, o1, g1⟩
  have I1 := OnlyInt.row HO0.out g1
  have P1 := HP0.out.kept HO0.out HAP.out g1
  have X1 := HX.out.only I1
  have x1 := X1.c1
  have HB1 := hid (HB0.out.grown g1 (by omega) (own_lo HO0.out))
  have hz1 := g1.size
  have HU1 := hid (HU0.out.trans (Up.grown g1 HCN.out) (by omega))
  have HR := hid (markRows_any A2 m c2 B P D.past (1 + (n : Int)) A n c (ints (marks 1 n)) w1 P1 o1 HAP.out (by omega) (by unfold szL at hk; omega) hm (by omega) C HC.out)
  have HI1 := hid (HI0.out.trans I1)
  clear I1 P1 X1 g1 o1 CM x0 HP0 HO0 HB0 HI0 HX e0 HU0
  go_wp2_with fail
  with_reducible refine Calls.mono HR.out ?_
  rintro e w2 ⟨rfl, p2, o2, b2, i2, u2⟩
  have HB2 := hid (HB1.out.trans b2)
  have HI2 := hid (HI1.out.trans i2)
  have HU2 := hid (HU1.out.trans u2 (by omega))
  have HP2 := hid p2
  have HO2 := hid o2
  clear p2 o2 b2 i2 HR x1 u2
  go_wp2
  go_ret
  exact ⟨rfl, HP2.out, HO2.out, HB2.out, HI2.out, HU2.out⟩

theorem markDesk_any (A : Option Addr) (n c : Nat) (A2 : Option Addr) (m c2 B : Nat) (D : Dk) (w : World) (h : DkY w B A n c A2 m c2 D) (hk : n + szL D.past ≤ 1000000000) (hm : m ≤ 1000000000) (hB : B ≤ w.heap.size) :
    Calls Tryz.prog 27 #[dsk A n c A2 m c2, .int .i64 1] w fun e w' => e = .returned (.int .i64 (1 + (n : Int) + (szL D.past : Int))) ∧ DkY w' B A n c A2 m c2 (mkD n (D.past.map List.length)) ∧ Below B w w' ∧ OnlyInt w w' := by
  obtain ⟨P, hP, ha, hY⟩ := h.pc
  refine (markDeskP_any A n c A2 m c2 B w.heap.size P D w hP h.1 ha (own_hi h.1) hP.hi hk hm hB).mono ?_
  rintro e w' ⟨h1, h2, h3, h4, h5, h6⟩
  exact ⟨h1, hY w' B (mkD n (D.past.map List.length)) h3 h2, h4, h5⟩

set_option maxHeartbeats 1600000 in
theorem heldDesk_any (A : Option Addr) (n c : Nat) (A2 : Option Addr) (m c2 B : Nat) (lens : List Nat) (w : World) (h : DkY w B A n c A2 m c2 (mkD n lens)) (hk : n + lens.sum ≤ 1000000000) (hm : m ≤ 1000000000) :
    Calls Tryz.prog 28 #[dsk A n c A2 m c2, .int .i64 1] w fun e w' => e = .returned (.int .i64 (1 + (n : Int) + (lens.sum : Int))) ∧ Below w.heap.size w w' := by
  obtain ⟨P, hP, ha, hY⟩ := h.pc
  have gA := grown_alloc w (.cells #[.slice A n c, .slice A2 m c2] 31) none
  have XA := Db.new w (.slice A n c) (.slice A2 m c2)
  have P0 := hP.onto gA
  have o0 := own_kept_none h.1 gA
  have B0 := below_grown gA
  go_enter Tryz.func28, Tryz.ntmps28
  obtain ⟨w0, e0⟩ : ∃ W, w.alloc (.cells #[.slice A n c, .slice A2 m c2] 31) = W := ⟨_, rfl⟩
  have hz0 : w0.heap.size = w.heap.size + 1 := by rw [← e0]; simp
  rw [e0] at XA P0 o0 B0
  have x0 := XA.c0
  have x1 := XA.c1
  have CM := hid (heldIntS_any A n c 1 w0 w0.heap.size (Sl.of_own o0) (by omega) (by omega))
  have CR := hid (heldRows_any A2 m c2 B P lens (1 + (n : Int)) w0 P0 (by omega) (by omega) hm)
  have HB0 := hid B0
  have hp : ¬ 1 + (n : Int) < 0 := by omega
  have hp2 : ¬ 1 + (n : Int) + (lens.sum : Int) < 0 := by omega
  clear XA P0 o0 B0 gA h hP ha hY
  go_wp2_with fail
  with_reducible refine Calls.mono CM.out ?_
  rintro e w1 ⟨rfl, rfl⟩
  clear e0
  go_wp2_with fail
  with_reducible refine Calls.mono CR.out ?_
  rintro e w2 ⟨rfl, rfl⟩
  go_wp2
  go_ret
  exact ⟨rfl, HB0.out⟩
end Go.Proofs.YtkejcajboneniabGreatDoor
