/-
  The walk of laws.FnDeskLine. No statement is proved here.
-/
import Derived.Test.YtkejcajboneniabGreatDoorQM0
import Derived.Test.YtkejcajboneniabGreatDoorQK12l
import Derived.Test.YtkejcajboneniabGreatDoorQMm
import Derived.Test.YtkejcajboneniabGreatDoorQMn
import Derived.Test.YtkejcajboneniabGreatDoorQMa
namespace Go.Proofs.YtkejcajboneniabGreatDoor
open Go.RowKit
set_option linter.unusedVariables false
set_option linter.unusedSimpArgs false

theorem read_empty : readOut [] = none := by
  refine readOut_none (fun a _ => ?_)
  simp [isText]
theorem line_empty {D : Dk} (h : deskOk D = true) : lineOut D [] = (D, wWhat) := by
  unfold lineOut
  rw [if_pos h, read_empty]
  have : askOut D.now [] = wWhat := by
    unfold askOut
    rw [if_neg (by decide), if_neg (by decide), if_neg (by decide), if_neg (by decide), if_neg (by decide), if_neg (by decide), if_neg (by decide)]
    decide
  rw [this]
theorem line_kept {D : Dk} (h : deskOk D = true) (s : List UInt8) : (lineOut D s).2 = wOk ∨ (lineOut D s).1 = D := by
  unfold lineOut
  rw [if_pos h]
  cases hr : readOut s with
  | none => exact .inr rfl
  | some a =>
    show doneB (deskDo D a).2 = wOk ∨ (deskDo D a).1 = D
    by_cases hd : (deskDo D a).2 = true
    · left; unfold doneB; rw [if_pos hd]
    · right
      unfold deskDo at hd ⊢
      rw [if_pos h] at hd ⊢
      by_cases hu : undoB D a.1 a.2 = true
      · rw [if_pos hu] at hd; exact absurd rfl hd
      · rw [if_neg hu] at hd ⊢
        by_cases hs : stayB D a.1 a.2 = true
        · rw [if_pos hs]
        · rw [if_neg hs] at hd; exact absurd rfl hd

set_option maxRecDepth 100000 in
set_option maxHeartbeats 3200000 in
theorem fnDeskLine_walk (A : Option Addr) (n c : Nat) (w : World) (hs : By w w.heap.size A n) (hc : n ≤ c) (hT : TabsL w) :
    Calls Tryz.prog 4 #[.slice A n c] w fun e w' => e = .returned (.bool true) ∧ Below w.heap.size w w' := by
  have hm := hs.1
  by_cases hbig : 1048576 < n
  · go_enter Tryz.func4, Tryz.ntmps4
    go_wp2
    go_ret
    exact ⟨rfl, Below.refl _ _⟩
  go_enter Tryz.func4, Tryz.ntmps4
  go_wp2_with fail
  refine (drawDeskLine_any A n c _ hs hc).mono ?_
  rintro e w1 ⟨A1, n1, c1, A2, m2, c2, D, s, rfl, F1, hn1, hm2, hs3, b1⟩
  clear hs hc hbig hm
  obtain ⟨W, eW⟩ : ∃ W, w1.alloc (.cells #[.slice A1 n1 c1, .slice A2 m2 c2] 31) = W := ⟨_, rfl⟩
  have gW : w1.grownBy W none := by rw [← eW]; exact grown_alloc _ _ _
  have XD : Db W w1.heap.size (.slice A1 n1 c1) (.slice A2 m2 c2) := by rw [← eW]; exact Db.new w1 _ _
  have FW := F1.onto gW
  have HB := hid (b1.trans ((below_grown gW).mono b1.size))
  have KT := hid (fun (W' : World) (hW : Below W.heap.size W W') => hT.below (HB.out.trans (hW.mono HB.out.size)))
  obtain ⟨o, ho⟩ : ∃ o, w1.heap.size = o := ⟨_, rfl⟩
  rw [ho] at XD
  have KD := hid (fun (W' : World) (hW : Below W.heap.size W W') => XD.below hW XD.lt)
  have KR := hid (fun (W' : World) (hW : Below W.heap.size W W') => (FW.read).on hW)
  have x0 := XD.c0
  have x1 := XD.c1
  have C2 := hid (implDeskLine_any A1 n1 c1 A2 m2 c2 D s W FW.read (by omega) (KT.out W (Below.refl _ _)))
  have CS := hid (fun (W' : World) (h : DkR W' W'.heap.size A1 n1 c1 A2 m2 c2 D) => specDeskLine_any A1 n1 c1 A2 m2 c2 D s W' h (by omega))
  have CK := hid (fun (W' : World) (h : DkR W' W'.heap.size A1 n1 c1 A2 m2 c2 D) => specDeskOk_any A1 n1 c1 A2 m2 c2 D W' h)
  have CZ := hid (fun (W' : World) (h : DkR W' W'.heap.size A1 n1 c1 A2 m2 c2 D) (hT : TabsL W') => show Calls Tryz.prog 14 #[dsk A1 n1 c1 A2 m2 c2, .string ⟨#[]⟩] W' _ from implDeskLine_any A1 n1 c1 A2 m2 c2 D [] W' h (by simp) hT)
  have HKEPT := hid (fun h => line_kept (D := D) h s)
  have HOK := hid (fun h => line_ok (D := D) h s)
  have HEMP := hid (line_empty (D := D))
  have HNO := hid (show deskOk D = false → lineOut D s = (noDk, []) from fun h => by unfold lineOut; rw [if_neg (by rw [h]; simp)])
  obtain ⟨E, N, hE⟩ : ∃ E b, lineOut D s = (E, b) := ⟨_, _, rfl⟩
  simp only [hE] at C2 CS HKEPT HOK HNO
  have hnn : (N != N) = false := by simp
  have hnq : (N == N) = true := by simp
  clear hE gW XD FW F1 b1 hT
  go_wp2_with fail
  clear eW ho
  with_reducible refine Calls.mono C2.out ?_
  rintro e w2 ⟨A3, n3, c3, A4, m4, c4, rfl, Y2, b2⟩
  obtain ⟨V, eV⟩ : ∃ W, w2.alloc (.cells #[.slice A3 n3 c3, .slice A4 m4 c4] 31) = W := ⟨_, rfl⟩
  have gV : w2.grownBy V none := by rw [← eV]; exact grown_alloc _ _ _
  have XV : Db V w2.heap.size (.slice A3 n3 c3) (.slice A4 m4 c4) := by rw [← eV]; exact Db.new _ _ _
  have YV := Y2.onto gV
  have bV := b2.trans ((below_grown gV).mono b2.size)
  obtain ⟨p, hp⟩ : ∃ o, w2.heap.size = o := ⟨_, rfl⟩
  rw [hp] at XV
  have KX := hid (fun (W' : World) (hW : Below V.heap.size V W') => XV.below hW XV.lt)
  have KE := hid (fun (W' : World) (hW : Below V.heap.size V W') => (YV.read).on hW)
  have KW := hid (fun (W' : World) (hW : Below V.heap.size V W') => bV.trans (hW.mono bV.size))
  have C3 := hid (CS.out V (KR.out V bV))
  have XW := KD.out V bV
  have y0 := XW.c0
  have y1 := XW.c1
  clear x0 x1 YV XV gV Y2 b2 bV C2 XW
  go_wp2_with fail
  clear eV hp
  with_reducible refine Calls.mono C3.out ?_
  rintro e w3 ⟨A5, n5, c5, A6, m6, c6, rfl, F3, b3⟩
  obtain ⟨U, eU⟩ : ∃ W, w3.alloc (.cells #[.slice A5 n5 c5, .slice A6 m6 c6] 31) = W := ⟨_, rfl⟩
  have gU : w3.grownBy U none := by rw [← eU]; exact grown_alloc _ _ _
  have XU : Db U w3.heap.size (.slice A5 n5 c5) (.slice A6 m6 c6) := by rw [← eU]; exact Db.new _ _ _
  have GU := F3.onto gU
  have bU := b3.trans ((below_grown gU).mono b3.size)
  obtain ⟨q, hq⟩ : ∃ o, w3.heap.size = o := ⟨_, rfl⟩
  rw [hq] at XU
  have XX := KX.out U bU
  have x0 := XX.c0
  have x1 := XX.c1
  have x2 := XU.c0
  have x3 := XU.c1
  have C4 := hid (sameDesk_any A3 n3 c3 A4 m4 c4 A5 n5 c5 A6 m6 c6 E E U (KE.out U bU) GU.read)
  rw [sameB_refl] at C4
  have H4 := hid bU
  clear y0 y1 GU XU gU F3 b3 bU C3 XX CS
  go_wp2_with fail
  clear eU hq
  with_reducible refine Calls.mono C4.out ?_
  rintro e w4 ⟨rfl, b4⟩
  have HB4 := H4.out.trans (b4.mono H4.out.size)
  have D4 := KD.out _ (KW.out _ HB4)
  have u2 := D4.c0
  have u3 := D4.c1
  have H5 := hid HB4
  have z5 := HB4.size
  have C5 := hid (CK.out w4 (KR.out _ (KW.out _ HB4)))
  clear x0 x1 x2 x3 D4 b4 HB4 C4 H4
  obtain ⟨dk, hdk⟩ : ∃ b, deskOk D = b := ⟨_, rfl⟩
  rw [hdk] at C5 HKEPT HOK HNO HEMP
  clear hdk CK
  go_wp2_with fail
  with_reducible refine Calls.mono C5.out ?_
  rintro e w5 ⟨rfl, g5⟩
  have H6 := hid (H5.out.trans ((below_grown g5).mono z5))
  clear g5 C5 u2 u3
  have X6 := KX.out _ H6.out
  have v0 := X6.c0
  have v1 := X6.c1
  have D6 := KD.out _ (KW.out _ H6.out)
  have v2 := D6.c0
  have v3 := D6.c1
  have z6 := H6.out.size
  clear X6 D6
  cases dk with
  | false =>
    have he := HNO.out rfl
    injection he with he1 he2
    subst he1
    subst he2
    have C7 := hid (noDesk_any A3 n3 c3 A4 m4 c4 noDk w5 (KE.out _ H6.out))
    rw [sameB_refl] at C7
    go_wp2_with fail
    with_reducible refine Calls.mono C7.out ?_
    rintro e w6 ⟨rfl, b6⟩
    have H7 := hid (H6.out.trans (b6.mono z6))
    clear b6
    go_wp2_with fail
    refine (alive_any _).mono ?_
    rintro e w7 ⟨rfl, b7⟩
    have H8 := hid (H7.out.trans (b7.mono H7.out.size))
    clear b7
    go_wp2
    go_ret
    exact ⟨rfl, HB.out.trans ((KW.out _ H8.out).mono HB.out.size)⟩
  | true =>
    have hk := HKEPT.out rfl
    have hEok := HOK.out rfl
    have hem := HEMP.out rfl
    have C7 := hid (CZ.out w5 (KR.out _ (KW.out _ H6.out)) (KT.out _ (KW.out _ H6.out)))
    simp only [hem, wWhat] at C7
    have hww : (([119, 104, 97, 116] : List UInt8) == [119, 104, 97, 116]) = true := by decide
    have HEK := hid hEok
    clear hem hEok HKEPT HOK HEMP HNO CZ
    go_wp2_with fail
    with_reducible refine Calls.mono C7.out ?_
    rintro e w6 ⟨A7, n7, c7, A8, m8, c8, rfl, Y6, b6⟩
    obtain ⟨T, eT⟩ : ∃ W, w6.alloc (.cells #[.slice A7 n7 c7, .slice A8 m8 c8] 31) = W := ⟨_, rfl⟩
    have gT : w6.grownBy T none := by rw [← eT]; exact grown_alloc _ _ _
    have XT : Db T w6.heap.size (.slice A7 n7 c7) (.slice A8 m8 c8) := by rw [← eT]; exact Db.new _ _ _
    have YT := Y6.onto gT
    have bT := b6.trans ((below_grown gT).mono b6.size)
    obtain ⟨t, ht⟩ : ∃ o, w6.heap.size = o := ⟨_, rfl⟩
    rw [ht] at XT
    have H7 := hid (H6.out.trans (bT.mono z6))
    have z7 := H7.out.size
    have KZ := hid (fun (W' : World) (hW : Below T.heap.size T W') => show Db W' t (.slice A7 n7 c7) (.slice A8 m8 c8) ∧ DkR W' W'.heap.size A7 n7 c7 A8 m8 c8 D from ⟨XT.below hW XT.lt, YT.read.on hW⟩)
    have X7 := KX.out _ H7.out
    have k0 := X7.c0
    have k1 := X7.c1
    have C8 := hid (implDeskOk_any A3 n3 c3 A4 m4 c4 E T (KE.out _ H7.out))
    rw [HEK.out] at C8
    clear YT XT gT Y6 b6 bT C7 v0 v1 v2 v3 X7
    go_wp2_with fail
    clear eT ht
    with_reducible refine Calls.mono C8.out ?_
    rintro e w7 ⟨rfl, b7⟩
    have H8 := hid (H7.out.trans (b7.mono z7))
    have z8 := H8.out.size
    have X8 := KX.out _ H8.out
    have l0 := X8.c0
    have l1 := X8.c1
    have D8 := KD.out _ (KW.out _ H8.out)
    have l2 := D8.c0
    have l3 := D8.c1
    have Z8 := (KZ.out _ b7).1
    have l4 := Z8.c0
    have l5 := Z8.c1
    have HT8 := hid b7
    clear b7 C8 k0 k1 X8 D8 Z8
    by_cases hok : N = wOk
    · have ha : (N == ([111, 107] : List UInt8)) = true := by simp [hok, wOk]
      have hb : (([111, 107] : List UInt8) == N) = true := by simp [hok, wOk]
      clear hk hok
      have C9 := hid (sameDesk_any A7 n7 c7 A8 m8 c8 A1 n1 c1 A2 m2 c2 D D w7 (KZ.out _ HT8.out).2 (KR.out _ (KW.out _ H8.out)))
      rw [sameB_refl] at C9
      go_wp2_with fail
      with_reducible refine Calls.mono C9.out ?_
      rintro e w8 ⟨rfl, b8⟩
      have H9 := hid (H8.out.trans (b8.mono z8))
      clear b8
      go_wp2
      go_ret
      exact ⟨rfl, HB.out.trans ((KW.out _ H9.out).mono HB.out.size)⟩
    · have ha : (N == ([111, 107] : List UInt8)) = false := by rw [beq_eq_false_iff_ne]; exact hok
      have hb : (([111, 107] : List UInt8) == N) = false := by rw [beq_eq_false_iff_ne]; exact fun e => hok e.symm
      have hED : E = D := by rcases hk with h | h; exact absurd h hok; exact h
      have C9 := hid (sameDesk_any A3 n3 c3 A4 m4 c4 A1 n1 c1 A2 m2 c2 E D w7 (KE.out _ H8.out) (KR.out _ (KW.out _ H8.out)))
      rw [hED, sameB_refl] at C9
      clear hk hok hED
      go_wp2_with fail
      with_reducible refine Calls.mono C9.out ?_
      rintro e w8 ⟨rfl, b8⟩
      have H9 := hid (H8.out.trans (b8.mono z8))
      have HT9 := hid (HT8.out.trans (b8.mono HT8.out.size))
      have D9 := KD.out _ (KW.out _ H9.out)
      have j2 := D9.c0
      have j3 := D9.c1
      have Z9 := KZ.out _ HT9.out
      have j4 := Z9.1.c0
      have j5 := Z9.1.c1
      have C10 := hid (sameDesk_any A7 n7 c7 A8 m8 c8 A1 n1 c1 A2 m2 c2 D D w8 Z9.2 (KR.out _ (KW.out _ H9.out)))
      rw [sameB_refl] at C10
      have z9 := H9.out.size
      clear b8 l0 l1 l2 l3 l4 l5 C9 D9 Z9
      go_wp2_with fail
      with_reducible refine Calls.mono C10.out ?_
      rintro e w9 ⟨rfl, b9⟩
      have H10 := hid (H9.out.trans (b9.mono z9))
      clear b9
      go_wp2
      go_ret
      exact ⟨rfl, HB.out.trans ((KW.out _ H10.out).mono HB.out.size)⟩
end Go.Proofs.YtkejcajboneniabGreatDoor
