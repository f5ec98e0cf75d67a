/-
  The walk of the exact law of DeskNew. No statement is proved here.
-/
import Derived.Test.YtkejcajboneniaaM9
import Derived.Test.YtkejcajboneniaaM7
import Derived.Test.YtkejcajboneniaaM1
namespace Go.Proofs.Ytkejcajboneniaa
open Go.RowKit
set_option linter.unusedVariables false
set_option linter.unusedSimpArgs false

theorem DkY.kept_lo {w w' : World} {B n c m c2 g : Nat} {A A2 : Option Addr} {D : Dk} (h : DkY w B A n c A2 m c2 D) (hg : w.grownBy w' (some g)) (hlt : g < B) : DkY w' B A n c A2 m c2 D :=
  h.keep (fun v n xs ho => ho.kept hg (.inr fun e => by have := own_lo ho g e; omega)) (fun v n xs ho => ho.kept hg (.inr fun e => by have := own_lo ho g e; omega))
theorem newOut_lenN (l : List Int) : (newOut l).now.length ≤ l.length ∧ (newOut l).past = [] := by
  unfold newOut
  by_cases h : bitsOk l = true
  · rw [if_pos h]; exact ⟨Nat.le_refl _, rfl⟩
  · rw [if_neg h]; exact ⟨Nat.zero_le _, rfl⟩
theorem DkY.lens {w : World} {B n c m c2 : Nat} {A A2 : Option Addr} {D : Dk} (h : DkY w B A n c A2 m c2 D) : n = D.now.length ∧ m = D.past.length :=
  ⟨by have := h.read.now.len; omega, by have := h.read.past.len; omega⟩

set_option maxRecDepth 100000 in
set_option maxHeartbeats 6400000 in
theorem fnExactDeskNew_walk (A : Option Addr) (n c : Nat) (l : List Int) (w : World) (hs : Sl w w.heap.size A n l) :
    Calls Try.prog 6 #[.slice A n c] w fun e w' => e = .returned (.bool true) ∧ Below w.heap.size w w' := by
  by_cases hbig : 1048576 < n
  · have hbi : (1048576 : Int) < (n : Int) := by omega
    go_enter Try.func6, Try.ntmps6
    go_wp2
    go_ret
    exact ⟨rfl, Below.refl _ _⟩
  have hbi : ¬ (1048576 : Int) < (n : Int) := by omega
  have hl := hs.len
  have CT := hid (fun (W : World) (hW : Below w.heap.size w W) => toIntS_any A n c l W (hs.on hW) (by omega))
  have HNL := hid (newOut_lenN l)
  have HLL := hid hl
  clear hl
  obtain ⟨D, hD⟩ : ∃ D, newOut l = D := ⟨_, rfl⟩
  obtain ⟨b, hb⟩ : ∃ b, bitsOk l = b := ⟨_, rfl⟩
  have hbb : (b != b) = false := by simp
  have CN := hid (fun (W : World) (A0 : Option Addr) (c0 : Nat) (h0 : Sl W W.heap.size A0 n l) => specDeskNew_any A0 n c0 l W h0)
  have CI := hid (fun (W : World) (A0 : Option Addr) (c0 : Nat) (h0 : Sl W W.heap.size A0 n l) => implDeskNew_any A0 n c0 l W h0)
  rw [hD] at HNL
  simp only [hD, hb] at CN CI
  clear hD hb
  go_enter Try.func6, Try.ntmps6
  go_wp2_with fail
  with_reducible refine Calls.mono (CT.out _ (Below.refl _ _)) ?_
  rintro e w1 ⟨g1, rfl, o1, b1⟩
  have hz1 := b1.size
  have C2 := hid (CN.out w1 _ n (Sl.of_own o1))
  have HB1 := hid b1
  clear o1 b1
  go_wp2_with fail
  with_reducible refine Calls.mono C2.out ?_
  rintro e w2 ⟨A3, n3, c3, A4, m4, c4, rfl, F2, b2⟩
  have hz2 := b2.size
  obtain ⟨W3, e3⟩ : ∃ W, w2.alloc (.cells #[.slice A3 n3 c3, .slice A4 m4 c4] 26) = W := ⟨_, rfl⟩
  have g3 : w2.grownBy W3 none := by rw [← e3]; exact grown_alloc _ _ _
  have X3 : Db W3 w2.heap.size (.slice A3 n3 c3) (.slice A4 m4 c4) := by rw [← e3]; exact Db.new _ _ _
  have hz3 : W3.heap.size = w2.heap.size + 1 := by rw [← e3]; simp
  have F3 := F2.onto g3
  have HB3 := hid ((HB1.out.trans (b2.mono hz1)).trans ((below_grown g3).mono (by omega)))
  have KD := hid (fun (W : World) (hW : Below W3.heap.size W3 W) => (F3.on hW).read)
  have KX := hid (fun (W : World) (hW : Below W3.heap.size W3 W) => X3.below hW X3.lt)
  have q3 : w.heap.size ≤ W3.heap.size := HB3.out.size
  obtain ⟨b3, hb3⟩ : ∃ b, w2.heap.size = b := ⟨_, rfl⟩
  rw [hb3] at KX hz3
  have C4 := hid (CT.out W3 HB3.out)
  clear g3 X3 F3 F2 b2 C2
  go_wp2_with fail
  with_reducible refine Calls.mono C4.out ?_
  rintro e w4 ⟨g4, rfl, o4, b4⟩
  have hz4 := b4.size
  have hg4 := o4.lt g4 rfl
  have C5 := hid (CI.out w4 _ n (Sl.of_own o4))
  have HB4 := hid b4
  have HO4 := hid o4
  clear o4 b4 C4 e3 hb3
  go_wp2_with fail
  with_reducible refine Calls.mono C5.out ?_
  rintro e w5 ⟨A5, n5, c5, A6, m6, c6, rfl, Y5, b5⟩
  have hz5 := b5.size
  obtain ⟨W6, e6⟩ : ∃ W, w5.alloc (.cells #[.slice A5 n5 c5, .slice A6 m6 c6] 26) = W := ⟨_, rfl⟩
  have g6 : w5.grownBy W6 none := by rw [← e6]; exact grown_alloc _ _ _
  have X6 : Db W6 w5.heap.size (.slice A5 n5 c5) (.slice A6 m6 c6) := by rw [← e6]; exact Db.new _ _ _
  have hz6 : W6.heap.size = w5.heap.size + 1 := by rw [← e6]; simp
  have Y6 := Y5.onto g6
  have HL5 := hid Y5.lens
  have b6 := (b5.trans ((below_grown g6).mono hz5))
  have HB6 := hid (HB4.out.trans (b6.mono hz4))
  have HO6 := hid (own_on HO4.out b6)
  have q6 : w4.heap.size ≤ W6.heap.size := b6.size
  obtain ⟨b6n, hb6⟩ : ∃ b, w5.heap.size = b := ⟨_, rfl⟩
  rw [hb6] at X6 hz6
  have x6a := X6.c0
  have x6b := X6.c1
  have X3 := KX.out W6 HB6.out
  have x3a := X3.c0
  have x3b := X3.c1
  have C7 := hid (eqDesk_any A5 n5 c5 A6 m6 c6 A3 n3 c3 A4 m4 c4 D W6 Y6.read (KD.out W6 HB6.out))
  have HY6 := hid Y6
  have HX6 := hid X6
  clear g6 X6 Y6 Y5 b5 b6 X3 C5
  go_wp2_with fail
  clear e6 hb6
  with_reducible refine Calls.mono C7.out ?_
  rintro e w7 ⟨rfl, b7⟩
  have hz7 := b7.size
  have HB7 := hid (HB6.out.trans (b7.mono (by omega)))
  have HO7 := hid (own_on HO6.out b7)
  have HY7 := hid (HY6.out.on b7)
  have HX7 := hid (HX6.out.below b7 HX6.out.lt)
  have C8 := hid (CT.out w7 (HB3.out.trans (HB7.out.mono (by omega))))
  clear x6a x6b x3a x3b b7 C7
  go_wp2_with fail
  with_reducible refine Calls.mono C8.out ?_
  rintro e w8 ⟨g8, rfl, o8, b8⟩
  have hz8 := b8.size
  have HB8 := hid (HB7.out.trans (b8.mono (by omega)))
  have O8 := own_on HO7.out b8
  have HY8 := hid (HY7.out.on b8)
  have HX8 := hid (HX7.out.below b8 HX7.out.lt)
  have C9 := hid (eqIntS_b (some ⟨g4, 0, none⟩) (some ⟨g8, 0, none⟩) n n n n l l w8 w8.heap.size w8.heap.size (Sl.of_own O8) (Sl.of_own o8))
  rw [decide_eq_true rfl] at C9
  have HO8 := hid O8
  clear o8 b8 C8 O8
  go_wp2_with fail
  with_reducible refine Calls.mono C9.out ?_
  rintro e w9 ⟨rfl, b9⟩
  have hz9 := b9.size
  have HB9 := hid (HB8.out.trans (b9.mono (by omega)))
  have O9 := own_on HO8.out b9
  have HY9 := hid (HY8.out.on b9)
  have HX9 := hid (HX8.out.below b9 HX8.out.lt)
  have C10 := hid (markIntS_any (some ⟨g4, 0, none⟩) n n W3.heap.size l 1 w9 O9 (by omega) (by omega) (by omega))
  have HO9 := hid O9
  clear b9 C9 O9
  go_wp2_with fail
  with_reducible refine Calls.mono C10.out ?_
  rintro e w10 ⟨rfl, o10, g10⟩
  have hz10 := g10.size
  have HB10 := hid (HB9.out.grown g10 (by omega) (own_lo HO9.out))
  have Y10 := HY9.out.kept_lo g10 hg4.2
  have X10 := HX9.out.only (OnlyInt.row HO9.out g10)
  have x6a := X10.c0
  have x6b := X10.c1
  have X3 := KX.out w10 HB10.out
  have x3a := X3.c0
  have x3b := X3.c1
  have C11 := hid (eqDesk_any A5 n5 c5 A6 m6 c6 A3 n3 c3 A4 m4 c4 D w10 Y10.read (KD.out w10 HB10.out))
  have hp : ¬ 1 + (n : Int) < 0 := by omega
  have HY10 := hid Y10
  have HX10 := hid X10
  clear o10 g10 Y10 X10 X3 C10
  go_wp2_with fail
  with_reducible refine Calls.mono C11.out ?_
  rintro e w11 ⟨rfl, b11⟩
  have hz11 := b11.size
  have HB11 := hid (HB10.out.trans (b11.mono (by omega)))
  have X11 := HX10.out.below b11 HX10.out.lt
  have C12 := hid (markDesk_any A5 n5 c5 A6 m6 c6 w4.heap.size D w11 (HY10.out.on b11) (by have h1 := HNL.out; have h2 := HL5.out; rw [h1.2]; simp [szL]; have := HLL.out; omega) (by have h1 := HNL.out; have h2 := HL5.out; rw [h1.2] at h2; simp at h2; omega) (by omega))
  have x11a := X11.c0
  have x11b := X11.c1
  have HX11 := hid X11
  clear x6a x6b x3a x3b b11 C11 X11 hp
  go_wp2_with fail
  with_reducible refine Calls.mono C12.out ?_
  rintro e w12 ⟨rfl, Y12, b12, i12⟩
  have hz12 := i12.1
  have HB12 := hid (HB11.out.trans (b12.mono (by omega)))
  have X12 := HX11.out.only i12
  have x12a := X12.c0
  have x12b := X12.c1
  have CH := hid (fun (W : World) (hW : Below w12.heap.size w12 W) => heldDesk_any A5 n5 c5 A6 m6 c6 w4.heap.size (D.past.map List.length) W (Y12.on hW) (by have h1 := HNL.out; have h2 := HL5.out; rw [h1.2]; simp; have := HLL.out; omega) (by have h1 := HNL.out; have h2 := HL5.out; rw [h1.2] at h2; simp at h2; omega))
  have HX12 := hid X12
  obtain ⟨t, ht⟩ : ∃ t : Int, 1 + (n5 : Int) + ((D.past.map List.length).sum : Int) = t := ⟨_, rfl⟩
  have ht2 : 1 + (n5 : Int) + (szL D.past : Int) = t := ht
  rw [ht2]
  rw [ht] at CH
  have hp : ¬ t < 0 := by omega
  have hne : (t != t) = false := by simp
  clear Y12 b12 i12 X12 C12 x11a x11b ht ht2
  go_wp2_with fail
  with_reducible refine Calls.mono (CH.out _ (Below.refl _ _)) ?_
  rintro e w13 ⟨rfl, b13⟩
  have hz13 := b13.size
  have HB13 := hid (HB12.out.trans (b13.mono (by omega)))
  have HL13 := hid b13
  have C14 := hid (CT.out w13 (HB3.out.trans (HB13.out.mono (by omega))))
  clear b13 x12a x12b
  go_wp2_with fail
  with_reducible refine Calls.mono C14.out ?_
  rintro e w14 ⟨g14, rfl, o14, b14⟩
  have hz14 := b14.size
  have C15 := hid (CI.out w14 _ n (Sl.of_own o14))
  have HL14 := hid (HL13.out.trans (b14.mono hz13))
  clear o14 b14 C14
  go_wp2_with fail
  with_reducible refine Calls.mono C15.out ?_
  rintro e w15 ⟨A7, n7, c7, A8, m8, c8, rfl, Y15, b15⟩
  have hz15 := b15.size
  obtain ⟨W16, e16⟩ : ∃ W, w15.alloc (.cells #[.slice A7 n7 c7, .slice A8 m8 c8] 26) = W := ⟨_, rfl⟩
  have g16 : w15.grownBy W16 none := by rw [← e16]; exact grown_alloc _ _ _
  have X16 : Db W16 w15.heap.size (.slice A7 n7 c7) (.slice A8 m8 c8) := by rw [← e16]; exact Db.new _ _ _
  have hz16 : W16.heap.size = w15.heap.size + 1 := by rw [← e16]; simp
  have Y16 := Y15.onto g16
  have HL16 := hid ((HL14.out.trans (b15.mono (by omega))).trans ((below_grown g16).mono (by omega)))
  have HB16 := hid (HB12.out.trans (HL16.out.mono (by omega)))
  have x16a := X16.c0
  have x16b := X16.c1
  have X3 := KX.out W16 HB16.out
  have x3a := X3.c0
  have x3b := X3.c1
  have C17 := hid (eqDesk_any A7 n7 c7 A8 m8 c8 A3 n3 c3 A4 m4 c4 D W16 Y16.read (KD.out W16 HB16.out))
  have q16 : w12.heap.size ≤ W16.heap.size := HL16.out.size
  obtain ⟨b16n, hb16⟩ : ∃ b, w15.heap.size = b := ⟨_, rfl⟩
  rw [hb16] at x16a x16b hz16
  clear g16 X16 Y16 Y15 b15 X3 C15
  go_wp2_with fail
  clear e16 hb16
  with_reducible refine Calls.mono C17.out ?_
  rintro e w17 ⟨rfl, b17⟩
  have hz17 := b17.size
  have HL17 := hid (HL16.out.trans (b17.mono (by omega)))
  have HB17 := hid (HB16.out.trans (b17.mono (by omega)))
  have X17 := HX12.out.below HL17.out HX12.out.lt
  have x17a := X17.c0
  have x17b := X17.c1
  clear x16a x16b x3a x3b b17 X17 C17
  go_wp2_with fail
  with_reducible refine Calls.mono (CH.out _ HL17.out) ?_
  rintro e w18 ⟨rfl, b18⟩
  have HB18 := hid (HB17.out.trans (b18.mono (by omega)))
  clear b18 x17a x17b
  go_wp2
  go_ret
  exact ⟨rfl, HB3.out.trans (HB18.out.mono (by omega))⟩
end Go.Proofs.Ytkejcajboneniaa
