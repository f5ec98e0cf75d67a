/-
  The walk of laws.FnDeskNew. No statement is proved here.
-/
import Derived.Test.YtkejcajboneniaaM9
import Derived.Test.YtkejcajboneniaaM7
import Derived.Test.YtkejcajboneniaaM1
import Derived.Deep.RegionHeld3
namespace Go.Proofs.Ytkejcajboneniaa
open Go.RowKit
set_option linter.unusedVariables false
set_option linter.unusedSimpArgs false

theorem new_ok (l : List Int) (h : bitsOk l = true) : deskOk (newOut l) = true ∧ (newOut l).now = l ∧ (newOut l).past = [] := by
  unfold newOut
  rw [if_pos h]
  exact ⟨deskOk_iff.2 ⟨fun x hx => by simp at hx, h, by simp⟩, rfl, rfl⟩

set_option maxRecDepth 100000 in
set_option maxHeartbeats 3200000 in
theorem fnDeskNew_walk (A : Option Addr) (n c : Nat) (w : World) (hs : By w w.heap.size A n) (hc : n ≤ c) :
    Calls Try.prog 5 #[.slice A n c] w fun e w' => e = .returned (.bool true) ∧ Below w.heap.size w w' := by
  have hm := hs.1
  by_cases hbig : 1048576 < n
  · go_enter Try.func5, Try.ntmps5
    go_wp2
    go_ret
    exact ⟨rfl, Below.refl _ _⟩
  go_enter Try.func5, Try.ntmps5
  go_wp2_with fail
  refine (drawDeskNew_any A n c _ hs hc).mono ?_
  rintro e w1 ⟨A1, n1, c1, l, rfl, o1, hn1, b1⟩
  clear hs hc hbig hm
  have hl := (Sl.of_own o1).len
  have KL := hid (fun (W' : World) (hW : Below w1.heap.size w1 W') => (Sl.of_own o1).on hW)
  have C2 := hid (implDeskNew_any A1 n1 c1 l w1 (Sl.of_own o1))
  have CN := hid (fun (W' : World) (h : Sl W' W'.heap.size A1 n1 l) => specDeskNew_any A1 n1 c1 l W' h)
  have CK := hid (fun (W' : World) (h : Sl W' W'.heap.size A1 n1 l) => implBitsOk_any A1 n1 c1 l W' h)
  have HN := hid (new_ok l)
  have HF := hid (show bitsOk l = false → newOut l = noDk from fun h => by unfold newOut; rw [if_neg (by rw [h]; simp)])
  obtain ⟨E, hE⟩ : ∃ E, newOut l = E := ⟨_, rfl⟩
  obtain ⟨ok, hok⟩ : ∃ b, bitsOk l = b := ⟨_, rfl⟩
  rw [hE, hok] at C2
  simp only [hE, hok] at CN CK HN HF
  have hbb : (ok != ok) = false := by simp
  have HB1 := hid b1
  clear hE hok o1 b1 hl
  go_wp2_with fail
  with_reducible refine Calls.mono C2.out ?_
  rintro e w2 ⟨A3, n3, c3, A4, m4, c4, rfl, Y2, b2⟩
  obtain ⟨W, eW⟩ : ∃ W, w2.alloc (.cells #[.slice A3 n3 c3, .slice A4 m4 c4] 26) = W := ⟨_, rfl⟩
  have gW : w2.grownBy W none := by rw [← eW]; exact grown_alloc _ _ _
  have XO : Db W w2.heap.size (.slice A3 n3 c3) (.slice A4 m4 c4) := by rw [← eW]; exact Db.new _ _ _
  have YW := Y2.onto gW
  have bW := b2.trans ((below_grown gW).mono b2.size)
  have HB2 := hid (HB1.out.trans (bW.mono HB1.out.size))
  obtain ⟨o, ho⟩ : ∃ o, w2.heap.size = o := ⟨_, rfl⟩
  rw [ho] at XO
  have KX := hid (fun (W' : World) (hW : Below W.heap.size W W') => XO.below hW XO.lt)
  have KR := hid (fun (W' : World) (hW : Below W.heap.size W W') => (YW.read).on hW)
  have KL2 := hid (fun (W' : World) (hW : Below W.heap.size W W') => KL.out W' (bW.trans (hW.mono bW.size)))
  have C3 := hid (CN.out W (KL.out W bW))
  clear YW XO gW Y2 b2 bW C2 KL
  go_wp2_with fail
  clear eW ho
  with_reducible refine Calls.mono C3.out ?_
  rintro e w3 ⟨A5, n5, c5, A6, m6, c6, rfl, F3, b3⟩
  obtain ⟨V, eV⟩ : ∃ W, w3.alloc (.cells #[.slice A5 n5 c5, .slice A6 m6 c6] 26) = W := ⟨_, rfl⟩
  have gV : w3.grownBy V none := by rw [← eV]; exact grown_alloc _ _ _
  have XV : Db V w3.heap.size (.slice A5 n5 c5) (.slice A6 m6 c6) := by rw [← eV]; exact Db.new _ _ _
  have FV := F3.onto gV
  have bV := b3.trans ((below_grown gV).mono b3.size)
  obtain ⟨p, hp⟩ : ∃ o, w3.heap.size = o := ⟨_, rfl⟩
  rw [hp] at XV
  have XW := KX.out V bV
  have x0 := XW.c0
  have x1 := XW.c1
  have y0 := XV.c0
  have y1 := XV.c1
  have C4 := hid (sameDesk_any A3 n3 c3 A4 m4 c4 A5 n5 c5 A6 m6 c6 E E V (KR.out V bV) FV.read)
  rw [sameB_refl] at C4
  have H4 := hid bV
  clear FV XV XW gV F3 b3 bV C3
  go_wp2_with fail
  clear eV hp
  with_reducible refine Calls.mono C4.out ?_
  rintro e w4 ⟨rfl, b4⟩
  have HB4 := H4.out.trans (b4.mono H4.out.size)
  have X4 := KX.out _ HB4
  have u0 := X4.c0
  have u1 := X4.c1
  have H5 := hid HB4
  have z5 := HB4.size
  clear x0 x1 y0 y1 X4 b4 HB4 C4
  cases ok with
  | false =>
    have C5 := hid (noDesk_any A3 n3 c3 A4 m4 c4 E w4 (KR.out _ H5.out))
    rw [HF.out rfl, sameB_refl] at C5
    go_wp2_with fail
    with_reducible refine Calls.mono C5.out ?_
    rintro e w5 ⟨rfl, b5⟩
    have H6 := hid (H5.out.trans (b5.mono z5))
    have C6 := hid (CK.out w5 (KL2.out _ H6.out))
    clear b5 C5
    go_wp2_with fail
    with_reducible refine Calls.mono C6.out ?_
    rintro e w6 ⟨rfl, b6⟩
    have H7 := hid (H6.out.trans (b6.mono H6.out.size))
    clear b6 C6
    go_wp2_with fail
    refine (alive_any _).mono ?_
    rintro e w7 ⟨rfl, b7⟩
    have H8 := hid (H7.out.trans (b7.mono H7.out.size))
    clear b7
    go_wp2
    go_ret
    exact ⟨rfl, HB2.out.trans (H8.out.mono HB2.out.size)⟩
  | true =>
    obtain ⟨hn1', hn2, hn3⟩ := HN.out rfl
    have C5 := hid (implDeskOk_any A3 n3 c3 A4 m4 c4 E w4 (KR.out _ H5.out))
    rw [hn1'] at C5
    have hm4 : m4 = 0 := by have := (KR.out _ H5.out).past.len; rw [hn3] at this; simpa using this.symm
    subst hm4
    have HN2 := hid hn2
    clear hn1' hn2 hn3
    go_wp2_with fail
    with_reducible refine Calls.mono C5.out ?_
    rintro e w5 ⟨rfl, b5⟩
    have H6 := hid (H5.out.trans (b5.mono z5))
    have X6 := KX.out _ H6.out
    have v0 := X6.c0
    have v1 := X6.c1
    have C6 := hid (sameInts_d A3 A1 n3 c3 n1 c1 E.now l w5 (KR.out _ H6.out).now (KL2.out _ H6.out))
    rw [decide_eq_true HN2.out] at C6
    clear b5 C5 X6 u0 u1
    go_wp2_with fail
    with_reducible refine Calls.mono C6.out ?_
    rintro e w6 ⟨rfl, b6⟩
    have H7 := hid (H6.out.trans (b6.mono H6.out.size))
    have X7 := KX.out _ H7.out
    have u0 := X7.c0
    have u1 := X7.c1
    clear b6 C6 X7 v0 v1
    go_wp2
    go_ret
    exact ⟨rfl, HB2.out.trans (H7.out.mono HB2.out.size)⟩
end Go.Proofs.Ytkejcajboneniaa
