/-
  The walk of laws.FnDeskOk. No statement is proved here.
-/
import Derived.Test.YtkejcajboneniaaM9
import Derived.Test.YtkejcajboneniaaM7
import Derived.Test.YtkejcajboneniaaM1
import Derived.Deep.RegionHeld3
namespace Go.Proofs.Ytkejcajboneniaa
open Go.RowKit
set_option linter.unusedVariables false
set_option linter.unusedSimpArgs false

theorem ok_now {D : Dk} (h : deskOk D = true) : deskOk ⟨D.now, []⟩ = true := by
  obtain ⟨h1, h2, h3⟩ := deskOk_iff.1 h
  exact deskOk_iff.2 ⟨fun l hl => by simp at hl, h2, by simp⟩
theorem ok_no : deskOk noDk = false := by decide

set_option maxRecDepth 100000 in
set_option maxHeartbeats 3200000 in
theorem fnDeskOk_walk (A : Option Addr) (n c : Nat) (w : World) (hs : By w w.heap.size A n) (hc : n ≤ c) :
    Calls Try.prog 3 #[.slice A n c] w fun e w' => e = .returned (.bool true) ∧ Below w.heap.size w w' := by
  have hm := hs.1
  by_cases hbig : 1048576 < n
  · go_enter Try.func3, Try.ntmps3
    go_wp2
    go_ret
    exact ⟨rfl, Below.refl _ _⟩
  go_enter Try.func3, Try.ntmps3
  go_wp2_with fail
  refine (drawDeskOk_any A n c _ hs hc).mono ?_
  rintro e w1 ⟨A1, n1, c1, A2, m2, c2, D, rfl, F1, hn1, hm2, b1⟩
  clear hs hc hbig hm
  obtain ⟨W, eW⟩ : ∃ W, w1.alloc (.cells #[.slice A1 n1 c1, .slice A2 m2 c2] 26) = W := ⟨_, rfl⟩
  have gW : w1.grownBy W none := by rw [← eW]; exact grown_alloc _ _ _
  have XO : Db W w1.heap.size (.slice A1 n1 c1) (.slice A2 m2 c2) := by rw [← eW]; exact Db.new _ _ _
  have FW := F1.onto gW
  have HB := hid (b1.trans ((below_grown gW).mono b1.size))
  obtain ⟨o, ho⟩ : ∃ o, w1.heap.size = o := ⟨_, rfl⟩
  rw [ho] at XO
  have KX := hid (fun (W' : World) (hW : Below W.heap.size W W') => XO.below hW XO.lt)
  have KR := hid (fun (W' : World) (hW : Below W.heap.size W W') => (FW.read).on hW)
  have KN := hid (fun (W' : World) (hW : Below W.heap.size W W') => show DkR W' W'.heap.size A1 n1 c1 none 0 0 ⟨D.now, []⟩ from ⟨(FW.read.on hW).now, SlS.nil _ _, FW.read.cap, by omega⟩)
  have x0 := XO.c0
  have x1 := XO.c1
  have C2 := hid (implDeskOk_any A1 n1 c1 A2 m2 c2 D W FW.read)
  have HOK := hid (ok_now (D := D))
  have CI := hid (fun (W' : World) (D' : Dk) (h : DkR W' W'.heap.size A1 n1 c1 none 0 0 D') => implDeskOk_any A1 n1 c1 none 0 0 D' W' h)
  have CS := hid (fun (W' : World) (h : DkR W' W'.heap.size A1 n1 c1 A2 m2 c2 D) => specDeskOk_any A1 n1 c1 A2 m2 c2 D W' h)
  have CZ := hid (fun (W' : World) => implDeskOk_any none 0 0 none 0 0 noDk W' (DkR.no _ _))
  rw [ok_no] at CZ
  obtain ⟨ok, hok⟩ : ∃ b, deskOk D = b := ⟨_, rfl⟩
  rw [hok] at C2 CS HOK
  have hbb : (ok != ok) = false := by simp
  clear FW XO gW F1 b1 hok
  go_wp2_with fail
  clear eW ho
  with_reducible refine Calls.mono C2.out ?_
  rintro e w2 ⟨rfl, b2⟩
  have X2 := KX.out _ b2
  have y0 := X2.c0
  have y1 := X2.c1
  have C3 := hid (CS.out w2 (KR.out _ b2))
  have HB2 := hid b2
  clear x0 x1 X2 b2 C2
  go_wp2_with fail
  with_reducible refine Calls.mono C3.out ?_
  rintro e w3 ⟨rfl, g3⟩
  have HB3 := HB2.out.trans ((below_grown g3).mono HB2.out.size)
  have X3 := KX.out _ HB3
  have x0 := X3.c0
  have x1 := X3.c1
  have H3 := hid HB3
  have z3 := HB3.size
  clear y0 y1 X3 g3 C3 HB3
  cases ok with
  | false =>
    go_wp2_with fail
    with_reducible refine Calls.mono (CZ.out _) ?_
    rintro e w5 ⟨rfl, b5⟩
    have H5 := hid (H3.out.trans (b5.mono z3))
    clear b5
    go_wp2_with fail
    refine (alive_any _).mono ?_
    rintro e w6 ⟨rfl, b6⟩
    have H6 := hid (H5.out.trans (b6.mono H5.out.size))
    clear b6
    go_wp2
    go_ret
    exact ⟨rfl, HB.out.trans (H6.out.mono HB.out.size)⟩
  | true =>
    have C4 := hid (CI.out w3 _ (KN.out _ H3.out))
    rw [HOK.out rfl] at C4
    go_wp2_with fail
    with_reducible refine Calls.mono C4.out ?_
    rintro e w4 ⟨rfl, b4⟩
    have H4 := hid (H3.out.trans (b4.mono z3))
    clear b4
    go_wp2_with fail
    with_reducible refine Calls.mono (CZ.out _) ?_
    rintro e w5 ⟨rfl, b5⟩
    have H5 := hid (H4.out.trans (b5.mono H4.out.size))
    clear b5
    go_wp2_with fail
    refine (alive_any _).mono ?_
    rintro e w6 ⟨rfl, b6⟩
    have H6 := hid (H5.out.trans (b6.mono H5.out.size))
    clear b6
    go_wp2
    go_ret
    exact ⟨rfl, HB.out.trans (H6.out.mono HB.out.size)⟩
end Go.Proofs.Ytkejcajboneniaa
