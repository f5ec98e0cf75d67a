/-
  The walk of the exact law of DeskOk. No statement is proved here.
-/
import Derived.Test.YtkejcajboneniaaM9
import Derived.Test.YtkejcajboneniaaM6
import Derived.Test.YtkejcajboneniaaM5
import Derived.Deep.RegionHeld3
namespace Go.Proofs.Ytkejcajboneniaa
open Go.RowKit
set_option linter.unusedVariables false
set_option linter.unusedSimpArgs false

set_option maxRecDepth 100000 in
set_option maxHeartbeats 3200000 in
theorem fnExactDeskOk_walk (A : Option Addr) (n c : Nat) (A2 : Option Addr) (m c2 : Nat) (D : Dk) (w : World) (h : DkR w w.heap.size A n c A2 m c2 D) :
    Calls Try.prog 4 #[dsk A n c A2 m c2] w fun e w' => e = .returned (.bool true) ∧ Below w.heap.size w w' := by
  have gA := grown_alloc w (.cells #[.slice A n c, .slice A2 m c2] 31) none
  have XA := heap_alloc_new w (.cells #[.slice A n c, .slice A2 m c2] 31)
  have B0 := below_grown gA
  have H0 := h.on B0
  go_enter Try.func4, Try.ntmps4
  obtain ⟨w0, e0⟩ : ∃ W, w.alloc (.cells #[.slice A n c, .slice A2 m c2] 31) = W := ⟨_, rfl⟩
  have hz0 : w0.heap.size = w.heap.size + 1 := by rw [← e0]; simp
  rw [e0] at XA B0 H0
  obtain ⟨a0, a1, _, _⟩ := pairCells XA
  have CS := hid (szDesk_any A n c A2 m c2 D w0 H0)
  have HA := hid XA
  have HB0 := hid B0
  have HH := hid h
  clear XA B0 H0 gA h
  go_wp2_with fail
  with_reducible refine Calls.mono CS.out ?_
  rintro e w1 ⟨⟨r, rfl, hr⟩, g1⟩
  have YA := (g1.block w.heap.size (by omega) (by simp)).trans HA.out
  have hz1 := g1.size
  have HB1 := hid (HB0.out.trans ((below_grown g1).mono HB0.out.size))
  clear g1 a0 a1 e0
  obtain ⟨a0, a1, _, _⟩ := pairCells YA
  by_cases hr0 : r < 0
  · go_wp2
    go_ret
    exact ⟨rfl, HB1.out⟩
  · have hsz : n + m + szL D.past ≤ 1048576 := by omega
    have hr0' : decide (r < 0) = false := by simpa using hr0
    have CT := hid (fun (W : World) (hW : Below w.heap.size w W) => toDesk_any A n c A2 m c2 D W (HH.out.on hW) hsz)
    have HYA := hid YA
    have HSZ := hid hsz
    clear hr YA hsz
    go_wp2_with fail
    with_reducible refine Calls.mono (CT.out _ HB1.out) ?_
    rintro e w2 ⟨A3, c3, A4, c4, rfl, F2, b2⟩
    have ZA := (b2.block w.heap.size (by omega)).trans HYA.out
    have hz2 := b2.size
    have HB2 := hid (HB1.out.trans (b2.mono HB1.out.size))
    clear a0 a1 b2
    obtain ⟨a0, a1, _, _⟩ := pairCells ZA
    have CM := hid (specDeskOk_any A3 n c3 A4 m c4 D w2 F2.read)
    clear F2
    go_wp2_with fail
    with_reducible refine Calls.mono CM.out ?_
    rintro e w3 ⟨rfl, g3⟩
    have ZA3 := (g3.block w.heap.size (by omega) (by simp)).trans ZA
    have hz3 := g3.size
    have HB3 := hid (HB2.out.trans ((below_grown g3).mono HB2.out.size))
    clear a0 a1 g3 ZA CM
    obtain ⟨a0, a1, _, _⟩ := pairCells ZA3
    go_wp2_with fail
    with_reducible refine Calls.mono (CT.out _ HB3.out) ?_
    rintro e w4 ⟨A5, c5, A6, c6, rfl, F4, b4⟩
    have ZA4 := (b4.block w.heap.size (by omega)).trans ZA3
    have hz4 := b4.size
    have HB4 := hid (HB3.out.trans (b4.mono HB3.out.size))
    have gX := grown_alloc w4 (.cells #[.slice A5 n c5, .slice A6 m c6] 26) none
    have XX := Db.new w4 (.slice A5 n c5) (.slice A6 m c6)
    have F5 := F4.onto gX
    have ZA5 := (gX.block w.heap.size (by omega) (by simp)).trans ZA4
    have HB5 := hid (HB4.out.trans ((below_grown gX).mono HB4.out.size))
    obtain ⟨w5, e5⟩ : ∃ W, w4.alloc (.cells #[.slice A5 n c5, .slice A6 m c6] 26) = W := ⟨_, rfl⟩
    have hz5 : w5.heap.size = w4.heap.size + 1 := by rw [← e5]; simp
    rw [e5] at XX F5 ZA5 HB5
    obtain ⟨o, ho⟩ : ∃ o, w4.heap.size = o := ⟨_, rfl⟩
    rw [ho] at XX hz5
    have hoB : w.heap.size < o := by omega
    clear a0 a1 ZA4 ZA3 F4 b4 gX
    obtain ⟨a0, a1, _, _⟩ := pairCells ZA5
    have x0 := XX.c0
    have x1 := XX.c1
    have CI := hid (implDeskOk_any A5 n c5 A6 m c6 D w5 F5.read)
    have HX := hid XX
    have HF := hid F5
    have HZ := hid ZA5
    clear XX F5 ZA5
    go_wp2_with fail
    clear e5 ho
    with_reducible refine Calls.mono CI.out ?_
    rintro e w6 ⟨rfl, b6⟩
    have V0 := HX.out.below b6 HX.out.lt
    have VA := (b6.block w.heap.size (by omega)).trans HZ.out
    have VF := HF.out.on b6
    have hz6 := b6.size
    have HB6 := hid (HB5.out.trans (b6.mono HB5.out.size))
    clear a0 a1 x0 x1 b6 CI HX HF HZ
    obtain ⟨a0, a1, _, _⟩ := pairCells VA
    have x0 := V0.c0
    have x1 := V0.c1
    have hne : (deskOk D != deskOk D) = false := by simp
    have hd : Below w6.heap.size w6 w6.drew := (Below.refl _ _).drew
    have KX := hid (fun (W : World) (hW : Below w6.heap.size w6 W) => show W.cell? ⟨w.heap.size, 0, none⟩ = some (.slice A n c) ∧ W.cell? ⟨w.heap.size, 1, none⟩ = some (.slice A2 m c2) ∧ W.cell? ⟨o, 0, none⟩ = some (.slice A5 n c5) ∧ W.cell? ⟨o, 1, none⟩ = some (.slice A6 m c6) from
      ⟨(hW.cell (p := ⟨w.heap.size, 0, none⟩) (show w.heap.size < w6.heap.size by omega)).trans a0, (hW.cell (p := ⟨w.heap.size, 1, none⟩) (show w.heap.size < w6.heap.size by omega)).trans a1, (hW.cell (p := ⟨o, 0, none⟩) V0.lt).trans x0, (hW.cell (p := ⟨o, 1, none⟩) V0.lt).trans x1⟩)
    have C7 := hid (CT.out w6.drew (HB6.out.trans (hd.mono HB6.out.size)))
    have VFH := hid VF
    have CE := hid (fun (W : World) (A7 : Option Addr) (c7 : Nat) (A8 : Option Addr) (c8 : Nat) (hW : Below w6.heap.size w6 W) (h7 : DkR W W.heap.size A7 n c7 A8 m c8 D) => eqDesk_any A5 n c5 A6 m c6 A7 n c7 A8 m c8 D W (VFH.out.on hW).read h7)
    clear VF VA V0
    go_wp2
    go_region_held3 (fun w' => w'.cell? ⟨w.heap.size, 0, none⟩ = some (.slice A n c) ∧ w'.cell? ⟨w.heap.size, 1, none⟩ = some (.slice A2 m c2) ∧ w'.cell? ⟨o, 0, none⟩ = some (.slice A5 n c5) ∧ w'.cell? ⟨o, 1, none⟩ = some (.slice A6 m c6))
      (first
        | go_keep
        | assumption)
      (first
        | (go_at_call 16; (with_reducible refine Calls.mono C7.out ?_); rintro e w7 ⟨A7, c7, A8, c8, rfl, F7, b7⟩; have hB7 : Below w6.heap.size w6 w7 := hd.trans b7; have kx := KX.out _ hB7)
        | (go_at_call 17; (with_reducible refine Calls.mono (CE.out _ _ _ _ _ hB7 F7.read) ?_); rintro e w8 ⟨rfl, b8⟩; have hB8 : Below w6.heap.size w6 w8 := hB7.trans (b8.mono hB7.size); have ky := KX.out _ hB8))
    have HB8 := hid (HB6.out.trans (hB8.mono HB6.out.size))
    clear F7 b7 b8 hB7 hB8 kx ky
    go_wp2
    go_ret
    exact ⟨rfl, HB8.out⟩
end Go.Proofs.Ytkejcajboneniaa
