/-
  Walks of the program's TapsOk, InOk, and of one step of a row at work (multiplier.fed). No statement is proved here.
-/
import Derived.Test.YtmkbbkpgdfpcoaaC8
import Derived.Test.YtmkbbkpgdfpcoaaC1a
import Derived.Laws.Rows
import Derived.Laws.Tables
import Derived.Deep.WholeRow
namespace Go.Proofs.Ytmkbbkpgdfpcoaa
open Go.RowKit
set_option linter.unusedVariables false
set_option linter.unusedSimpArgs false

set_option maxHeartbeats 800000 in
theorem tapsI_any (A : Option Addr) (n c : Nat) (l : List Int) (w : World) (B : Nat) (hs : Sl w B A n l) :
    Calls Try.prog 16 #[.slice A n c] w fun e w' => e = .returned (.bool (tapsOk l)) ∧ w = w' := by
  have hm := hs.max
  have HL := hid hs.len
  by_cases h2 : 1 ≤ n
  · by_cases h3 : n ≤ 8
    · go_enter Try.func16, Try.ntmps16
      go_wp2_with (go_at_call 41; refine (allWithin_any _ _ _ l _ _ _ _ hs).mono ?_; rintro e w' ⟨rfl, rfl⟩)
      go_ret
      exact ⟨ret_bool (by unfold tapsOk within; rw [HL.out]; simp; omega), rfl⟩
    · have h3' : decide ((n : Int) ≤ 8) = false := by simp; omega
      go_enter Try.func16, Try.ntmps16
      go_wp2_with (go_at_call 41; refine (allWithin_any _ _ _ l _ _ _ _ hs).mono ?_; rintro e w' ⟨rfl, rfl⟩)
      go_ret
      exact ⟨ret_bool (by unfold tapsOk within; rw [HL.out]; simp; omega), rfl⟩
  · have h2' : decide (1 ≤ (n : Int)) = false := by simp; omega
    go_enter Try.func16, Try.ntmps16
    go_wp2_with (go_at_call 41; refine (allWithin_any _ _ _ l _ _ _ _ hs).mono ?_; rintro e w' ⟨rfl, rfl⟩)
    go_ret
    exact ⟨ret_bool (by unfold tapsOk within; rw [HL.out]; simp; omega), rfl⟩

set_option maxHeartbeats 800000 in
theorem inI_any (A : Option Addr) (n c : Nat) (l : List Int) (w : World) (B : Nat) (hs : Sl w B A n l) :
    Calls Try.prog 20 #[.slice A n c] w fun e w' => e = .returned (.bool (inOk l)) ∧ w = w' := by
  have hm := hs.max
  have HL := hid hs.len
  by_cases h3 : n ≤ 16
  · go_enter Try.func20, Try.ntmps20
    go_wp2_with (go_at_call 41; refine (allWithin_any _ _ _ l _ _ _ _ hs).mono ?_; rintro e w' ⟨rfl, rfl⟩)
    go_ret
    exact ⟨ret_bool (by unfold inOk; rw [HL.out]; simp; omega), rfl⟩
  · have h3' : decide ((n : Int) ≤ 16) = false := by simp; omega
    go_enter Try.func20, Try.ntmps20
    go_wp2_with (go_at_call 41; refine (allWithin_any _ _ _ l _ _ _ _ hs).mono ?_; rintro e w' ⟨rfl, rfl⟩)
    go_ret
    exact ⟨ret_bool (by unfold inOk; rw [HL.out]; simp; omega), rfl⟩

theorem implTapsOk_any (A : Option Addr) (n c : Nat) (l : List Int) (w : World) (hs : Sl w w.heap.size A n l) :
    Calls Try.prog 16 #[.slice A n c] w fun e w' => e = .returned (.bool (tapsOk l)) ∧ Below w.heap.size w w' := by
  refine (tapsI_any A n c l w _ hs).mono ?_
  rintro e w' ⟨rfl, rfl⟩
  exact ⟨rfl, Below.refl _ _⟩
theorem implInOk_any (A : Option Addr) (n c : Nat) (l : List Int) (w : World) (hs : Sl w w.heap.size A n l) :
    Calls Try.prog 20 #[.slice A n c] w fun e w' => e = .returned (.bool (inOk l)) ∧ Below w.heap.size w w' := by
  refine (inI_any A n c l w _ hs).mono ?_
  rintro e w' ⟨rfl, rfl⟩
  exact ⟨rfl, Below.refl _ _⟩

/-- The ten cells of a row at work: the row of numbers, and what each machine holds (0 past the end of the list). -/
def mrow (A : Option Addr) (n c : Nat) (h : List Int) : Array Value := #[.slice A n c, .int .i64 (nth h 0), .int .i64 (nth h 1), .int .i64 (nth h 2), .int .i64 (nth h 3), .int .i64 (nth h 4), .int .i64 (nth h 5), .int .i64 (nth h 6), .int .i64 (nth h 7), .int .i64 (nth h 8)]
theorem mrow_size (A : Option Addr) (n c : Nat) (h : List Int) : (mrow A n c h).size = 10 := rfl
theorem mrow_0 (A : Option Addr) (n c : Nat) (h : List Int) : (mrow A n c h)[0]? = some (.slice A n c) := rfl
theorem mrow_at (A : Option Addr) (n c : Nat) (h : List Int) {k : Nat} (hk : k ≤ 8) : (mrow A n c h)[1 + k]? = some (.int .i64 (nth h k)) := by
  rcases (show k = 0 ∨ k = 1 ∨ k = 2 ∨ k = 3 ∨ k = 4 ∨ k = 5 ∨ k = 6 ∨ k = 7 ∨ k = 8 by omega) with rfl | rfl | rfl | rfl | rfl | rfl | rfl | rfl | rfl <;> rfl
theorem mrow_nil (A : Option Addr) (n c : Nat) : mrow A n c [] = #[.slice A n c, .int .i64 0, .int .i64 0, .int .i64 0, .int .i64 0, .int .i64 0, .int .i64 0, .int .i64 0, .int .i64 0, .int .i64 0] := rfl
theorem mrow_all (A : Option Addr) (n c : Nat) (h : List Int) : (mrow A n c h).all (·.oneCell') = true := by simp [mrow, Value.oneCell']
theorem mrow_ext {A : Option Addr} {n c : Nat} {h g : List Int} (e : ∀ k, k ≤ 8 → nth h k = nth g k) : mrow A n c h = mrow A n c g := by
  unfold mrow
  rw [e 0 (by omega), e 1 (by omega), e 2 (by omega), e 3 (by omega), e 4 (by omega), e 5 (by omega), e 6 (by omega), e 7 (by omega), e 8 (by omega)]
theorem nth_take {l : List Int} {k j : Nat} : nth (l.take k) j = if j < k then nth l j else 0 := by
  by_cases h : j < k
  · simp [nth, List.getD, h]
  · simp [nth, List.getD, h, List.getElem?_eq_none (show (l.take k).length ≤ j by simp; omega)]
theorem mrow_set (A : Option Addr) (n c : Nat) (g : List Int) {k : Nat} {v : Int} (hk : k ≤ 8) (hv : nth g k = v) : (mrow A n c (g.take k)).setIfInBounds (1 + k) (.int .i64 v) = mrow A n c (g.take (k + 1)) := by
  subst hv
  unfold mrow
  simp only [nth_take]
  rcases (show k = 0 ∨ k = 1 ∨ k = 2 ∨ k = 3 ∨ k = 4 ∨ k = 5 ∨ k = 6 ∨ k = 7 ∨ k = 8 by omega) with rfl | rfl | rfl | rfl | rfl | rfl | rfl | rfl | rfl <;> simp

theorem drewN_gr8 (w : World) (m : Nat) : w.grownBy (w.drewN m) none := ⟨rfl, rfl, rfl, Nat.le_refl _, fun _ _ _ => rfl⟩

/-- A block that holds a row at work. -/
def MRow (w : World) (b : Nat) (C : Array Value) : Prop := w.heap[b]? = some (.cells C 62 (0, 0))
theorem MRow.cell {w : World} {b : Nat} {C : Array Value} (h : MRow w b C) (j : Nat) : w.cell? ⟨b, j, none⟩ = C[j]? := cell_of_row w b j C _ _ h
theorem MRow.frozen {w : World} {b : Nat} {C : Array Value} (h : MRow w b C) (j : Nat) : w.frozen? ⟨b, j, none⟩ = false := by simp [World.frozen?, show w.heap[b]? = _ from h]
theorem MRow.set {w : World} {b : Nat} {C : Array Value} (h : MRow w b C) (j : Nat) (v : Value) : MRow (w.setCell ⟨b, j, none⟩ v) b (C.setIfInBounds j v) := heap_setCell_same w b j C _ v h
theorem MRow.other {w : World} {b b' : Nat} {C : Array Value} (h : MRow w b C) (hne : b ≠ b') (j : Nat) (v : Value) : MRow (w.setCell ⟨b', j, none⟩ v) b C := (heap_setCell_other w ⟨b', j, none⟩ b v hne).trans h
theorem MRow.lt {w : World} {b : Nat} {C : Array Value} (h : MRow w b C) : b < w.heap.size := (Array.getElem?_eq_some_iff.1 h).1
theorem MRow.kept {w w' : World} {b : Nat} {C : Array Value} {row : Option Nat} (h : MRow w b C) (hg : w.grownBy w' row) (hne : some b ≠ row) : MRow w' b C := (hg.block b h.lt hne).trans h
theorem MRow.new (w : World) (C : Array Value) : MRow (w.alloc (.cells C 62)) w.heap.size C := heap_alloc_new w _
theorem MRow.alloc {w : World} {b : Nat} {C : Array Value} (h : MRow w b C) (o : Obj) : MRow (w.alloc o) b C := h.kept (World.grownBy_alloc w o none) (by simp)
theorem grown_setCell_new {w w' : World} {b j : Nat} (hg : w.grownBy w' none) (hb : w.heap.size ≤ b) (v : Value) : w.grownBy (w'.setCell ⟨b, j, none⟩ v) none :=
  ⟨hg.os, hg.tape, hg.output, by rw [World.size_setCell]; exact hg.size, fun k hk _ => (heap_setCell_other w' ⟨b, j, none⟩ k v (by simp; omega)).trans (hg.block k hk (by simp))⟩
theorem grown_setRow_new {w w' : World} {b : Nat} (hg : w.grownBy w' none) (hb : w.heap.size ≤ b) (C : Array Value) : w.grownBy (w'.setRow b C) none :=
  ⟨hg.os, hg.tape, hg.output, by simp; exact hg.size, fun k hk _ => (setRow_other w' b k C (by omega)).trans (hg.block k hk (by simp))⟩

attribute [local go_sem] Oper.semAt_some

set_option maxRecDepth 100000 in
set_option maxHeartbeats 3200000 in
/-- One step of the row at work: what is held, h, becomes g. -/
theorem fed_any (A : Option Addr) (n c : Nat) (l h g : List Int) (x : Int) (w : World) (hs : Sl w w.heap.size A n l) (h1 : 1 ≤ n) (hn : n ≤ 8)
    (hl : ∀ k, -9 ≤ nth l k ∧ nth l k ≤ 9) (hh : ∀ k, -7128 ≤ nth h k ∧ nth h k ≤ 7128) (hx : -99 ≤ x ∧ x ≤ 99) (hg : g.length = n) (hgk : ∀ k, k < n → nth g k = nth h (k + 1) + nth l k * x) :
    Calls Try.prog 53 #[.agg (mrow A n c h), .int .i64 x] w fun e w' => e = .returned (.agg (mrow A n c g)) ∧ w.grownBy w' none := by
  have hm := hs.max
  obtain ⟨ba, oa, rfl, hba, hca⟩ := hs.2.2 (by omega)
  have HC := hid hca
  have HLB := hid hl
  have HHB := hid hh
  have HG := hid hgk
  have HGL := hid hg
  clear hs hl hh hgk hg hca
  obtain ⟨M, hM⟩ : ∃ M, mrow (some ⟨ba, oa, none⟩) n c h = M := ⟨_, rfl⟩
  have HM := hid hM
  have m0 : M[0]? = some (.slice (some ⟨ba, oa, none⟩) n c) := by rw [← hM]; rfl
  rw [hM]
  clear hM
  go_enter Try.func53, Try.ntmps53
  go_wp2_with fail
  obtain ⟨W2, hW2⟩ : ∃ W2, (w.alloc (.cells M 62)).alloc (.cells #[.slice none 0 0, .int .i64 0, .int .i64 0, .int .i64 0, .int .i64 0, .int .i64 0, .int .i64 0, .int .i64 0, .int .i64 0, .int .i64 0] 62) = W2 := ⟨_, rfl⟩
  have hz2 : W2.heap.size = w.heap.size + 1 + 1 := by rw [← hW2]; simp
  have g2 : w.grownBy W2 none := by rw [← hW2]; exact ((drewN_gr8 w 0).trans (World.grownBy_alloc _ _ none)).trans (World.grownBy_alloc _ _ none)
  have r2 : MRow W2 w.heap.size M := by rw [← hW2]; exact (MRow.new w M).alloc _
  have s2 : MRow W2 (w.heap.size + 1) #[.slice none 0 0, .int .i64 0, .int .i64 0, .int .i64 0, .int .i64 0, .int .i64 0, .int .i64 0, .int .i64 0, .int .i64 0, .int .i64 0] := by
    rw [← hW2]
    have := MRow.new (w.alloc (.cells M 62)) #[.slice none 0 0, .int .i64 0, .int .i64 0, .int .i64 0, .int .i64 0, .int .i64 0, .int .i64 0, .int .i64 0, .int .i64 0, .int .i64 0]
    rwa [World.size_alloc] at this
  rw [hW2]
  clear hW2
  obtain ⟨W3, hW3⟩ : ∃ W3, W2.alloc (.cells #[.slice (some ⟨ba, oa, none⟩) n c, .int .i64 0, .int .i64 0, .int .i64 0, .int .i64 0, .int .i64 0, .int .i64 0, .int .i64 0, .int .i64 0, .int .i64 0] 62) = W3 := ⟨_, rfl⟩
  have g3 := hid (show w.grownBy W3 none from by rw [← hW3]; exact g2.trans (World.grownBy_alloc _ _ none))
  have r3 := hid (show MRow W3 w.heap.size M from by rw [← hW3]; exact r2.alloc _)
  have s3 := hid (show MRow W3 (w.heap.size + 1) _ from by rw [← hW3]; exact s2.alloc _)
  have t3 := hid (show MRow W3 (w.heap.size + 1 + 1) (mrow (some ⟨ba, oa, none⟩) n c (g.take 0)) from by rw [← hW3, ← hz2]; exact MRow.new W2 _)
  rw [hW3]
  clear hW3 r2 s2 g2 hz2
  go_loopw [14] (fun i wr => ∃ k : Nat, i = .int .i64 k ∧ k ≤ n ∧ Hid (w.grownBy wr none) ∧ Hid (MRow wr w.heap.size M) ∧ Hid (MRow wr (w.heap.size + 1) #[.slice none 0 0, .int .i64 0, .int .i64 0, .int .i64 0, .int .i64 0, .int .i64 0, .int .i64 0, .int .i64 0, .int .i64 0, .int .i64 0]) ∧ Hid (MRow wr (w.heap.size + 1 + 1) (mrow (some ⟨ba, oa, none⟩) n c (g.take k)))) (fun i _ => n - (intOf i).toNat)
  case atStart => exact ⟨0, rfl, Nat.zero_le _, g3, r3, s3, t3⟩
  case round =>
    clear g3 r3 s3 t3 m0
    obtain ⟨k, rfl, hk, HW, HR, HS, HT⟩ := hrel
    by_cases hlt : k < n
    · have x0 := HW.out.cell (HC.out k hlt) (by simp)
      have q0 := HLB.out k
      have q1 := HHB.out (k + 1)
      have y0 : wr.cell? ⟨w.heap.size, 1 + (k + 1), none⟩ = some (.int .i64 (nth h (k + 1))) := (HR.out.cell (1 + (k + 1))).trans (by rw [← HM.out]; exact mrow_at _ _ _ _ (by omega))
      have z0 : wr.cell? ⟨w.heap.size + 1 + 1, 1 + k, none⟩ = some (.int .i64 (nth (g.take k) k)) := (HT.out.cell (1 + k)).trans (mrow_at _ _ _ _ (by omega))
      have z1 := HT.out.frozen (1 + k)
      have hp := prod9 (M := 99) q0 hx
      have HX := hid (show nth g k = nth h (k + 1) + nth l k * x from HG.out k hlt)
      obtain ⟨t, ht⟩ : ∃ t, nth l k = t := ⟨_, rfl⟩
      rw [ht] at x0 q0 hp HX
      obtain ⟨u, hu⟩ : ∃ u, nth h (k + 1) = u := ⟨_, rfl⟩
      rw [hu] at y0 q1 HX
      obtain ⟨p, hpe⟩ : ∃ p, t * x = p := ⟨_, rfl⟩
      have w1 : IntKind.i64.wrap (t * x) = p := by rw [hpe]; exact IntWalk.i64_in _ (by rw [hpe] at hp; omega)
      rw [hpe] at hp HX
      have w2 : IntKind.i64.wrap (u + p) = u + p := IntWalk.i64_in _ (by omega)
      have hlti : (k : Int) < (n : Int) := by omega
      have hk9 : (k : Int) + 1 < 9 := by omega
      have hk8 : (k : Int) < 9 := by omega
      clear ht hu hpe
      go_wp2_with fail
      go_roundw
      case rel =>
        refine ⟨k + 1, by go_num, by omega, hid (grown_setCell_new HW.out (by omega) _), hid (HR.out.other (by omega) _ _), hid (HS.out.other (by omega) _ _), ?_⟩
        have ht := HT.out.set (1 + k) (.int .i64 (u + p))
        rw [mrow_set _ _ _ _ (by omega) HX.out] at ht
        exact hid ht
      case measure => simp [intOf]; omega
    · obtain rfl : k = n := by omega
      have HF := hid (show MRow wr (w.heap.size + 1 + 1) (mrow (some ⟨ba, oa, none⟩) k c g) from by have := HT.out; rwa [List.take_of_length_le (by rw [HGL.out]; omega)] at this)
      clear HT
      obtain ⟨G, hG⟩ : ∃ G, mrow (some ⟨ba, oa, none⟩) k c g = G := ⟨_, rfl⟩
      have hGs : G.size = 10 := by rw [← hG]; rfl
      have hGa : G.all (·.oneCell') = true := by rw [← hG]; exact mrow_all _ _ _ _
      rw [hG] at HF
      have HGe := hid hG
      clear hG
      go_wp2_with (first
        | refine wpList_load_row rfl 62 _ rfl (w.heap.size + 1 + 1) rfl _ G (0, 0) _ HF.out rfl rfl (by rw [hGs]; kernel_rfl) ?_
        | refine wpList_store_row rfl 62 _ _ rfl (w.heap.size + 1) G rfl rfl _ _ HS.out (by rw [hGs]; kernel_rfl) (by rw [hGs]; rfl) hGa ?_)
      refine bodyPost_ret (results_cell_row rfl _ _ (w.heap.size + 1) 62 _ (0, 0) _ (by simp [Act.put]) (setRow_heap wr (w.heap.size + 1) _ G _ _ HS.out) Try.underlying62 rfl (by rw [hGs]; kernel_rfl)) rfl ?_
      exact ⟨by rw [HGe.out], grown_setRow_new HW.out (by omega) _⟩
end Go.Proofs.Ytmkbbkpgdfpcoaa
