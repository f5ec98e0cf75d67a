/-
  Texts put together: Dl12. No statement is proved here.
-/
import Derived.Test.YtkejcajboneniabGreatDoorQMl
import Derived.Test.YtkejcajboneniabGreatDoorQMe
set_option linter.unusedVariables false
set_option linter.unusedSimpArgs false
namespace Go.Proofs.YtkejcajboneniabGreatDoor
open Go.RowKit

def asks7 : List (List UInt8) := [[114, 111, 119], [111, 110, 101, 115], [102, 108, 111, 119], [101, 110, 100], [102, 108, 111, 119, 105, 110, 103], [115, 101, 116, 116, 108, 101, 100], [102, 105, 114, 109]]
def asks14 : List (List UInt8) := [[], [102, 108, 105, 112], [102, 108, 105, 112, 32, 120], [102, 108, 105, 112, 32, 48, 49], [114, 111, 117, 110, 100, 32, 57, 57], [109, 105, 100, 100, 108, 101, 115], [109, 105, 100, 100, 108, 101, 115, 32, 48], [114, 111, 117, 110, 100, 115, 32, 49], [102, 105, 114, 101, 32, 48], [102, 105, 114, 101, 32, 52, 49], [102, 105, 114, 101, 32, 49], [102, 105, 114, 101, 32, 120], [32, 114, 111, 119], [115, 117, 109, 115, 32, 48]]
def asks3 : List (List UInt8) := [[109, 105, 100, 100, 108, 101, 115, 32], [114, 111, 117, 110, 100, 115, 32], [102, 105, 114, 101, 32]]
theorem asks7_len (u : Nat) : (asks7.getD u []).length ≤ 300 := by
  rcases Nat.lt_or_ge u 7 with h | h
  · have : ∀ u : Fin 7, (asks7.getD u.val []).length ≤ 300 := by decide
    exact this ⟨u, h⟩
  · simp [List.getD, show asks7[u]? = none from List.getElem?_eq_none h]
theorem asks14_len (u : Nat) : (asks14.getD u []).length ≤ 300 := by
  rcases Nat.lt_or_ge u 14 with h | h
  · have : ∀ u : Fin 14, (asks14.getD u.val []).length ≤ 300 := by decide
    exact this ⟨u, h⟩
  · simp [List.getD, show asks14[u]? = none from List.getElem?_eq_none h]
def ask3 (u : Nat) : List UInt8 := asks3.getD u []
theorem asks3_len (u : Nat) : (ask3 u).length ≤ 10 := by
  unfold ask3
  rcases Nat.lt_or_ge u 3 with h | h
  · have : ∀ u : Fin 3, (asks3.getD u.val []).length ≤ 10 := by decide
    exact this ⟨u, h⟩
  · simp [List.getD, show asks3[u]? = none from List.getElem?_eq_none h]
theorem lit_str {w : World} {L U : Nat} {T : List (List UInt8)} (h : w.heap[L]? = some (.cells (strs T).toArray 9 (0, 0))) (hU : U < T.length) : w.cell? ⟨L, U, none⟩ = some (encStr (T.getD U [])) := by
  rw [cell_of_row w L U _ _ _ h]
  simp [strs, List.getD, hU]

theorem lit3 {w : World} {L U : Nat} (h : w.heap[L]? = some (.cells (strs asks3).toArray 9 (0, 0))) (hU : U < 3) : w.cell? ⟨L, U, none⟩ = some (encStr (ask3 U)) := lit_str (T := asks3) h hU

set_option maxRecDepth 100000 in
set_option maxHeartbeats 6400000 in
theorem lineDraw_any (g P : Nat) (A : Option Addr) (n c : Nat) (w : World) (hr : Rd w g P) (hP : P < 90000) (hn : n ≤ 17) :
    Calls Tryz.prog 61 #[.pointer (some ⟨g, 0, none⟩), .slice A n c] w fun e w' => ∃ s : List UInt8, e = .returned (encStr s) ∧ s.length ≤ 300 ∧ Rd w' g (P + 10) ∧ w.grownBy w' (some g) := by
  have hglt := hr.lt
  go_enter Tryz.func61, Tryz.ntmps61
  go_wp2_with fail
  refine (pick_any g P 7 _ hr (by omega) (by omega) (by omega)).mono ?_
  rintro e w1 ⟨x, rfl, hx0, hx1, r1, g1⟩
  have hz1 := g1.size
  have hgl := r1.lt
  by_cases h3 : x < 3
  · have hx : x = 0 ∨ x = 1 ∨ x = 2 := by omega
    clear h3
    rcases hx with rfl | rfl | rfl
    all_goals
    have HB := hid (heap_alloc_new w1 (.cells #[.string ⟨#[114, 111, 119]⟩, .string ⟨#[111, 110, 101, 115]⟩, .string ⟨#[102, 108, 111, 119]⟩, .string ⟨#[101, 110, 100]⟩, .string ⟨#[102, 108, 111, 119, 105, 110, 103]⟩, .string ⟨#[115, 101, 116, 116, 108, 101, 100]⟩, .string ⟨#[102, 105, 114, 109]⟩] 9))
    have RA : Rd (w1.alloc (.cells #[.string ⟨#[114, 111, 119]⟩, .string ⟨#[111, 110, 101, 115]⟩, .string ⟨#[102, 108, 111, 119]⟩, .string ⟨#[101, 110, 100]⟩, .string ⟨#[102, 108, 111, 119, 105, 110, 103]⟩, .string ⟨#[115, 101, 116, 116, 108, 101, 100]⟩, .string ⟨#[102, 105, 114, 109]⟩] 9)) g (P + 1) := r1.grown (grown_alloc w1 (.cells #[.string ⟨#[114, 111, 119]⟩, .string ⟨#[111, 110, 101, 115]⟩, .string ⟨#[102, 108, 111, 119]⟩, .string ⟨#[101, 110, 100]⟩, .string ⟨#[102, 108, 111, 119, 105, 110, 103]⟩, .string ⟨#[115, 101, 116, 116, 108, 101, 100]⟩, .string ⟨#[102, 105, 114, 109]⟩] 9) none) (by simp)
    have gA : w.grownBy (w1.alloc (.cells #[.string ⟨#[114, 111, 119]⟩, .string ⟨#[111, 110, 101, 115]⟩, .string ⟨#[102, 108, 111, 119]⟩, .string ⟨#[101, 110, 100]⟩, .string ⟨#[102, 108, 111, 119, 105, 110, 103]⟩, .string ⟨#[115, 101, 116, 116, 108, 101, 100]⟩, .string ⟨#[102, 105, 114, 109]⟩] 9)) (some g) := g1.andThen (grown_alloc w1 (.cells #[.string ⟨#[114, 111, 119]⟩, .string ⟨#[111, 110, 101, 115]⟩, .string ⟨#[102, 108, 111, 119]⟩, .string ⟨#[101, 110, 100]⟩, .string ⟨#[102, 108, 111, 119, 105, 110, 103]⟩, .string ⟨#[115, 101, 116, 116, 108, 101, 100]⟩, .string ⟨#[102, 105, 114, 109]⟩] 9) (some g)) (by simp)
    have CP := hid (pick_any g _ 7 (w1.alloc (.cells #[.string ⟨#[114, 111, 119]⟩, .string ⟨#[111, 110, 101, 115]⟩, .string ⟨#[102, 108, 111, 119]⟩, .string ⟨#[101, 110, 100]⟩, .string ⟨#[102, 108, 111, 119, 105, 110, 103]⟩, .string ⟨#[115, 101, 116, 116, 108, 101, 100]⟩, .string ⟨#[102, 105, 114, 109]⟩] 9)) RA (by omega) (by omega) (by omega))
    go_wp2_with fail
    with_reducible refine Calls.mono CP.out ?_
    rintro e w2 ⟨u, rfl, hu0, hu1, r2, g2⟩
    obtain ⟨U, rfl⟩ : ∃ U : Nat, u = U := Int.eq_ofNat_of_zero_le hu0
    have hU : U < 7 := by omega
    have hb2 : w2.heap[w1.heap.size]? = some (.cells (strs asks7).toArray 9 (0, 0)) := (g2.block w1.heap.size (by simp) (by simp; omega)).trans HB.out
    have hcu := lit_str (T := asks7) hb2 hU
    have hUi : (U : Int) < 7 := by omega
    have gW := hid (gA.andThen g2 (by simp))
    clear hb2 g2 RA gA CP HB
    go_wp2
    go_ret
    exact ⟨_, rfl, asks7_len U, r2.more (by omega), gW.out⟩

  have q0 : (x == 0) = false := by rw [beq_eq_false_iff_ne]; omega
  have q1 : (x == 1) = false := by rw [beq_eq_false_iff_ne]; omega
  have q2 : (x == 2) = false := by rw [beq_eq_false_iff_ne]; omega
  by_cases h4 : x = 3
  · subst h4
    clear q0 q1 q2
    have HB := hid (heap_alloc_new w1 (.cells #[.string ⟨#[]⟩, .string ⟨#[102, 108, 105, 112]⟩, .string ⟨#[102, 108, 105, 112, 32, 120]⟩, .string ⟨#[102, 108, 105, 112, 32, 48, 49]⟩, .string ⟨#[114, 111, 117, 110, 100, 32, 57, 57]⟩, .string ⟨#[109, 105, 100, 100, 108, 101, 115]⟩, .string ⟨#[109, 105, 100, 100, 108, 101, 115, 32, 48]⟩, .string ⟨#[114, 111, 117, 110, 100, 115, 32, 49]⟩, .string ⟨#[102, 105, 114, 101, 32, 48]⟩, .string ⟨#[102, 105, 114, 101, 32, 52, 49]⟩, .string ⟨#[102, 105, 114, 101, 32, 49]⟩, .string ⟨#[102, 105, 114, 101, 32, 120]⟩, .string ⟨#[32, 114, 111, 119]⟩, .string ⟨#[115, 117, 109, 115, 32, 48]⟩] 9))
    have RA : Rd (w1.alloc (.cells #[.string ⟨#[]⟩, .string ⟨#[102, 108, 105, 112]⟩, .string ⟨#[102, 108, 105, 112, 32, 120]⟩, .string ⟨#[102, 108, 105, 112, 32, 48, 49]⟩, .string ⟨#[114, 111, 117, 110, 100, 32, 57, 57]⟩, .string ⟨#[109, 105, 100, 100, 108, 101, 115]⟩, .string ⟨#[109, 105, 100, 100, 108, 101, 115, 32, 48]⟩, .string ⟨#[114, 111, 117, 110, 100, 115, 32, 49]⟩, .string ⟨#[102, 105, 114, 101, 32, 48]⟩, .string ⟨#[102, 105, 114, 101, 32, 52, 49]⟩, .string ⟨#[102, 105, 114, 101, 32, 49]⟩, .string ⟨#[102, 105, 114, 101, 32, 120]⟩, .string ⟨#[32, 114, 111, 119]⟩, .string ⟨#[115, 117, 109, 115, 32, 48]⟩] 9)) g (P + 1) := r1.grown (grown_alloc w1 (.cells #[.string ⟨#[]⟩, .string ⟨#[102, 108, 105, 112]⟩, .string ⟨#[102, 108, 105, 112, 32, 120]⟩, .string ⟨#[102, 108, 105, 112, 32, 48, 49]⟩, .string ⟨#[114, 111, 117, 110, 100, 32, 57, 57]⟩, .string ⟨#[109, 105, 100, 100, 108, 101, 115]⟩, .string ⟨#[109, 105, 100, 100, 108, 101, 115, 32, 48]⟩, .string ⟨#[114, 111, 117, 110, 100, 115, 32, 49]⟩, .string ⟨#[102, 105, 114, 101, 32, 48]⟩, .string ⟨#[102, 105, 114, 101, 32, 52, 49]⟩, .string ⟨#[102, 105, 114, 101, 32, 49]⟩, .string ⟨#[102, 105, 114, 101, 32, 120]⟩, .string ⟨#[32, 114, 111, 119]⟩, .string ⟨#[115, 117, 109, 115, 32, 48]⟩] 9) none) (by simp)
    have gA : w.grownBy (w1.alloc (.cells #[.string ⟨#[]⟩, .string ⟨#[102, 108, 105, 112]⟩, .string ⟨#[102, 108, 105, 112, 32, 120]⟩, .string ⟨#[102, 108, 105, 112, 32, 48, 49]⟩, .string ⟨#[114, 111, 117, 110, 100, 32, 57, 57]⟩, .string ⟨#[109, 105, 100, 100, 108, 101, 115]⟩, .string ⟨#[109, 105, 100, 100, 108, 101, 115, 32, 48]⟩, .string ⟨#[114, 111, 117, 110, 100, 115, 32, 49]⟩, .string ⟨#[102, 105, 114, 101, 32, 48]⟩, .string ⟨#[102, 105, 114, 101, 32, 52, 49]⟩, .string ⟨#[102, 105, 114, 101, 32, 49]⟩, .string ⟨#[102, 105, 114, 101, 32, 120]⟩, .string ⟨#[32, 114, 111, 119]⟩, .string ⟨#[115, 117, 109, 115, 32, 48]⟩] 9)) (some g) := g1.andThen (grown_alloc w1 (.cells #[.string ⟨#[]⟩, .string ⟨#[102, 108, 105, 112]⟩, .string ⟨#[102, 108, 105, 112, 32, 120]⟩, .string ⟨#[102, 108, 105, 112, 32, 48, 49]⟩, .string ⟨#[114, 111, 117, 110, 100, 32, 57, 57]⟩, .string ⟨#[109, 105, 100, 100, 108, 101, 115]⟩, .string ⟨#[109, 105, 100, 100, 108, 101, 115, 32, 48]⟩, .string ⟨#[114, 111, 117, 110, 100, 115, 32, 49]⟩, .string ⟨#[102, 105, 114, 101, 32, 48]⟩, .string ⟨#[102, 105, 114, 101, 32, 52, 49]⟩, .string ⟨#[102, 105, 114, 101, 32, 49]⟩, .string ⟨#[102, 105, 114, 101, 32, 120]⟩, .string ⟨#[32, 114, 111, 119]⟩, .string ⟨#[115, 117, 109, 115, 32, 48]⟩] 9) (some g)) (by simp)
    have CP := hid (pick_any g _ 14 (w1.alloc (.cells #[.string ⟨#[]⟩, .string ⟨#[102, 108, 105, 112]⟩, .string ⟨#[102, 108, 105, 112, 32, 120]⟩, .string ⟨#[102, 108, 105, 112, 32, 48, 49]⟩, .string ⟨#[114, 111, 117, 110, 100, 32, 57, 57]⟩, .string ⟨#[109, 105, 100, 100, 108, 101, 115]⟩, .string ⟨#[109, 105, 100, 100, 108, 101, 115, 32, 48]⟩, .string ⟨#[114, 111, 117, 110, 100, 115, 32, 49]⟩, .string ⟨#[102, 105, 114, 101, 32, 48]⟩, .string ⟨#[102, 105, 114, 101, 32, 52, 49]⟩, .string ⟨#[102, 105, 114, 101, 32, 49]⟩, .string ⟨#[102, 105, 114, 101, 32, 120]⟩, .string ⟨#[32, 114, 111, 119]⟩, .string ⟨#[115, 117, 109, 115, 32, 48]⟩] 9)) RA (by omega) (by omega) (by omega))
    go_wp2_with fail
    with_reducible refine Calls.mono CP.out ?_
    rintro e w2 ⟨u, rfl, hu0, hu1, r2, g2⟩
    obtain ⟨U, rfl⟩ : ∃ U : Nat, u = U := Int.eq_ofNat_of_zero_le hu0
    have hU : U < 14 := by omega
    have hb2 : w2.heap[w1.heap.size]? = some (.cells (strs asks14).toArray 9 (0, 0)) := (g2.block w1.heap.size (by simp) (by simp; omega)).trans HB.out
    have hcu := lit_str (T := asks14) hb2 hU
    have hUi : (U : Int) < 14 := by omega
    have gW := hid (gA.andThen g2 (by simp))
    clear hb2 g2 RA gA CP HB
    go_wp2
    go_ret
    exact ⟨_, rfl, asks14_len U, r2.more (by omega), gW.out⟩

  have q3 : (x == 3) = false := by rw [beq_eq_false_iff_ne]; omega
  by_cases h5 : x = 4
  · subst h5
    clear q0 q1 q2 q3
    have gd : w.grownBy w1.drew (some g) := ⟨g1.os, g1.tape, g1.output, g1.size, g1.block⟩
    have RB : Rd w1.drew g (P + 1) := r1
    have RA0 : Rd (w1.alloc (.cells #[.string ⟨#[109, 105, 100, 100, 108, 101, 115, 32]⟩, .string ⟨#[114, 111, 117, 110, 100, 115, 32]⟩, .string ⟨#[102, 105, 114, 101, 32]⟩] 9)) g (P + 1) := r1.grown (grown_alloc w1 (.cells #[.string ⟨#[109, 105, 100, 100, 108, 101, 115, 32]⟩, .string ⟨#[114, 111, 117, 110, 100, 115, 32]⟩, .string ⟨#[102, 105, 114, 101, 32]⟩] 9) none) (by simp)
    have RA : Rd (w1.alloc (.cells #[.string ⟨#[109, 105, 100, 100, 108, 101, 115, 32]⟩, .string ⟨#[114, 111, 117, 110, 100, 115, 32]⟩, .string ⟨#[102, 105, 114, 101, 32]⟩] 9)).drew g (P + 1) := RA0
    have gA0 : w.grownBy (w1.alloc (.cells #[.string ⟨#[109, 105, 100, 100, 108, 101, 115, 32]⟩, .string ⟨#[114, 111, 117, 110, 100, 115, 32]⟩, .string ⟨#[102, 105, 114, 101, 32]⟩] 9)) (some g) := g1.andThen (grown_alloc w1 (.cells #[.string ⟨#[109, 105, 100, 100, 108, 101, 115, 32]⟩, .string ⟨#[114, 111, 117, 110, 100, 115, 32]⟩, .string ⟨#[102, 105, 114, 101, 32]⟩] 9) (some g)) (by simp)
    have gA : w.grownBy (w1.alloc (.cells #[.string ⟨#[109, 105, 100, 100, 108, 101, 115, 32]⟩, .string ⟨#[114, 111, 117, 110, 100, 115, 32]⟩, .string ⟨#[102, 105, 114, 101, 32]⟩] 9)).drew (some g) := ⟨gA0.os, gA0.tape, gA0.output, gA0.size, gA0.block⟩
    have HA : (w1.alloc (.cells #[.string ⟨#[109, 105, 100, 100, 108, 101, 115, 32]⟩, .string ⟨#[114, 111, 117, 110, 100, 115, 32]⟩, .string ⟨#[102, 105, 114, 101, 32]⟩] 9)).drew.heap[w1.heap.size]? = some (.cells (strs asks3).toArray 9 (0, 0)) := heap_alloc_new w1 (.cells #[.string ⟨#[109, 105, 100, 100, 108, 101, 115, 32]⟩, .string ⟨#[114, 111, 117, 110, 100, 115, 32]⟩, .string ⟨#[102, 105, 114, 101, 32]⟩] 9)
    have hAz : w1.heap.size < (w1.alloc (.cells #[.string ⟨#[109, 105, 100, 100, 108, 101, 115, 32]⟩, .string ⟨#[114, 111, 117, 110, 100, 115, 32]⟩, .string ⟨#[102, 105, 114, 101, 32]⟩] 9)).drew.heap.size := by show w1.heap.size < (w1.alloc _).heap.size; simp
    have HN := hid (fun W : World => show (W.alloc (.cells #[.string ⟨#[109, 105, 100, 100, 108, 101, 115, 32]⟩, .string ⟨#[114, 111, 117, 110, 100, 115, 32]⟩, .string ⟨#[102, 105, 114, 101, 32]⟩] 9)).heap[W.heap.size]? = some (.cells (strs asks3).toArray 9 (0, 0)) from heap_alloc_new W (.cells #[.string ⟨#[109, 105, 100, 100, 108, 101, 115, 32]⟩, .string ⟨#[114, 111, 117, 110, 100, 115, 32]⟩, .string ⟨#[102, 105, 114, 101, 32]⟩] 9))
    have HAL := hid (fun W : World => grown_alloc W (.cells #[.string ⟨#[109, 105, 100, 100, 108, 101, 115, 32]⟩, .string ⟨#[114, 111, 117, 110, 100, 115, 32]⟩, .string ⟨#[102, 105, 114, 101, 32]⟩] 9) none)
    have CAT := hid (fun (U v : Nat) (hv : v < 43) (W : World) => cat_any (ask3 U) (numB v) (by have := asks3_len U; have := numB_len v; omega) W)
    have TL := hid (fun (U v : Nat) (hv : v < 43) => show (ask3 U ++ numB v).length ≤ 300 from by have := asks3_len U; have := numB_len v; rw [List.length_append]; omega)
    clear gA0 RA0
    go_wp2_with fail
    go_region_with (first
      | (go_at_call 42; with_reducible refine Calls.mono (pick_any g _ 3 _ RA (by omega) (by omega) (by omega)) ?_; rintro e w2 ⟨u, rfl, hu0, hu1, r2, g2⟩; obtain ⟨U, rfl⟩ : ∃ U : Nat, u = U := Int.eq_ofNat_of_zero_le hu0; have hU3 : U < 3 := (by omega); have hUi : (U : Int) < 3 := (by omega); have hb2 : w2.heap[w1.heap.size]? = _ := (g2.block w1.heap.size hAz (by simp; omega)).trans HA; have hl2 : w1.heap.size < w2.heap.size := Nat.lt_of_lt_of_le hAz g2.size; have hcu2 := lit3 hb2 hU3; have G2 := gA.andThen g2 (by simp))
      | (go_at_call 42; with_reducible refine Calls.mono (pick_any g _ 3 _ RB (by omega) (by omega) (by omega)) ?_; rintro e w2 ⟨u, rfl, hu0, hu1, r2, g2⟩; obtain ⟨U, rfl⟩ : ∃ U : Nat, u = U := Int.eq_ofNat_of_zero_le hu0; have hU3 : U < 3 := (by omega); have hUi : (U : Int) < 3 := (by omega); have hb2' := HN.out w2; have hcu2' := lit3 hb2' hU3; have r2' := r2.grown (HAL.out w2) (by simp); have G2 := gd.andThen g2 (by simp); have G2' := G2.andThen (HAL.out w2) (by simp); have hl2' : w2.heap.size < (w2.alloc (.cells #[.string ⟨#[109, 105, 100, 100, 108, 101, 115, 32]⟩, .string ⟨#[114, 111, 117, 110, 100, 115, 32]⟩, .string ⟨#[102, 105, 114, 101, 32]⟩] 9)).heap.size := (by simp); have hgl2 := r2.lt)
      | (go_at_call 42; with_reducible refine Calls.mono (pick_any g _ 43 w2 r2 (by omega) (by omega) (by omega)) ?_; rintro e w3 ⟨v, rfl, hv0, hv1, r3, g3⟩; obtain ⟨V, rfl⟩ : ∃ U : Nat, v = U := Int.eq_ofNat_of_zero_le hv0; have hV : V < 43 := (by omega); have G3 := G2.andThen g3 (by simp); (try (have hb3 : w3.heap[w1.heap.size]? = _ := (g3.block w1.heap.size hl2 (by simp; omega)).trans hb2; have hl3 : w1.heap.size < w3.heap.size := Nat.lt_of_lt_of_le hl2 g3.size; have hcu3 := lit3 hb3 hU3)); have hb3' := HN.out w3; have hcu3' := lit3 hb3' hU3; have G3' := G3.andThen (HAL.out w3) (by simp); have hl3' : w3.heap.size < (w3.alloc (.cells #[.string ⟨#[109, 105, 100, 100, 108, 101, 115, 32]⟩, .string ⟨#[114, 111, 117, 110, 100, 115, 32]⟩, .string ⟨#[102, 105, 114, 101, 32]⟩] 9)).heap.size := (by simp); have r3' := r3.grown (HAL.out w3) (by simp); have hct := CAT.out U V hV)
      | (go_at_call 42; with_reducible refine Calls.mono (pick_any g _ 43 (w2.alloc (.cells #[.string ⟨#[109, 105, 100, 100, 108, 101, 115, 32]⟩, .string ⟨#[114, 111, 117, 110, 100, 115, 32]⟩, .string ⟨#[102, 105, 114, 101, 32]⟩] 9)) r2' (by omega) (by omega) (by omega)) ?_; rintro e w3 ⟨v, rfl, hv0, hv1, r3, g3⟩; obtain ⟨V, rfl⟩ : ∃ U : Nat, v = U := Int.eq_ofNat_of_zero_le hv0; have hV : V < 43 := (by omega); have G3 := G2'.andThen g3 (by simp); have hb3 : w3.heap[w2.heap.size]? = _ := (g3.block w2.heap.size hl2' (by simp; omega)).trans hb2'; have hl3 : w2.heap.size < w3.heap.size := Nat.lt_of_lt_of_le hl2' g3.size; have hcu3 := lit3 hb3 hU3; have hct := CAT.out U V hV)
      | (go_at_call 65; with_reducible refine Calls.mono (number_any V (by omega) w3) ?_; rintro e w4 ⟨rfl, b4⟩; have r4 := r3.below b4 r3.lt; have G4 : w.grownBy w4 (some g) := G3.andThen (show w3.grownBy w4 none from ⟨b4.os, b4.tape, b4.output, b4.size, fun k hk _ => b4.block k hk⟩) (by simp); (try (have hb4 := (b4.block _ hl3).trans hb3; have hcu4 := lit3 hb4 hU3)); have hb4' := HN.out w4; have hcu4' := lit3 hb4' hU3; have G4' := G4.andThen (HAL.out w4) (by simp); have r4' := r4.grown (HAL.out w4) (by simp))
      | (go_at_call 65; with_reducible refine Calls.mono (number_any V (by omega) (w3.alloc (.cells #[.string ⟨#[109, 105, 100, 100, 108, 101, 115, 32]⟩, .string ⟨#[114, 111, 117, 110, 100, 115, 32]⟩, .string ⟨#[102, 105, 114, 101, 32]⟩] 9))) ?_; rintro e w4 ⟨rfl, b4⟩; have r4 := r3'.below b4 r3'.lt; have G4 : w.grownBy w4 (some g) := G3'.andThen (show (w3.alloc (.cells #[.string ⟨#[109, 105, 100, 100, 108, 101, 115, 32]⟩, .string ⟨#[114, 111, 117, 110, 100, 115, 32]⟩, .string ⟨#[102, 105, 114, 101, 32]⟩] 9)).grownBy w4 none from ⟨b4.os, b4.tape, b4.output, b4.size, fun k hk _ => b4.block k hk⟩) (by simp); have hb4 := (b4.block w3.heap.size hl3').trans hb3'; have hcu4 := lit3 hb4 hU3))
    all_goals
      go_wp2
      go_ret
      first
        | exact ⟨_, rfl, TL.out U V hV, r4.more (by omega), G4⟩
        | exact ⟨_, rfl, TL.out U V hV, r4'.more (by omega), G4'⟩
  have q4 : (x == 4) = false := by rw [beq_eq_false_iff_ne]; omega
  have CD := hid (deedDraw_any g _ A n c w1 r1 (by omega) hn)
  go_wp2_with fail
  with_reducible refine Calls.mono CD.out ?_
  rintro e w2 ⟨a, rfl, ha, r2, g2⟩
  have hlen := deedB_len a.1 a.2
  have CT := hid (specDeedText_any a.1 a.2 w2)
  obtain ⟨s, hsd⟩ : ∃ s, deedB a.1 a.2 = s := ⟨_, rfl⟩
  rw [hsd] at CT hlen
  have G2 := g1.andThen g2 (by simp)
  clear hsd
  go_wp2_with fail
  with_reducible refine Calls.mono CT.out ?_
  rintro e w3 ⟨rfl, b3⟩
  have G3 : w.grownBy w3 (some g) := G2.andThen (show w2.grownBy w3 none from ⟨b3.os, b3.tape, b3.output, b3.size, fun k hk _ => b3.block k hk⟩) (by simp)
  have R3 := r2.below b3 r2.lt
  clear b3 g2 g1 r1 r2 CD CT
  go_wp2
  go_ret
  exact ⟨s, rfl, by omega, R3.more (by omega), G3⟩
end Go.Proofs.YtkejcajboneniabGreatDoor
