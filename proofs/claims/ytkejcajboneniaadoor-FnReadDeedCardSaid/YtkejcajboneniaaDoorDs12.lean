/-
  Walks of the model's draws of texts. No statement is proved here.
-/
import Derived.Test.YtkejcajboneniaaDoorDr12
import Derived.Test.YtkejcajboneniaaDoorT12e
import Derived.Test.YtkejcajboneniaaDoorT12b
namespace Go.Proofs.YtkejcajboneniaaDoor
open Go.RowKit
set_option linter.unusedVariables false
set_option linter.unusedSimpArgs false

/-- The texts that l20Spoil puts in. -/
def spoilT (u : Nat) : List UInt8 := if u = 0 then [] else if u = 1 then [48] else if u = 2 then [32] else if u = 3 then [10] else if u = 4 then [45] else [98, 97, 99, 107]
theorem spoilT_len (u : Nat) : (spoilT u).length ≤ 4 := by
  unfold spoilT
  (repeat' split) <;> decide
def spoilC : Array Value := #[encStr [], encStr [48], encStr [32], encStr [10], encStr [45], encStr [98, 97, 99, 107]]
theorem spoilC_at {u : Nat} (h : u < 6) : spoilC[u]? = some (encStr (spoilT u)) := by
  rcases (show u = 0 ∨ u = 1 ∨ u = 2 ∨ u = 3 ∨ u = 4 ∨ u = 5 by omega) with rfl | rfl | rfl | rfl | rfl | rfl <;> rfl

set_option maxRecDepth 100000 in
set_option maxHeartbeats 3200000 in
theorem spoil_any (g P : Nat) (s : List UInt8) (w : World) (hr : Rd w g P) (hP : P < 100000) (hn : s.length ≤ 1000000) :
    Calls Tryd.prog 41 #[.pointer (some ⟨g, 0, none⟩), encStr s] w fun e w' => ∃ t : List UInt8, e = .returned (encStr t) ∧ t.length ≤ s.length + 4 ∧ Rd w' g (P + 2) ∧ w.grownBy w' (some g) := by
  have hsz : (⟨s.toArray⟩ : ByteArray).size = s.length := by show s.toArray.size = _; simp
  by_cases h0 : s.length = 0
  · have h0i : ((s.length : Int) == 0) = true := by simp [h0]
    go_enter Tryd.func41, Tryd.ntmps41
    go_wp2
    go_ret
    exact ⟨[10], rfl, by simp, hr.more (by omega), World.grownBy.refl _ _⟩
  have h0i : ((s.length : Int) == 0) = false := by rw [beq_eq_false_iff_ne]; omega
  go_enter Tryd.func41, Tryd.ntmps41
  go_wp2_with fail
  refine (pick_any g P (s.length : Int) _ hr (by omega) (by omega) (by omega)).mono ?_
  rintro e w1 ⟨K, rfl, hk0, hk1, r1, g1⟩
  obtain ⟨k, rfl⟩ : ∃ k : Nat, K = k := Int.eq_ofNat_of_zero_le hk0
  have hsub0 := sub_str s 0 k
  have hsub1 := sub_str s (k + 1) s.length
  have hl0 := sub_len s 0 k
  have hl1 := sub_len s (k + 1) s.length
  have hki : (k : Int) ≤ (s.length : Int) := by omega
  have hki1 : (k : Int) + 1 ≤ (s.length : Int) := by omega
  have hki2 : (0 : Int) ≤ (k : Int) + 1 := by omega
  have wk : IntKind.i64.wrap ((k : Int) + 1) = (k : Int) + 1 := IntWalk.i64_in _ (by omega)
  have gA : w1.grownBy (w1.alloc (.cells #[.string ⟨#[]⟩, .string ⟨#[48]⟩, .string ⟨#[32]⟩, .string ⟨#[10]⟩, .string ⟨#[45]⟩, .string ⟨#[98, 97, 99, 107]⟩] 9)) (some g) := grown_alloc w1 _ _
  have RA0 : Rd (w1.alloc (.cells #[.string ⟨#[]⟩, .string ⟨#[48]⟩, .string ⟨#[32]⟩, .string ⟨#[10]⟩, .string ⟨#[45]⟩, .string ⟨#[98, 97, 99, 107]⟩] 9)) g (P + 1) := r1.grown (grown_alloc w1 (.cells #[.string ⟨#[]⟩, .string ⟨#[48]⟩, .string ⟨#[32]⟩, .string ⟨#[10]⟩, .string ⟨#[45]⟩, .string ⟨#[98, 97, 99, 107]⟩] 9) none) (by simp)
  have RA : Rd (w1.alloc (.cells #[.string ⟨#[]⟩, .string ⟨#[48]⟩, .string ⟨#[32]⟩, .string ⟨#[10]⟩, .string ⟨#[45]⟩, .string ⟨#[98, 97, 99, 107]⟩] 9)).drew g (P + 1) := RA0
  have RB : Rd w1.drew g (P + 1) := r1
  have hz1 := g1.size
  have hgl := r1.lt
  have CA := hid (fun (w2 : World) (U : Nat) (g2 : (w1.alloc (.cells #[.string ⟨#[]⟩, .string ⟨#[48]⟩, .string ⟨#[32]⟩, .string ⟨#[10]⟩, .string ⟨#[45]⟩, .string ⟨#[98, 97, 99, 107]⟩] 9)).drew.grownBy w2 (some g)) (hU : U < 6) => show w2.cell? ⟨w1.heap.size, U, none⟩ = some (encStr (spoilT U)) from by
    rw [cell_of_row w2 _ U _ _ _ ((g2.block w1.heap.size (by show w1.heap.size < (w1.alloc _).heap.size; simp) (by simp; omega)).trans (heap_alloc_new w1 (.cells #[.string ⟨#[]⟩, .string ⟨#[48]⟩, .string ⟨#[32]⟩, .string ⟨#[10]⟩, .string ⟨#[45]⟩, .string ⟨#[98, 97, 99, 107]⟩] 9)))]
    exact spoilC_at hU)
  have CB := hid (fun (w2 : World) (U : Nat) (hU : U < 6) => show (w2.alloc (.cells #[.string ⟨#[]⟩, .string ⟨#[48]⟩, .string ⟨#[32]⟩, .string ⟨#[10]⟩, .string ⟨#[45]⟩, .string ⟨#[98, 97, 99, 107]⟩] 9)).cell? ⟨w2.heap.size, U, none⟩ = some (encStr (spoilT U)) from by
    rw [cell_of_row (w2.alloc (.cells #[.string ⟨#[]⟩, .string ⟨#[48]⟩, .string ⟨#[32]⟩, .string ⟨#[10]⟩, .string ⟨#[45]⟩, .string ⟨#[98, 97, 99, 107]⟩] 9)) _ U _ _ _ (heap_alloc_new w2 (.cells #[.string ⟨#[]⟩, .string ⟨#[48]⟩, .string ⟨#[32]⟩, .string ⟨#[10]⟩, .string ⟨#[45]⟩, .string ⟨#[98, 97, 99, 107]⟩] 9))]
    exact spoilC_at hU)
  have TL := hid (fun (U : Nat) => show (sub s 0 k ++ (spoilT U ++ sub s (k + 1) s.length)).length ≤ s.length + 4 from by
    have := spoilT_len U
    simp only [List.length_append, sub, List.length_drop, List.length_take]
    omega)
  have gDB : w.grownBy w1.drew (some g) := ⟨g1.os, g1.tape, g1.output, g1.size, g1.block⟩
  have gA2 : w.grownBy (w1.alloc (.cells #[.string ⟨#[]⟩, .string ⟨#[48]⟩, .string ⟨#[32]⟩, .string ⟨#[10]⟩, .string ⟨#[45]⟩, .string ⟨#[98, 97, 99, 107]⟩] 9)) (some g) := g1.andThen gA (by simp)
  have gDA : w.grownBy (w1.alloc (.cells #[.string ⟨#[]⟩, .string ⟨#[48]⟩, .string ⟨#[32]⟩, .string ⟨#[10]⟩, .string ⟨#[45]⟩, .string ⟨#[98, 97, 99, 107]⟩] 9)).drew (some g) := ⟨gA2.os, gA2.tape, gA2.output, gA2.size, gA2.block⟩
  have CATA := hid (fun (U : Nat) (W : World) => cat_any (sub s 0 k) (spoilT U) (by have := spoilT_len U; omega) W)
  have CATB := hid (fun (U : Nat) (W : World) => cat_any (sub s 0 k ++ spoilT U) (sub s (k + 1) s.length) (by have := spoilT_len U; rw [List.length_append]; omega) W)
  go_wp2_with fail
  go_region_with (first
    | (go_at_call 40; with_reducible refine Calls.mono (pick_any g _ 6 _ RA (by omega) (by omega) (by omega)) ?_; rintro e w2 ⟨u, rfl, hu0, hu1, r2, g2⟩; obtain ⟨U, rfl⟩ : ∃ U : Nat, u = U := Int.eq_ofNat_of_zero_le hu0; have hU6 : U < 6 := (by omega); have hUi : (U : Int) < 6 := (by omega); have hc1 := CATA.out U; have hc2 := CATB.out U; have hcu := CA.out w2 U g2 hU6)
    | (go_at_call 40; with_reducible refine Calls.mono (pick_any g _ 6 _ RB (by omega) (by omega) (by omega)) ?_; rintro e w2 ⟨u, rfl, hu0, hu1, r2, g2⟩; obtain ⟨U, rfl⟩ : ∃ U : Nat, u = U := Int.eq_ofNat_of_zero_le hu0; have hU6 : U < 6 := (by omega); have hUi : (U : Int) < 6 := (by omega); have hc1 := CATA.out U; have hc2 := CATB.out U; have hcu := CB.out w2 U hU6))
  all_goals
    go_wp2
    go_ret
    first
      | exact ⟨_, rfl, TL.out U, r2.more (by omega), gDA.andThen g2 (by simp)⟩
      | exact ⟨_, rfl, TL.out U, (r2.grown (grown_alloc w2 _ none) (by simp)).more (by omega), (gDB.andThen g2 (by simp)).andThen (grown_alloc w2 _ (some g)) (by simp)⟩

set_option maxRecDepth 100000 in
set_option maxHeartbeats 1600000 in
theorem drawReadDeed_any (A : Option Addr) (n c : Nat) (w : World) (hs : By w w.heap.size A n) (hc : n ≤ c) :
    Calls Tryd.prog 22 #[.slice A n c] w fun e w' => ∃ t : List UInt8, e = .returned (encStr t) ∧ t.length ≤ 300 ∧ Below w.heap.size w w' := by
  go_enter Tryd.func22, Tryd.ntmps22
  go_wp2_with fail
  refine (open_any A n c _ hs hc).mono ?_
  rintro e w1 ⟨g, rfl, r1, hg, b1⟩
  go_wp2_with fail
  refine (bitsz_any g _ 0 _ r1 (by omega) (by omega) (by omega)).mono ?_
  rintro e w2 ⟨A1, n1, c1, l1, rfl, o1, hn1, r2, g2⟩
  have b2 := b1.grown g2 b1.size (by intro k hk; cases hk; exact hg)
  go_wp2_with fail
  refine (deedDraw_any g _ A1 n1 c1 _ r2 (by omega) hn1).mono ?_
  rintro e w3 ⟨a, rfl, ha, r3, g3⟩
  have b3 := b2.grown g3 b2.size (by intro k hk; cases hk; exact hg)
  have hlen := deedB_len a.1 a.2
  have CD := hid (specDeedText_any a.1 a.2 w3)
  obtain ⟨s, hsd⟩ : ∃ s, deedB a.1 a.2 = s := ⟨_, rfl⟩
  rw [hsd] at CD hlen
  clear hsd g2 g3 o1 r1 r2
  go_wp2_with fail
  with_reducible refine Calls.mono CD.out ?_
  rintro e w4 ⟨rfl, b34⟩
  have r4 := r3.below b34 r3.lt
  have b4 := b3.trans (b34.mono b3.size)
  clear r3 b34
  go_wp2_with fail
  refine (pick_any g _ 3 _ r4 (by omega) (by omega) (by omega)).mono ?_
  rintro e w5 ⟨x, rfl, hx0, hx1, r5, g5⟩
  have b5 := hid (b4.grown g5 b4.size (by intro k hk; cases hk; exact hg))
  clear g5 b4 b3 b2 b1 r4 CD
  by_cases h0 : x = 0
  · subst h0
    go_wp2_with fail
    refine (spoil_any g _ s _ r5 (by omega) (by omega)).mono ?_
    rintro e w6 ⟨t, rfl, ht, r6, g6⟩
    have b6 := b5.out.grown g6 b5.out.size (by intro k hk; cases hk; exact hg)
    go_wp2
    go_ret
    exact ⟨t, rfl, by omega, b6⟩
  · have hxf : (x == 0) = false := by rw [beq_eq_false_iff_ne]; exact h0
    go_wp2
    go_ret
    exact ⟨s, rfl, by omega, b5.out⟩
end Go.Proofs.YtkejcajboneniaaDoor
