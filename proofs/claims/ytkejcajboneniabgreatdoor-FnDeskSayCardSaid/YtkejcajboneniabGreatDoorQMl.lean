/-
  Texts put together: Ds12 Dj12. No statement is proved here.
-/
import Derived.Test.YtkejcajboneniabGreatDoorQDr12
import Derived.Test.YtkejcajboneniabGreatDoorQMd
import Derived.Test.YtkejcajboneniabGreatDoorQT12b
import Derived.Test.YtkejcajboneniabGreatDoorQMf
set_option linter.unusedVariables false
set_option linter.unusedSimpArgs false
namespace Go.Proofs.YtkejcajboneniabGreatDoor
open Go.RowKit

/-- The texts that l20Spoil puts in. -/
def spoilT (u : Nat) : List UInt8 := if u = 0 then [] else if u = 1 then [48] else if u = 2 then [32] else if u = 3 then [10] else if u = 4 then [45] else [98, 97, 99, 107]
theorem spoilT_len (u : Nat) : (spoilT u).length ≤ 4 := by
  unfold spoilT
  (repeat' split) <;> decide
def spoilC : Array Value := #[encStr [], encStr [48], encStr [32], encStr [10], encStr [45], encStr [98, 97, 99, 107]]
theorem spoilC_at {u : Nat} (h : u < 6) : spoilC[u]? = some (encStr (spoilT u)) := by
  rcases (show u = 0 ∨ u = 1 ∨ u = 2 ∨ u = 3 ∨ u = 4 ∨ u = 5 by omega) with rfl | rfl | rfl | rfl | rfl | rfl <;> rfl

set_option maxRecDepth 100000 in
set_option maxHeartbeats 3200000 in
theorem spoil_any (g P : Nat) (s : List UInt8) (w : World) (hr : Rd w g P) (hP : P < 100000) (hn : s.length ≤ 1000000) :
    Calls Tryz.prog 43 #[.pointer (some ⟨g, 0, none⟩), encStr s] w fun e w' => ∃ t : List UInt8, e = .returned (encStr t) ∧ t.length ≤ s.length + 4 ∧ Rd w' g (P + 2) ∧ w.grownBy w' (some g) := by
  have hsz : (⟨s.toArray⟩ : ByteArray).size = s.length := by show s.toArray.size = _; simp
  by_cases h0 : s.length = 0
  · have h0i : ((s.length : Int) == 0) = true := by simp [h0]
    go_enter Tryz.func43, Tryz.ntmps43
    go_wp2
    go_ret
    exact ⟨[10], rfl, by simp, hr.more (by omega), World.grownBy.refl _ _⟩
  have h0i : ((s.length : Int) == 0) = false := by rw [beq_eq_false_iff_ne]; omega
  go_enter Tryz.func43, Tryz.ntmps43
  go_wp2_with fail
  refine (pick_any g P (s.length : Int) _ hr (by omega) (by omega) (by omega)).mono ?_
  rintro e w1 ⟨K, rfl, hk0, hk1, r1, g1⟩
  obtain ⟨k, rfl⟩ : ∃ k : Nat, K = k := Int.eq_ofNat_of_zero_le hk0
  have hsub0 := sub_str s 0 k
  have hsub1 := sub_str s (k + 1) s.length
  have hl0 := sub_len s 0 k
  have hl1 := sub_len s (k + 1) s.length
  have hki : (k : Int) ≤ (s.length : Int) := by omega
  have hki1 : (k : Int) + 1 ≤ (s.length : Int) := by omega
  have hki2 : (0 : Int) ≤ (k : Int) + 1 := by omega
  have wk : IntKind.i64.wrap ((k : Int) + 1) = (k : Int) + 1 := IntWalk.i64_in _ (by omega)
  have gA : w1.grownBy (w1.alloc (.cells #[.string ⟨#[]⟩, .string ⟨#[48]⟩, .string ⟨#[32]⟩, .string ⟨#[10]⟩, .string ⟨#[45]⟩, .string ⟨#[98, 97, 99, 107]⟩] 9)) (some g) := grown_alloc w1 _ _
  have RA0 : Rd (w1.alloc (.cells #[.string ⟨#[]⟩, .string ⟨#[48]⟩, .string ⟨#[32]⟩, .string ⟨#[10]⟩, .string ⟨#[45]⟩, .string ⟨#[98, 97, 99, 107]⟩] 9)) g (P + 1) := r1.grown (grown_alloc w1 (.cells #[.string ⟨#[]⟩, .string ⟨#[48]⟩, .string ⟨#[32]⟩, .string ⟨#[10]⟩, .string ⟨#[45]⟩, .string ⟨#[98, 97, 99, 107]⟩] 9) none) (by simp)
  have RA : Rd (w1.alloc (.cells #[.string ⟨#[]⟩, .string ⟨#[48]⟩, .string ⟨#[32]⟩, .string ⟨#[10]⟩, .string ⟨#[45]⟩, .string ⟨#[98, 97, 99, 107]⟩] 9)).drew g (P + 1) := RA0
  have RB : Rd w1.drew g (P + 1) := r1
  have hz1 := g1.size
  have hgl := r1.lt
  have CA := hid (fun (w2 : World) (U : Nat) (g2 : (w1.alloc (.cells #[.string ⟨#[]⟩, .string ⟨#[48]⟩, .string ⟨#[32]⟩, .string ⟨#[10]⟩, .string ⟨#[45]⟩, .string ⟨#[98, 97, 99, 107]⟩] 9)).drew.grownBy w2 (some g)) (hU : U < 6) => show w2.cell? ⟨w1.heap.size, U, none⟩ = some (encStr (spoilT U)) from by
    rw [cell_of_row w2 _ U _ _ _ ((g2.block w1.heap.size (by show w1.heap.size < (w1.alloc _).heap.size; simp) (by simp; omega)).trans (heap_alloc_new w1 (.cells #[.string ⟨#[]⟩, .string ⟨#[48]⟩, .string ⟨#[32]⟩, .string ⟨#[10]⟩, .string ⟨#[45]⟩, .string ⟨#[98, 97, 99, 107]⟩] 9)))]
    exact spoilC_at hU)
  have CB := hid (fun (w2 : World) (U : Nat) (hU : U < 6) => show (w2.alloc (.cells #[.string ⟨#[]⟩, .string ⟨#[48]⟩, .string ⟨#[32]⟩, .string ⟨#[10]⟩, .string ⟨#[45]⟩, .string ⟨#[98, 97, 99, 107]⟩] 9)).cell? ⟨w2.heap.size, U, none⟩ = some (encStr (spoilT U)) from by
    rw [cell_of_row (w2.alloc (.cells #[.string ⟨#[]⟩, .string ⟨#[48]⟩, .string ⟨#[32]⟩, .string ⟨#[10]⟩, .string ⟨#[45]⟩, .string ⟨#[98, 97, 99, 107]⟩] 9)) _ U _ _ _ (heap_alloc_new w2 (.cells #[.string ⟨#[]⟩, .string ⟨#[48]⟩, .string ⟨#[32]⟩, .string ⟨#[10]⟩, .string ⟨#[45]⟩, .string ⟨#[98, 97, 99, 107]⟩] 9))]
    exact spoilC_at hU)
  have TL := hid (fun (U : Nat) => show (sub s 0 k ++ (spoilT U ++ sub s (k + 1) s.length)).length ≤ s.length + 4 from by
    have := spoilT_len U
    simp only [List.length_append, sub, List.length_drop, List.length_take]
    omega)
  have gDB : w.grownBy w1.drew (some g) := ⟨g1.os, g1.tape, g1.output, g1.size, g1.block⟩
  have gA2 : w.grownBy (w1.alloc (.cells #[.string ⟨#[]⟩, .string ⟨#[48]⟩, .string ⟨#[32]⟩, .string ⟨#[10]⟩, .string ⟨#[45]⟩, .string ⟨#[98, 97, 99, 107]⟩] 9)) (some g) := g1.andThen gA (by simp)
  have gDA : w.grownBy (w1.alloc (.cells #[.string ⟨#[]⟩, .string ⟨#[48]⟩, .string ⟨#[32]⟩, .string ⟨#[10]⟩, .string ⟨#[45]⟩, .string ⟨#[98, 97, 99, 107]⟩] 9)).drew (some g) := ⟨gA2.os, gA2.tape, gA2.output, gA2.size, gA2.block⟩
  have CATA := hid (fun (U : Nat) (W : World) => cat_any (sub s 0 k) (spoilT U) (by have := spoilT_len U; omega) W)
  have CATB := hid (fun (U : Nat) (W : World) => cat_any (sub s 0 k ++ spoilT U) (sub s (k + 1) s.length) (by have := spoilT_len U; rw [List.length_append]; omega) W)
  go_wp2_with fail
  go_region_with (first
    | (go_at_call 42; with_reducible refine Calls.mono (pick_any g _ 6 _ RA (by omega) (by omega) (by omega)) ?_; rintro e w2 ⟨u, rfl, hu0, hu1, r2, g2⟩; obtain ⟨U, rfl⟩ : ∃ U : Nat, u = U := Int.eq_ofNat_of_zero_le hu0; have hU6 : U < 6 := (by omega); have hUi : (U : Int) < 6 := (by omega); have hc1 := CATA.out U; have hc2 := CATB.out U; have hcu := CA.out w2 U g2 hU6)
    | (go_at_call 42; with_reducible refine Calls.mono (pick_any g _ 6 _ RB (by omega) (by omega) (by omega)) ?_; rintro e w2 ⟨u, rfl, hu0, hu1, r2, g2⟩; obtain ⟨U, rfl⟩ : ∃ U : Nat, u = U := Int.eq_ofNat_of_zero_le hu0; have hU6 : U < 6 := (by omega); have hUi : (U : Int) < 6 := (by omega); have hc1 := CATA.out U; have hc2 := CATB.out U; have hcu := CB.out w2 U hU6))
  all_goals
    go_wp2
    go_ret
    first
      | exact ⟨_, rfl, TL.out U, r2.more (by omega), gDA.andThen g2 (by simp)⟩
      | exact ⟨_, rfl, TL.out U, (r2.grown (grown_alloc w2 _ none) (by simp)).more (by omega), (gDB.andThen g2 (by simp)).andThen (grown_alloc w2 _ (some g)) (by simp)⟩

end Go.Proofs.YtkejcajboneniabGreatDoor
namespace Go.Proofs.YtkejcajboneniabGreatDoor
open Go.RowKit

set_option maxRecDepth 100000 in
set_option maxHeartbeats 3200000 in
theorem deedsDraw_any (g P : Nat) (A : Option Addr) (n c : Nat) (w : World) (hr : Rd w g P) (hP : P < 10000) (hn : n ≤ 17) :
    Calls Tryz.prog 49 #[.pointer (some ⟨g, 0, none⟩), .slice A n c] w fun e w' => ∃ A1 n1 c1 l1, e = .returned (.slice A1 n1 c1) ∧ w'.ownsRow w.heap.size 39 2 (.slice A1 n1 c1) n1 (ints (flat l1)) ∧ n1 ≤ 6 ∧ Rd w' g (P + 40) ∧ w.grownBy w' (some g) := by
  obtain ⟨i0, hi, hz0, hz1, hz2⟩ := info_parts info_deed
  have hglt := hr.lt
  have r0 := hr.grown (grown_alloc w (.cells #[] 39) none) (by simp)
  have g0 := grown_alloc w (.cells #[] 39) (some g)
  have o0 : (w.alloc (.cells #[] 39)).ownsRow w.heap.size 39 2 (.slice (some ⟨w.heap.size, 0, none⟩) 0 0) 0 (ints (flat [])) := World.ownsRow_lit w #[] 0 (Nat.le_refl _) (by simp [maxLen]) rfl
  go_enter Tryz.func49, Tryz.ntmps49
  go_wp2_with fail
  refine (pick_any g _ 6 _ r0 (by omega) (by omega) (by omega)).mono ?_
  rintro e w1 ⟨K, rfl, hk0, hk1, r1, g1⟩
  obtain ⟨K, rfl⟩ : ∃ k : Nat, K = k := Int.eq_ofNat_of_zero_le hk0
  have o1 := o0.kept g1 (.inr (by simp [Value.ownBlock]; omega))
  have g01 := g0.andThen g1 (by simp)
  clear g0 g1 r0 o0
  go_wp2_with fail
  go_loopw [5, 6] (fun v kk wr => ∃ (A1 : Option Addr) (i c1 : Nat) (l : List (Int × Int)) (j : Nat), v = .slice A1 i c1 ∧ kk = .int .i64 j ∧ i + j ≤ 5 ∧ wr.ownsRow w.heap.size 39 2 (.slice A1 i c1) i (ints (flat l)) ∧ Rd wr g (P + 1 + i * 5) ∧ w.grownBy wr (some g)) (fun _ kk _ => (intOf kk).toNat)
  case atStart => exact ⟨_, 0, 0, [], K, rfl, rfl, by omega, o1, r1.more (by omega), g01⟩
  case round =>
    clear o1 r1 g01
    obtain ⟨A1, i, c1, l, j, rfl, rfl, hij, ho, hrr, hgg⟩ := hrel
    by_cases hj : 0 < j
    · have hji : (0 : Int) < (j : Int) := by omega
      have hv := own_blk2 ho
      have hvg : (Value.slice A1 i c1).ownBlock = none ∨ (Value.slice A1 i c1).ownBlock ≠ some g := by
        rcases hv with h | ⟨k, h, hk⟩
        · exact .inl h
        · exact .inr (by rw [h]; simp; omega)
      go_wp2_with fail
      refine (deedDraw_any g _ A n c _ hrr (by omega) hn).mono ?_
      rintro e w5 ⟨a, rfl, ha, r5, g5⟩
      replace ho := ho.kept g5 hvg
      replace hgg := hgg.andThen g5 (by simp)
      have hz5 := hgg.size
      clear g5 hrr
      go_wp2_with (at_builtin; refine wpList_append_own _ rfl _ _ 24 rfl w.heap.size 39 i0 (deedV (0, 0)) 2 16 Tryz.underlying24 hi hz0 hz1 hz2 rfl (by decide) (.slice A1 i c1) _ _ rfl (ho.alloc _) ⟨w5.heap.size, 0, none⟩ 1 1 [.int .i64 a.1, .int .i64 a.2] rfl rfl (cells_new _ [.int .i64 a.1, .int .i64 a.2] _) (by simp [Value.oneCell']) (by simp only [maxLen]; omega) (by omega) (by simp; omega) ?_; intro v2 w2 o2 g2 _)
      rw [ints_flat_snoc] at o2
      obtain ⟨g2b, c2, rfl, hbg, hlt2⟩ := own_shape1 o2 (by omega)
      have gN := (hgg.andThen (grown_alloc w5 _ (some g)) (by simp)).andThen g2 (by
        intro k hk
        rcases hv with h | ⟨k', h, hk'⟩
        · rw [h] at hk; cases hk
        · rw [h] at hk; cases hk; exact .inl hk')
      have rN := (r5.grown (grown_alloc w5 _ none) (by simp)).grown g2 (by
        intro k hk
        rcases hv with h | ⟨k', h, hk'⟩
        · rw [h] at hk; cases hk
        · rw [h] at hk; cases hk; omega)
      have O2 := hid o2
      have GN := hid gN
      have RN := hid rN
      clear o2 g2 gN rN ho hgg r5
      go_wp2
      go_roundw
      case rel => exact ⟨_, i + 1, c2, l ++ [a], j - 1, rfl, by go_num, by omega, O2.out, RN.out.more (by omega), GN.out⟩
      case measure => simp [intOf]; omega
    · obtain rfl : j = 0 := by omega
      go_wp2
      go_ret
      exact ⟨A1, i, c1, l, rfl, ho, by omega, hrr.more (by omega), hgg⟩

set_option maxRecDepth 100000 in
set_option maxHeartbeats 3200000 in
theorem writtenDraw_any (g P : Nat) (w : World) (hr : Rd w g P) (hP : P < 9000) :
    Calls Tryz.prog 41 #[.pointer (some ⟨g, 0, none⟩)] w fun e w' => ∃ A1 n1 c1 l1, e = .returned (.slice A1 n1 c1) ∧ w'.ownsRow w.heap.size 39 2 (.slice A1 n1 c1) n1 (ints (flat l1)) ∧ n1 ≤ 6 ∧ Rd w' g (P + 80) ∧ w.grownBy w' (some g) := by
  obtain ⟨i0, hi, hz0, hz1, hz2⟩ := info_parts info_deed
  have hglt := hr.lt
  have r0 := hr.grown (grown_alloc w (.cells #[] 39) none) (by simp)
  have g0 := grown_alloc w (.cells #[] 39) (some g)
  have o0 : (w.alloc (.cells #[] 39)).ownsRow w.heap.size 39 2 (.slice (some ⟨w.heap.size, 0, none⟩) 0 0) 0 (ints (flat [])) := World.ownsRow_lit w #[] 0 (Nat.le_refl _) (by simp [maxLen]) rfl
  have z0 : (w.alloc (.cells #[] 39)).heap.size = w.heap.size + 1 := by simp
  go_enter Tryz.func41, Tryz.ntmps41
  go_wp2_with fail
  refine (bitsz_any g _ 0 _ r0 (by omega) (by omega) (by omega)).mono ?_
  rintro e w1 ⟨A0, n0, c0, l0, rfl, ob, hn0, r1, g1⟩
  have o1 := o0.kept g1 (.inr (by simp [Value.ownBlock]; omega))
  have g01 := g0.andThen g1 (by simp)
  have zz1 := g1.size
  clear g0 g1 r0 o0 ob
  go_wp2_with fail
  refine (deedsDraw_any g _ A0 n0 c0 _ r1 (by omega) hn0).mono ?_
  rintro e w2 ⟨AL, nL, cL, L, rfl, oL, hnL, r2, g2⟩
  have o2 := o1.kept g2 (.inr (by simp [Value.ownBlock]; omega))
  have g02 := g01.andThen g2 (by simp)
  have hlo : ∀ k, (Value.slice AL nL cL).ownBlock = some k → w1.heap.size ≤ k ∧ k < w2.heap.size := fun k hk => oL.lt k hk
  have zz2 := g2.size
  have hLn : L.length = nL := (SlD.of_own oL).len
  have r2' := hid r2
  have HLF := hid (show (flat L).length = nL * 2 from by rw [flat_len2, hLn])
  clear g01 g2 o1 r1 r2
  have HLn := hid hLn
  clear hLn
  go_wp2_with fail
  go_loopw [3, 5] (fun v kk wr => ∃ (A1 : Option Addr) (i c1 : Nat) (l : List (Int × Int)) (k : Nat), v = .slice A1 i c1 ∧ kk = .int .i64 k ∧ i ≤ k ∧ k ≤ nL ∧ wr.ownsRow w.heap.size 39 2 (.slice A1 i c1) i (ints (flat l)) ∧ (∀ q, (Value.slice A1 i c1).ownBlock = some q → q < w1.heap.size ∨ w2.heap.size ≤ q) ∧ wr.ownsRow w1.heap.size 39 2 (.slice AL nL cL) nL (ints (flat L)) ∧ Rd wr g (P + 80) ∧ w.grownBy wr (some g) ∧ w2.heap.size ≤ wr.heap.size) (fun _ kk _ => nL - (intOf kk).toNat)
  case atStart => exact ⟨_, 0, 0, [], 0, rfl, rfl, Nat.le_refl _, Nat.zero_le _, o2, fun q hq => by simp [Value.ownBlock] at hq; omega, oL, r2'.out.more (by omega), g02, Nat.le_refl _⟩
  case round =>
    clear o2 g02 oL
    obtain ⟨A1, i, c1, l, k, rfl, rfl, hik, hk, ho, hnb, hs, hrr, hgg, hzz⟩ := hrel
    by_cases hlt : k < nL
    · obtain ⟨gb, cb, hsb, hgb1, hgb2⟩ := own_shape1 hs (by omega)
      injection hsb with e1 e2 e3
      subst e1
      clear e2 e3
      have hc0 := own_cell2 hs HLF.out (show k * 2 < nL * 2 by omega)
      have hc1 := own_cell2 hs HLF.out (show k * 2 + 1 < nL * 2 by omega)
      rw [nth_flat0] at hc0
      rw [nth_flat1] at hc1
      obtain ⟨a, ha⟩ : ∃ a, L.getD k (0, 0) = a := ⟨_, rfl⟩
      rw [ha] at hc0 hc1
      have CD := hid (fun W => specDeedText_any a.1 a.2 W)
      obtain ⟨t, ht⟩ : ∃ t, deedB a.1 a.2 = t := ⟨_, rfl⟩
      rw [ht] at CD
      have hki : (k : Int) < (nL : Int) := by omega
      have hbw : gb < wr.heap.size := hgb2
      clear ha ht
      cases t with
      | nil =>
        go_wp2_with (go_at_call 91; with_reducible refine Calls.mono (CD.out wr) ?_; rintro e w5 ⟨rfl, b5⟩; have hd0 := (b5.cell (p := ⟨gb, k * 2, none⟩) hbw).trans hc0; have hd1 := (b5.cell (p := ⟨gb, k * 2 + 1, none⟩) hbw).trans hc1; have ho5 := own_on2 ho b5; have hz5 : w.heap.size ≤ w5.heap.size := Nat.le_trans hgg.size b5.size)
        have ho5 := own_on2 ho b5
        have hs5 := own_on2 hs b5
        have r5 := hrr.below b5 hrr.lt
        have gW := hgg.andThen (World.grownBy.mk b5.os b5.tape b5.output b5.size (fun q hq _ => b5.block q hq) : wr.grownBy w5 (some g)) (by simp)
        have zW : w2.heap.size ≤ w5.heap.size := Nat.le_trans hzz b5.size
        go_roundw
        case rel => exact ⟨A1, i, c1, l, k + 1, rfl, by go_num, by omega, by omega, ho5, hnb, hs5, r5, gW, zW⟩
        case measure => simp [intOf]; omega
      | cons t0 t =>
        have hv := own_blk2 ho
        go_wp2_with (first | (go_at_call 91; with_reducible refine Calls.mono (CD.out wr) ?_; rintro e w5 ⟨rfl, b5⟩; have hd0 := (b5.cell (p := ⟨gb, k * 2, none⟩) hbw).trans hc0; have hd1 := (b5.cell (p := ⟨gb, k * 2 + 1, none⟩) hbw).trans hc1; have ho5 := own_on2 ho b5; have hz5 : w.heap.size ≤ w5.heap.size := Nat.le_trans hgg.size b5.size) | (at_builtin; refine wpList_append_own_at _ rfl _ _ 24 rfl w.heap.size 39 i0 (deedV (0, 0)) 2 16 Tryz.underlying24 hi hz0 hz1 hz2 rfl (by decide) (.slice A1 i c1) _ _ rfl (ho5.alloc _) ⟨w5.heap.size, 0, none⟩ 1 1 [.int .i64 a.1, .int .i64 a.2] rfl rfl (cells_new _ [.int .i64 a.1, .int .i64 a.2] _) (by simp [Value.oneCell']) (by simp only [maxLen]; omega) (by omega) (by simp; omega) ?_; intro v2 w7 o7 g7 _ al7))
        rw [ints_flat_snoc] at o7
        obtain ⟨gn, c2, rfl, hbg, hlt7⟩ := own_shape1 o7 (by omega)
        have hs5 := own_on2 hs b5
        have r5 := hrr.below b5 hrr.lt
        have gW := hgg.andThen (World.grownBy.mk b5.os b5.tape b5.output b5.size (fun q hq _ => b5.block q hq) : wr.grownBy w5 (some g)) (by simp)
        have zW : w2.heap.size ≤ w5.heap.size := Nat.le_trans hzz b5.size
        have hap : (Value.slice (some ⟨gb, 0, none⟩) nL cL).ownBlock = none ∨ (Value.slice (some ⟨gb, 0, none⟩) nL cL).ownBlock ≠ (Value.slice A1 i c1).ownBlock := by
          refine .inr (fun h => ?_)
          have h1 := hlo gb rfl
          have h2 := hnb gb h.symm
          omega
        have hs7 := (hs5.alloc (.cells #[.int .i64 a.1, .int .i64 a.2] 39)).kept g7 hap
        have zg7 := g7.size
        simp only [World.size_alloc] at zg7
        have gN := (gW.andThen (grown_alloc w5 (.cells #[.int .i64 a.1, .int .i64 a.2] 39) (some g)) (by simp)).andThen g7 (by
          intro q hq
          rcases hv with h | ⟨k', h, hk'⟩
          · rw [h] at hq; cases hq
          · rw [h] at hq; cases hq; exact .inl hk')
        have rN := (r5.grown (grown_alloc w5 (.cells #[.int .i64 a.1, .int .i64 a.2] 39) none) (by simp)).grown g7 (by
          intro q hq
          rcases hv with h | ⟨k', h, hk'⟩
          · rw [h] at hq; cases hq
          · rw [h] at hq; cases hq; omega)
        have hnb7 : ∀ q, (Value.slice (some ⟨gn, 0, none⟩) (i + 1) c2).ownBlock = some q → q < w1.heap.size ∨ w2.heap.size ≤ q := by
          intro q hq
          rcases al7 with h | h
          · exact hnb q (by rw [← h]; exact hq)
          · rw [hq] at h
            injection h with h
            right
            rw [h]
            simp only [World.size_alloc]
            omega
        go_roundw
        case rel => exact ⟨_, i + 1, c2, l ++ [a], k + 1, rfl, by go_num, by omega, by omega, o7, hnb7, hs7, rN, gN, by omega⟩
        case measure => simp [intOf]; omega
    · go_wp2
      go_ret
      exact ⟨A1, i, c1, l, rfl, ho, by omega, hrr, hgg⟩

set_option maxRecDepth 100000 in
set_option maxHeartbeats 1600000 in
/-- laws.sameDeeds of two slices that read alike. -/
theorem sameDeeds_any (A A2 : Option Addr) (n c n2 c2 : Nat) (l : List (Int × Int)) (w : World) (hs : SlD w w.heap.size A n l) (hs2 : SlD w w.heap.size A2 n2 l) :
    Calls Tryz.prog 11 #[.slice A n c, .slice A2 n2 c2] w fun e w' => e = .returned (.bool true) ∧ Below w.heap.size w w' := by
  obtain rfl : n2 = n := by rw [← hs2.len, hs.len]
  have hm := hs.max
  have hnn : ((n2 : Int) != (n2 : Int)) = false := by simp
  go_enter Tryz.func11, Tryz.ntmps11
  go_wp2
  go_loopw [5] (fun i wr => ∃ k : Nat, k ≤ n2 ∧ i = .int .i64 k ∧ Hid (Below w.heap.size w wr)) (fun i _ => n2 - (intOf i).toNat)
  case atStart => exact ⟨0, Nat.zero_le _, rfl, hid (Below.refl _ _)⟩
  case round =>
    obtain ⟨k, hk, rfl, HB⟩ := hrel
    by_cases hlt : k < n2
    · obtain ⟨b, off, rfl, hbl, hc⟩ := (hs.below HB.out).2.2 (by omega)
      obtain ⟨b2, off2, rfl, hbl2, hc2⟩ := (hs2.below HB.out).2.2 (by omega)
      have x0 := hc (k * 2) (by omega)
      have x1 := hc (k * 2 + 1) (by omega)
      have y0 := hc2 (k * 2) (by omega)
      have y1 := hc2 (k * 2 + 1) (by omega)
      rw [nth_flat0] at x0 y0
      rw [nth_flat1, ← Nat.add_assoc] at x1 y1
      obtain ⟨a, ha⟩ : ∃ a, l.getD k (0, 0) = a := ⟨_, rfl⟩
      rw [ha] at x0 x1 y0 y1
      have q1 : (a.1 == a.1) = true := by simp
      have q2 : (a.2 == a.2) = true := by simp
      have hki : (k : Int) < (n2 : Int) := by omega
      have hk0 : (0 : Int) ≤ (k : Int) := by omega
      clear hc hc2 ha
      go_wp2_with fail
      go_region
      all_goals
        go_wp2
        have HB5 := hid HB.out.drew
        go_roundw
        case rel => exact ⟨k + 1, by omega, by go_num, HB5⟩
        case measure => simp [intOf]; omega
    · go_wp2
      go_ret
      exact ⟨rfl, HB.out⟩
end Go.Proofs.YtkejcajboneniabGreatDoor
