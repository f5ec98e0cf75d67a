/-
  Walks of the program's rings of bits: after as many steps as a power of two, and as any number. No statement is proved here.
-/
import Derived.Test.YthncjopbagkdcaaC10f
namespace Go.Proofs.Ythncjopbagkdcaa
open Go.RowKit
set_option linter.unusedVariables false
set_option linter.unusedSimpArgs false

set_option maxRecDepth 100000 in
set_option maxHeartbeats 3200000 in
theorem summedFar_any (l : List Int) (n p : Nat) (w : World) (hl : l.length = n) (h1 : 1 ≤ n) (hn : n ≤ 16) (hb : ∀ x ∈ l, x = 0 ∨ x = 1) (hp : p ≤ 100000) :
    Calls Try.prog 52 #[vot (pb l n) n, .int .i64 p] w fun e w' => e = .returned (vot (pb (farL p l) n) n) ∧ Below w.heap.size w w' := by
  have ha := Nat.mod_lt p (show 0 < n by omega)
  obtain ⟨a, hae⟩ : ∃ a, p % n = a := ⟨_, rfl⟩
  obtain ⟨m, hm⟩ : ∃ m, a + m = n := ⟨n - a, by omega⟩
  have HF := trn_far hl (by omega) hb p
  rw [hae, show n - a = m by omega] at HF
  have hx := pb_lt l n
  obtain ⟨x, hxe⟩ : ∃ x, pb l n = x := ⟨_, rfl⟩
  rw [hxe] at hx HF ⊢
  have CT := hid (fun W : World => turned_any x n a W hn hx (by omega))
  have CM := hid (fun W : World => turned_any x n m W hn hx (by omega))
  have hy := trn_lt x n a
  have hy2 := trn_lt x n m
  obtain ⟨y, hye⟩ : ∃ y, trn x n a = y := ⟨_, rfl⟩
  obtain ⟨z, hze⟩ : ∃ z, trn x n m = z := ⟨_, rfl⟩
  rw [hye] at hy CT HF
  rw [hze] at hy2 CM HF
  have CA := hid (fun W : World => added_any y z n W hn hy hy2)
  rw [HF] at CA
  obtain ⟨q, hq⟩ : ∃ q, pb (farL p l) n = q := ⟨_, rfl⟩
  rw [hq] at CA ⊢
  have hrem : ((p : Int)).tmod (n : Int) = (a : Int) := by rw [Int.tmod_eq_emod_of_nonneg (by omega)]; omega
  have hmi : (n : Int) - (a : Int) = (m : Int) := by omega
  have hwm : IntKind.i64.wrap (m : Int) = (m : Int) := IntWalk.i64_in _ (by omega)
  have hn0 : ¬ (n : Int) = 0 := by omega
  have hn0' : ¬ n = 0 := by omega
  clear HF hx hy hy2 hye hze hq hxe hae ha hb hl
  have hz : (w.alloc (.cells #[.int .u64 x, .int .i64 n] 51)).heap.size = w.heap.size + 1 := by simp
  have X := (Vr.new w x n).on (row := none) (grown_alloc _ (.cells #[.int .u64 0, .int .i64 0] 51) none) (by simp)
  have c0 := X.c0
  have c1 := X.c1
  have X1 : Vr ((w.alloc (.cells #[.int .u64 x, .int .i64 n] 51)).alloc (.cells #[.int .u64 0, .int .i64 0] 51)) (w.heap.size + 1) 0 0 := by rw [← hz]; exact Vr.new _ 0 0
  have B0 := hid (((Below.refl w.heap.size w).alloc (Nat.le_refl _) (.cells #[.int .u64 x, .int .i64 n] 51)).alloc (by simp) (.cells #[.int .u64 0, .int .i64 0] 51))
  have HX1 := hid X1
  clear X X1 hz
  have hmm := hid hm
  clear hm
  go_enter Try.func52, Try.ntmps52
  go_wp2_with fail
  go_region_held3 (fun w' => w'.cell? ⟨w.heap.size, 0, none⟩ = some (.int .u64 x) ∧ w'.cell? ⟨w.heap.size, 1, none⟩ = some (.int .i64 n))
    (first
      | go_keep
      | (go_split_ands
         refine ⟨?_, ?_⟩ <;> exact (b5.cell (by simp only []; omega)).trans (by assumption))
      | (go_split_ands
         refine ⟨?_, ?_⟩ <;> exact (b4.cell (by simp only []; omega)).trans (by assumption))
      | (go_split_ands
         refine ⟨?_, ?_⟩ <;> exact (b3.cell (by simp; omega)).trans (by assumption)))
    (first
      | (go_at_call 56; with_reducible refine Calls.mono (CT.out _) ?_; rintro r w3 ⟨rfl, b3⟩; have hz3 : w.heap.size + 2 ≤ w3.heap.size := (by have h := b3.size; simp at h; omega))
      | (go_at_call 56; with_reducible refine Calls.mono (CM.out _) ?_; rintro r w4 ⟨rfl, b4⟩; have hz4 : w.heap.size + 2 ≤ w4.heap.size := (by have h := b4.size; omega))
      | (go_at_call 51; with_reducible refine Calls.mono (CA.out _) ?_; rintro r w5 ⟨rfl, b5⟩; have hz5 : w.heap.size + 2 ≤ w5.heap.size := (by have h := b5.size; omega); have Y := (((HX1.out.on (row := none) (drew_grown _) (by simp)).below b3 (by simp)).below b4 (by omega)).below b5 (by omega); have f0 := Y.fz 0; have f1 := Y.fz 1; have k0 := Y.c0; have k1 := Y.c1))
  have B3 := (B0.out.grown (drew_grown _) (by simp; omega) (by simp)).trans (b3.mono (by simp; omega))
  have BB := hid ((((B3.trans (b4.mono (by omega))).trans (b5.mono (by omega))).setCell (p := ⟨w.heap.size + 1, 0, none⟩) (by simp) (.int .u64 q)).setCell (p := ⟨w.heap.size + 1, 1, none⟩) (by simp) (.int .i64 n))
  have HY := hid (Y.set q n)
  clear b3 b4 b5 Y B3
  go_wp2
  (try simp only [Exit.inBlock, Exit.then])
  refine bodyPost_ret (results_cell_row rfl _ _ (w.heap.size + 1) 51 _ (0, 0) _ (by simp [Act.put]) HY.out Try.underlying51 rfl size_vr) rfl ?_
  exact ⟨rfl, BB.out⟩

set_option maxRecDepth 100000 in
set_option maxHeartbeats 3200000 in
theorem summedAfterI_any (l : List Int) (n S : Nat) (w : World) (hl : l.length = n) (hok : bitsOk l = true) (hS : S ≤ 1000) :
    Calls Try.prog 48 #[vot (pb l n) n, .int .i64 S] w fun e w' => e = .returned (vot (pb (sumI S l) n) n) ∧ Below w.heap.size w w' := by
  obtain ⟨hb, h1, h2⟩ := bitsOk_iff.1 hok
  rw [hl] at h1 h2
  have CF := hid (fun (j p : Nat) (hp : p ≤ 100000) (W : World) => summedFar_any (sumI (S % 2 ^ j) l) n p W (by rw [sumI_len, hl]) h1 h2 (bitsOk_iff.1 (sumI_ok hok _)).1 hp)
  have HH := hid (fun (j : Nat) (h : S / 2 ^ j % 2 = 1) => half_step (S := S) (j := j) h (l := l) (by omega))
  have HK := hid (fun (j : Nat) (h : S / 2 ^ j % 2 = 0) => half_keep (S := S) (j := j) h)
  obtain ⟨x0, hx0⟩ : ∃ x0, pb l n = x0 := ⟨_, rfl⟩
  rw [hx0]
  have HX0 := hid hx0
  clear hx0
  have hz : (w.alloc (.cells #[.int .u64 x0, .int .i64 n] 51)).heap.size = w.heap.size + 1 := by simp
  have X := hid ((Vr.new w x0 n).on (row := none) (grown_alloc _ (.cells #[.int .u64 0, .int .i64 0] 51) none) (by simp))
  have X1 : Vr ((w.alloc (.cells #[.int .u64 x0, .int .i64 n] 51)).alloc (.cells #[.int .u64 0, .int .i64 0] 51)) (w.heap.size + 1) 0 0 := by rw [← hz]; exact Vr.new _ 0 0
  have HX1 := hid X1
  have B0 := hid (((Below.refl w.heap.size w).alloc (Nat.le_refl _) (.cells #[.int .u64 x0, .int .i64 n] 51)).alloc (by simp) (.cells #[.int .u64 0, .int .i64 0] 51))
  have hz2 : w.heap.size + 2 ≤ ((w.alloc (.cells #[.int .u64 x0, .int .i64 n] 51)).alloc (.cells #[.int .u64 0, .int .i64 0] 51)).heap.size := by simp
  have HZ := hid hz2
  clear X1 hz hz2 hok hb hl
  go_enter Try.func48, Try.ntmps48
  go_wp2_with fail
  obtain ⟨W, hW⟩ : ∃ W, (w.alloc (.cells #[.int .u64 x0, .int .i64 n] 51)).alloc (.cells #[.int .u64 0, .int .i64 0] 51) = W := ⟨_, rfl⟩
  rw [hW] at X B0 HZ HX1 ⊢
  clear hW
  rw [← HX0.out, show pb l n = pb (sumI (S % 2 ^ 0) l) n from by rw [Nat.pow_zero, Nat.mod_one]; rfl] at X
  go_loopw [5] (fun i wr => ∃ j P : Nat, i = .int .i64 P ∧ Hid (P = 2 ^ j) ∧ P ≤ 2000 ∧ Hid (0 < P) ∧ Hid (Vr wr w.heap.size (pb (sumI (S % 2 ^ j) l) n) n) ∧ Hid (Vr wr (w.heap.size + 1) 0 0) ∧ Hid (w.heap.size + 2 ≤ wr.heap.size) ∧ Hid (Below w.heap.size w wr)) (fun i _ => 2001 - (intOf i).toNat)
  case atStart => exact ⟨0, 1, rfl, hid rfl, by omega, hid (by omega), X, HX1, HZ, B0⟩
  case round =>
    clear X HX1 HZ B0
    obtain ⟨j, P, rfl, HP, hP, HP0, X, HX1, HZ, B0⟩ := hrel
    have c0 := X.out.c0
    have c1 := X.out.c1
    by_cases hlt : P ≤ S
    · have hlti : (P : Int) ≤ (S : Int) := by omega
      have hw2 : IntKind.i64.wrap ((P : Int) * 2) = (P : Int) * 2 := IntWalk.i64_in _ (by omega)
      have HP2 := hid (show P * 2 = 2 ^ (j + 1) from by rw [HP.out, Nat.pow_succ])
      have hand : bits .and .i64 (S : Int) (P : Int) = ((S &&& P : Nat) : Int) := bits_and_i64_nat _ _ (by omega) (by omega)
      have hpw : S &&& P = if S / 2 ^ j % 2 = 1 then P else 0 := by rw [HP.out]; exact and_pow S j
      rcases Nat.mod_two_eq_zero_or_one (S / 2 ^ j) with hm | hm
      · have HE := hid (HK.out j hm)
        rw [hpw, hm, if_neg (by decide)] at hand
        rw [← HE.out] at X
        clear hm hpw
        go_wp2_with fail
        go_roundw
        case rel => exact ⟨j + 1, P * 2, by go_num, HP2, by omega, hid (by have := HP0.out; omega), X, HX1, HZ, B0⟩
        case measure => have := HP0.out; simp [intOf]; omega
      · have HE := hid (HH.out j hm)
        rw [hpw, if_pos hm] at hand
        have HG := (show farL P (sumI (S % 2 ^ j) l) = sumI (S % 2 ^ (j + 1)) l from by rw [HP.out]; exact HE.out)
        have CC := hid (fun W : World => CF.out j P (by omega) W)
        rw [HG] at CC
        clear HG
        have hPne : ((P : Int) == 0) = false := by have := HP0.out; simp; omega
        have hPne2 : ¬ (P : Int) = 0 := by have := HP0.out; omega
        clear hm hpw
        go_wp2_with fail
        with_reducible refine Calls.mono (CC.out _) ?_
        rintro e w3 ⟨rfl, b3⟩
        have hz0 := HZ.out
        have hz3 := b3.size
        have Y := X.out.below b3 (by omega)
        have Y1 := HX1.out.below b3 (by omega)
        have f0 := Y.fz 0
        have f1 := Y.fz 1
        have k0 := Y.c0
        have k1 := Y.c1
        obtain ⟨q, hq⟩ : ∃ q, pb (sumI (S % 2 ^ (j + 1)) l) n = q := ⟨_, rfl⟩
        rw [hq]
        have Q1 : Hid (Vr ((w3.setCell ⟨w.heap.size, 0, none⟩ (.int .u64 q)).setCell ⟨w.heap.size, 1, none⟩ (.int .i64 n)) w.heap.size (pb (sumI (S % 2 ^ (j + 1)) l) n) n) := hid (by rw [hq]; exact Y.set q n)
        have Q2 : Hid (Vr ((w3.setCell ⟨w.heap.size, 0, none⟩ (.int .u64 q)).setCell ⟨w.heap.size, 1, none⟩ (.int .i64 n)) (w.heap.size + 1) 0 0) := hid ((heap_setCell_other _ _ _ _ (by simp)).trans ((heap_setCell_other _ _ _ _ (by simp)).trans Y1))
        have Q3 : Hid (w.heap.size + 2 ≤ ((w3.setCell ⟨w.heap.size, 0, none⟩ (.int .u64 q)).setCell ⟨w.heap.size, 1, none⟩ (.int .i64 n)).heap.size) := hid (by simp [World.setCell]; omega)
        have Q4 := hid (((B0.out.trans (b3.mono (by omega))).setCell (p := ⟨w.heap.size, 0, none⟩) (Nat.le_refl _) (.int .u64 q)).setCell (p := ⟨w.heap.size, 1, none⟩) (Nat.le_refl _) (.int .i64 n))
        clear X HX1 HZ B0 b3 Y Y1 hq hz0 hz3 c0 c1 CC
        go_wp2_with fail
        go_roundw
        case rel => exact ⟨j + 1, P * 2, by go_num, HP2, by omega, hid (by have := HP0.out; omega), Q1, Q2, Q3, Q4⟩
        case measure => have := HP0.out; simp [intOf]; omega
    · have HE := hid (show S % 2 ^ j = S from Nat.mod_eq_of_lt (by rw [← HP.out]; omega))
      rw [HE.out] at X c0
      have f0 := HX1.out.fz 0
      have f1 := HX1.out.fz 1
      have k0 := HX1.out.c0
      have k1 := HX1.out.c1
      obtain ⟨q, hq⟩ : ∃ q, pb (sumI S l) n = q := ⟨_, rfl⟩
      rw [hq] at c0
      have HQ := hid hq
      have HY := hid (HX1.out.set q n)
      have BB := hid ((B0.out.setCell (p := ⟨w.heap.size + 1, 0, none⟩) (by simp) (.int .u64 q)).setCell (p := ⟨w.heap.size + 1, 1, none⟩) (by simp) (.int .i64 n))
      clear X HX1 B0 hq HZ
      go_wp2
      (try simp only [Exit.inBlock, Exit.then])
      refine bodyPost_ret (results_cell_row rfl _ _ (w.heap.size + 1) 51 _ (0, 0) _ (by simp [Act.put]) HY.out Try.underlying51 rfl size_vr) rfl ?_
      exact ⟨by rw [HQ.out], BB.out⟩
end Go.Proofs.Ythncjopbagkdcaa
