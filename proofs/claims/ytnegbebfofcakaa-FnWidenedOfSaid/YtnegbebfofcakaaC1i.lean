/-
  Walks of the program's steps of rows. No statement is proved here.
-/
import Derived.Test.YtnegbebfofcakaaC1s
import Derived.Deep.RegionWith
import Derived.BigRegion
namespace Go.Proofs.Ytnegbebfofcakaa
open Go.RowKit
set_option linter.unusedVariables false
set_option linter.unusedSimpArgs false

/-- The state at a place, rest beyond both ends. -/
def stat (l : List Int) (k : Int) : Int := if 0 ≤ k ∧ k < l.length then nth l k.toNat else 0
theorem stat_nat (l : List Int) (k : Nat) : stat l k = nth l k := by
  unfold stat
  by_cases h : k < l.length
  · rw [if_pos (by omega)]; rfl
  · rw [if_neg (by omega), nth_ge (by omega)]
theorem stat_before (l : List Int) (k : Nat) : stat l ((k : Int) - 1) = nth (0 :: l) k := by
  cases k with
  | zero => rw [nth_cons_zero]; unfold stat; rw [if_neg (by omega)]
  | succ k => rw [nth_cons_succ, ← stat_nat]; congr 1; omega

set_option maxHeartbeats 800000 in
theorem stateAt_any (A : Option Addr) (n c : Nat) (l : List Int) (k : Int) (B : Nat) (w : World) (hs : Sl w B A n l) :
    Calls Try.prog 53 #[.slice A n c, .int .i64 k] w fun e w' => e = .returned (.int .i64 (stat l k)) ∧ w = w' := by
  have hm := hs.max
  have HL := hid hs.len
  by_cases h0 : k < 0
  · have he : stat l k = 0 := by unfold stat; rw [if_neg (by omega)]
    have HE := hid he; clear he
    go_enter Try.func53, Try.ntmps53
    go_wp2
    go_ret
    exact ⟨ret_int HE.out.symm, rfl⟩
  · have h0' : decide (k < 0) = false := by simpa using h0
    obtain ⟨k, rfl⟩ := Int.eq_ofNat_of_zero_le (show 0 ≤ k by omega)
    by_cases h1 : k < n
    · obtain ⟨bl, off, rfl, hbl, hc⟩ := hs.2.2 (by omega)
      have hck := hc k h1
      have h1' : decide ((n : Int) ≤ (k : Int)) = false := by simp; omega
      have h2' : (k : Int) < (n : Int) := by omega
      have HE := hid (stat_nat l k)
      clear hc
      go_enter Try.func53, Try.ntmps53
      go_wp2
      go_ret
      exact ⟨ret_int HE.out.symm, rfl⟩
    · have he : stat l k = 0 := by unfold stat; rw [if_neg (by rw [HL.out]; omega)]
      have HE := hid he; clear he
      go_enter Try.func53, Try.ntmps53
      go_wp2
      go_ret
      exact ⟨ret_int HE.out.symm, rfl⟩

theorem own_kept_drew {w w' : World} {B n : Nat} {v : Value} {e : TypeId} {xs : List Value} (h : w.ownsRow B e 1 v n xs) (hg : w.drew.grownBy w' none) : w'.ownsRow B e 1 v n xs := own_kept_none (w := w.drew) h hg

set_option maxHeartbeats 1600000 in
theorem nextOf_any (A A2 : Option Addr) (n c n2 c2 : Nat) (l r : List Int) (S : Nat) (w : World) (hs : Sl w w.heap.size A n l) (hs2 : Sl w w.heap.size A2 n2 r)
    (h1 : 1 ≤ S) (h4 : S ≤ 4) (hcl : Cells l S) (hn : n ≤ 40) (hn2 : n2 = S * S * S) :
    Calls Try.prog 52 #[.agg #[.slice A2 n2 c2, .int .i64 S], .slice A n c] w fun e w' => ∃ A3 c3, e = .returned (.slice A3 n c3) ∧ w'.ownsRow w.heap.size 3 1 (.slice A3 n c3) n (ints (stepL l r S)) ∧ Below w.heap.size w w' := by
  obtain ⟨i0, hi, hz0, hz1, hz2⟩ := info_parts info_int
  have hm2 := hs2.max
  have HL := hid hs.len
  have HN2 := hid hn2; clear hn2
  go_enter Try.func52, Try.ntmps52
  go_wp2_with (refine wpList_make_full _ rfl (.tmp 9) (.tmp 9) 23 rfl (w.heap.size + 1) 3 i0 _ 1 Try.underlying23 hi hz0 hz1 .i64 .i64 n n n rfl rfl rfl rfl (by rw [hz2]; omega) (by simp only [maxLen]; omega) (by simp) ?_; intro w1 o1 g1; rw [madeInts] at o1)
  have hsz : w.heap.size + 1 ≤ w1.heap.size := by have := g1.size; simpa using this
  have hbox : w1.heap[w.heap.size]? = some (.cells #[.slice A2 n2 c2, .int .i64 S] 53 (0, 0)) := (g1.block _ (by simp) (by simp)).trans (heap_alloc_new w _)
  have hbw : Below w.heap.size w w1 := ((Below.refl _ _).alloc (Nat.le_refl _) _).grown g1 (by simp) (by simp)
  clear g1
  rw [← filled_zero (stepL l r S) n] at o1
  simp only [World.size_alloc] at o1
  go_loopw [13] (fun i wr => ∃ k : Nat, i = .int .i64 k ∧ k ≤ n ∧ wr.ownsRow (w.heap.size + 1) 3 1 (.slice (some ⟨w.heap.size + 1, 0, none⟩) n n) n (ints (filled (stepL l r S) k n)) ∧ Below (w.heap.size + 1) w1 wr) (fun i _ => n - (intOf i).toNat)
  case atStart => exact ⟨0, rfl, Nat.zero_le _, o1, Below.refl _ _⟩
  case round =>
    obtain ⟨k, rfl, hk, hown, hb⟩ := hrel
    clear o1
    by_cases hlt : k < n
    · obtain ⟨a, b, d, e1, e2, e3, ha, hbb, hd, e4, e5⟩ := placed (k := k) h1 h4 hcl
      obtain ⟨i, hie⟩ : ∃ i : Nat, placeL l S k = i := ⟨_, rfl⟩
      rw [hie] at e4 e5
      have hx : nth (stepL l r S) k = nth r i := by rw [nth_stepL (by rw [HL.out]; exact hlt), hie]
      have hin : i < n2 := by rw [HN2.out]; exact e5
      have hbr : Below w.heap.size w wr := hbw.trans (hb.mono (by omega))
      have hsr := hs.on hbr
      have hs2r := hs2.on hbr
      obtain ⟨bl, off, rfl, hbl, hc⟩ := hsr.2.2 (by omega)
      have hck := hc k hlt
      rw [e2] at hck
      have f1 : stat l ((k : Int) - 1) = (a : Int) := by rw [stat_before, e1]
      have f2 : stat l ((k : Int) + 1) = (d : Int) := by rw [show ((k : Int) + 1) = ((k + 1 : Nat) : Int) from by omega, stat_nat, e3]
      obtain ⟨m1, m2, m3, m4, m5, m6, m7, m8⟩ := prod_bounds h4 ha hbb hd
      rw [← e4] at m5
      have hc0 : wr.cell? ⟨w.heap.size, 0, none⟩ = some (.slice A2 n2 c2) := cell_of_row wr _ 0 _ _ _ ((hb.block _ (by omega)).trans hbox)
      have hc1 : wr.cell? ⟨w.heap.size, 1, none⟩ = some (.int .i64 S) := cell_of_row wr _ 1 _ _ _ ((hb.block _ (by omega)).trans hbox)
      have HX := hid hx; clear hx
      have w1' : IntKind.i64.wrap ((k : Int) - 1) = (k : Int) - 1 := IntWalk.i64_in _ (by omega)
      have w2' : IntKind.i64.wrap ((k : Int) + 1) = (k : Int) + 1 := IntWalk.i64_in _ (by omega)
      clear e1 e2 e3 e4 hie hc
      go_wp2
      go_region_with (first | (go_at_call 53; refine (stateAt_any _ _ _ l _ _ _ (by exact hsr)).mono ?_; rintro e w' ⟨rfl, rfl⟩; rw [f1]) | (go_at_call 53; refine (stateAt_any _ _ _ l _ _ _ (by exact hsr)).mono ?_; rintro e w' ⟨rfl, rfl⟩; rw [f2]) | (go_at_call 46; refine (tells_any A2 n2 c2 r S a b d i _ _ (by exact hs2r) (by exact Nat.le_refl _) m5 hin m1 m2 m3 m4 (by omega) (by omega) (by omega) (by omega)).mono ?_; rintro e w5 ⟨rfl, hg5⟩; have hown5 := own_kept_drew hown hg5; have hcell5 := own_cell hown5 (by have := hown5.1; simpa using this) hlt; have hfz5 := hown5.frozenAt k))
      all_goals
        have hst5 := (hown5.stored k (.int .i64 (nth r i))).1
        rw [ints_set, ← HX.out, filled_step (by rw [stepL_len, HL.out]) hlt, HX.out] at hst5
        have HS := hid hst5
        have hb5 := (hb.drew.grown hg5 (by have := hb.size; simp; omega) (by simp)).setCell (p := ⟨w.heap.size + 1, k, none⟩) (Nat.le_refl _) (.int .i64 (nth r i))
        clear hst5 hown5 hown hg5 hcell5 hfz5 f1 f2 m5
        go_wp2
        go_roundw
        case rel => exact ⟨k + 1, by go_num, by omega, HS.out, hb5⟩
        case measure => simp [intOf]; omega
    · obtain rfl : k = n := by omega
      rw [filled_all (by rw [stepL_len, HL.out])] at hown
      have HO := hid hown; clear hown
      go_wp2
      go_ret
      exact ⟨_, _, rfl, own_mono HO.out (by omega), hbw.trans (hb.mono (by omega))⟩
end Go.Proofs.Ytnegbebfofcakaa
