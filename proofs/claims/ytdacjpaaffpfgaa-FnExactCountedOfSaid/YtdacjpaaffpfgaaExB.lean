/-
  Walks of the laws' helpers on slices of bools: toBoolS, eqBoolS, markBoolS. No statement is proved here.
-/
import Derived.Test.YtdacjpaaffpfgaaEx0
import Derived.Test.YtdacjpaaffpfgaaSb
namespace Go.Proofs.Ytdacjpaaffpfgaa
open Go.RowKit
set_option linter.unusedVariables false
set_option linter.unusedSimpArgs false

theorem info_bool : (Try.prog.info? 4).map (fun i => (i.zero, i.size, i.bytes)) = some (some (.bool false), 1, 1) := by kernel_rfl
def filledB (l : List Bool) (k n : Nat) : List Bool := l.take k ++ List.replicate (n - k) false
theorem filledB_zero (l : List Bool) (n : Nat) : filledB l 0 n = List.replicate n false := by simp [filledB]
theorem filledB_all {l : List Bool} {n : Nat} (h : l.length = n) : filledB l n n = l := by simp [filledB, List.take_of_length_le (Nat.le_of_eq h)]
theorem filledB_step {l : List Bool} {k n : Nat} (h : l.length = n) (hk : k < n) : (filledB l k n).set k (l.getD k false) = filledB l (k + 1) n := by
  unfold filledB
  rw [List.set_append_right _ _ (by simp; omega), take_bit (by omega)]
  have : n - k = (n - (k + 1)) + 1 := by omega
  rw [this, List.replicate_succ]
  simp [Nat.min_eq_left (show k ≤ l.length by omega)]
theorem bitsV_set (l : List Bool) (k : Nat) (x : Bool) : (bitsV l).set k (.bool x) = bitsV (l.set k x) := by simp [bitsV, List.map_set]
theorem madeBools (n : Nat) : (madeCells (Value.bool false).cells (n * 1)).toList = bitsV (List.replicate n false) := by
  simp only [madeCells, Value.cells, bitsV, List.map_replicate]
  apply List.ext_getElem?
  intro j
  by_cases h : j < n
  · simp [h, Nat.mod_one]
  · simp [show n ≤ j from by omega]
theorem row_ne {w : World} {B B2 n n2 : Nat} {u v : Value} {e e2 : TypeId} {xs ys : List Value} (h : w.ownsRow B e 1 u n xs) (h2 : w.ownsRow B2 e2 1 v n2 ys) (hT : e ≠ e2) : u.ownBlock = none ∨ u.ownBlock ≠ v.ownBlock := by
  rcases h.2 with ⟨h1, _⟩ | ⟨g, cap, cur, h1, _, h3, _⟩
  · left; rw [h1]; rfl
  · right
    intro hv
    rw [h1] at hv
    rcases h2.2 with ⟨k1, _⟩ | ⟨g2, cap2, cur2, k1, _, k3, _⟩
    · rw [k1] at hv; simp [Value.ownBlock] at hv
    · rw [k1] at hv
      simp [Value.ownBlock] at hv
      subst hv
      rw [h3] at k3
      injection k3 with k3
      injection k3 with _ k4
      exact hT k4
theorem bl_ne {w : World} {B B2 n n2 : Nat} {u v : Value} {e e2 : TypeId} {xs ys : List Value} (h : w.ownsRow B e 1 u n xs) (h2 : w.ownsRow B2 e2 1 v n2 ys) (hT : e ≠ e2) : u.ownBlock = none ∨ u.ownBlock ≠ v.ownBlock := row_ne h h2 hT
theorem bl_ne' {w : World} {B B2 n n2 : Nat} {u v : Value} {e e2 : TypeId} {xs ys : List Value} (h : w.ownsRow B e 1 u n xs) (h2 : w.ownsRow B2 e2 1 v n2 ys) (hT : e ≠ e2) : v.ownBlock = none ∨ v.ownBlock ≠ u.ownBlock := row_ne h2 h (fun e => hT e.symm)
theorem own_bit {w : World} {base g n c j : Nat} {e : TypeId} {l : List Bool} (h : w.ownsRow base e 1 (.slice (some ⟨g, 0, none⟩) n c) n (bitsV l)) (hl : l.length = n) (hj : j < n) :
    w.cell? ⟨g, j, none⟩ = some (.bool (l.getD j false)) := by
  rw [h.cellAt j (by omega)]
  simp [bitsV, List.getD, show j < l.length from by omega]

set_option maxHeartbeats 800000 in
/-- laws.toBoolS: a copy in new memory. -/
theorem toBoolS_any (A : Option Addr) (n c : Nat) (l : List Bool) (w : World) (hs : Sb w w.heap.size A n l) (hn : n ≤ 1000000000) :
    Calls Try.prog 40 #[.slice A n c] w fun e w' => ∃ g, e = .returned (.slice (some ⟨g, 0, none⟩) n n) ∧ w'.ownsRow w.heap.size 4 1 (.slice (some ⟨g, 0, none⟩) n n) n (bitsV l) ∧ Below w.heap.size w w' := by
  obtain ⟨i0, hi, hz0, hz1, hz2⟩ := info_parts info_bool
  have hm : n ≤ 9223372036854775807 := hs.2.1
  have hl := hs.1
  have HL := hid hl; clear hl
  go_enter Try.func40, Try.ntmps40
  go_wp2_with (refine wpList_make_full _ rfl (.tmp 6) (.tmp 6) 37 rfl w.heap.size 4 i0 _ 1 Try.underlying37 hi hz0 hz1 .i64 .i64 n n n rfl rfl rfl rfl (by rw [hz2]; omega) (by simp only [maxLen]; omega) (Nat.le_refl _) ?_; intro w1 hown1 hg1)
  rw [madeBools, ← filledB_zero l n] at hown1
  have hbw : Below w.heap.size w w1 := (Below.refl _ _).grown hg1 (Nat.le_refl _) (by simp)
  clear hg1 hi hz0 hz1 hz2
  go_loopw [4] (fun i wr => ∃ k : Nat, k ≤ n ∧ i = .int .i64 k ∧ wr.ownsRow w.heap.size 4 1 (.slice (some ⟨w.heap.size, 0, none⟩) n n) n (bitsV (filledB l k n)) ∧ Below w.heap.size w wr) (fun i _ => n - (intOf i).toNat)
  case atStart => exact ⟨0, Nat.zero_le _, rfl, hown1, hbw⟩
  case round =>
    obtain ⟨k, hk, rfl, hown, hb⟩ := hrel
    by_cases hlt : k < n
    · have hcell := own_bit hown (by have := hown.1; simpa [bitsV] using this) hlt
      have hfz := hown.frozenAt k
      obtain ⟨b, off, rfl, hbl, hc⟩ := (hs.below hb).2.2 (by omega)
      have hck := hc k hlt
      have hst := (hown.stored k (.bool (l.getD k false))).1
      rw [bitsV_set, filledB_step HL.out hlt] at hst
      have HS := hid hst
      clear hst hown hc hown1
      go_wp2
      go_roundw
      case rel => exact ⟨k + 1, by omega, by go_num, HS.out, hb.setCell (Nat.le_refl _) _⟩
      case measure => simp [intOf]; omega
    · obtain rfl : k = n := by omega
      rw [filledB_all HL.out] at hown
      have HO := hid hown; clear hown hown1
      go_wp2
      go_ret
      exact ⟨_, rfl, HO.out, hb⟩

set_option maxHeartbeats 800000 in
/-- laws.eqBoolS over two rows that read the same. -/
theorem eqBoolS_same (A : Option Addr) (n c : Nat) (A2 : Option Addr) (n2 c2 : Nat) (l : List Bool) (w : World) (B B2 : Nat) (h1 : w.ownsRow B 4 1 (.slice A n c) n (bitsV l)) (h2 : w.ownsRow B2 4 1 (.slice A2 n2 c2) n2 (bitsV l)) :
    Calls Try.prog 41 #[.slice A n c, .slice A2 n2 c2] w fun e w' => e = .returned (.bool true) ∧ Below w.heap.size w w' := by
  have hs := Sb.of_own h1
  have hs2 := Sb.of_own h2
  obtain rfl : n2 = n := by rw [← hs.1, ← hs2.1]
  have hm : n2 ≤ 9223372036854775807 := hs.2.1
  clear h1 h2
  have e1 : ((n2 : Int) != (n2 : Int)) = false := by simp
  go_enter Try.func41, Try.ntmps41
  go_wp2
  go_loopw [5] (fun i wr => ∃ k m : Nat, k ≤ n2 ∧ i = .int .i64 k ∧ wr = w.drewN m) (fun i _ => n2 - (intOf i).toNat)
  case atStart => exact ⟨0, 0, Nat.zero_le _, rfl, rfl⟩
  case round =>
    obtain ⟨k, m, hk, rfl, rfl⟩ := hrel
    by_cases hlt : k < n2
    · obtain ⟨b, off, rfl, _, hc⟩ := hs.2.2 (by omega)
      obtain ⟨b2, off2, rfl, _, hc2⟩ := hs2.2.2 (by omega)
      have hck := hc k hlt
      have hck2 := hc2 k hlt
      clear hc hc2
      have hlti : (k : Int) < (n2 : Int) := by omega
      have e2 : (l.getD k false != l.getD k false) = false := by simp
      have e3 : (l.getD k false == l.getD k false) = true := by simp
      obtain ⟨x, hx⟩ : ∃ x, l.getD k false = x := ⟨_, rfl⟩
      rw [hx] at hck hck2 e2 e3
      clear hx
      go_wp2
      go_quiet (fail)
      go_wp2
      go_roundw
      case rel => exact ⟨k + 1, _, by omega, by go_num, rfl⟩
      case measure => simp [intOf]; omega
    · go_wp2
      go_ret
      exact ⟨rfl, below_drewN (Below.refl _ _) _⟩

set_option maxHeartbeats 800000 in
/-- laws.markBoolS: writes into a row that the call owns. -/
theorem markBoolS_any (A : Option Addr) (n c base : Nat) (l : List Bool) (k0 : Int) (w : World) (ho : w.ownsRow base 4 1 (.slice A n c) n (bitsV l)) (hk0 : 0 ≤ k0) (hk1 : k0 + n ≤ 9223372036854775807) (hb : base ≤ w.heap.size) :
    Calls Try.prog 42 #[.slice A n c, .int .i64 k0] w fun e w' => ∃ kb, e = .returned (.int .i64 kb) ∧ 0 ≤ kb ∧ w.grownBy w' (Value.slice A n c).ownBlock := by
  have hm : n ≤ 9223372036854775807 := (Sb.of_own ho).2.1
  go_enter Try.func42, Try.ntmps42
  go_wp2
  go_loopw [1, 5] (fun x i wr => ∃ (k : Nat) (ts : List Bool), k ≤ n ∧ i = .int .i64 k ∧ x = .int .i64 (k0 + k) ∧ wr.ownsRow base 4 1 (.slice A n c) n (bitsV ts) ∧ w.grownBy wr (Value.slice A n c).ownBlock) (fun _ i _ => n - (intOf i).toNat)
  case atStart => exact ⟨0, l, Nat.zero_le _, rfl, by simp, ho, World.grownBy.refl _ _⟩
  case round =>
    obtain ⟨k, ts, hk, rfl, rfl, hown, hg⟩ := hrel
    by_cases hlt : k < n
    · have hown2 := hown
      rcases hown2.2 with ⟨h1, h2⟩ | ⟨g, cap, cur, hv, hbg, hgg, hnc, hcm, hsz, ht⟩
      · omega
      · injection hv with h1 h2 h3
        subst h1
        subst h3
        clear hown2 hgg ht hsz h2
        have hcell := own_bit hown (by have := hown.1; simpa [bitsV] using this) hlt
        have hfz := hown.frozenAt k
        have hst := hown.stored k (.bool ((k0 + (k : Int)) % 3 == 0))
        obtain ⟨hst1, hst2⟩ := hst
        rw [bitsV_set] at hst1
        have HS := hid hst1
        have HG := hid (hg.trans hst2)
        clear hst1 hst2 hown ho
        go_wp2
        go_roundw
        case rel => exact ⟨k + 1, _, by omega, by go_num, by go_num, HS.out, HG.out⟩
        case measure => simp [intOf]; omega
    · obtain rfl : k = n := by omega
      have HG := hid hg; clear hg
      go_wp2
      go_ret
      exact ⟨_, rfl, by omega, HG.out⟩
end Go.Proofs.Ytdacjpaaffpfgaa
