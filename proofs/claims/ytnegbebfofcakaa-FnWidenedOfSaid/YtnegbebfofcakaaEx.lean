/-
  Walks of the laws' own helpers over slices of int: copies, equality, marks. No statement is proved here.
-/
import Derived.Test.YtnegbebfofcakaaProg
import Derived.Test.YtnegbebfofcakaaMem
import Derived.Deep.QuietTactic
import Derived.BigQuiet
namespace Go.Proofs.Ytnegbebfofcakaa
open Go.RowKit
set_option linter.unusedVariables false
set_option linter.unusedSimpArgs false

theorem info_int : (Try.prog.info? 3).map (fun i => (i.zero, i.size, i.bytes)) = some (some (.int .i64 0), 1, 8) := by kernel_rfl

abbrev ints (l : List Int) : List Value := l.map (Value.int .i64)

def filled (l : List Int) (k n : Nat) : List Int := l.take k ++ List.replicate (n - k) 0
theorem filled_zero (l : List Int) (n : Nat) : filled l 0 n = List.replicate n 0 := by simp [filled]
theorem filled_all {l : List Int} {n : Nat} (h : l.length = n) : filled l n n = l := by simp [filled, List.take_of_length_le (Nat.le_of_eq h)]
theorem filled_step {l : List Int} {k n : Nat} (h : l.length = n) (hk : k < n) : (filled l k n).set k (nth l k) = filled l (k + 1) n := by
  unfold filled
  rw [List.set_append_right _ _ (by simp; omega), take_nth (by omega)]
  have : n - k = (n - (k + 1)) + 1 := by omega
  rw [this, List.replicate_succ]
  simp [Nat.min_eq_left (show k ≤ l.length by omega)]

theorem ints_set (l : List Int) (k : Nat) (x : Int) : (ints l).set k (.int .i64 x) = ints (l.set k x) := by simp [ints, List.map_set]
theorem madeInts (n : Nat) : (madeCells (Value.int .i64 0).cells (n * 1)).toList = ints (List.replicate n 0) := by
  simp only [madeCells, Value.cells, ints, List.map_replicate]
  apply List.ext_getElem?
  intro j
  by_cases h : j < n
  · simp [h, Nat.mod_one]
  · simp [show n ≤ j from by omega]

/-- What a row of ints that the call owns gives to a store: the cell is there, and is not frozen. -/
theorem own_cell {w : World} {base g n c j : Nat} {e : TypeId} {l : List Int} (h : w.ownsRow base e 1 (.slice (some ⟨g, 0, none⟩) n c) n (ints l)) (hl : l.length = n) (hj : j < n) :
    w.cell? ⟨g, j, none⟩ = some (.int .i64 (nth l j)) := by
  rw [h.cellAt j (by omega)]
  simp [nth, List.getD, show j < l.length from by omega]

set_option maxHeartbeats 800000 in
/-- laws.toIntS: a copy in new memory. -/
theorem toIntS_any (A : Option Addr) (n c : Nat) (l : List Int) (w : World) (hs : Sl w w.heap.size A n l) (hn : n * 8 ≤ 140737488355328) :
    Calls Try.prog 19 #[.slice A n c] w fun e w' => ∃ g, e = .returned (.slice (some ⟨g, 0, none⟩) n n) ∧ w'.ownsRow w.heap.size 3 1 (.slice (some ⟨g, 0, none⟩) n n) n (ints l) ∧ Below w.heap.size w w' := by
  obtain ⟨i0, hi, hz0, hz1, hz2⟩ := info_parts info_int
  have hm := hs.max
  have hl := hs.len
  have HL := hid hl; clear hl
  go_enter Try.func19, Try.ntmps19
  go_wp2_with (refine wpList_make_full _ rfl (.tmp 6) (.tmp 6) 23 rfl w.heap.size 3 i0 _ 1 Try.underlying23 hi hz0 hz1 .i64 .i64 n n n rfl rfl rfl rfl (by rw [hz2]; omega) (by simp only [maxLen]; omega) (Nat.le_refl _) ?_; intro w1 hown1 hg1)
  rw [madeInts, ← filled_zero l n] at hown1
  have hbw : Below w.heap.size w w1 := (Below.refl _ _).grown hg1 (Nat.le_refl _) (by simp)
  clear hg1 hi hz0 hz1 hz2
  go_loopw [4] (fun i wr => ∃ k : Nat, k ≤ n ∧ i = .int .i64 k ∧ wr.ownsRow w.heap.size 3 1 (.slice (some ⟨w.heap.size, 0, none⟩) n n) n (ints (filled l k n)) ∧ Below w.heap.size w wr) (fun i _ => n - (intOf i).toNat)
  case atStart => exact ⟨0, Nat.zero_le _, rfl, hown1, hbw⟩
  case round =>
    obtain ⟨k, hk, rfl, hown, hb⟩ := hrel
    by_cases hlt : k < n
    · have hcell := own_cell hown (by have := hown.1; simpa using this) hlt
      have hfz := hown.frozenAt k
      obtain ⟨b, off, rfl, hbl, hc⟩ := (hs.below hb).2.2 (by omega)
      have hck := hc k hlt
      have hst := (hown.stored k (.int .i64 (nth l k))).1
      rw [ints_set, filled_step HL.out hlt] at hst
      have HS := hid hst
      clear hst hown hc hown1
      go_wp2
      go_roundw
      case rel => exact ⟨k + 1, by omega, by go_num, HS.out, hb.setCell (Nat.le_refl _) _⟩
      case measure => simp [intOf]; omega
    · obtain rfl : k = n := by omega
      rw [filled_all HL.out] at hown
      have HO := hid hown; clear hown hown1
      go_wp2
      go_ret
      exact ⟨_, rfl, HO.out, hb⟩

set_option maxHeartbeats 800000 in
/-- laws.eqIntS: whether two lists are equal. -/
theorem eqIntS_any (A A2 : Option Addr) (n c n2 c2 : Nat) (l l2 : List Int) (w : World) (B B2 : Nat) (hs : Sl w B A n l) (hs2 : Sl w B2 A2 n2 l2) :
    Calls Try.prog 20 #[.slice A n c, .slice A2 n2 c2] w fun e w' => e = .returned (.bool (decide (l = l2))) ∧ ∃ m, w' = w.drewN m := by
  have hm := hs.max
  have hm2 := hs2.max
  have hl := hs.len
  have hl2 := hs2.len
  by_cases hne : n = n2
  · subst hne
    have HL := hid hl; clear hl
    have HL2 := hid hl2; clear hl2
    have e1 : ((n : Int) != (n : Int)) = false := by simp
    go_enter Try.func20, Try.ntmps20
    go_wp2
    go_loopw [5] (fun i wr => ∃ k m : Nat, k ≤ n ∧ i = .int .i64 k ∧ wr = w.drewN m ∧ l.take k = l2.take k) (fun i _ => n - (intOf i).toNat)
    case atStart => exact ⟨0, 0, Nat.zero_le _, rfl, rfl, rfl⟩
    case round =>
      obtain ⟨k, m, hk, rfl, rfl, htk⟩ := hrel
      have HT := hid htk; clear htk
      by_cases hlt : k < n
      · obtain ⟨b, off, rfl, _, hc⟩ := hs.2.2 (by omega)
        obtain ⟨b2, off2, rfl, _, hc2⟩ := hs2.2.2 (by omega)
        have hck := hc k hlt
        have hck2 := hc2 k hlt
        clear hc hc2
        have hlti : (k : Int) < (n : Int) := by omega
        have t1 := take_nth (l := l) (k := k) (by rw [HL.out]; exact hlt)
        have t2 := take_nth (l := l2) (k := k) (by rw [HL2.out]; exact hlt)
        have T1 := hid t1; clear t1
        have T2 := hid t2; clear t2
        by_cases heq : nth l k = nth l2 k
        · have HE := hid heq
          have heb : (nth l k != nth l2 k) = false := by simp [heq]
          have heb2 : (nth l k == nth l2 k) = true := by simp [heq]
          clear heq
          go_wp2
          go_quiet (fail)
          go_wp2
          go_roundw
          case rel => exact ⟨k + 1, _, by omega, by go_num, rfl, by rw [T1.out, T2.out, HT.out, HE.out]⟩
          case measure => simp [intOf]; omega
        · have heb : (nth l k != nth l2 k) = true := by simp [heq]
          have heb2 : (nth l k == nth l2 k) = false := by simp [heq]
          have HE := hid heq; clear heq
          go_wp2
          go_quiet (fail)
          go_wp2
          go_ret
          refine ⟨ret_bool ?_, _, World.drewN_drewN _ _ _⟩
          symm
          rw [decide_eq_false_iff_not]
          rintro rfl
          exact HE.out rfl
      · go_wp2
        go_ret
        refine ⟨ret_bool ?_, _, rfl⟩
        symm
        rw [decide_eq_true_iff]
        have := HT.out
        rwa [List.take_of_length_le (by rw [HL.out]; omega), List.take_of_length_le (by rw [HL2.out]; omega)] at this
  · have e1 : ((n : Int) != (n2 : Int)) = true := by simp; omega
    have e2 : ((n : Int) == (n2 : Int)) = false := by simp; omega
    have hfin : decide (l = l2) = false := by
      rw [decide_eq_false_iff_not]
      rintro rfl
      omega
    have HF := hid hfin; clear hfin hl hl2 hne
    go_enter Try.func20, Try.ntmps20
    go_wp2
    go_ret
    exact ⟨ret_bool HF.out.symm, 0, rfl⟩

set_option maxHeartbeats 800000 in
/-- laws.sameInts: whether two lists are equal. -/
theorem sameInts_any (A A2 : Option Addr) (n c n2 c2 : Nat) (l l2 : List Int) (w : World) (B B2 : Nat) (hs : Sl w B A n l) (hs2 : Sl w B2 A2 n2 l2) :
    Calls Try.prog 27 #[.slice A n c, .slice A2 n2 c2] w fun e w' => e = .returned (.bool (decide (l = l2))) ∧ ∃ m, w' = w.drewN m := by
  have hm := hs.max
  have hm2 := hs2.max
  have hl := hs.len
  have hl2 := hs2.len
  by_cases hne : n = n2
  · subst hne
    have HL := hid hl; clear hl
    have HL2 := hid hl2; clear hl2
    have e1 : ((n : Int) != (n : Int)) = false := by simp
    go_enter Try.func27, Try.ntmps27
    go_wp2
    go_loopw [5] (fun i wr => ∃ k m : Nat, k ≤ n ∧ i = .int .i64 k ∧ wr = w.drewN m ∧ l.take k = l2.take k) (fun i _ => n - (intOf i).toNat)
    case atStart => exact ⟨0, 0, Nat.zero_le _, rfl, rfl, rfl⟩
    case round =>
      obtain ⟨k, m, hk, rfl, rfl, htk⟩ := hrel
      have HT := hid htk; clear htk
      by_cases hlt : k < n
      · obtain ⟨b, off, rfl, _, hc⟩ := hs.2.2 (by omega)
        obtain ⟨b2, off2, rfl, _, hc2⟩ := hs2.2.2 (by omega)
        have hck := hc k hlt
        have hck2 := hc2 k hlt
        clear hc hc2
        have hlti : (k : Int) < (n : Int) := by omega
        have t1 := take_nth (l := l) (k := k) (by rw [HL.out]; exact hlt)
        have t2 := take_nth (l := l2) (k := k) (by rw [HL2.out]; exact hlt)
        have T1 := hid t1; clear t1
        have T2 := hid t2; clear t2
        by_cases heq : nth l k = nth l2 k
        · have HE := hid heq
          have heb : (nth l k != nth l2 k) = false := by simp [heq]
          have heb2 : (nth l k == nth l2 k) = true := by simp [heq]
          clear heq
          go_wp2
          go_quiet (fail)
          go_wp2
          go_roundw
          case rel => exact ⟨k + 1, _, by omega, by go_num, rfl, by rw [T1.out, T2.out, HT.out, HE.out]⟩
          case measure => simp [intOf]; omega
        · have heb : (nth l k != nth l2 k) = true := by simp [heq]
          have heb2 : (nth l k == nth l2 k) = false := by simp [heq]
          have HE := hid heq; clear heq
          go_wp2
          go_quiet (fail)
          go_wp2
          go_ret
          refine ⟨ret_bool ?_, _, World.drewN_drewN _ _ _⟩
          symm
          rw [decide_eq_false_iff_not]
          rintro rfl
          exact HE.out rfl
      · go_wp2
        go_ret
        refine ⟨ret_bool ?_, _, rfl⟩
        symm
        rw [decide_eq_true_iff]
        have := HT.out
        rwa [List.take_of_length_le (by rw [HL.out]; omega), List.take_of_length_le (by rw [HL2.out]; omega)] at this
  · have e1 : ((n : Int) != (n2 : Int)) = true := by simp; omega
    have e2 : ((n : Int) == (n2 : Int)) = false := by simp; omega
    have hfin : decide (l = l2) = false := by
      rw [decide_eq_false_iff_not]
      rintro rfl
      omega
    have HF := hid hfin; clear hfin hl hl2 hne
    go_enter Try.func27, Try.ntmps27
    go_wp2
    go_ret
    exact ⟨ret_bool HF.out.symm, 0, rfl⟩


def marks (k : Int) (n : Nat) : List Int := (List.range n).map fun (j : Nat) => k + j
theorem marks_len (k : Int) (n : Nat) : (marks k n).length = n := by simp [marks]
theorem nth_marks (k : Int) {n j : Nat} (h : j < n) : nth (marks k n) j = k + j := by simp [nth, marks, List.getD, h]

def marked (l : List Int) (k : Int) (i : Nat) : List Int := marks k i ++ l.drop i
theorem marked_zero (l : List Int) (k : Int) : marked l k 0 = l := by simp [marked, marks]
theorem marked_len {l : List Int} {k : Int} {i n : Nat} (h : l.length = n) (hi : i ≤ n) : (marked l k i).length = n := by simp [marked, marks]; omega
theorem marked_all {l : List Int} {k : Int} {n : Nat} (h : l.length = n) : marked l k n = marks k n := by simp [marked, List.drop_of_length_le (Nat.le_of_eq h)]
theorem marked_step {l : List Int} {k : Int} {i n : Nat} (h : l.length = n) (hi : i < n) : (marked l k i).set i (k + i) = marked l k (i + 1) := by
  unfold marked marks
  rw [List.set_append_right _ _ (by simp), List.range_succ, List.map_append, List.append_assoc]
  congr 1
  simp only [List.length_map, List.length_range, Nat.sub_self]
  rw [show l.drop i = l[i]'(by omega) :: l.drop (i + 1) from List.drop_eq_getElem_cons (by omega)]
  rfl

set_option maxHeartbeats 800000 in
/-- laws.markIntS: writes k, k+1 .. into a row that the call owns. -/
theorem markIntS_any (A : Option Addr) (n c base : Nat) (l : List Int) (k0 : Int) (w : World) (ho : w.ownsRow base 3 1 (.slice A n c) n (ints l)) (hk0 : 0 ≤ k0) (hk1 : k0 + n ≤ 9223372036854775807) (hb : base ≤ w.heap.size) :
    Calls Try.prog 29 #[.slice A n c, .int .i64 k0] w fun e w' => e = .returned (.int .i64 (k0 + n)) ∧ w'.ownsRow base 3 1 (.slice A n c) n (ints (marks k0 n)) ∧ w.grownBy w' (Value.slice A n c).ownBlock := by
  have hl : l.length = n := by have := ho.1; simpa using this
  have HL := hid hl; clear hl
  go_enter Try.func29, Try.ntmps29
  go_wp2
  go_loopw [1, 5] (fun x i wr => ∃ k : Nat, k ≤ n ∧ i = .int .i64 k ∧ x = .int .i64 (k0 + k) ∧ wr.ownsRow base 3 1 (.slice A n c) n (ints (marked l k0 k)) ∧ w.grownBy wr (Value.slice A n c).ownBlock) (fun _ i _ => n - (intOf i).toNat)
  case atStart => exact ⟨0, Nat.zero_le _, rfl, by simp, by rw [marked_zero]; exact ho, World.grownBy.refl _ _⟩
  case round =>
    obtain ⟨k, hk, rfl, rfl, hown, hg⟩ := hrel
    by_cases hlt : k < n
    · have hown2 := hown
      rcases hown2.2 with ⟨h1, h2⟩ | ⟨g, cap, cur, hv, hbg, hgg, hnc, hcm, hsz, ht⟩
      · omega
      · injection hv with h1 h2 h3
        subst h1
        subst h3
        clear hown2 hgg ht hsz h2
        have hcell := own_cell hown (marked_len HL.out hk) hlt
        have hfz := hown.frozenAt k
        have hst := hown.stored k (.int .i64 (k0 + k))
        obtain ⟨hst1, hst2⟩ := hst
        rw [ints_set, marked_step HL.out hlt] at hst1
        have HS := hid hst1
        have HG := hid (hg.trans hst2)
        clear hst1 hst2 hown ho
        go_wp2
        go_roundw
        case rel => exact ⟨k + 1, by omega, by go_num, by go_num, HS.out, HG.out⟩
        case measure => simp [intOf]; omega
    · obtain rfl : k = n := by omega
      rw [marked_all HL.out] at hown
      have HO := hid hown; clear hown ho
      have HG := hid hg; clear hg
      go_wp2
      go_ret
      exact ⟨rfl, HO.out, HG.out⟩

set_option maxHeartbeats 800000 in
/-- laws.heldIntS: whether the marks are still there. -/
theorem heldIntS_any (A : Option Addr) (n c : Nat) (k0 : Int) (w : World) (B : Nat) (hs : Sl w B A n (marks k0 n)) (hk0 : 0 ≤ k0) (hk1 : k0 + n ≤ 9223372036854775807) :
    Calls Try.prog 30 #[.slice A n c, .int .i64 k0] w fun e w' => e = .returned (.int .i64 (k0 + n)) ∧ w = w' := by
  go_enter Try.func30, Try.ntmps30
  go_wp2
  go_loop [1, 5] (fun x i => ∃ k : Nat, k ≤ n ∧ i = .int .i64 k ∧ x = .int .i64 (k0 + k)) (fun _ i => n - (intOf i).toNat)
  case atStart => exact ⟨0, Nat.zero_le _, rfl, by simp⟩
  case round =>
    obtain ⟨k, hk, rfl, rfl⟩ := hrel
    by_cases hlt : k < n
    · obtain ⟨b, off, rfl, _, hc⟩ := hs.2.2 (by omega)
      have hck := hc k hlt
      rw [nth_marks _ hlt] at hck
      clear hc
      have e1 : (k0 + (k : Int) != k0 + (k : Int)) = false := by simp
      go_wp2
      go_round
      case rel => exact ⟨k + 1, by omega, by go_num, by go_num⟩
      case measure => simp [intOf]; omega
    · obtain rfl : k = n := by omega
      go_wp2
      go_ret
      exact ⟨rfl, rfl⟩

theorem eqIntS_b (A A2 : Option Addr) (n c n2 c2 : Nat) (l l2 : List Int) (w : World) (B B2 : Nat) (hs : Sl w B A n l) (hs2 : Sl w B2 A2 n2 l2) :
    Calls Try.prog 20 #[.slice A n c, .slice A2 n2 c2] w fun e w' => e = .returned (.bool (decide (l = l2))) ∧ Below w.heap.size w w' :=
  (eqIntS_any A A2 n c n2 c2 l l2 w B B2 hs hs2).mono fun e w' ⟨h, m, hm⟩ => ⟨h, hm ▸ below_drewN (Below.refl _ _) m⟩
theorem sameInts_b (A A2 : Option Addr) (n c n2 c2 : Nat) (l l2 : List Int) (w : World) (B B2 : Nat) (hs : Sl w B A n l) (hs2 : Sl w B2 A2 n2 l2) :
    Calls Try.prog 27 #[.slice A n c, .slice A2 n2 c2] w fun e w' => e = .returned (.bool (decide (l = l2))) ∧ Below w.heap.size w w' :=
  (sameInts_any A A2 n c n2 c2 l l2 w B B2 hs hs2).mono fun e w' ⟨h, m, hm⟩ => ⟨h, hm ▸ below_drewN (Below.refl _ _) m⟩
theorem own_on {w w' : World} {B n : Nat} {v : Value} {e : TypeId} {xs : List Value} (h : w.ownsRow B e 1 v n xs) (hb : Below w.heap.size w w') : w'.ownsRow B e 1 v n xs := by
  refine ⟨h.1, ?_⟩
  rcases h.2 with h2 | ⟨g, cap, cur, h1, h2, h3, h4⟩
  · exact .inl h2
  · refine .inr ⟨g, cap, cur, h1, h2, (hb.block g ?_).trans h3, h4⟩
    rcases Nat.lt_or_ge g w.heap.size with hlt | hge
    · exact hlt
    · rw [Array.getElem?_eq_none hge] at h3; cases h3
theorem own_lo {w : World} {B n : Nat} {v : Value} {e : TypeId} {xs : List Value} (h : w.ownsRow B e 1 v n xs) : ∀ k, v.ownBlock = some k → B ≤ k := fun k hk => (h.lt k hk).1
theorem own_hi {w : World} {B n : Nat} {v : Value} {e : TypeId} {xs : List Value} (h : w.ownsRow B e 1 v n xs) : ∀ k, v.ownBlock = some k → k < w.heap.size := fun k hk => (h.lt k hk).2
theorem own_apart {u v : Value} {lu hu lv hv : Nat} (h1 : ∀ k, u.ownBlock = some k → lu ≤ k) (h2 : ∀ k, u.ownBlock = some k → k < hu) (h3 : ∀ k, v.ownBlock = some k → lv ≤ k) (h4 : ∀ k, v.ownBlock = some k → k < hv)
    (h : hu ≤ lv ∨ hv ≤ lu) : u.ownBlock = none ∨ u.ownBlock ≠ v.ownBlock := by
  rcases hb : u.ownBlock with _ | k
  · exact .inl rfl
  · refine .inr fun e => ?_
    have a1 := h1 k hb
    have a2 := h2 k hb
    have a3 := h3 k e.symm
    have a4 := h4 k e.symm
    omega
end Go.Proofs.Ytnegbebfofcakaa
