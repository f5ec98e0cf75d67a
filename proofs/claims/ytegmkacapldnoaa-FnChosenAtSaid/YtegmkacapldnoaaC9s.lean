/-
  Messages that go round a ring: lists of places and numbers, and what is sent in each step. Walks of the program's ownNumbers, to and sentOn. No statement is proved here.
-/
import Derived.Test.YtegmkacapldnoaaC9h
import Derived.Test.YtegmkacapldnoaaC9c
namespace Go.Proofs.Ytegmkacapldnoaa
open Go.RowKit
set_option linter.unusedVariables false
set_option linter.unusedSimpArgs false

/-- The cells of a list of messages. -/
def flat : List (Int × Int) → List Int
  | [] => []
  | a :: l => a.1 :: a.2 :: flat l
theorem flat_len : ∀ l, (flat l).length = 2 * l.length
  | [] => rfl
  | a :: l => by simp only [flat, List.length_cons, flat_len l]; omega
theorem flat_append : ∀ a b, flat (a ++ b) = flat a ++ flat b
  | [], b => rfl
  | x :: a, b => by simp only [List.cons_append, flat, flat_append a b]
theorem nth_cons_succ (a : Int) (l : List Int) (k : Nat) : nth (a :: l) (k + 1) = nth l k := by simp [nth]
theorem nth_flat0 : ∀ (l : List (Int × Int)) (k : Nat), nth (flat l) (k * 2) = (l.getD k (0, 0)).1
  | [], k => by simp [flat, nth]
  | a :: l, 0 => by simp [flat, nth]
  | a :: l, k + 1 => by
    rw [show (k + 1) * 2 = k * 2 + 1 + 1 by omega]
    simp only [flat, nth_cons_succ]
    rw [nth_flat0 l k]
    simp
theorem nth_flat1 : ∀ (l : List (Int × Int)) (k : Nat), nth (flat l) (k * 2 + 1) = (l.getD k (0, 0)).2
  | [], k => by simp [flat, nth]
  | a :: l, 0 => by simp [flat, nth]
  | a :: l, k + 1 => by
    rw [show (k + 1) * 2 + 1 = k * 2 + 1 + 1 + 1 by omega]
    simp only [flat, nth_cons_succ]
    rw [nth_flat1 l k]
    simp
/-- The slice value '.slice A n c' reads as the list of messages l in the world w, below block B. -/
def SlD (w : World) (B : Nat) (A : Option Addr) (n : Nat) (l : List (Int × Int)) : Prop :=
  l.length = n ∧ n ≤ maxLen ∧ (0 < n → ∃ b off, A = some ⟨b, off, none⟩ ∧ b < B ∧ ∀ j, j < 2 * n → w.cell? ⟨b, off + j, none⟩ = some (.int .i64 (nth (flat l) j)))
section
variable {w w' : World} {B B' n : Nat} {A : Option Addr} {l : List (Int × Int)}
theorem SlD.len (h : SlD w B A n l) : l.length = n := h.1
theorem SlD.max (h : SlD w B A n l) : n ≤ 9223372036854775807 := h.2.1
theorem SlD.nil (w : World) (B : Nat) : SlD w B none 0 [] := ⟨rfl, by simp [maxLen], fun h => absurd h (by omega)⟩
theorem SlD.keep (h : SlD w B A n l) (hB : B ≤ B') (hk : ∀ p : Addr, p.block < B → w'.cell? p = w.cell? p) : SlD w' B' A n l :=
  ⟨h.1, h.2.1, fun hn => by
    obtain ⟨b, off, e, hb, hc⟩ := h.2.2 hn
    exact ⟨b, off, e, by omega, fun j hj => (hk _ hb).trans (hc j hj)⟩⟩
theorem SlD.more (h : SlD w B A n l) (hB : B ≤ B') : SlD w B' A n l := h.keep hB fun _ _ => rfl
theorem SlD.below (h : SlD w B A n l) (hb : Below B w w') : SlD w' B A n l := h.keep (Nat.le_refl _) fun _ hp => hb.cell hp
theorem SlD.on (h : SlD w w.heap.size A n l) (hb : Below w.heap.size w w') : SlD w' w'.heap.size A n l := (h.below hb).more hb.size
theorem SlD.of_own {base : Nat} {c : Nat} {e : TypeId} (h : w.ownsRow base e 2 (.slice A n c) n (ints (flat l))) : SlD w w.heap.size A n l := by
  have hl : l.length = n := by have := h.1; simp only [ints, List.length_map, flat_len] at this; omega
  rcases h.2 with ⟨h1, h2⟩ | ⟨g, cap, cur, hv, hb, hg, hnc, hcm, hs, ht⟩
  · injection h1 with h1 h3
    subst h1; subst h3
    obtain rfl := List.eq_nil_of_length_eq_zero hl
    exact SlD.nil _ _
  · injection hv with h1 h2 h3
    subst h1; subst h3
    refine ⟨hl, Nat.le_trans hnc hcm, fun hn => ⟨g, 0, rfl, ?_, fun j hj => ?_⟩⟩
    · rcases Nat.lt_or_ge g w.heap.size with hlt | hge
      · exact hlt
      · rw [Array.getElem?_eq_none hge] at hg; cases hg
    · have hj2 : j < (flat l).length := by rw [flat_len]; omega
      rw [World.ownsRow.cellAt h (0 + j) (by omega)]
      simp [nth, List.getD, hj2]
end


def msgV (a : Int × Int) : Value := .agg #[.int .i64 a.1, .int .i64 a.2]
theorem info_msg : (Try.prog.info? 49).map (fun i => (i.zero, i.size, i.bytes)) = some (some (msgV (0, 0)), 2, 16) := by kernel_rfl
theorem madeMsgs (n : Nat) : (madeCells (msgV (0, 0)).cells (n * 2)).toList = ints (List.replicate (n * 2) 0) := by
  simp only [madeCells, msgV, Value.cells, ints, List.map_replicate]
  apply List.ext_getElem?
  intro j
  by_cases h : j < n * 2
  · rcases Nat.mod_two_eq_zero_or_one j with h2 | h2 <;> simp [h, h2]
  · simp [show n * 2 ≤ j from by omega]
theorem own_cell2 {w : World} {base g n c j : Nat} {e : TypeId} {l : List Int} (h : w.ownsRow base e 2 (.slice (some ⟨g, 0, none⟩) n c) n (ints l)) (hl : l.length = n * 2) (hj : j < n * 2) :
    w.cell? ⟨g, j, none⟩ = some (.int .i64 (nth l j)) := by
  rw [h.cellAt j (by omega)]
  simp [nth, List.getD, show j < l.length from by omega]
theorem filled_len (l : List Int) {k n : Nat} (h : l.length = n) (hk : k ≤ n) : (filled l k n).length = n := by simp [filled]; omega
theorem flat_len2 (l : List (Int × Int)) : (flat l).length = l.length * 2 := by rw [flat_len]; omega
theorem own_blk2 {w : World} {B n : Nat} {A : Option Addr} {c : Nat} {e : TypeId} {sz : Nat} {xs : List Value} (h : w.ownsRow B e sz (.slice A n c) n xs) :
    (Value.slice A n c).ownBlock = none ∨ ∃ k, (Value.slice A n c).ownBlock = some k ∧ B ≤ k := by
  rcases hb : (Value.slice A n c).ownBlock with _ | k
  · exact .inl rfl
  · exact .inr ⟨k, rfl, (h.lt k hb).1⟩
theorem own_on2 {w w' : World} {B n : Nat} {v : Value} {e : TypeId} {sz : Nat} {xs : List Value} (h : w.ownsRow B e sz v n xs) (hb : Below w.heap.size w w') : w'.ownsRow B e sz v n xs := by
  refine ⟨h.1, ?_⟩
  rcases h.2 with h2 | ⟨g, cap, cur, h1, h2, h3, h4⟩
  · exact .inl h2
  · refine .inr ⟨g, cap, cur, h1, h2, (hb.block g ?_).trans h3, h4⟩
    rcases Nat.lt_or_ge g w.heap.size with hlt | hge
    · exact hlt
    · rw [Array.getElem?_eq_none hge] at h3; cases h3
theorem ints_flat_snoc (l : List (Int × Int)) (a : Int × Int) : ints (flat l) ++ [.int .i64 a.1, .int .i64 a.2] = ints (flat (l ++ [a])) := by rw [flat_append]; simp [ints, flat]
theorem cells_new9 (w : World) (cs : List Value) (t : TypeId) : ∀ (j : Nat) (u : Value), cs[j]? = some u → (w.alloc (.cells cs.toArray t)).cell? ((⟨w.heap.size, 0, none⟩ : Addr).add j) = some u := by
  intro j u hu
  have e3 : (⟨w.heap.size, 0, none⟩ : Addr).add j = ⟨w.heap.size, j, none⟩ := by
    unfold Addr.add
    by_cases h0 : j = 0 <;> simp [h0]
  rw [e3, cell_of_row _ _ _ _ _ _ (heap_alloc_new w _)]
  simpa using hu

/-- The message of a machine's number after s steps: who sends it, and the number. -/
def msgAt (l : List Int) (s j : Nat) : Int × Int := ((((j + s) % l.length : Nat) : Int), rf l j)
/-- All messages of a step. -/
def msgs (l : List Int) (s : Nat) : List (Int × Int) := ((List.range l.length).filter (fun j => surv l j s)).map (msgAt l s)
/-- Whether a message is sent on. -/
def goesOn (l : List Int) (m : Int × Int) : Bool := decide (nth l ((m.1.toNat + 1) % l.length) < m.2)
def onward (l : List Int) (m : Int × Int) : Int × Int := ((((m.1.toNat + 1) % l.length : Nat) : Int), m.2)
def nextOf (l : List Int) (ms : List (Int × Int)) : List (Int × Int) := (ms.filter (goesOn l)).map (onward l)
theorem next_append (l : List Int) (a b : List (Int × Int)) : nextOf l (a ++ b) = nextOf l a ++ nextOf l b := by simp [nextOf]
theorem msgAt_on (l : List Int) (h0 : 0 < l.length) (s j : Nat) : onward l (msgAt l s j) = msgAt l (s + 1) j := by
  simp only [onward, msgAt, Int.toNat_natCast, Prod.mk.injEq, and_true]
  congr 1
  rw [Nat.mod_add_mod, Nat.add_assoc]
theorem msgAt_goes (l : List Int) (h0 : 0 < l.length) (s j : Nat) : goesOn l (msgAt l s j) = decide (rf l (j + s + 1) < rf l j) := by
  have h : ((msgAt l s j).1.toNat + 1) % l.length = (j + s + 1) % l.length := by
    show (((((j + s) % l.length : Nat) : Int)).toNat + 1) % l.length = _
    rw [Int.toNat_natCast, Nat.mod_add_mod]
  unfold goesOn
  rw [h]
  rfl
theorem msgs_next {l : List Int} (h0 : 0 < l.length) (s : Nat) : nextOf l (msgs l s) = msgs l (s + 1) := by
  unfold msgs
  generalize List.range l.length = xs
  induction xs with
  | nil => rfl
  | cons x xs ih =>
    have hs := surv_succ l x s
    cases h1 : surv l x s with
    | false =>
      rw [h1, Bool.false_and] at hs
      simp only [List.filter_cons, h1, hs]
      exact ih
    | true =>
      rw [h1, Bool.true_and] at hs
      simp only [List.filter_cons, h1, hs, if_true, List.map_cons]
      rw [show nextOf l (msgAt l s x :: ((xs.filter (fun j => surv l j s)).map (msgAt l s))) = nextOf l [msgAt l s x] ++ nextOf l ((xs.filter (fun j => surv l j s)).map (msgAt l s)) from next_append l [_] _, ih]
      by_cases h2 : rf l (x + s + 1) < rf l x
      · simp [nextOf, msgAt_goes l h0, h2, msgAt_on l h0]
      · simp [nextOf, msgAt_goes l h0, h2]
theorem msgs_len_le (l : List Int) (s : Nat) : (msgs l s).length ≤ l.length := by
  unfold msgs
  rw [List.length_map]
  exact Nat.le_trans (List.length_filter_le _ _) (by simp)
/-- Each message of a step is that of a machine whose number is still sent. -/
theorem msgs_get {l : List Int} {s k : Nat} (h : k < (msgs l s).length) : ∃ j, j < l.length ∧ surv l j s = true ∧ (msgs l s).getD k (0, 0) = msgAt l s j := by
  have hm : (msgs l s).getD k (0, 0) ∈ msgs l s := by simp [List.getD, h]
  obtain ⟨m, hme⟩ : ∃ m, (msgs l s).getD k (0, 0) = m := ⟨_, rfl⟩
  rw [hme] at hm ⊢
  unfold msgs at hm
  obtain ⟨j, hj, he⟩ := List.mem_map.1 hm
  rw [List.mem_filter, List.mem_range] at hj
  exact ⟨j, hj.1, hj.2, he.symm⟩

theorem drewI9_grown (w : World) (m : Nat) : w.grownBy (w.drewN m) none := ⟨rfl, rfl, rfl, Nat.le_refl _, fun _ _ _ => rfl⟩

theorem toM_any (p n : Nat) (x : Int) (A : Option Addr) (c : Nat) (w : World) (hp : p < n) (hn : n ≤ 12) :
    Calls Try.prog 49 #[.agg #[.int .i64 p, .int .i64 x], .slice A n c] w fun e w' => e = .returned (.int .i64 ((p + 1) % n : Nat)) ∧ w' = w.alloc (.cells #[.int .i64 p, .int .i64 x] 49) := by
  have m1 : ((p : Int) + 1).tmod n = (((p + 1) % n : Nat) : Int) := by rw [Int.tmod_eq_emod_of_nonneg (by omega), show (p : Int) + 1 = ((p + 1 : Nat) : Int) from by omega]; rfl
  have hn0 : ¬ (n : Int) = 0 := by omega
  have hn1 : ¬ n = 0 := by omega
  obtain ⟨t, ht⟩ : ∃ t, (p + 1) % n = t := ⟨_, rfl⟩
  rw [ht] at m1 ⊢
  have htn : t < n := by rw [← ht]; exact Nat.mod_lt _ (by omega)
  clear ht
  go_enter Try.func49, Try.ntmps49
  go_wp2
  go_ret
  exact ⟨rfl, rfl⟩

set_option maxRecDepth 100000 in
set_option maxHeartbeats 1600000 in
theorem ownNumbers_any (A : Option Addr) (n c : Nat) (l : List Int) (w : World) (hs : Sl w w.heap.size A n l) (h1 : 1 ≤ n) (hn : n ≤ 12) :
    Calls Try.prog 56 #[.slice A n c] w fun e w' => ∃ A2 c2, e = .returned (.slice A2 n c2) ∧ w'.ownsRow w.heap.size 49 2 (.slice A2 n c2) n (ints (flat (msgs l 0))) ∧ Below w.heap.size w w' := by
  obtain ⟨i0, hi, hz0, hz1, hz2⟩ := info_parts info_msg
  have HL := hid hs.len
  have HM := hid (show ∀ k, k < n → (msgs l 0).getD k (0, 0) = ((k : Int), nth l k) from fun k hk => by
    have hf : (List.range l.length).filter (fun j => surv l j 0) = List.range l.length := List.filter_eq_self.2 fun a _ => by simp [surv]
    unfold msgs
    rw [hf]
    simp only [List.getD, List.getElem?_map, List.getElem?_range (show k < l.length by rw [HL.out]; exact hk), Option.map_some, Option.getD_some, msgAt, Nat.add_zero]
    rw [Nat.mod_eq_of_lt (by rw [HL.out]; exact hk), rf_lt (by rw [HL.out]; exact hk)])
  have HF := hid (show (flat (msgs l 0)).length = n * 2 from by
    have hf : (List.range l.length).filter (fun j => surv l j 0) = List.range l.length := List.filter_eq_self.2 fun a _ => by simp [surv]
    rw [flat_len2]
    unfold msgs
    rw [hf, List.length_map, List.length_range, HL.out])
  go_enter Try.func56, Try.ntmps56
  go_wp2_with (refine wpList_make_full _ rfl (.tmp 7) (.tmp 7) 47 rfl w.heap.size 49 i0 _ 2 Try.underlying47 hi hz0 hz1 .i64 .i64 n n n rfl rfl rfl rfl (by rw [hz2]; omega) (by simp only [maxLen]; omega) (Nat.le_refl _) ?_; intro w1 hown1 hg1)
  rw [madeMsgs, ← filled_zero (flat (msgs l 0)) (n * 2)] at hown1
  have hbw : Below w.heap.size w w1 := (Below.refl _ _).grown hg1 (Nat.le_refl _) (by simp)
  have hlw : w.heap.size < w1.heap.size := (hown1.lt _ rfl).2
  clear hg1 hi hz0 hz1 hz2
  have O1 := hid hown1
  have B1 := hid hbw
  have HS := hid hs
  clear hown1 hbw hs
  go_loopw [11] (fun i wr => ∃ k : Nat, k ≤ n ∧ i = .int .i64 k ∧ w.heap.size < wr.heap.size ∧ Hid (wr.ownsRow w.heap.size 49 2 (.slice (some ⟨w.heap.size, 0, none⟩) n n) n (ints (filled (flat (msgs l 0)) (k * 2) (n * 2)))) ∧ Hid (Below w.heap.size w wr)) (fun i _ => n - (intOf i).toNat)
  case atStart => exact ⟨0, Nat.zero_le _, rfl, hlw, O1, B1⟩
  case round =>
    obtain ⟨k, hk, rfl, hlr, HO, HB⟩ := hrel
    clear O1 B1 hlw
    by_cases hlt : k < n
    · obtain ⟨b, off, rfl, hbl, hc⟩ := (HS.out.below HB.out).2.2 (by omega)
      have hck := hc k hlt
      have hlti : (k : Int) < (n : Int) := by omega
      have s1 := filled_step HF.out (show k * 2 < n * 2 by omega)
      have s2 := filled_step HF.out (show k * 2 + 1 < n * 2 by omega)
      rw [show k * 2 + 1 + 1 = (k + 1) * 2 by omega] at s2
      rw [nth_flat0, HM.out k hlt] at s1
      rw [nth_flat1, HM.out k hlt] at s2
      obtain ⟨x, hx⟩ : ∃ x, nth l k = x := ⟨_, rfl⟩
      rw [hx] at hck s2
      have S1 := hid s1
      have S2 := hid s2
      have f50 := HO.out.frozenAt (k * 2)
      have f51 := HO.out.frozenAt (k * 2 + 1)
      have v50 := own_cell2 HO.out (filled_len _ HF.out (by omega)) (show k * 2 < n * 2 by omega)
      have v51 := own_cell2 HO.out (filled_len _ HF.out (by omega)) (show k * 2 + 1 < n * 2 by omega)
      clear hc s1 s2 hx
      have hst := (HO.out.stored (k * 2) (.int .i64 k)).1
      rw [ints_set, S1.out] at hst
      have hst2 := (hst.stored (k * 2 + 1) (.int .i64 x)).1
      rw [ints_set, S2.out] at hst2
      have HST := hid hst2
      have B5 := hid ((HB.out.setCell (p := ⟨w.heap.size, k * 2, none⟩) (Nat.le_refl _) (.int .i64 k)).setCell (p := ⟨w.heap.size, k * 2 + 1, none⟩) (Nat.le_refl _) (.int .i64 x))
      clear hst hst2 S1 S2 HO
      go_wp2
      go_roundw
      case rel => exact ⟨k + 1, by omega, by go_num, by simp; omega, HST, B5⟩
      case measure => simp [intOf]; omega
    · obtain rfl : k = n := by omega
      have HO2 := hid (show wr.ownsRow w.heap.size 49 2 (.slice (some ⟨w.heap.size, 0, none⟩) k k) k (ints (flat (msgs l 0))) from by have h := HO.out; rwa [filled_all HF.out] at h)
      clear HO
      go_wp2
      go_ret
      exact ⟨_, _, rfl, HO2.out, HB.out⟩

set_option maxRecDepth 100000 in
set_option maxHeartbeats 3200000 in
theorem sentOn_any (A A1 : Option Addr) (n c m c1 : Nat) (l : List Int) (ms : List (Int × Int)) (w : World) (hs : Sl w w.heap.size A n l) (h1 : 1 ≤ n) (hn : n ≤ 12) (hM : SlD w w.heap.size A1 m ms) (hm : m ≤ 12)
    (hP : ∀ k, k < m → ∃ p : Nat, p < n ∧ (ms.getD k (0, 0)).1 = (p : Int)) :
    Calls Try.prog 57 #[.slice A n c, .slice A1 m c1] w fun e w' => ∃ A2 k c2, e = .returned (.slice A2 k c2) ∧ w'.ownsRow w.heap.size 49 2 (.slice A2 k c2) k (ints (flat (nextOf l ms))) ∧ Below w.heap.size w w' := by
  obtain ⟨i0, hi, hz0, hz1, hz2⟩ := info_parts info_msg
  have HL := hid hs.len
  have HML := hid hM.len
  have HS := hid hs
  have HSM := hid hM
  have HP := hid hP
  clear hs hM hP
  go_enter Try.func57, Try.ntmps57
  go_wp2
  go_loopw [5, 11] (fun v i wr => ∃ (A2 : Option Addr) (q c2 k : Nat), v = .slice A2 q c2 ∧ i = .int .i64 k ∧ k ≤ m ∧ q ≤ k ∧ Hid (wr.ownsRow w.heap.size 49 2 (.slice A2 q c2) q (ints (flat (nextOf l (ms.take k))))) ∧ Hid (Below w.heap.size w wr)) (fun _ i _ => m - (intOf i).toNat)
  case atStart => exact ⟨_, 0, _, 0, rfl, rfl, Nat.zero_le _, Nat.le_refl _, hid (World.ownsRow_nil _ _ _ _), hid (Below.refl _ _)⟩
  case round =>
    obtain ⟨A2, q, c2, k, rfl, rfl, hk, hqk, HO, HB⟩ := hrel
    by_cases hlt : k < m
    · have hlti : (k : Int) < (m : Int) := by omega
      obtain ⟨b, off, rfl, hbl, hc⟩ := (HSM.out.below HB.out).2.2 (by omega)
      have hc0 := hc (k * 2) (by omega)
      have hc1 := hc (k * 2 + 1) (by omega)
      rw [nth_flat0] at hc0
      rw [nth_flat1, ← Nat.add_assoc] at hc1
      clear hc
      obtain ⟨p, hpn, hp⟩ := HP.out k hlt
      have HT := hid (show ms.take (k + 1) = ms.take k ++ [ms.getD k (0, 0)] from by rw [List.take_succ_eq_append_getElem (by rw [HML.out]; exact hlt)]; simp [List.getD, show k < ms.length from by rw [HML.out]; exact hlt])
      have HN := hid (next_append l (ms.take k) [ms.getD k (0, 0)])
      rw [← HT.out] at HN
      obtain ⟨x, hx⟩ : ∃ x, (ms.getD k (0, 0)).2 = x := ⟨_, rfl⟩
      have hmk : ms.getD k (0, 0) = ((p : Int), x) := by rw [← hx, ← hp]
      rw [hmk] at HN hc0 hc1
      replace hc0 : wr.cell? ⟨b, off + k * 2, none⟩ = some (.int .i64 p) := hc0
      replace hc1 : wr.cell? ⟨b, off + k * 2 + 1, none⟩ = some (.int .i64 x) := hc1
      clear hmk hx hp HT
      obtain ⟨t, ht⟩ : ∃ t, (p + 1) % n = t := ⟨_, rfl⟩
      have htn : t < n := by rw [← ht]; exact Nat.mod_lt _ (by omega)
      have hti : (t : Int) < (n : Int) := by omega
      obtain ⟨W1, hW1⟩ : ∃ W1, wr.alloc (.cells #[.int .i64 p, .int .i64 x] 49) = W1 := ⟨_, rfl⟩
      have hz1' : W1.heap.size = wr.heap.size + 1 := by rw [← hW1]; simp
      have b1 : Below w.heap.size w W1 := by rw [← hW1]; exact HB.out.alloc HB.out.size _
      have d0 : W1.cell? ⟨wr.heap.size, 0, none⟩ = some (.int .i64 p) := by rw [← hW1]; simp
      have d1 : W1.cell? ⟨wr.heap.size, 1, none⟩ = some (.int .i64 x) := by rw [← hW1]; simp
      obtain ⟨W2, hW2⟩ : ∃ W2, W1.alloc (.cells #[.int .i64 p, .int .i64 x] 49) = W2 := ⟨_, rfl⟩
      have b2 : Below w.heap.size w W2 := by rw [← hW2]; exact b1.alloc b1.size _
      have k2 : Below W1.heap.size W1 W2 := by rw [← hW2]; exact (Below.refl _ _).alloc (Nat.le_refl _) _
      have e1 : W2.cell? ⟨wr.heap.size, 1, none⟩ = some (.int .i64 x) := (k2.cell (p := ⟨wr.heap.size, 1, none⟩) (by show wr.heap.size < W1.heap.size; omega)).trans d1
      have CT := hid (toM_any p n x A c W1 hpn hn)
      rw [ht, hW2] at CT
      obtain ⟨b0, off0, rfl, hbl0, hc00⟩ := (HS.out.below b2).2.2 (by omega)
      have y0 := hc00 t htn
      clear hc00
      have o2 : W2.ownsRow w.heap.size 49 2 (.slice A2 q c2) q (ints (flat (nextOf l (ms.take k)))) := by rw [← hW2, ← hW1]; exact (HO.out.alloc _).alloc _
      have HV := hid (own_blk2 o2)
      have OO := hid (fun u => o2.kept (row := none) (drewI9_grown W2 u) (by cases (Value.slice A2 q c2).ownBlock <;> simp))
      have B2 := hid b2
      have HG := hid (show goesOn l ((p : Int), x) = decide (nth l t < x) from by unfold goesOn; simp only [Int.toNat_natCast, HL.out, ht])
      have HW := hid (show onward l ((p : Int), x) = ((t : Int), x) from by unfold onward; simp only [Int.toNat_natCast, HL.out, ht])
      obtain ⟨y, hy⟩ : ∃ y, nth l t = y := ⟨_, rfl⟩
      rw [hy] at y0 HG
      clear hy ht o2 b2 k2 b1 hz1'
      by_cases hyx : y < x
      · have HN2 := hid (show nextOf l (ms.take (k + 1)) = nextOf l (ms.take k) ++ [((t : Int), x)] from by rw [HN.out]; simp [nextOf, HG.out, hyx, HW.out])
        clear HN
        go_wp2_with (go_at_call 49; with_reducible refine Calls.mono CT.out ?_; clear CT; rintro e w' ⟨rfl, rfl⟩)
        go_quiet (fail)
        go_wp2_with (at_builtin; refine wpList_append_own _ rfl _ _ 47 rfl w.heap.size 49 i0 (msgV (0, 0)) 2 16 Try.underlying47 hi hz0 hz1 hz2 rfl (by decide) (.slice A2 q c2) _ _ rfl ((OO.out nq).alloc _) ⟨w'.heap.size, 0, none⟩ 1 1 [.int .i64 t, .int .i64 x] rfl rfl (cells_new9 _ [.int .i64 t, .int .i64 x] _) (by simp [Value.oneCell']) (by simp only [maxLen]; omega) (by omega) (by have := B2.out.size; simp; omega) ?_; intro v2 w3 o3 g3 _)
        obtain ⟨gA, cA, rfl, hbA, hltA⟩ := own_shape1 o3 (by omega)
        have B3 := hid (((below_drewN B2.out nq).alloc (by exact B2.out.size) _).grown g3 (by have := B2.out.size; simp; omega) (by
          intro j hj
          rcases HV.out with h | ⟨i, h, hi⟩
          · rw [h] at hj; cases hj
          · rw [h] at hj; cases hj; exact hi))
        have O3 := hid (show w3.ownsRow w.heap.size 49 2 (.slice (some ⟨gA, 0, none⟩) (q + 1) cA) (q + 1) (ints (flat (nextOf l (ms.take (k + 1))))) from by rw [HN2.out, ← ints_flat_snoc]; exact o3)
        clear o3 g3
        go_roundw
        case rel => exact ⟨_, q + 1, cA, k + 1, rfl, by go_num, by omega, by omega, O3, B3⟩
        case measure => simp [intOf]; omega
      · have HN2 := hid (show nextOf l (ms.take (k + 1)) = nextOf l (ms.take k) from by rw [HN.out]; simp [nextOf, HG.out, hyx])
        clear HN
        go_wp2_with (go_at_call 49; with_reducible refine Calls.mono CT.out ?_; clear CT; rintro e w' ⟨rfl, rfl⟩)
        go_quiet (fail)
        go_wp2
        have O3 := hid (OO.out nq)
        rw [← HN2.out] at O3
        have B3 := hid (below_drewN B2.out nq)
        go_roundw
        case rel => exact ⟨A2, q, c2, k + 1, rfl, by go_num, by omega, by omega, O3, B3⟩
        case measure => simp [intOf]; omega
    · obtain rfl : k = m := by omega
      have HO2 := hid (show wr.ownsRow w.heap.size 49 2 (.slice A2 q c2) q (ints (flat (nextOf l ms))) from by have h := HO.out; rwa [List.take_of_length_le (by rw [HML.out]; omega)] at h)
      clear HO
      go_wp2
      go_ret
      exact ⟨_, _, _, rfl, HO2.out, HB.out⟩
end Go.Proofs.Ytegmkacapldnoaa
