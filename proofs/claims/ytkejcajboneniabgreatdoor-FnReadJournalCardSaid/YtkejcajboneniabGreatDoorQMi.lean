/-
  Texts put together: Dk DkIn K12a K12b. No statement is proved here.
-/
import Derived.Test.YtkejcajboneniabGreatDoorQMa
import Derived.Test.YtkejcajboneniabGreatDoorQMc
import Derived.Test.YtkejcajboneniabGreatDoorQMb
import Derived.Laws.Rows
import Derived.OwnWalk
import Derived.BigRegion
import Derived.Deep.RegionHeld3
import Derived.Laws.AppendOwn
import Derived.Test.YtkejcajboneniabGreatDoorQT12b
import Derived.Test.YtkejcajboneniabGreatDoorQMf
set_option linter.unusedVariables false
set_option linter.unusedSimpArgs false
namespace Go.Proofs.YtkejcajboneniabGreatDoor
open Go.RowKit

/-- The slice value '.slice A m c' holds the values vs in the world w, below block B. -/
def Out (w : World) (B : Nat) (A : Option Addr) (m : Nat) (vs : List Value) : Prop :=
  vs.length = m ∧ m ≤ maxLen ∧ (0 < m → ∃ b off, A = some ⟨b, off, none⟩ ∧ b < B ∧ ∀ j v, vs[j]? = some v → w.cell? ⟨b, off + j, none⟩ = some v)
/-- The values vs are slices of ints that read as ls, below block B. -/
def RowsR (w : World) (B : Nat) (vs : List Value) (ls : List (List Int)) : Prop := vs.length = ls.length ∧ ∀ (j : Nat) v l, vs[j]? = some v → ls[j]? = some l → ∃ A n c, v = .slice A n c ∧ Sl w B A n l ∧ n ≤ c ∧ c ≤ 9223372036854775807
/-- The slice of slices reads as ls. -/
def SlS (w : World) (B : Nat) (A : Option Addr) (m : Nat) (ls : List (List Int)) : Prop := ∃ vs, Out w B A m vs ∧ RowsR w B vs ls
section
variable {w w' : World} {B B' m : Nat} {A : Option Addr} {vs : List Value} {ls : List (List Int)}
theorem Out.keep (h : Out w B A m vs) (hB : B ≤ B') (hk : ∀ p : Addr, p.block < B → w'.cell? p = w.cell? p) : Out w' B' A m vs :=
  ⟨h.1, h.2.1, fun hn => by
    obtain ⟨b, off, e, hb, hc⟩ := h.2.2 hn
    exact ⟨b, off, e, by omega, fun j v hv => (hk _ hb).trans (hc j v hv)⟩⟩
theorem RowsR.keep (h : RowsR w B vs ls) (hB : B ≤ B') (hk : ∀ p : Addr, p.block < B → w'.cell? p = w.cell? p) : RowsR w' B' vs ls :=
  ⟨h.1, fun j v l h1 h2 => by
    obtain ⟨A, n, c, e, hs, hc⟩ := h.2 j v l h1 h2
    exact ⟨A, n, c, e, hs.keep hB hk, hc⟩⟩
theorem SlS.keep (h : SlS w B A m ls) (hB : B ≤ B') (hk : ∀ p : Addr, p.block < B → w'.cell? p = w.cell? p) : SlS w' B' A m ls := by
  obtain ⟨vs, h1, h2⟩ := h
  exact ⟨vs, h1.keep hB hk, h2.keep hB hk⟩
theorem SlS.more (h : SlS w B A m ls) (hB : B ≤ B') : SlS w B' A m ls := h.keep hB fun _ _ => rfl
theorem SlS.below (h : SlS w B A m ls) (hb : Below B w w') : SlS w' B A m ls := h.keep (Nat.le_refl _) fun _ hp => hb.cell hp
theorem SlS.on (h : SlS w w.heap.size A m ls) (hb : Below w.heap.size w w') : SlS w' w'.heap.size A m ls := (h.below hb).more hb.size
theorem SlS.len (h : SlS w B A m ls) : ls.length = m := by
  obtain ⟨vs, h1, h2⟩ := h
  rw [← h2.1, h1.1]
theorem SlS.max (h : SlS w B A m ls) : m ≤ 9223372036854775807 := by
  obtain ⟨vs, h1, h2⟩ := h
  exact h1.2.1
theorem SlS.nil (w : World) (B : Nat) : SlS w B none 0 [] := ⟨[], ⟨rfl, by simp [maxLen], fun h => absurd h (by omega)⟩, rfl, fun j v l h => by simp at h⟩
/-- Element k of a slice of slices. -/
theorem SlS.atC (h : SlS w B A m ls) {k : Nat} (hk : k < m) : ∃ b off A2 n2 c2, A = some ⟨b, off, none⟩ ∧ b < B ∧ w.cell? ⟨b, off + k, none⟩ = some (.slice A2 n2 c2) ∧ Sl w B A2 n2 (ls.getD k []) ∧ n2 ≤ c2 ∧ c2 ≤ 9223372036854775807 := by
  have hl := h.len
  obtain ⟨vs, h1, h2⟩ := h
  obtain ⟨b, off, e, hb, hc⟩ := h1.2.2 (by omega)
  have hv : vs[k]? = some (vs[k]'(by have := h1.1; omega)) := List.getElem?_eq_getElem _
  have hlk : ls[k]? = some (ls[k]'(by omega)) := List.getElem?_eq_getElem _
  obtain ⟨A2, n2, c2, ev, hs, hcap⟩ := h2.2 k _ _ hv hlk
  refine ⟨b, off, A2, n2, c2, e, hb, by rw [hc k _ hv, ev], ?_, hcap⟩
  rw [List.getD_eq_getElem?_getD, hlk]
  exact hs
theorem SlS.at (h : SlS w B A m ls) {k : Nat} (hk : k < m) : ∃ b off A2 n2 c2, A = some ⟨b, off, none⟩ ∧ b < B ∧ w.cell? ⟨b, off + k, none⟩ = some (.slice A2 n2 c2) ∧ Sl w B A2 n2 (ls.getD k []) := by
  obtain ⟨b, off, A2, n2, c2, h1, h2, h3, h4, _⟩ := h.atC hk
  exact ⟨b, off, A2, n2, c2, h1, h2, h3, h4⟩
theorem own_capK {w : World} {B n c : Nat} {A : Option Addr} {e : TypeId} {xs : List Value} (h : w.ownsRow B e 1 (.slice A n c) n xs) : n ≤ c ∧ c ≤ 9223372036854775807 := by
  rcases h.2 with ⟨h1, h2⟩ | ⟨g, cap, cur, hv, _, _, hnc, hcm, _⟩
  · injection h1 with e1 e2 e3
    omega
  · injection hv with e1 e2 e3
    subst e3
    exact ⟨hnc, hcm⟩
theorem SlS.of_own {B1 B2 c : Nat} (h : w.ownsRow B1 28 1 (.slice A m c) m vs) (R : Rows w B2 vs ls) : SlS w w.heap.size A m ls := by
  have hl : vs.length = m := by have := h.1; omega
  refine ⟨vs, ⟨hl, ?_, fun hm => ?_⟩, R.1, fun j v l h1 h2 => ?_⟩
  · rcases h.2 with ⟨_, h2⟩ | ⟨g, cap, cur, hv, hb, hg, hnc, hcm, _⟩
    · simp only [maxLen]; omega
    · exact Nat.le_trans hnc hcm
  · rcases h.2 with ⟨_, h2⟩ | ⟨g, cap, cur, hv, hb, hg, hnc, hcm, _⟩
    · omega
    · injection hv with e1 e2 e3
      subst e1
      refine ⟨g, 0, rfl, ?_, fun j v hv => ?_⟩
      · rcases Nat.lt_or_ge g w.heap.size with hlt | hge
        · exact hlt
        · rw [Array.getElem?_eq_none hge] at hg; cases hg
      · have hj := (List.getElem?_eq_some_iff.1 hv).1
        rw [h.cellAt (0 + j) (by omega), Nat.zero_add]
        exact hv
  · obtain ⟨A2, n2, c2, ev, ho⟩ := R.2 j v l h1 h2
    exact ⟨A2, n2, c2, ev, Sl.of_own ho, own_capK ho⟩
end

/-- A desk as a value, and what it reads as. -/
abbrev dsk (A : Option Addr) (n c : Nat) (A2 : Option Addr) (m c2 : Nat) : Value := .agg #[.slice A n c, .slice A2 m c2]
structure DkR (w : World) (B : Nat) (A : Option Addr) (n c : Nat) (A2 : Option Addr) (m c2 : Nat) (D : Dk) : Prop where
  now : Sl w B A n D.now
  past : SlS w B A2 m D.past
  cap : n ≤ c ∧ c ≤ 9223372036854775807
  cap2 : m ≤ c2 ∧ c2 ≤ 9223372036854775807
/-- A desk of one's own: its parts lie apart. -/
structure DkO (w : World) (B : Nat) (A : Option Addr) (n c : Nat) (A2 : Option Addr) (m c2 : Nat) (vs : List Value) (D : Dk) : Prop where
  now : w.ownsRow B 3 1 (.slice A n c) n (ints D.now)
  past : w.ownsRow B 28 1 (.slice A2 m c2) m vs
  rows : Rows w B vs D.past
/-- The same, of whatever rows. -/
def DkF (w : World) (B : Nat) (A : Option Addr) (n c : Nat) (A2 : Option Addr) (m c2 : Nat) (D : Dk) : Prop := ∃ vs, DkO w B A n c A2 m c2 vs D
section
variable {w w' : World} {B B' n c m c2 : Nat} {A A2 : Option Addr} {vs : List Value} {D : Dk}
theorem DkR.keep (h : DkR w B A n c A2 m c2 D) (hB : B ≤ B') (hk : ∀ p : Addr, p.block < B → w'.cell? p = w.cell? p) : DkR w' B' A n c A2 m c2 D := ⟨h.now.keep hB hk, h.past.keep hB hk, h.cap, h.cap2⟩
theorem DkR.more (h : DkR w B A n c A2 m c2 D) (hB : B ≤ B') : DkR w B' A n c A2 m c2 D := ⟨h.now.more hB, h.past.more hB, h.cap, h.cap2⟩
theorem DkR.below (h : DkR w B A n c A2 m c2 D) (hb : Below B w w') : DkR w' B A n c A2 m c2 D := ⟨h.now.below hb, h.past.below hb, h.cap, h.cap2⟩
theorem DkR.on (h : DkR w w.heap.size A n c A2 m c2 D) (hb : Below w.heap.size w w') : DkR w' w'.heap.size A n c A2 m c2 D := ⟨h.now.on hb, h.past.on hb, h.cap, h.cap2⟩
theorem DkR.no (w : World) (B : Nat) : DkR w B none 0 0 none 0 0 noDk := ⟨Sl.nil w B, SlS.nil w B, by omega, by omega⟩
theorem DkO.read (h : DkO w B A n c A2 m c2 vs D) : DkR w w.heap.size A n c A2 m c2 D := ⟨Sl.of_own h.now, SlS.of_own h.past h.rows, own_capK h.now, own_capK h.past⟩
theorem DkO.on (h : DkO w B A n c A2 m c2 vs D) (hb : Below w.heap.size w w') : DkO w' B A n c A2 m c2 vs D := ⟨own_on h.now hb, own_on h.past hb, h.rows.on hb⟩
theorem DkO.onto (h : DkO w B A n c A2 m c2 vs D) (hg : w.grownBy w' none) : DkO w' B A n c A2 m c2 vs D := ⟨own_kept_none h.now hg, own_kept_none h.past hg, h.rows.onto hg⟩
theorem DkO.mono (h : DkO w B A n c A2 m c2 vs D) (hB : B' ≤ B) : DkO w B' A n c A2 m c2 vs D := ⟨own_mono h.now hB, own_mono h.past hB, h.rows.mono hB⟩
theorem DkF.read (h : DkF w B A n c A2 m c2 D) : DkR w w.heap.size A n c A2 m c2 D := h.elim fun _ k => k.read
theorem DkF.on (h : DkF w B A n c A2 m c2 D) (hb : Below w.heap.size w w') : DkF w' B A n c A2 m c2 D := h.elim fun _ k => ⟨_, k.on hb⟩
theorem DkF.onto (h : DkF w B A n c A2 m c2 D) (hg : w.grownBy w' none) : DkF w' B A n c A2 m c2 D := h.elim fun _ k => ⟨_, k.onto hg⟩
theorem DkF.mono (h : DkF w B A n c A2 m c2 D) (hB : B' ≤ B) : DkF w B' A n c A2 m c2 D := h.elim fun _ k => ⟨_, k.mono hB⟩
end
end Go.Proofs.YtkejcajboneniabGreatDoor
namespace Go.Proofs.YtkejcajboneniabGreatDoor
open Go.RowKit

end Go.Proofs.YtkejcajboneniabGreatDoor
namespace Go.Proofs.YtkejcajboneniabGreatDoor
open Go.RowKit

theorem all_past {ls : List (List Int)} {m : Nat} (h : ls.length = m) (ha : ∀ j, j < m → bitsOk (ls.getD j []) = true) : ls.all bitsOk = true := by
  rw [List.all_eq_true]
  intro x hx
  obtain ⟨j, hj, rfl⟩ := List.getElem_of_mem hx
  have := ha j (by omega)
  rwa [List.getD_eq_getElem?_getD, List.getElem?_eq_getElem hj] at this
theorem not_past {ls : List (List Int)} {m j : Nat} (h : ls.length = m) (hj : j < m) (hb : bitsOk (ls.getD j []) = false) : ls.all bitsOk = false := by
  rw [List.getD_eq_getElem?_getD, List.getElem?_eq_getElem (by omega)] at hb
  rw [Bool.eq_false_iff]
  intro ha
  have := List.all_eq_true.1 ha _ (List.getElem_mem (show j < ls.length by omega))
  simp at hb
  rw [hb] at this
  cases this

set_option maxRecDepth 100000 in
set_option maxHeartbeats 1600000 in
theorem specDeskOk_any (A : Option Addr) (n c : Nat) (A2 : Option Addr) (m c2 : Nat) (D : Dk) (w : World) (h : DkR w w.heap.size A n c A2 m c2 D) :
    Calls Tryz.prog 13 #[dsk A n c A2 m c2] w fun e w' => e = .returned (.bool (deskOk D)) ∧ w.grownBy w' none := by
  have hg0 := grown_alloc w (.cells #[.slice A n c, .slice A2 m c2] 31) none
  have c0 : (w.alloc (.cells #[.slice A n c, .slice A2 m c2] 31)).cell? ⟨w.heap.size, 0, none⟩ = some (.slice A n c) := by simp
  have c1 : (w.alloc (.cells #[.slice A n c, .slice A2 m c2] 31)).cell? ⟨w.heap.size, 1, none⟩ = some (.slice A2 m c2) := by simp
  have H := h.on (below_grown hg0)
  have HN := hid H.now
  have HP := hid H.past
  have hm : m ≤ 9223372036854775807 := H.past.max
  have HL := hid H.past.len
  have HG := hid hg0
  have CN := hid (specBitsOk_any A n c D.now (w.alloc (.cells #[.slice A n c, .slice A2 m c2] 31)) _ H.now)
  clear h H hg0
  go_enter Tryz.func13, Tryz.ntmps13
  go_wp2_with fail
  obtain ⟨w0, e0⟩ : ∃ W, w.alloc (.cells #[.slice A n c, .slice A2 m c2] 31) = W := ⟨_, rfl⟩
  rw [e0] at HG c0 c1 HN HP CN ⊢
  clear e0
  go_loop [3] (fun i => ∃ k : Nat, i = .int .i64 k ∧ k ≤ m ∧ Hid (∀ j, j < k → bitsOk (D.past.getD j []) = true)) (fun i => m - (intOf i).toNat)
  case atStart => exact ⟨0, rfl, Nat.zero_le _, hid (fun j hj => absurd hj (by omega))⟩
  case round =>
    obtain ⟨k, rfl, hk, HA⟩ := hrel
    by_cases hlt : k < m
    · obtain ⟨b, off, A3, n3, c3, rfl, hb, hck, hs3⟩ := HP.out.at hlt
      have CB := hid (specBitsOk_any A3 n3 c3 _ w0 _ hs3)
      have hlt' : (k : Int) < (m : Int) := by omega
      cases hok : bitsOk (D.past.getD k []) with
      | true =>
        rw [hok] at CB
        have HA2 : Hid (∀ j, j < k + 1 → bitsOk (D.past.getD j []) = true) := hid (fun j hj => by
          rcases (show j < k ∨ j = k by omega) with q | rfl
          · exact HA.out j q
          · exact hok)
        clear hok hs3 HA
        go_wp2_with (go_at_call 50; with_reducible refine Calls.mono CB.out ?_; rintro e w' ⟨rfl, rfl⟩)
        go_round
        case rel => exact ⟨k + 1, by go_num, by omega, HA2⟩
        case measure => simp [intOf]; omega
      | false =>
        rw [hok] at CB
        have HF := hid (show deskOk D = false from by unfold deskOk; rw [not_past HL.out hlt hok]; rfl)
        clear hok hs3 HA
        go_wp2_with (go_at_call 50; with_reducible refine Calls.mono CB.out ?_; rintro e w' ⟨rfl, rfl⟩)
        go_ret
        exact ⟨ret_bool HF.out.symm, HG.out⟩
    · obtain rfl : k = m := by omega
      have HV := hid (show deskOk D = (bitsOk D.now && decide (k ≤ 8)) from by unfold deskOk; rw [all_past HL.out HA.out, HL.out]; rfl)
      cases hok : bitsOk D.now with
      | true =>
        rw [hok] at CN HV
        clear hok
        by_cases h8 : k ≤ 8
        · have h8' : decide ((k : Int) ≤ 8) = true := by simp; omega
          have h8i : (k : Int) ≤ 8 := by omega
          go_wp2_with (go_at_call 50; with_reducible refine Calls.mono CN.out ?_; rintro e w' ⟨rfl, rfl⟩)
          go_ret
          exact ⟨ret_bool (by rw [HV.out]; simp [h8]), HG.out⟩
        · have h8' : decide ((k : Int) ≤ 8) = false := by simp; omega
          go_wp2_with (go_at_call 50; with_reducible refine Calls.mono CN.out ?_; rintro e w' ⟨rfl, rfl⟩)
          go_ret
          exact ⟨ret_bool (by rw [HV.out]; simp [h8]), HG.out⟩
      | false =>
        rw [hok] at CN HV
        clear hok
        go_wp2_with (go_at_call 50; with_reducible refine Calls.mono CN.out ?_; rintro e w' ⟨rfl, rfl⟩)
        go_ret
        exact ⟨ret_bool (by rw [HV.out]; rfl), HG.out⟩

/-- Block b holds a desk. -/
def Db (w : World) (b : Nat) (u v : Value) : Prop := w.heap[b]? = some (.cells #[u, v] 31 (0, 0))
section
variable {w w' : World} {b g : Nat} {x y : Value}
theorem Db.lt (h : Db w b x y) : b < w.heap.size := by
  rcases Nat.lt_or_ge b w.heap.size with hlt | hge
  · exact hlt
  · unfold Db at h; rw [Array.getElem?_eq_none hge] at h; cases h
theorem Db.new (w : World) (x y : Value) : Db (w.alloc (.cells #[x, y] 31)) w.heap.size x y := heap_alloc_new w _
theorem Db.on {row : Option Nat} (h : Db w b x y) (hg : w.grownBy w' row) (hn : some b ≠ row) : Db w' b x y := (hg.block b h.lt hn).trans h
theorem Db.below {B : Nat} (h : Db w b x y) (hb : Below B w w') (hB : b < B) : Db w' b x y := (hb.block b hB).trans h
theorem Db.c0 (h : Db w b x y) : w.cell? ⟨b, 0, none⟩ = some x := cell_of_row w b 0 _ _ _ h
theorem Db.c1 (h : Db w b x y) : w.cell? ⟨b, 1, none⟩ = some y := cell_of_row w b 1 _ _ _ h
theorem Db.fz (h : Db w b x y) (i : Nat) : w.frozen? ⟨b, i, none⟩ = false := frozen_of_row w b i _ _ h
theorem Db.set0 (h : Db w b x y) (v : Value) : Db (w.setCell ⟨b, 0, none⟩ v) b v y := by
  have := heap_setCell_same w b 0 _ _ v h
  unfold Db
  rw [this]
  rfl
theorem Db.set1 (h : Db w b x y) (v : Value) : Db (w.setCell ⟨b, 1, none⟩ v) b x v := by
  have := heap_setCell_same w b 1 _ _ v h
  unfold Db
  rw [this]
  rfl
theorem Db.set (h : Db w b x y) (u v : Value) : Db ((w.setCell ⟨b, 0, none⟩ u).setCell ⟨b, 1, none⟩ v) b u v := (h.set0 u).set1 v
theorem Db.other (h : Db w b x y) (hne : b ≠ g) (i : Nat) (v : Value) : Db (w.setCell ⟨g, i, none⟩ v) b x y := (heap_setCell_other w ⟨g, i, none⟩ b v hne).trans h
theorem Db.ne_int {B n : Nat} {v : Value} {xs : List Value} (h : Db w b x y) (ho : w.ownsRow B 3 1 v n xs) : some b ≠ v.ownBlock := by
  rcases ho.2 with ⟨h1, _⟩ | ⟨g, cap, cur, h1, _, h3, _⟩
  · rw [h1]; simp [Value.ownBlock]
  · rw [h1]; intro e
    have e' : b = g := by simpa [Value.ownBlock] using e
    subst e'
    unfold Db at h
    rw [h3] at h
    simp at h
theorem Db.ne_row {B n : Nat} {v : Value} {xs : List Value} (h : Db w b x y) (ho : w.ownsRow B 28 1 v n xs) : some b ≠ v.ownBlock := by
  rcases ho.2 with ⟨h1, _⟩ | ⟨g, cap, cur, h1, _, h3, _⟩
  · rw [h1]; simp [Value.ownBlock]
  · rw [h1]; intro e
    have e' : b = g := by simpa [Value.ownBlock] using e
    subst e'
    unfold Db at h
    rw [h3] at h
    simp at h
/-- A store into a desk's box leaves the rows. -/
theorem own_box {B n k : Nat} {v : Value} {e : TypeId} {xs : List Value} (x : Value) (h : w.ownsRow B e 1 v n xs) (hne : some b ≠ v.ownBlock) : (w.setCell ⟨b, k, none⟩ x).ownsRow B e 1 v n xs := by
  refine ⟨h.1, ?_⟩
  rcases h.2 with h2 | ⟨g, cap, cur, h1, h2, h3, h4⟩
  · exact .inl h2
  · refine .inr ⟨g, cap, cur, h1, h2, (heap_setCell_other _ _ _ _ ?_).trans h3, h4⟩
    intro e
    apply hne
    rw [h1, e]
    rfl
theorem Rows.box {B k : Nat} {u v : Value} {vs : List Value} {ls : List (List Int)} (x : Value) (h : Rows w B vs ls) (hd : Db w b u v) : Rows (w.setCell ⟨b, k, none⟩ x) B vs ls :=
  h.keep fun _ _ _ ho => own_box x ho (hd.ne_int ho)
end
theorem DkO.box2 {w : World} {B b n c m c2 : Nat} {A A2 : Option Addr} {vs : List Value} {D : Dk} {u v : Value} (h : DkO w B A n c A2 m c2 vs D) (hd : Db w b u v) (x y : Value) : DkO ((w.setCell ⟨b, 0, none⟩ x).setCell ⟨b, 1, none⟩ y) B A n c A2 m c2 vs D :=
  ⟨own_box y (own_box x h.now (hd.ne_int h.now)) ((hd.set0 x).ne_int (own_box (k := 0) x h.now (hd.ne_int h.now))), own_box y (own_box x h.past (hd.ne_row h.past)) ((hd.set0 x).ne_row (own_box (k := 0) x h.past (hd.ne_row h.past))), (h.rows.box x hd).box y (hd.set0 x)⟩
theorem DkF.box2 {w : World} {B b n c m c2 : Nat} {A A2 : Option Addr} {D : Dk} {u v : Value} (h : DkF w B A n c A2 m c2 D) (hd : Db w b u v) (x y : Value) : DkF ((w.setCell ⟨b, 0, none⟩ x).setCell ⟨b, 1, none⟩ y) B A n c A2 m c2 D := h.elim fun _ k => ⟨_, k.box2 hd x y⟩
theorem own_types2 {w : World} {B B2 n m : Nat} {v vo : Value} {xs ys : List Value} (h : w.ownsRow B 3 1 v n xs) (ho : w.ownsRow B2 28 1 vo m ys) : vo.ownBlock = none ∨ vo.ownBlock ≠ v.ownBlock := by
  rcases own_types h ho with h1 | h1
  · rcases hb : vo.ownBlock with _ | k
    · exact .inl rfl
    · right; rw [h1]; simp
  · exact .inr fun e => h1 e.symm
theorem info_rows : ∃ i, Tryz.prog.info? 28 = some i ∧ i.zero = some (.slice none 0 0) ∧ i.size = 1 ∧ i.bytes = 24 := by
  have h := info_row
  rcases hi : Tryz.prog.info? 28 with _ | i
  · rw [hi] at h; cases h
  · rw [hi] at h
    simp only [Option.map_some, Option.some.injEq, Prod.mk.injEq] at h
    exact ⟨i, rfl, h.1, h.2.1, h.2.2⟩
theorem size_desk : (Tryz.prog.info? 31).map (·.size) = some 2 := by kernel_rfl
set_option maxRecDepth 100000 in
set_option maxHeartbeats 3200000 in
theorem copyDesk_any (A : Option Addr) (n c : Nat) (A2 : Option Addr) (m c2 : Nat) (D : Dk) (w : World) (h : DkR w w.heap.size A n c A2 m c2 D) (hok : deskOk D = true) :
    Calls Tryz.prog 62 #[dsk A n c A2 m c2] w fun e w' => ∃ A3 c3 A4 c4, e = .returned (dsk A3 n c3 A4 m c4) ∧ DkF w' w.heap.size A3 n c3 A4 m c4 D ∧ Below w.heap.size w w' := by
  obtain ⟨i0, hi, hz0, hz1, hz2⟩ := info_parts info_int
  obtain ⟨ha, hnw, hm8⟩ := deskOk_iff.1 hok
  obtain ⟨_, hn1, hn2⟩ := bitsOk_iff.1 hnw
  have hlm := h.past.len
  have hln := h.now.len
  rw [hlm] at hm8
  rw [hln] at hn1 hn2
  obtain ⟨bn, offn, rfl, hbn, hcn⟩ := h.now.2.2 (by omega)
  have X0 := (Db.new w (.slice (some ⟨bn, offn, none⟩) n c) (.slice A2 m c2)).on (row := none) (grown_alloc _ (.cells #[.slice none 0 0, .slice none 0 0] 31) none) (by simp)
  have hz : (w.alloc (.cells #[.slice (some ⟨bn, offn, none⟩) n c, .slice A2 m c2] 31)).heap.size = w.heap.size + 1 := by simp
  have X1 := Db.new (w.alloc (.cells #[.slice (some ⟨bn, offn, none⟩) n c, .slice A2 m c2] 31)) (.slice none 0 0) (.slice none 0 0)
  rw [hz] at X1
  have B0 := ((Below.refl w.heap.size w).alloc (Nat.le_refl _) (.cells #[.slice (some ⟨bn, offn, none⟩) n c, .slice A2 m c2] 31)).alloc (by simp) (.cells #[.slice none 0 0, .slice none 0 0] 31)
  have H := h.on B0
  obtain ⟨w0, e0⟩ : ∃ W, (w.alloc (.cells #[.slice (some ⟨bn, offn, none⟩) n c, .slice A2 m c2] 31)).alloc (.cells #[.slice none 0 0, .slice none 0 0] 31) = W := ⟨_, rfl⟩
  have hz0' : w0.heap.size = w.heap.size + 2 := by rw [← e0]; simp
  go_enter Tryz.func62, Tryz.ntmps62
  rw [e0] at X0 X1 B0 H
  have c0 := X0.c0
  have HX0 := hid X0
  have HX1 := hid X1
  have HB0 := hid B0
  have HH := hid H
  have HS := hid h.past
  clear X0 X1 B0 h
  have ho0 : (w0.alloc (.cells #[] 3)).ownsRow w.heap.size 3 1 (.slice (some ⟨w.heap.size + 2, 0, none⟩) 0 0) 0 (ints []) := by
    have := World.ownsRow_lit (base := w.heap.size) (e := 3) (size := 1) w0 #[] 0 (by omega) (by simp [maxLen]) rfl
    rwa [hz0'] at this
  have hb1 := HB0.out.alloc (by omega) (.cells #[] 3)
  have hg1 := grown_alloc w0 (.cells #[] 3) none
  have hs1 := HH.out.now.on (below_grown hg1)
  go_wp2_with (at_builtin; refine wpList_append_own _ rfl _ _ 28 rfl w.heap.size 3 i0 (.int .i64 0) 1 8 Tryz.underlying28 hi hz0 hz1 hz2 rfl (by decide) (.slice (some ⟨w.heap.size + 2, 0, none⟩) 0 0) _ _ rfl ho0 ⟨bn, offn, none⟩ n c (ints D.now) rfl (by rw [List.length_map, hln, Nat.mul_one]) hs1.cellsAt (ints_one D.now) (by simp only [maxLen]; omega) (by omega) hb1.size ?_; intro v2 w2 o2 g2 _; rw [Nat.zero_add, show ints [] ++ ints D.now = ints D.now from rfl] at o2; obtain ⟨g, c3, rfl, hbg, hlt2⟩ := own_shape1 o2 (by omega))
  obtain ⟨j0, hj, hjz0, hjz1, hjz2⟩ := info_rows
  have hgO := grown_alloc w2 (.cells #[.slice (some ⟨g, 0, none⟩) n c3, .slice none 0 0] 31) none
  have hb2 := hb1.grown g2 hb1.size (by intro j hj; simp [Value.ownBlock] at hj; omega)
  have hzz2 := hb2.size
  have Y0 := hid (((HX0.out.on (row := none) hg1 (by simp)).on g2 (by simp [Value.ownBlock])).on (row := none) hgO (by simp))
  have Y1 := hid (((HX1.out.on (row := none) hg1 (by simp)).on g2 (by simp [Value.ownBlock])).on (row := none) hgO (by simp))
  have YO := hid (Db.new w2 (.slice (some ⟨g, 0, none⟩) n c3) (.slice none 0 0))
  have O1 := hid (own_kept_none o2 hgO)
  have BB := hid (hb2.alloc hzz2 (.cells #[.slice (some ⟨g, 0, none⟩) n c3, .slice none 0 0] 31))
  have hzo : w.heap.size + 3 ≤ w2.heap.size := by have := g2.size; simp at this; omega
  have HA := hid ha
  have HLM := hid hlm
  clear HX0 HX1 HB0 HH ho0 hb1 hg1 hs1 g2 o2 hgO hb2 hzz2 H e0 hz c0 hcn ha hlm
  obtain ⟨o, ho⟩ : ∃ o, w2.heap.size = o := ⟨_, rfl⟩
  obtain ⟨w3, e3⟩ : ∃ W, w2.alloc (.cells #[.slice (some ⟨g, 0, none⟩) n c3, .slice none 0 0] 31) = W := ⟨_, rfl⟩
  rw [ho] at YO hzo ⊢
  rw [e3] at Y0 Y1 YO O1 BB ⊢
  clear ho e3
  go_loopw [4] (fun i wr => ∃ (k : Nat) (A4 : Option Addr) (c4 : Nat) (vs : List Value), i = .int .i64 k ∧ k ≤ m ∧ Hid (Db wr w.heap.size (.slice (some ⟨bn, offn, none⟩) n c) (.slice A2 m c2)) ∧ Hid (Db wr (w.heap.size + 1) (.slice none 0 0) (.slice none 0 0)) ∧ Hid (Db wr o (.slice (some ⟨g, 0, none⟩) n c3) (.slice A4 k c4)) ∧ Hid (wr.ownsRow w.heap.size 3 1 (.slice (some ⟨g, 0, none⟩) n c3) n (ints D.now)) ∧ wr.ownsRow w.heap.size 28 1 (.slice A4 k c4) k vs ∧ Hid (Rows wr w.heap.size vs (D.past.take k)) ∧ Hid (Below w.heap.size w wr)) (fun i _ => m - (intOf i).toNat)
  case atStart => exact ⟨0, none, 0, [], rfl, Nat.zero_le _, Y0, Y1, YO, O1, World.ownsRow_nil _ _ _ _, hid (Rows.nil _ _), BB⟩
  case round =>
    clear Y0 Y1 YO O1 BB
    obtain ⟨k, A4, c4, vs, rfl, hk, Y0, Y1, YO, O1, oP, RP, BB⟩ := hrel
    have t1 := Y0.out.c1
    by_cases hlt : k < m
    · obtain ⟨b2, off2, A5, n5, c5, rfl, hb2, hck, hs5⟩ := (HS.out.below BB.out).at hlt
      have hlk : (D.past.getD k [])  = D.past[k]'(by rw [HLM.out]; exact hlt) := by rw [List.getD_eq_getElem?_getD, List.getElem?_eq_getElem (by rw [HLM.out]; exact hlt)]; rfl
      have hbk := HA.out (D.past.getD k []) (by rw [hlk]; exact List.getElem_mem _)
      obtain ⟨_, hk1, hk2⟩ := bitsOk_iff.1 hbk
      have htk := List.take_succ_eq_append_getElem (l := D.past) (i := k) (by rw [HLM.out]; exact hlt)
      rw [← hlk] at htk
      have HT := hid htk
      obtain ⟨lk, hlke⟩ : ∃ lk, D.past.getD k [] = lk := ⟨_, rfl⟩
      rw [hlke] at hs5 hk1 hk2 HT
      have hl5 := hs5.len
      rw [hl5] at hk1 hk2
      have HL5 := hid hl5
      have HS5 := hid hs5
      clear hlke hbk hlk htk hl5 hs5
      obtain ⟨b5, off5, rfl, hb5, _⟩ := HS5.out.2.2 (by omega)
      have hlt' : (k : Int) < (m : Int) := by omega
      have p7 : (0 : Int) ≤ (k : Int) := by omega
      have hwz := BB.out.size
      have d1 := YO.out.c1
      have f1 := YO.out.fz 1
      have hoz := YO.out.lt
      have go1 := (drewN_gA wr 1).trans (grown_alloc wr.drew (.cells #[] 3) none)
      have e1 : (wr.drew.alloc (.cells #[] 3)).cell? ⟨o, 1, none⟩ = some (.slice A4 k c4) := (YO.out.on (row := none) go1 (by simp)).c1
      have ho0 : (wr.drew.alloc (.cells #[] 3)).ownsRow w.heap.size 3 1 (.slice (some ⟨wr.heap.size, 0, none⟩) 0 0) 0 (ints []) := World.ownsRow_lit (base := w.heap.size) (e := 3) (size := 1) wr.drew #[] 0 hwz (by simp [maxLen]) rfl
      have hs1 := (HS5.out.more hwz).on (below_grown go1)
      have oP1 := own_kept_none oP go1
      go_wp2_with fail
      have kS1 : (wr.drew.alloc (.cells #[] 3)).cell? ⟨w.heap.size, 1, none⟩ = some (.slice (some ⟨b2, off2, none⟩) m c2) ∧ (wr.drew.alloc (.cells #[] 3)).cell? ⟨b2, off2 + k, none⟩ = some (.slice (some ⟨b5, off5, none⟩) n5 c5) := ⟨go1.cell t1 (by simp), go1.cell hck (by simp)⟩
      have hBd1 := BB.out.trans ((below_grown go1).mono hwz)
      obtain ⟨wd, hwd⟩ : ∃ W, wr.drew = W := ⟨_, rfl⟩
      have a0 : wd.cell? ⟨w.heap.size, 1, none⟩ = some (.slice (some ⟨b2, off2, none⟩) m c2) := by rw [← hwd]; exact t1
      have a1 : wd.cell? ⟨b2, off2 + k, none⟩ = some (.slice (some ⟨b5, off5, none⟩) n5 c5) := by rw [← hwd]; exact hck
      have a2 : wd.cell? ⟨o, 1, none⟩ = some (.slice A4 k c4) := by rw [← hwd]; exact d1
      have hsd : wd.heap.size = wr.heap.size := by rw [← hwd]; rfl
      refine wp_region_held_drew (S := (fun w' => w'.cell? ⟨w.heap.size, 1, none⟩ = some (.slice (some ⟨b2, off2, none⟩) m c2) ∧ w'.cell? ⟨b2, off2 + k, none⟩ = some (.slice (some ⟨b5, off5, none⟩) n5 c5))) (by kernel_rfl) (by go_keep) (fun hHeld => ?_)
      rw [hwd] at go1 e1 ho0 hs1 oP1 kS1 hBd1 hHeld ⊢
      refine wpAnyH_take (i := 0) (v := ?v0a) rfl (by kernel_rfl) (by kernel_rfl) (by kernel_rfl) (fun _ _ _ h => h) (Or.inl ⟨by rfl, ?y0a⟩) (by assumption) ?r0a
      case y0a => (intro w hSw; (try dsimp only at hSw); go_simp; try with_reducible rfl)
      try simp only [List.getElem_toArray, List.getElem_cons_zero, List.getElem_cons_succ, Act.put, List.setIfInBounds_toArray, List.set_cons_zero, List.set_cons_succ]
      refine wpAnyH_take (i := 3) (v := ?v3a) rfl (by kernel_rfl) (by kernel_rfl) (by kernel_rfl) (fun _ _ _ h => h) (Or.inl ⟨by rfl, ?y3a⟩) (by assumption) ?r3a
      case y3a => (intro w hSw; (try dsimp only at hSw); go_simp; try with_reducible rfl)
      try simp only [List.getElem_toArray, List.getElem_cons_zero, List.getElem_cons_succ, Act.put, List.setIfInBounds_toArray, List.set_cons_zero, List.set_cons_succ]
      refine wpAnyH_take (i := 4) (v := ?v4a) rfl (by kernel_rfl) (by kernel_rfl) (by kernel_rfl) (fun _ _ _ h => h) (Or.inl ⟨by rfl, ?y4a⟩) (by assumption) ?r4a
      case y4a => (intro w hSw; (try dsimp only at hSw); go_simp; try with_reducible rfl)
      try simp only [List.getElem_toArray, List.getElem_cons_zero, List.getElem_cons_succ, Act.put, List.setIfInBounds_toArray, List.set_cons_zero, List.set_cons_succ]
      refine wpAnyH_take (i := 5) (v := ?v5a) rfl (by kernel_rfl) (by kernel_rfl) (by kernel_rfl) (fun _ _ _ h => h) (Or.inl ⟨by rfl, ?y5a⟩) (by assumption) ?r5a
      case y5a => (intro w hSw; (try dsimp only at hSw); go_simp; try with_reducible rfl)
      try simp only [List.getElem_toArray, List.getElem_cons_zero, List.getElem_cons_succ, Act.put, List.setIfInBounds_toArray, List.set_cons_zero, List.set_cons_succ]
      refine wpAnyH_take (i := 6) (v := ?v6a) rfl (by kernel_rfl) (by kernel_rfl) (by kernel_rfl) (fun _ _ _ h => h) (Or.inl ⟨by rfl, ?y6a⟩) (by assumption) ?r6a
      case y6a => (intro w hSw; (try dsimp only at hSw); go_simp; try with_reducible rfl)
      try simp only [List.getElem_toArray, List.getElem_cons_zero, List.getElem_cons_succ, Act.put, List.setIfInBounds_toArray, List.set_cons_zero, List.set_cons_succ]
      refine wpAnyH_take (i := 7) (v := ?v7a) rfl (by kernel_rfl) (by kernel_rfl) (by kernel_rfl) (fun _ _ _ h => h) (Or.inl ⟨by rfl, ?y7a⟩) (by assumption) ?r7a
      case y7a => (intro w hSw; (try dsimp only at hSw); go_simp; try with_reducible rfl)
      try simp only [List.getElem_toArray, List.getElem_cons_zero, List.getElem_cons_succ, Act.put, List.setIfInBounds_toArray, List.set_cons_zero, List.set_cons_succ]
      refine wpAnyH_ready (rs := [1, 2]) (by kernel_rfl) (by simp) ?_
      refine AllReadyH.cons rfl (fun Kr hKr => ?_) (AllReadyH.cons rfl (fun Kr hKr => ?_) AllReadyH.nil)
      · go_simp
        try go_wp2_with fail
        refine hKr.out _ _ ⟨a0, a1⟩ (fun hHeld => ?_)
        clear hKr Kr
        try simp only [List.getElem_toArray, List.getElem_cons_zero, List.getElem_cons_succ, Act.put, List.setIfInBounds_toArray, List.set_cons_zero, List.set_cons_succ]
        refine wpAnyH_ready (rs := [2]) (by kernel_rfl) (by simp) ?_
        refine AllReadyH.cons rfl (fun Kr hKr => ?_) AllReadyH.nil
        go_simp
        try go_wp2_with fail
        refine hKr.out _ _ kS1 (fun hHeld => ?_)
        clear hKr Kr
        try simp only [List.getElem_toArray, List.getElem_cons_zero, List.getElem_cons_succ, Act.put, List.setIfInBounds_toArray, List.set_cons_zero, List.set_cons_succ]
        refine wpAnyH_ready (rs := [8]) (by kernel_rfl) (by simp) ?_
        refine AllReadyH.cons rfl (fun Kr hKr => ?_) AllReadyH.nil
        rw [if_pos (by simp [Region.wanted])]
        refine wp_append_own _ _ _ 28 rfl w.heap.size 3 i0 (.int .i64 0) 1 8 Tryz.underlying28 hi hz0 hz1 hz2 rfl (by decide) (.slice (some ⟨wr.heap.size, 0, none⟩) 0 0) _ _ rfl ho0 ⟨b5, off5, none⟩ n5 c5 (ints lk) rfl (by rw [List.length_map, HL5.out, Nat.mul_one]) hs1.cellsAt (ints_one lk) (by simp only [maxLen]; omega) (by omega) (by simp; omega) ?_
        intro v5 W2 o5 g5 _
        rw [Nat.zero_add, show ints [] ++ ints lk = ints lk from rfl] at o5
        obtain ⟨g5b, c6, rfl, hg5b, hlt5⟩ := own_shape1 o5 (by omega)
        have kS2 : W2.cell? ⟨w.heap.size, 1, none⟩ = some (.slice (some ⟨b2, off2, none⟩) m c2) ∧ W2.cell? ⟨b2, off2 + k, none⟩ = some (.slice (some ⟨b5, off5, none⟩) n5 c5) := ⟨g5.cell kS1.1 (by simp [Value.ownBlock]; have := Y0.out.lt; omega), g5.cell kS1.2 (by simp [Value.ownBlock]; omega)⟩
        have e2 : W2.cell? ⟨o, 1, none⟩ = some (.slice A4 k c4) := g5.cell e1 (by simp [Value.ownBlock]; omega)
        have ga3 := grown_alloc W2 (.cells #[.slice (some ⟨g5b, 0, none⟩) n5 c6] 28) none
        have kS3 : (W2.alloc (.cells #[.slice (some ⟨g5b, 0, none⟩) n5 c6] 28)).cell? ⟨w.heap.size, 1, none⟩ = some (.slice (some ⟨b2, off2, none⟩) m c2) ∧ (W2.alloc (.cells #[.slice (some ⟨g5b, 0, none⟩) n5 c6] 28)).cell? ⟨b2, off2 + k, none⟩ = some (.slice (some ⟨b5, off5, none⟩) n5 c5) := ⟨ga3.cell kS2.1 (by simp), ga3.cell kS2.2 (by simp)⟩
        have e3 : (W2.alloc (.cells #[.slice (some ⟨g5b, 0, none⟩) n5 c6] 28)).cell? ⟨o, 1, none⟩ = some (.slice A4 k c4) := ga3.cell e2 (by simp)
        have oP2 := own_kept_none (oP1.kept g5 (own_types2 ho0 oP1)) ga3
        have hB5 := hBd1.grown g5 hBd1.size (by intro j hj; simp [Value.ownBlock] at hj; omega)
        refine hKr.out _ _ kS2 (fun hHeld => ?_)
        clear hKr Kr
        try simp only [List.getElem_toArray, List.getElem_cons_zero, List.getElem_cons_succ, Act.put, List.setIfInBounds_toArray, List.set_cons_zero, List.set_cons_succ]
        refine wpAnyH_ready (rs := [9]) (by kernel_rfl) (by simp) ?_
        refine AllReadyH.cons rfl (fun Kr hKr => ?_) AllReadyH.nil
        go_simp
        try go_wp2_with fail
        refine hKr.out _ _ kS3 (fun hHeld => ?_)
        clear hKr Kr
        try simp only [List.getElem_toArray, List.getElem_cons_zero, List.getElem_cons_succ, Act.put, List.setIfInBounds_toArray, List.set_cons_zero, List.set_cons_succ]
        refine wpAnyH_ready (rs := [10]) (by kernel_rfl) (by simp) ?_
        refine AllReadyH.cons rfl (fun Kr hKr => ?_) AllReadyH.nil
        rw [if_pos (by simp [Region.wanted])]
        refine wp_append_own _ _ _ 29 rfl w.heap.size 28 j0 (.slice none 0 0) 1 24 Tryz.underlying29 hj hjz0 hjz1 hjz2 rfl (by decide) (.slice A4 k c4) _ _ rfl oP2 ⟨W2.heap.size, 0, none⟩ 1 1 [.slice (some ⟨g5b, 0, none⟩) n5 c6] rfl rfl (cell_one_new W2 _ _) (by simp [Value.oneCell']) (by simp only [maxLen]; omega) (by omega) (by have := hB5.size; simp; omega) ?_
        intro v6 W4 o6 g6 _
        obtain ⟨g6b, c7, rfl, hg6b, hlt6⟩ := own_shape1 o6 (by omega)
        have Y04 := ((Y0.out.on (row := none) go1 (by simp)).on g5 (by simp [Value.ownBlock]; have := Y0.out.lt; omega)).on (row := none) ga3 (by simp)
        have YO4 := ((YO.out.on (row := none) go1 (by simp)).on g5 (by simp [Value.ownBlock]; omega)).on (row := none) ga3 (by simp)
        have Y06 := Y04.on g6 (Y04.ne_row oP2)
        have YO6 := YO4.on g6 (YO4.ne_row oP2)
        have hne6 : some b2 ≠ (Value.slice A4 k c4).ownBlock := by intro h; have := (oP2.lt b2 h.symm).1; omega
        have kS6 : W4.cell? ⟨w.heap.size, 1, none⟩ = some (.slice (some ⟨b2, off2, none⟩) m c2) ∧ W4.cell? ⟨b2, off2 + k, none⟩ = some (.slice (some ⟨b5, off5, none⟩) n5 c5) := ⟨Y06.c1, g6.cell kS3.2 hne6⟩
        have kS7 : ∀ x, (W4.setCell ⟨o, 1, none⟩ x).cell? ⟨w.heap.size, 1, none⟩ = some (.slice (some ⟨b2, off2, none⟩) m c2) ∧ (W4.setCell ⟨o, 1, none⟩ x).cell? ⟨b2, off2 + k, none⟩ = some (.slice (some ⟨b5, off5, none⟩) n5 c5) := fun x => ⟨(Y06.other (by omega) 1 x).c1, (((Below.refl o W4).setCell (p := ⟨o, 1, none⟩) (Nat.le_refl _) x).cell (p := ⟨b2, off2 + k, none⟩) (show b2 < o by omega)).trans kS6.2⟩
        have e4 := YO6.c1
        have f4 := YO6.fz 1
        refine hKr.out _ _ kS6 (fun hHeld => ?_)
        clear hKr Kr
        try simp only [List.getElem_toArray, List.getElem_cons_zero, List.getElem_cons_succ, Act.put, List.setIfInBounds_toArray, List.set_cons_zero, List.set_cons_succ]
        refine wpAnyH_take (i := 11) (v := ?v11t1) rfl (by kernel_rfl) (by kernel_rfl) (by kernel_rfl) (fun _ _ _ h => h) (Or.inl ⟨by rfl, ?y11t1⟩) (by assumption) ?r11t1
        case y11t1 => (intro w hSw; (try dsimp only at hSw); go_simp; try with_reducible rfl)
        try simp only [List.getElem_toArray, List.getElem_cons_zero, List.getElem_cons_succ, Act.put, List.setIfInBounds_toArray, List.set_cons_zero, List.set_cons_succ]
        refine wpAnyH_ready (rs := [12]) (by kernel_rfl) (by simp) ?_
        refine AllReadyH.cons rfl (fun Kr hKr => ?_) AllReadyH.nil
        go_simp
        try go_wp2_with fail
        refine hKr.out _ _ (kS7 _) (fun hHeld => ?_)
        clear hKr Kr
        try simp only [List.getElem_toArray, List.getElem_cons_zero, List.getElem_cons_succ, Act.put, List.setIfInBounds_toArray, List.set_cons_zero, List.set_cons_succ]
        refine wpAnyH_done (by kernel_rfl) ?_ _
        have hBR := ((below_grown go1).grown g5 (by simp; omega) (by intro j hj; simp [Value.ownBlock] at hj; omega)).grown ga3 (by have := g5.size; simp at this; omega) (by simp)
        have RP3 := (RP.out.on hBR).snoc ⟨_, _, _, rfl, own_kept_none o5 ga3⟩
        rw [← HT.out] at RP3
        have O3 := own_on O1.out hBR
        have QR := hid ((RP3.beside oP2 g6).box (k := 1) (.slice (some ⟨g6b, 0, none⟩) (k + 1) c7) YO6)
        have QN := hid (own_box (k := 1) (.slice (some ⟨g6b, 0, none⟩) (k + 1) c7) (own_beside O3 oP2 g6) (YO6.ne_int (own_beside O3 oP2 g6)))
        have QP := hid (own_box (k := 1) (.slice (some ⟨g6b, 0, none⟩) (k + 1) c7) o6 (YO6.ne_row o6))
        have Y13 := (Y1.out.below hBR (by have := Y1.out.lt; omega)).on g6 ((Y1.out.below hBR (by have := Y1.out.lt; omega)).ne_row oP2)
        have Q0 := hid (Y06.other (g := o) (by omega) 1 (.slice (some ⟨g6b, 0, none⟩) (k + 1) c7))
        have Q1 := hid (Y13.other (g := o) (by omega) 1 (.slice (some ⟨g6b, 0, none⟩) (k + 1) c7))
        have QO := hid (YO6.set1 (.slice (some ⟨g6b, 0, none⟩) (k + 1) c7))
        have QB := hid (((hB5.grown ga3 hB5.size (by simp)).grown g6 (by have := hB5.size; simp; omega) (by intro j hj; exact (oP2.lt j hj).1)).setCell (p := ⟨o, 1, none⟩) (show w.heap.size ≤ o by omega) (.slice (some ⟨g6b, 0, none⟩) (k + 1) c7))
        clear RP3 O3 hBR Y13 Y06 YO6 Y04 YO4 o5 o6 g5 g6 ga3 oP2 hB5 kS1 kS2 kS3 kS6 kS7 e1 e2 e3 e4 f4 a0 a1 a2 d1 f1 hs1 oP1 ho0 go1 hBd1 t1 hck oP
        go_wp2
        go_roundw
        case rel => exact ⟨k + 1, some ⟨g6b, 0, none⟩, c7, vs ++ [.slice (some ⟨g5b, 0, none⟩) n5 c6], by go_num, by omega, Q0, Q1, QO, QN, QP.out, QR, QB⟩
        case measure => simp [intOf]; omega
      · go_simp
        try go_wp2_with fail
        refine hKr.out _ _ kS1 (fun hHeld => ?_)
        clear hKr Kr
        try simp only [List.getElem_toArray, List.getElem_cons_zero, List.getElem_cons_succ, Act.put, List.setIfInBounds_toArray, List.set_cons_zero, List.set_cons_succ]
        refine wpAnyH_ready (rs := [1, 8]) (by kernel_rfl) (by simp) ?_
        refine AllReadyH.cons rfl (fun Kr hKr => ?_) (AllReadyH.cons rfl (fun Kr hKr => ?_) AllReadyH.nil)
        · go_simp
          try go_wp2_with fail
          refine hKr.out _ _ kS1 (fun hHeld => ?_)
          clear hKr Kr
          try simp only [List.getElem_toArray, List.getElem_cons_zero, List.getElem_cons_succ, Act.put, List.setIfInBounds_toArray, List.set_cons_zero, List.set_cons_succ]
          refine wpAnyH_ready (rs := [8]) (by kernel_rfl) (by simp) ?_
          refine AllReadyH.cons rfl (fun Kr hKr => ?_) AllReadyH.nil
          rw [if_pos (by simp [Region.wanted])]
          refine wp_append_own _ _ _ 28 rfl w.heap.size 3 i0 (.int .i64 0) 1 8 Tryz.underlying28 hi hz0 hz1 hz2 rfl (by decide) (.slice (some ⟨wr.heap.size, 0, none⟩) 0 0) _ _ rfl ho0 ⟨b5, off5, none⟩ n5 c5 (ints lk) rfl (by rw [List.length_map, HL5.out, Nat.mul_one]) hs1.cellsAt (ints_one lk) (by simp only [maxLen]; omega) (by omega) (by simp; omega) ?_
          intro v5 W2 o5 g5 _
          rw [Nat.zero_add, show ints [] ++ ints lk = ints lk from rfl] at o5
          obtain ⟨g5b, c6, rfl, hg5b, hlt5⟩ := own_shape1 o5 (by omega)
          have kS2 : W2.cell? ⟨w.heap.size, 1, none⟩ = some (.slice (some ⟨b2, off2, none⟩) m c2) ∧ W2.cell? ⟨b2, off2 + k, none⟩ = some (.slice (some ⟨b5, off5, none⟩) n5 c5) := ⟨g5.cell kS1.1 (by simp [Value.ownBlock]; have := Y0.out.lt; omega), g5.cell kS1.2 (by simp [Value.ownBlock]; omega)⟩
          have e2 : W2.cell? ⟨o, 1, none⟩ = some (.slice A4 k c4) := g5.cell e1 (by simp [Value.ownBlock]; omega)
          have ga3 := grown_alloc W2 (.cells #[.slice (some ⟨g5b, 0, none⟩) n5 c6] 28) none
          have kS3 : (W2.alloc (.cells #[.slice (some ⟨g5b, 0, none⟩) n5 c6] 28)).cell? ⟨w.heap.size, 1, none⟩ = some (.slice (some ⟨b2, off2, none⟩) m c2) ∧ (W2.alloc (.cells #[.slice (some ⟨g5b, 0, none⟩) n5 c6] 28)).cell? ⟨b2, off2 + k, none⟩ = some (.slice (some ⟨b5, off5, none⟩) n5 c5) := ⟨ga3.cell kS2.1 (by simp), ga3.cell kS2.2 (by simp)⟩
          have e3 : (W2.alloc (.cells #[.slice (some ⟨g5b, 0, none⟩) n5 c6] 28)).cell? ⟨o, 1, none⟩ = some (.slice A4 k c4) := ga3.cell e2 (by simp)
          have oP2 := own_kept_none (oP1.kept g5 (own_types2 ho0 oP1)) ga3
          have hB5 := hBd1.grown g5 hBd1.size (by intro j hj; simp [Value.ownBlock] at hj; omega)
          refine hKr.out _ _ kS2 (fun hHeld => ?_)
          clear hKr Kr
          try simp only [List.getElem_toArray, List.getElem_cons_zero, List.getElem_cons_succ, Act.put, List.setIfInBounds_toArray, List.set_cons_zero, List.set_cons_succ]
          refine wpAnyH_ready (rs := [9]) (by kernel_rfl) (by simp) ?_
          refine AllReadyH.cons rfl (fun Kr hKr => ?_) AllReadyH.nil
          go_simp
          try go_wp2_with fail
          refine hKr.out _ _ kS3 (fun hHeld => ?_)
          clear hKr Kr
          try simp only [List.getElem_toArray, List.getElem_cons_zero, List.getElem_cons_succ, Act.put, List.setIfInBounds_toArray, List.set_cons_zero, List.set_cons_succ]
          refine wpAnyH_ready (rs := [10]) (by kernel_rfl) (by simp) ?_
          refine AllReadyH.cons rfl (fun Kr hKr => ?_) AllReadyH.nil
          rw [if_pos (by simp [Region.wanted])]
          refine wp_append_own _ _ _ 29 rfl w.heap.size 28 j0 (.slice none 0 0) 1 24 Tryz.underlying29 hj hjz0 hjz1 hjz2 rfl (by decide) (.slice A4 k c4) _ _ rfl oP2 ⟨W2.heap.size, 0, none⟩ 1 1 [.slice (some ⟨g5b, 0, none⟩) n5 c6] rfl rfl (cell_one_new W2 _ _) (by simp [Value.oneCell']) (by simp only [maxLen]; omega) (by omega) (by have := hB5.size; simp; omega) ?_
          intro v6 W4 o6 g6 _
          obtain ⟨g6b, c7, rfl, hg6b, hlt6⟩ := own_shape1 o6 (by omega)
          have Y04 := ((Y0.out.on (row := none) go1 (by simp)).on g5 (by simp [Value.ownBlock]; have := Y0.out.lt; omega)).on (row := none) ga3 (by simp)
          have YO4 := ((YO.out.on (row := none) go1 (by simp)).on g5 (by simp [Value.ownBlock]; omega)).on (row := none) ga3 (by simp)
          have Y06 := Y04.on g6 (Y04.ne_row oP2)
          have YO6 := YO4.on g6 (YO4.ne_row oP2)
          have hne6 : some b2 ≠ (Value.slice A4 k c4).ownBlock := by intro h; have := (oP2.lt b2 h.symm).1; omega
          have kS6 : W4.cell? ⟨w.heap.size, 1, none⟩ = some (.slice (some ⟨b2, off2, none⟩) m c2) ∧ W4.cell? ⟨b2, off2 + k, none⟩ = some (.slice (some ⟨b5, off5, none⟩) n5 c5) := ⟨Y06.c1, g6.cell kS3.2 hne6⟩
          have kS7 : ∀ x, (W4.setCell ⟨o, 1, none⟩ x).cell? ⟨w.heap.size, 1, none⟩ = some (.slice (some ⟨b2, off2, none⟩) m c2) ∧ (W4.setCell ⟨o, 1, none⟩ x).cell? ⟨b2, off2 + k, none⟩ = some (.slice (some ⟨b5, off5, none⟩) n5 c5) := fun x => ⟨(Y06.other (by omega) 1 x).c1, (((Below.refl o W4).setCell (p := ⟨o, 1, none⟩) (Nat.le_refl _) x).cell (p := ⟨b2, off2 + k, none⟩) (show b2 < o by omega)).trans kS6.2⟩
          have e4 := YO6.c1
          have f4 := YO6.fz 1
          refine hKr.out _ _ kS6 (fun hHeld => ?_)
          clear hKr Kr
          try simp only [List.getElem_toArray, List.getElem_cons_zero, List.getElem_cons_succ, Act.put, List.setIfInBounds_toArray, List.set_cons_zero, List.set_cons_succ]
          refine wpAnyH_take (i := 11) (v := ?v11t2) rfl (by kernel_rfl) (by kernel_rfl) (by kernel_rfl) (fun _ _ _ h => h) (Or.inl ⟨by rfl, ?y11t2⟩) (by assumption) ?r11t2
          case y11t2 => (intro w hSw; (try dsimp only at hSw); go_simp; try with_reducible rfl)
          try simp only [List.getElem_toArray, List.getElem_cons_zero, List.getElem_cons_succ, Act.put, List.setIfInBounds_toArray, List.set_cons_zero, List.set_cons_succ]
          refine wpAnyH_ready (rs := [12]) (by kernel_rfl) (by simp) ?_
          refine AllReadyH.cons rfl (fun Kr hKr => ?_) AllReadyH.nil
          go_simp
          try go_wp2_with fail
          refine hKr.out _ _ (kS7 _) (fun hHeld => ?_)
          clear hKr Kr
          try simp only [List.getElem_toArray, List.getElem_cons_zero, List.getElem_cons_succ, Act.put, List.setIfInBounds_toArray, List.set_cons_zero, List.set_cons_succ]
          refine wpAnyH_done (by kernel_rfl) ?_ _
          have hBR := ((below_grown go1).grown g5 (by simp; omega) (by intro j hj; simp [Value.ownBlock] at hj; omega)).grown ga3 (by have := g5.size; simp at this; omega) (by simp)
          have RP3 := (RP.out.on hBR).snoc ⟨_, _, _, rfl, own_kept_none o5 ga3⟩
          rw [← HT.out] at RP3
          have O3 := own_on O1.out hBR
          have QR := hid ((RP3.beside oP2 g6).box (k := 1) (.slice (some ⟨g6b, 0, none⟩) (k + 1) c7) YO6)
          have QN := hid (own_box (k := 1) (.slice (some ⟨g6b, 0, none⟩) (k + 1) c7) (own_beside O3 oP2 g6) (YO6.ne_int (own_beside O3 oP2 g6)))
          have QP := hid (own_box (k := 1) (.slice (some ⟨g6b, 0, none⟩) (k + 1) c7) o6 (YO6.ne_row o6))
          have Y13 := (Y1.out.below hBR (by have := Y1.out.lt; omega)).on g6 ((Y1.out.below hBR (by have := Y1.out.lt; omega)).ne_row oP2)
          have Q0 := hid (Y06.other (g := o) (by omega) 1 (.slice (some ⟨g6b, 0, none⟩) (k + 1) c7))
          have Q1 := hid (Y13.other (g := o) (by omega) 1 (.slice (some ⟨g6b, 0, none⟩) (k + 1) c7))
          have QO := hid (YO6.set1 (.slice (some ⟨g6b, 0, none⟩) (k + 1) c7))
          have QB := hid (((hB5.grown ga3 hB5.size (by simp)).grown g6 (by have := hB5.size; simp; omega) (by intro j hj; exact (oP2.lt j hj).1)).setCell (p := ⟨o, 1, none⟩) (show w.heap.size ≤ o by omega) (.slice (some ⟨g6b, 0, none⟩) (k + 1) c7))
          clear RP3 O3 hBR Y13 Y06 YO6 Y04 YO4 o5 o6 g5 g6 ga3 oP2 hB5 kS1 kS2 kS3 kS6 kS7 e1 e2 e3 e4 f4 a0 a1 a2 d1 f1 hs1 oP1 ho0 go1 hBd1 t1 hck oP
          go_wp2
          go_roundw
          case rel => exact ⟨k + 1, some ⟨g6b, 0, none⟩, c7, vs ++ [.slice (some ⟨g5b, 0, none⟩) n5 c6], by go_num, by omega, Q0, Q1, QO, QN, QP.out, QR, QB⟩
          case measure => simp [intOf]; omega
        · rw [if_pos (by simp [Region.wanted])]
          refine wp_append_own _ _ _ 28 rfl w.heap.size 3 i0 (.int .i64 0) 1 8 Tryz.underlying28 hi hz0 hz1 hz2 rfl (by decide) (.slice (some ⟨wr.heap.size, 0, none⟩) 0 0) _ _ rfl ho0 ⟨b5, off5, none⟩ n5 c5 (ints lk) rfl (by rw [List.length_map, HL5.out, Nat.mul_one]) hs1.cellsAt (ints_one lk) (by simp only [maxLen]; omega) (by omega) (by simp; omega) ?_
          intro v5 W2 o5 g5 _
          rw [Nat.zero_add, show ints [] ++ ints lk = ints lk from rfl] at o5
          obtain ⟨g5b, c6, rfl, hg5b, hlt5⟩ := own_shape1 o5 (by omega)
          have kS2 : W2.cell? ⟨w.heap.size, 1, none⟩ = some (.slice (some ⟨b2, off2, none⟩) m c2) ∧ W2.cell? ⟨b2, off2 + k, none⟩ = some (.slice (some ⟨b5, off5, none⟩) n5 c5) := ⟨g5.cell kS1.1 (by simp [Value.ownBlock]; have := Y0.out.lt; omega), g5.cell kS1.2 (by simp [Value.ownBlock]; omega)⟩
          have e2 : W2.cell? ⟨o, 1, none⟩ = some (.slice A4 k c4) := g5.cell e1 (by simp [Value.ownBlock]; omega)
          have ga3 := grown_alloc W2 (.cells #[.slice (some ⟨g5b, 0, none⟩) n5 c6] 28) none
          have kS3 : (W2.alloc (.cells #[.slice (some ⟨g5b, 0, none⟩) n5 c6] 28)).cell? ⟨w.heap.size, 1, none⟩ = some (.slice (some ⟨b2, off2, none⟩) m c2) ∧ (W2.alloc (.cells #[.slice (some ⟨g5b, 0, none⟩) n5 c6] 28)).cell? ⟨b2, off2 + k, none⟩ = some (.slice (some ⟨b5, off5, none⟩) n5 c5) := ⟨ga3.cell kS2.1 (by simp), ga3.cell kS2.2 (by simp)⟩
          have e3 : (W2.alloc (.cells #[.slice (some ⟨g5b, 0, none⟩) n5 c6] 28)).cell? ⟨o, 1, none⟩ = some (.slice A4 k c4) := ga3.cell e2 (by simp)
          have oP2 := own_kept_none (oP1.kept g5 (own_types2 ho0 oP1)) ga3
          have hB5 := hBd1.grown g5 hBd1.size (by intro j hj; simp [Value.ownBlock] at hj; omega)
          refine hKr.out _ _ kS2 (fun hHeld => ?_)
          clear hKr Kr
          try simp only [List.getElem_toArray, List.getElem_cons_zero, List.getElem_cons_succ, Act.put, List.setIfInBounds_toArray, List.set_cons_zero, List.set_cons_succ]
          refine wpAnyH_ready (rs := [1, 9]) (by kernel_rfl) (by simp) ?_
          refine AllReadyH.cons rfl (fun Kr hKr => ?_) (AllReadyH.cons rfl (fun Kr hKr => ?_) AllReadyH.nil)
          · go_simp
            try go_wp2_with fail
            refine hKr.out _ _ kS2 (fun hHeld => ?_)
            clear hKr Kr
            try simp only [List.getElem_toArray, List.getElem_cons_zero, List.getElem_cons_succ, Act.put, List.setIfInBounds_toArray, List.set_cons_zero, List.set_cons_succ]
            refine wpAnyH_ready (rs := [9]) (by kernel_rfl) (by simp) ?_
            refine AllReadyH.cons rfl (fun Kr hKr => ?_) AllReadyH.nil
            go_simp
            try go_wp2_with fail
            refine hKr.out _ _ kS3 (fun hHeld => ?_)
            clear hKr Kr
            try simp only [List.getElem_toArray, List.getElem_cons_zero, List.getElem_cons_succ, Act.put, List.setIfInBounds_toArray, List.set_cons_zero, List.set_cons_succ]
            refine wpAnyH_ready (rs := [10]) (by kernel_rfl) (by simp) ?_
            refine AllReadyH.cons rfl (fun Kr hKr => ?_) AllReadyH.nil
            rw [if_pos (by simp [Region.wanted])]
            refine wp_append_own _ _ _ 29 rfl w.heap.size 28 j0 (.slice none 0 0) 1 24 Tryz.underlying29 hj hjz0 hjz1 hjz2 rfl (by decide) (.slice A4 k c4) _ _ rfl oP2 ⟨W2.heap.size, 0, none⟩ 1 1 [.slice (some ⟨g5b, 0, none⟩) n5 c6] rfl rfl (cell_one_new W2 _ _) (by simp [Value.oneCell']) (by simp only [maxLen]; omega) (by omega) (by have := hB5.size; simp; omega) ?_
            intro v6 W4 o6 g6 _
            obtain ⟨g6b, c7, rfl, hg6b, hlt6⟩ := own_shape1 o6 (by omega)
            have Y04 := ((Y0.out.on (row := none) go1 (by simp)).on g5 (by simp [Value.ownBlock]; have := Y0.out.lt; omega)).on (row := none) ga3 (by simp)
            have YO4 := ((YO.out.on (row := none) go1 (by simp)).on g5 (by simp [Value.ownBlock]; omega)).on (row := none) ga3 (by simp)
            have Y06 := Y04.on g6 (Y04.ne_row oP2)
            have YO6 := YO4.on g6 (YO4.ne_row oP2)
            have hne6 : some b2 ≠ (Value.slice A4 k c4).ownBlock := by intro h; have := (oP2.lt b2 h.symm).1; omega
            have kS6 : W4.cell? ⟨w.heap.size, 1, none⟩ = some (.slice (some ⟨b2, off2, none⟩) m c2) ∧ W4.cell? ⟨b2, off2 + k, none⟩ = some (.slice (some ⟨b5, off5, none⟩) n5 c5) := ⟨Y06.c1, g6.cell kS3.2 hne6⟩
            have kS7 : ∀ x, (W4.setCell ⟨o, 1, none⟩ x).cell? ⟨w.heap.size, 1, none⟩ = some (.slice (some ⟨b2, off2, none⟩) m c2) ∧ (W4.setCell ⟨o, 1, none⟩ x).cell? ⟨b2, off2 + k, none⟩ = some (.slice (some ⟨b5, off5, none⟩) n5 c5) := fun x => ⟨(Y06.other (by omega) 1 x).c1, (((Below.refl o W4).setCell (p := ⟨o, 1, none⟩) (Nat.le_refl _) x).cell (p := ⟨b2, off2 + k, none⟩) (show b2 < o by omega)).trans kS6.2⟩
            have e4 := YO6.c1
            have f4 := YO6.fz 1
            refine hKr.out _ _ kS6 (fun hHeld => ?_)
            clear hKr Kr
            try simp only [List.getElem_toArray, List.getElem_cons_zero, List.getElem_cons_succ, Act.put, List.setIfInBounds_toArray, List.set_cons_zero, List.set_cons_succ]
            refine wpAnyH_take (i := 11) (v := ?v11t3) rfl (by kernel_rfl) (by kernel_rfl) (by kernel_rfl) (fun _ _ _ h => h) (Or.inl ⟨by rfl, ?y11t3⟩) (by assumption) ?r11t3
            case y11t3 => (intro w hSw; (try dsimp only at hSw); go_simp; try with_reducible rfl)
            try simp only [List.getElem_toArray, List.getElem_cons_zero, List.getElem_cons_succ, Act.put, List.setIfInBounds_toArray, List.set_cons_zero, List.set_cons_succ]
            refine wpAnyH_ready (rs := [12]) (by kernel_rfl) (by simp) ?_
            refine AllReadyH.cons rfl (fun Kr hKr => ?_) AllReadyH.nil
            go_simp
            try go_wp2_with fail
            refine hKr.out _ _ (kS7 _) (fun hHeld => ?_)
            clear hKr Kr
            try simp only [List.getElem_toArray, List.getElem_cons_zero, List.getElem_cons_succ, Act.put, List.setIfInBounds_toArray, List.set_cons_zero, List.set_cons_succ]
            refine wpAnyH_done (by kernel_rfl) ?_ _
            have hBR := ((below_grown go1).grown g5 (by simp; omega) (by intro j hj; simp [Value.ownBlock] at hj; omega)).grown ga3 (by have := g5.size; simp at this; omega) (by simp)
            have RP3 := (RP.out.on hBR).snoc ⟨_, _, _, rfl, own_kept_none o5 ga3⟩
            rw [← HT.out] at RP3
            have O3 := own_on O1.out hBR
            have QR := hid ((RP3.beside oP2 g6).box (k := 1) (.slice (some ⟨g6b, 0, none⟩) (k + 1) c7) YO6)
            have QN := hid (own_box (k := 1) (.slice (some ⟨g6b, 0, none⟩) (k + 1) c7) (own_beside O3 oP2 g6) (YO6.ne_int (own_beside O3 oP2 g6)))
            have QP := hid (own_box (k := 1) (.slice (some ⟨g6b, 0, none⟩) (k + 1) c7) o6 (YO6.ne_row o6))
            have Y13 := (Y1.out.below hBR (by have := Y1.out.lt; omega)).on g6 ((Y1.out.below hBR (by have := Y1.out.lt; omega)).ne_row oP2)
            have Q0 := hid (Y06.other (g := o) (by omega) 1 (.slice (some ⟨g6b, 0, none⟩) (k + 1) c7))
            have Q1 := hid (Y13.other (g := o) (by omega) 1 (.slice (some ⟨g6b, 0, none⟩) (k + 1) c7))
            have QO := hid (YO6.set1 (.slice (some ⟨g6b, 0, none⟩) (k + 1) c7))
            have QB := hid (((hB5.grown ga3 hB5.size (by simp)).grown g6 (by have := hB5.size; simp; omega) (by intro j hj; exact (oP2.lt j hj).1)).setCell (p := ⟨o, 1, none⟩) (show w.heap.size ≤ o by omega) (.slice (some ⟨g6b, 0, none⟩) (k + 1) c7))
            clear RP3 O3 hBR Y13 Y06 YO6 Y04 YO4 o5 o6 g5 g6 ga3 oP2 hB5 kS1 kS2 kS3 kS6 kS7 e1 e2 e3 e4 f4 a0 a1 a2 d1 f1 hs1 oP1 ho0 go1 hBd1 t1 hck oP
            go_wp2
            go_roundw
            case rel => exact ⟨k + 1, some ⟨g6b, 0, none⟩, c7, vs ++ [.slice (some ⟨g5b, 0, none⟩) n5 c6], by go_num, by omega, Q0, Q1, QO, QN, QP.out, QR, QB⟩
            case measure => simp [intOf]; omega
          · go_simp
            try go_wp2_with fail
            refine hKr.out _ _ kS3 (fun hHeld => ?_)
            clear hKr Kr
            try simp only [List.getElem_toArray, List.getElem_cons_zero, List.getElem_cons_succ, Act.put, List.setIfInBounds_toArray, List.set_cons_zero, List.set_cons_succ]
            refine wpAnyH_ready (rs := [1]) (by kernel_rfl) (by simp) ?_
            refine AllReadyH.cons rfl (fun Kr hKr => ?_) AllReadyH.nil
            go_simp
            try go_wp2_with fail
            refine hKr.out _ _ kS3 (fun hHeld => ?_)
            clear hKr Kr
            try simp only [List.getElem_toArray, List.getElem_cons_zero, List.getElem_cons_succ, Act.put, List.setIfInBounds_toArray, List.set_cons_zero, List.set_cons_succ]
            refine wpAnyH_ready (rs := [10]) (by kernel_rfl) (by simp) ?_
            refine AllReadyH.cons rfl (fun Kr hKr => ?_) AllReadyH.nil
            rw [if_pos (by simp [Region.wanted])]
            refine wp_append_own _ _ _ 29 rfl w.heap.size 28 j0 (.slice none 0 0) 1 24 Tryz.underlying29 hj hjz0 hjz1 hjz2 rfl (by decide) (.slice A4 k c4) _ _ rfl oP2 ⟨W2.heap.size, 0, none⟩ 1 1 [.slice (some ⟨g5b, 0, none⟩) n5 c6] rfl rfl (cell_one_new W2 _ _) (by simp [Value.oneCell']) (by simp only [maxLen]; omega) (by omega) (by have := hB5.size; simp; omega) ?_
            intro v6 W4 o6 g6 _
            obtain ⟨g6b, c7, rfl, hg6b, hlt6⟩ := own_shape1 o6 (by omega)
            have Y04 := ((Y0.out.on (row := none) go1 (by simp)).on g5 (by simp [Value.ownBlock]; have := Y0.out.lt; omega)).on (row := none) ga3 (by simp)
            have YO4 := ((YO.out.on (row := none) go1 (by simp)).on g5 (by simp [Value.ownBlock]; omega)).on (row := none) ga3 (by simp)
            have Y06 := Y04.on g6 (Y04.ne_row oP2)
            have YO6 := YO4.on g6 (YO4.ne_row oP2)
            have hne6 : some b2 ≠ (Value.slice A4 k c4).ownBlock := by intro h; have := (oP2.lt b2 h.symm).1; omega
            have kS6 : W4.cell? ⟨w.heap.size, 1, none⟩ = some (.slice (some ⟨b2, off2, none⟩) m c2) ∧ W4.cell? ⟨b2, off2 + k, none⟩ = some (.slice (some ⟨b5, off5, none⟩) n5 c5) := ⟨Y06.c1, g6.cell kS3.2 hne6⟩
            have kS7 : ∀ x, (W4.setCell ⟨o, 1, none⟩ x).cell? ⟨w.heap.size, 1, none⟩ = some (.slice (some ⟨b2, off2, none⟩) m c2) ∧ (W4.setCell ⟨o, 1, none⟩ x).cell? ⟨b2, off2 + k, none⟩ = some (.slice (some ⟨b5, off5, none⟩) n5 c5) := fun x => ⟨(Y06.other (by omega) 1 x).c1, (((Below.refl o W4).setCell (p := ⟨o, 1, none⟩) (Nat.le_refl _) x).cell (p := ⟨b2, off2 + k, none⟩) (show b2 < o by omega)).trans kS6.2⟩
            have e4 := YO6.c1
            have f4 := YO6.fz 1
            refine hKr.out _ _ kS6 (fun hHeld => ?_)
            clear hKr Kr
            try simp only [List.getElem_toArray, List.getElem_cons_zero, List.getElem_cons_succ, Act.put, List.setIfInBounds_toArray, List.set_cons_zero, List.set_cons_succ]
            refine wpAnyH_take (i := 11) (v := ?v11t4) rfl (by kernel_rfl) (by kernel_rfl) (by kernel_rfl) (fun _ _ _ h => h) (Or.inl ⟨by rfl, ?y11t4⟩) (by assumption) ?r11t4
            case y11t4 => (intro w hSw; (try dsimp only at hSw); go_simp; try with_reducible rfl)
            try simp only [List.getElem_toArray, List.getElem_cons_zero, List.getElem_cons_succ, Act.put, List.setIfInBounds_toArray, List.set_cons_zero, List.set_cons_succ]
            refine wpAnyH_ready (rs := [12]) (by kernel_rfl) (by simp) ?_
            refine AllReadyH.cons rfl (fun Kr hKr => ?_) AllReadyH.nil
            go_simp
            try go_wp2_with fail
            refine hKr.out _ _ (kS7 _) (fun hHeld => ?_)
            clear hKr Kr
            try simp only [List.getElem_toArray, List.getElem_cons_zero, List.getElem_cons_succ, Act.put, List.setIfInBounds_toArray, List.set_cons_zero, List.set_cons_succ]
            refine wpAnyH_done (by kernel_rfl) ?_ _
            have hBR := ((below_grown go1).grown g5 (by simp; omega) (by intro j hj; simp [Value.ownBlock] at hj; omega)).grown ga3 (by have := g5.size; simp at this; omega) (by simp)
            have RP3 := (RP.out.on hBR).snoc ⟨_, _, _, rfl, own_kept_none o5 ga3⟩
            rw [← HT.out] at RP3
            have O3 := own_on O1.out hBR
            have QR := hid ((RP3.beside oP2 g6).box (k := 1) (.slice (some ⟨g6b, 0, none⟩) (k + 1) c7) YO6)
            have QN := hid (own_box (k := 1) (.slice (some ⟨g6b, 0, none⟩) (k + 1) c7) (own_beside O3 oP2 g6) (YO6.ne_int (own_beside O3 oP2 g6)))
            have QP := hid (own_box (k := 1) (.slice (some ⟨g6b, 0, none⟩) (k + 1) c7) o6 (YO6.ne_row o6))
            have Y13 := (Y1.out.below hBR (by have := Y1.out.lt; omega)).on g6 ((Y1.out.below hBR (by have := Y1.out.lt; omega)).ne_row oP2)
            have Q0 := hid (Y06.other (g := o) (by omega) 1 (.slice (some ⟨g6b, 0, none⟩) (k + 1) c7))
            have Q1 := hid (Y13.other (g := o) (by omega) 1 (.slice (some ⟨g6b, 0, none⟩) (k + 1) c7))
            have QO := hid (YO6.set1 (.slice (some ⟨g6b, 0, none⟩) (k + 1) c7))
            have QB := hid (((hB5.grown ga3 hB5.size (by simp)).grown g6 (by have := hB5.size; simp; omega) (by intro j hj; exact (oP2.lt j hj).1)).setCell (p := ⟨o, 1, none⟩) (show w.heap.size ≤ o by omega) (.slice (some ⟨g6b, 0, none⟩) (k + 1) c7))
            clear RP3 O3 hBR Y13 Y06 YO6 Y04 YO4 o5 o6 g5 g6 ga3 oP2 hB5 kS1 kS2 kS3 kS6 kS7 e1 e2 e3 e4 f4 a0 a1 a2 d1 f1 hs1 oP1 ho0 go1 hBd1 t1 hck oP
            go_wp2
            go_roundw
            case rel => exact ⟨k + 1, some ⟨g6b, 0, none⟩, c7, vs ++ [.slice (some ⟨g5b, 0, none⟩) n5 c6], by go_num, by omega, Q0, Q1, QO, QN, QP.out, QR, QB⟩
            case measure => simp [intOf]; omega
    · obtain rfl : k = m := by omega
      have u0 := YO.out.c0
      have u1 := YO.out.c1
      have r0 := Y1.out.c0
      have r1 := Y1.out.c1
      have q0 := Y1.out.fz 0
      have q1 := Y1.out.fz 1
      rw [List.take_of_length_le (by rw [HLM.out]; exact Nat.le_refl _)] at RP
      have hlt' : ¬ (k : Int) < (k : Int) := by omega
      have OP := hid oP
      clear oP
      go_wp2
      (try simp only [Exit.inBlock, Exit.then])
      refine bodyPost_ret (results_cell_row rfl _ _ (w.heap.size + 1) 31 _ (0, 0) _ (by simp [Act.put]) (Y1.out.set _ _) Tryz.underlying31 rfl size_desk) rfl ?_
      refine ⟨_, _, _, _, rfl, ⟨vs, DkO.box2 (u := .slice none 0 0) (v := .slice none 0 0) ⟨O1.out, OP.out, RP.out⟩ Y1.out _ _⟩, ?_⟩
      exact (BB.out.setCell (p := ⟨w.heap.size + 1, 0, none⟩) (by simp) _).setCell (p := ⟨w.heap.size + 1, 1, none⟩) (by simp) _
end Go.Proofs.YtkejcajboneniabGreatDoor
namespace Go.Proofs.YtkejcajboneniabGreatDoor
open Go.RowKit

/-- What DeskNew gives. -/
def newOut (l : List Int) : Dk := if bitsOk l = true then ⟨l, []⟩ else noDk
theorem results_db {P : Program} {fn : Func} {p u : Tmp} {ty : TypeId} (h : fn.results = #[.cell p ty, .tmp u]) (tmps : Array Value) (w : World) (g : Nat) (t : TypeId) (cs : Array Value) (fr : Nat × Nat) (d : TypeDesc)
    (hp : tmps.getD p undef = .pointer (some ⟨g, 0, none⟩)) (hg : w.heap[g]? = some (.cells cs t fr))
    (hu : P.underlying ty = some d) (hd : (match d with | .struct _ | .array _ _ => true | _ => false) = true) (hi : (P.info? ty).map (·.size) = some cs.size) :
    (results fn tmps).run P w = .ok (.tuple #[.agg cs, tmps.getD u undef]) w := by
  have hp' : tmps[p]?.getD undef = .pointer (some ⟨g, 0, none⟩) := by simpa using hp
  simp [results, h, hp', asAddr, run_loadVar_row w g t ty cs fr d hg hu hd hi]
theorem DkF.no (w : World) (B : Nat) : DkF w B none 0 0 none 0 0 noDk := ⟨[], World.ownsRow_nil _ _ _ _, World.ownsRow_nil _ _ _ _, Rows.nil _ _⟩

set_option maxRecDepth 100000 in
set_option maxHeartbeats 1600000 in
theorem specDeskNew_any (A : Option Addr) (n c : Nat) (l : List Int) (w : World) (hs : Sl w w.heap.size A n l) :
    Calls Tryz.prog 95 #[.slice A n c] w fun e w' => ∃ A3 n3 c3 A4 m4 c4, e = .returned (.tuple #[dsk A3 n3 c3 A4 m4 c4, .bool (bitsOk l)]) ∧ DkF w' w.heap.size A3 n3 c3 A4 m4 c4 (newOut l) ∧ Below w.heap.size w w' := by
  obtain ⟨i0, hi, hz0, hz1, hz2⟩ := info_parts info_int
  have hz : (w.alloc (.cells #[.slice none 0 0, .slice none 0 0] 31)).heap.size = w.heap.size + 1 := by simp
  have X0 := hid (Db.new w (.slice none 0 0) (.slice none 0 0))
  have B0 := hid ((Below.refl w.heap.size w).alloc (Nat.le_refl _) (.cells #[.slice none 0 0, .slice none 0 0] 31))
  have HS := hid (hs.on B0.out)
  have HL := hid hs.len
  have CK := hid (specBitsOk_any A n c l _ _ HS.out)
  have d0 := X0.out.c0
  have d1 := X0.out.c1
  have g0 := X0.out.fz 0
  have g1 := X0.out.fz 1
  cases hok : bitsOk l with
  | false =>
    have HV := hid (show newOut l = noDk from by unfold newOut; rw [hok]; rfl)
    rw [hok] at CK
    clear hok
    go_enter Tryz.func95, Tryz.ntmps95
    go_wp2_with fail
    with_reducible refine Calls.mono CK.out ?_
    rintro e w' ⟨rfl, rfl⟩
    go_wp2
    (try simp only [Exit.inBlock, Exit.then])
    refine bodyPost_ret (results_db rfl _ _ w.heap.size 31 _ (0, 0) _ (by simp [Act.put]) X0.out Tryz.underlying31 rfl size_desk) rfl ?_
    exact ⟨_, _, _, _, _, _, rfl, by rw [HV.out]; exact DkF.no _ _, B0.out⟩
  | true =>
    have HV := hid (show newOut l = ⟨l, []⟩ from by unfold newOut; rw [if_pos hok])
    obtain ⟨_, h1, h2⟩ := bitsOk_iff.1 hok
    rw [HL.out] at h1 h2
    rw [hok] at CK
    clear hok
    obtain ⟨bn, offn, rfl, hbn, _⟩ := hs.2.2 (by omega)
    obtain ⟨w0, e0⟩ : ∃ W, w.alloc (.cells #[.slice none 0 0, .slice none 0 0] 31) = W := ⟨_, rfl⟩
    have hb1 := B0.out.alloc (by simp) (.cells #[] 3)
    have hg1 := grown_alloc (w.alloc (.cells #[.slice none 0 0, .slice none 0 0] 31)) (.cells #[] 3) none
    have ho0 : ((w.alloc (.cells #[.slice none 0 0, .slice none 0 0] 31)).alloc (.cells #[] 3)).ownsRow w.heap.size 3 1 (.slice (some ⟨w.heap.size + 1, 0, none⟩) 0 0) 0 (ints []) := by
      have := World.ownsRow_lit (base := w.heap.size) (e := 3) (size := 1) (w.alloc (.cells #[.slice none 0 0, .slice none 0 0] 31)) #[] 0 (by simp) (by simp [maxLen]) rfl
      rwa [hz] at this
    have hs1 := HS.out.on (below_grown hg1)
    have X1 := X0.out.on (row := none) hg1 (by simp)
    go_enter Tryz.func95, Tryz.ntmps95
    rw [e0] at ho0 hb1 hg1 hs1 X1 CK
    go_wp2_with fail
    with_reducible refine Calls.mono CK.out ?_
    rintro e w' ⟨rfl, rfl⟩
    have hz' : w0.heap.size = w.heap.size + 1 := by rw [← e0]; exact hz
    rw [e0] at d0 d1 g0 g1
    clear e0 hz
    go_wp2_with (at_builtin; refine wpList_append_own _ rfl _ _ 28 rfl w.heap.size 3 i0 (.int .i64 0) 1 8 Tryz.underlying28 hi hz0 hz1 hz2 rfl (by decide) (.slice (some ⟨w.heap.size + 1, 0, none⟩) 0 0) _ _ rfl ho0 ⟨bn, offn, none⟩ n c (ints l) rfl (by rw [List.length_map, HL.out, Nat.mul_one]) hs1.cellsAt (ints_one l) (by simp only [maxLen]; omega) (by omega) hb1.size ?_; intro v2 w2 o2 g2 _; rw [Nat.zero_add, show ints [] ++ ints l = ints l from rfl] at o2; obtain ⟨g, c3, rfl, hbg, hlt2⟩ := own_shape1 o2 (by omega); have X2 := X1.on g2 (by simp [Value.ownBlock]); have k0 := X2.c0; have k1 := X2.c1; have l0 := X2.fz 0; have l1 := X2.fz 1)
    have HX2 := hid X2
    have HB2 := hid (hb1.grown g2 hb1.size (by intro j hj; simp [Value.ownBlock] at hj; omega))
    have O2 := hid o2
    clear g2 o2 ho0 hb1 hg1 hs1 X1 X2 k0 k1 l0 l1 d0 d1 g0 g1
    (try simp only [Exit.inBlock, Exit.then])
    refine bodyPost_ret (results_db rfl _ _ w.heap.size 31 _ (0, 0) _ (by simp [Act.put]) (HX2.out.set _ _) Tryz.underlying31 rfl size_desk) rfl ?_
    exact ⟨_, _, _, _, _, _, rfl, by rw [HV.out]; exact DkF.box2 ⟨[], O2.out, World.ownsRow_nil _ _ _ _, Rows.nil _ _⟩ HX2.out _ _, (HB2.out.setCell (p := ⟨w.heap.size, 0, none⟩) (Nat.le_refl _) _).setCell (p := ⟨w.heap.size, 1, none⟩) (Nat.le_refl _) _⟩
end Go.Proofs.YtkejcajboneniabGreatDoor
