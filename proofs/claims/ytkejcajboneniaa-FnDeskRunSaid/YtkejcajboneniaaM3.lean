/-
  Texts put together: Dk C11 DrX T12 T12a T12b T12c T12e T12d T12f T12g T12x T12y Dr12. No statement is proved here.
-/
import Derived.Test.YtkejcajboneniaaM2
import Derived.Lib.MinMax
import Derived.Test.YtkejcajboneniaaM1
import Derived.IntWalk
import Derived.Deep.RegionWith
import Derived.BigRegion
import Derived.Sort.EncStr
import Derived.Laws.IdiomStrings
import Derived.Laws.DeepStrings4
import Derived.Laws.Concat
import Derived.BigQuiet
import Derived.Deep.QuietTactic
import Derived.Below
import Derived.Handy
namespace Go.Proofs.Ytkejcajboneniaa
open Go.RowKit
set_option linter.unusedVariables false
set_option linter.unusedSimpArgs false

/-- The slice value '.slice A m c' holds the values vs in the world w, below block B. -/
def Out (w : World) (B : Nat) (A : Option Addr) (m : Nat) (vs : List Value) : Prop :=
  vs.length = m ∧ m ≤ maxLen ∧ (0 < m → ∃ b off, A = some ⟨b, off, none⟩ ∧ b < B ∧ ∀ j v, vs[j]? = some v → w.cell? ⟨b, off + j, none⟩ = some v)
/-- The values vs are slices of ints that read as ls, below block B. -/
def RowsR (w : World) (B : Nat) (vs : List Value) (ls : List (List Int)) : Prop := vs.length = ls.length ∧ ∀ (j : Nat) v l, vs[j]? = some v → ls[j]? = some l → ∃ A n c, v = .slice A n c ∧ Sl w B A n l ∧ n ≤ c ∧ c ≤ 9223372036854775807
/-- The slice of slices reads as ls. -/
def SlS (w : World) (B : Nat) (A : Option Addr) (m : Nat) (ls : List (List Int)) : Prop := ∃ vs, Out w B A m vs ∧ RowsR w B vs ls
section
variable {w w' : World} {B B' m : Nat} {A : Option Addr} {vs : List Value} {ls : List (List Int)}
theorem Out.keep (h : Out w B A m vs) (hB : B ≤ B') (hk : ∀ p : Addr, p.block < B → w'.cell? p = w.cell? p) : Out w' B' A m vs :=
  ⟨h.1, h.2.1, fun hn => by
    obtain ⟨b, off, e, hb, hc⟩ := h.2.2 hn
    exact ⟨b, off, e, by omega, fun j v hv => (hk _ hb).trans (hc j v hv)⟩⟩
theorem RowsR.keep (h : RowsR w B vs ls) (hB : B ≤ B') (hk : ∀ p : Addr, p.block < B → w'.cell? p = w.cell? p) : RowsR w' B' vs ls :=
  ⟨h.1, fun j v l h1 h2 => by
    obtain ⟨A, n, c, e, hs, hc⟩ := h.2 j v l h1 h2
    exact ⟨A, n, c, e, hs.keep hB hk, hc⟩⟩
theorem SlS.keep (h : SlS w B A m ls) (hB : B ≤ B') (hk : ∀ p : Addr, p.block < B → w'.cell? p = w.cell? p) : SlS w' B' A m ls := by
  obtain ⟨vs, h1, h2⟩ := h
  exact ⟨vs, h1.keep hB hk, h2.keep hB hk⟩
theorem SlS.more (h : SlS w B A m ls) (hB : B ≤ B') : SlS w B' A m ls := h.keep hB fun _ _ => rfl
theorem SlS.below (h : SlS w B A m ls) (hb : Below B w w') : SlS w' B A m ls := h.keep (Nat.le_refl _) fun _ hp => hb.cell hp
theorem SlS.on (h : SlS w w.heap.size A m ls) (hb : Below w.heap.size w w') : SlS w' w'.heap.size A m ls := (h.below hb).more hb.size
theorem SlS.len (h : SlS w B A m ls) : ls.length = m := by
  obtain ⟨vs, h1, h2⟩ := h
  rw [← h2.1, h1.1]
theorem SlS.max (h : SlS w B A m ls) : m ≤ 9223372036854775807 := by
  obtain ⟨vs, h1, h2⟩ := h
  exact h1.2.1
theorem SlS.nil (w : World) (B : Nat) : SlS w B none 0 [] := ⟨[], ⟨rfl, by simp [maxLen], fun h => absurd h (by omega)⟩, rfl, fun j v l h => by simp at h⟩
/-- Element k of a slice of slices. -/
theorem SlS.atC (h : SlS w B A m ls) {k : Nat} (hk : k < m) : ∃ b off A2 n2 c2, A = some ⟨b, off, none⟩ ∧ b < B ∧ w.cell? ⟨b, off + k, none⟩ = some (.slice A2 n2 c2) ∧ Sl w B A2 n2 (ls.getD k []) ∧ n2 ≤ c2 ∧ c2 ≤ 9223372036854775807 := by
  have hl := h.len
  obtain ⟨vs, h1, h2⟩ := h
  obtain ⟨b, off, e, hb, hc⟩ := h1.2.2 (by omega)
  have hv : vs[k]? = some (vs[k]'(by have := h1.1; omega)) := List.getElem?_eq_getElem _
  have hlk : ls[k]? = some (ls[k]'(by omega)) := List.getElem?_eq_getElem _
  obtain ⟨A2, n2, c2, ev, hs, hcap⟩ := h2.2 k _ _ hv hlk
  refine ⟨b, off, A2, n2, c2, e, hb, by rw [hc k _ hv, ev], ?_, hcap⟩
  rw [List.getD_eq_getElem?_getD, hlk]
  exact hs
theorem SlS.at (h : SlS w B A m ls) {k : Nat} (hk : k < m) : ∃ b off A2 n2 c2, A = some ⟨b, off, none⟩ ∧ b < B ∧ w.cell? ⟨b, off + k, none⟩ = some (.slice A2 n2 c2) ∧ Sl w B A2 n2 (ls.getD k []) := by
  obtain ⟨b, off, A2, n2, c2, h1, h2, h3, h4, _⟩ := h.atC hk
  exact ⟨b, off, A2, n2, c2, h1, h2, h3, h4⟩
theorem own_capK {w : World} {B n c : Nat} {A : Option Addr} {e : TypeId} {xs : List Value} (h : w.ownsRow B e 1 (.slice A n c) n xs) : n ≤ c ∧ c ≤ 9223372036854775807 := by
  rcases h.2 with ⟨h1, h2⟩ | ⟨g, cap, cur, hv, _, _, hnc, hcm, _⟩
  · injection h1 with e1 e2 e3
    omega
  · injection hv with e1 e2 e3
    subst e3
    exact ⟨hnc, hcm⟩
theorem SlS.of_own {B1 B2 c : Nat} (h : w.ownsRow B1 23 1 (.slice A m c) m vs) (R : Rows w B2 vs ls) : SlS w w.heap.size A m ls := by
  have hl : vs.length = m := by have := h.1; omega
  refine ⟨vs, ⟨hl, ?_, fun hm => ?_⟩, R.1, fun j v l h1 h2 => ?_⟩
  · rcases h.2 with ⟨_, h2⟩ | ⟨g, cap, cur, hv, hb, hg, hnc, hcm, _⟩
    · simp only [maxLen]; omega
    · exact Nat.le_trans hnc hcm
  · rcases h.2 with ⟨_, h2⟩ | ⟨g, cap, cur, hv, hb, hg, hnc, hcm, _⟩
    · omega
    · injection hv with e1 e2 e3
      subst e1
      refine ⟨g, 0, rfl, ?_, fun j v hv => ?_⟩
      · rcases Nat.lt_or_ge g w.heap.size with hlt | hge
        · exact hlt
        · rw [Array.getElem?_eq_none hge] at hg; cases hg
      · have hj := (List.getElem?_eq_some_iff.1 hv).1
        rw [h.cellAt (0 + j) (by omega), Nat.zero_add]
        exact hv
  · obtain ⟨A2, n2, c2, ev, ho⟩ := R.2 j v l h1 h2
    exact ⟨A2, n2, c2, ev, Sl.of_own ho, own_capK ho⟩
end

/-- A desk as a value, and what it reads as. -/
abbrev dsk (A : Option Addr) (n c : Nat) (A2 : Option Addr) (m c2 : Nat) : Value := .agg #[.slice A n c, .slice A2 m c2]
structure DkR (w : World) (B : Nat) (A : Option Addr) (n c : Nat) (A2 : Option Addr) (m c2 : Nat) (D : Dk) : Prop where
  now : Sl w B A n D.now
  past : SlS w B A2 m D.past
  cap : n ≤ c ∧ c ≤ 9223372036854775807
  cap2 : m ≤ c2 ∧ c2 ≤ 9223372036854775807
/-- A desk of one's own: its parts lie apart. -/
structure DkO (w : World) (B : Nat) (A : Option Addr) (n c : Nat) (A2 : Option Addr) (m c2 : Nat) (vs : List Value) (D : Dk) : Prop where
  now : w.ownsRow B 3 1 (.slice A n c) n (ints D.now)
  past : w.ownsRow B 23 1 (.slice A2 m c2) m vs
  rows : Rows w B vs D.past
/-- The same, of whatever rows. -/
def DkF (w : World) (B : Nat) (A : Option Addr) (n c : Nat) (A2 : Option Addr) (m c2 : Nat) (D : Dk) : Prop := ∃ vs, DkO w B A n c A2 m c2 vs D
section
variable {w w' : World} {B B' n c m c2 : Nat} {A A2 : Option Addr} {vs : List Value} {D : Dk}
theorem DkR.keep (h : DkR w B A n c A2 m c2 D) (hB : B ≤ B') (hk : ∀ p : Addr, p.block < B → w'.cell? p = w.cell? p) : DkR w' B' A n c A2 m c2 D := ⟨h.now.keep hB hk, h.past.keep hB hk, h.cap, h.cap2⟩
theorem DkR.more (h : DkR w B A n c A2 m c2 D) (hB : B ≤ B') : DkR w B' A n c A2 m c2 D := ⟨h.now.more hB, h.past.more hB, h.cap, h.cap2⟩
theorem DkR.below (h : DkR w B A n c A2 m c2 D) (hb : Below B w w') : DkR w' B A n c A2 m c2 D := ⟨h.now.below hb, h.past.below hb, h.cap, h.cap2⟩
theorem DkR.on (h : DkR w w.heap.size A n c A2 m c2 D) (hb : Below w.heap.size w w') : DkR w' w'.heap.size A n c A2 m c2 D := ⟨h.now.on hb, h.past.on hb, h.cap, h.cap2⟩
theorem DkR.no (w : World) (B : Nat) : DkR w B none 0 0 none 0 0 noDk := ⟨Sl.nil w B, SlS.nil w B, by omega, by omega⟩
theorem DkO.read (h : DkO w B A n c A2 m c2 vs D) : DkR w w.heap.size A n c A2 m c2 D := ⟨Sl.of_own h.now, SlS.of_own h.past h.rows, own_capK h.now, own_capK h.past⟩
theorem DkO.on (h : DkO w B A n c A2 m c2 vs D) (hb : Below w.heap.size w w') : DkO w' B A n c A2 m c2 vs D := ⟨own_on h.now hb, own_on h.past hb, h.rows.on hb⟩
theorem DkO.onto (h : DkO w B A n c A2 m c2 vs D) (hg : w.grownBy w' none) : DkO w' B A n c A2 m c2 vs D := ⟨own_kept_none h.now hg, own_kept_none h.past hg, h.rows.onto hg⟩
theorem DkO.mono (h : DkO w B A n c A2 m c2 vs D) (hB : B' ≤ B) : DkO w B' A n c A2 m c2 vs D := ⟨own_mono h.now hB, own_mono h.past hB, h.rows.mono hB⟩
theorem DkF.read (h : DkF w B A n c A2 m c2 D) : DkR w w.heap.size A n c A2 m c2 D := h.elim fun _ k => k.read
theorem DkF.on (h : DkF w B A n c A2 m c2 D) (hb : Below w.heap.size w w') : DkF w' B A n c A2 m c2 D := h.elim fun _ k => ⟨_, k.on hb⟩
theorem DkF.onto (h : DkF w B A n c A2 m c2 D) (hg : w.grownBy w' none) : DkF w' B A n c A2 m c2 D := h.elim fun _ k => ⟨_, k.onto hg⟩
theorem DkF.mono (h : DkF w B A n c A2 m c2 D) (hB : B' ≤ B) : DkF w B' A n c A2 m c2 D := h.elim fun _ k => ⟨_, k.mono hB⟩
end
end Go.Proofs.Ytkejcajboneniaa

namespace Go.Proofs.Ytkejcajboneniaa
open Go.RowKit
set_option linter.unusedVariables false
set_option linter.unusedSimpArgs false

set_option maxRecDepth 100000 in
set_option maxHeartbeats 3200000 in
theorem l11Drive_any (A : Option Addr) (n c : Nat) (l : List Int) (w : World) (hs : Sl w w.heap.size A n l) (h1 : 1 ≤ n) (hn : n ≤ 16) (hb : ∀ x ∈ l, x = 0 ∨ x = 1) :
    Calls Try.prog 90 #[.slice A n c] w fun e w' => ∃ A2 c2, e = .returned (.slice A2 n c2) ∧ w'.ownsRow w.heap.size 3 1 (.slice A2 n c2) n (ints (driveL l)) ∧ Below w.heap.size w w' := by
  obtain ⟨i0, hi, hz0, hz1, hz2⟩ := info_parts info_int
  have ho0 : (w.alloc (.cells #[] 3)).ownsRow w.heap.size 3 1 (.slice (some ⟨w.heap.size, 0, none⟩) 0 0) 0 (ints []) := World.ownsRow_lit w #[] 0 (Nat.le_refl _) (by simp [maxLen]) rfl
  have hb0 : Below w.heap.size w (w.alloc (.cells #[] 3)) := (Below.refl _ _).alloc (Nat.le_refl _) _
  have HL := hid hs.len
  go_enter Try.func90, Try.ntmps90
  go_wp2
  go_loopw [3, 5] (fun v i wr => ∃ (A1 : Option Addr) (c1 k : Nat), v = .slice A1 k c1 ∧ i = .int .i64 k ∧ k ≤ n ∧ wr.ownsRow w.heap.size 3 1 (.slice A1 k c1) k (ints ((driveL l).take k)) ∧ Hid (Below w.heap.size w wr)) (fun _ i _ => n - (intOf i).toNat)
  case atStart => exact ⟨_, _, 0, rfl, rfl, Nat.zero_le _, ho0, hid hb0⟩
  case round =>
    clear ho0 hb0
    obtain ⟨A1, c1, k, rfl, rfl, hk, ho, HB⟩ := hrel
    by_cases hlt : k < n
    · obtain ⟨b, off, rfl, hbS, hc⟩ := (hs.below HB.out).2.2 (by omega)
      obtain ⟨p, hp⟩ : ∃ p, (k + 1) % n = p := ⟨_, rfl⟩
      obtain ⟨q, hq⟩ : ∃ q, (k + n - 1) % n = q := ⟨_, rfl⟩
      have hpn : p < n := by rw [← hp]; exact Nat.mod_lt _ (by omega)
      have hqn : q < n := by rw [← hq]; exact Nat.mod_lt _ (by omega)
      have m1 : ((k : Int) + 1).tmod (n : Int) = (p : Int) := by rw [Int.tmod_eq_emod_of_nonneg (by omega), ← hp]; norm_cast
      have m2 : ((k : Int) + (n : Int) - 1).tmod (n : Int) = (q : Int) := by rw [Int.tmod_eq_emod_of_nonneg (by omega), ← hq, show (k : Int) + (n : Int) - 1 = ((k + n - 1 : Nat) : Int) from by omega]; norm_cast
      have x0 := hc p hpn
      have x1 := hc q hqn
      have x2 := hc k hlt
      have HT := hid (drive_take (l := l) (k := k) (by rw [HL.out]; exact hlt))
      have hv := nth_drive (l := l) (k := k) (by rw [HL.out]; exact hlt)
      rw [HL.out, hp, hq] at hv
      obtain ⟨x, hx⟩ : ∃ x, nth l p = x := ⟨_, rfl⟩
      obtain ⟨y, hy⟩ : ∃ y, nth l q = y := ⟨_, rfl⟩
      obtain ⟨z, hz⟩ : ∃ z, nth l k = z := ⟨_, rfl⟩
      rw [hx] at x0 hv
      rw [hy] at x1 hv
      rw [hz] at x2 hv
      clear hx hy hz hc hp hq
      have hlti : (k : Int) < (n : Int) := by omega
      have w1 : IntKind.i64.wrap ((k : Int) + 1) = (k : Int) + 1 := IntWalk.i64_in _ (by omega)
      have w2 : IntKind.i64.wrap ((k : Int) + (n : Int)) = (k : Int) + (n : Int) := IntWalk.i64_in _ (by omega)
      have w3 : IntKind.i64.wrap ((k : Int) + (n : Int) - 1) = (k : Int) + (n : Int) - 1 := IntWalk.i64_in _ (by omega)
      have p3 : (p : Int) < (n : Int) := by omega
      have p4 : (q : Int) < (n : Int) := by omega
      have p5 : (0 : Int) ≤ (p : Int) := by omega
      have p6 : (0 : Int) ≤ (q : Int) := by omega
      have p7 : (0 : Int) ≤ (k : Int) := by omega
      have hn0 : ¬ (n : Int) = 0 := by omega
      have hn00 : ¬ n = 0 := by omega
      have hzz := HB.out.size
      have hv1 := own_blk ho
      by_cases hz1' : z = 1
      · have hze : (z == 1) = true := by simpa using hz1'
        rw [if_pos hz1'] at hv
        have HV := hid hv
        clear hv hz1'
        go_wp2_with (at_builtin; refine wpList_append_own _ rfl _ _ 23 rfl w.heap.size 3 i0 (.int .i64 0) 1 8 Try.underlying23 hi hz0 hz1 hz2 rfl (by decide) (.slice A1 k c1) _ _ rfl (ho.alloc _) ⟨wr.heap.size, 0, none⟩ 1 1 [.int .i64 x] rfl rfl (cell_one_new wr _ _) (by simp [Value.oneCell']) (by simp only [maxLen]; omega) (by omega) (by simp; omega) ?_; intro v2 w2 hown2 hgrow2 _)
        obtain ⟨A2, c2, rfl, o2, b2⟩ := pushedB HB.out (Nat.le_refl _) (by omega) hv1 hown2 hgrow2
        rw [← HV.out, ← HT.out] at o2
        have O2 := hid o2
        have B2 := hid b2
        clear hown2 hgrow2 ho o2 b2 HB
        go_wp2
        go_roundw
        case rel => exact ⟨A2, c2, k + 1, rfl, by go_num, by omega, O2.out, B2⟩
        case measure => simp [intOf]; omega
      · have hze : (z == 1) = false := by simpa using hz1'
        rw [if_neg hz1'] at hv
        have HV := hid hv
        clear hv
        go_wp2_with (at_builtin; refine wpList_append_own _ rfl _ _ 23 rfl w.heap.size 3 i0 (.int .i64 0) 1 8 Try.underlying23 hi hz0 hz1 hz2 rfl (by decide) (.slice A1 k c1) _ _ rfl (ho.alloc _) ⟨wr.heap.size, 0, none⟩ 1 1 [.int .i64 y] rfl rfl (cell_one_new wr _ _) (by simp [Value.oneCell']) (by simp only [maxLen]; omega) (by omega) (by simp; omega) ?_; intro v2 w2 hown2 hgrow2 _)
        obtain ⟨A2, c2, rfl, o2, b2⟩ := pushedB HB.out (Nat.le_refl _) (by omega) hv1 hown2 hgrow2
        rw [← HV.out, ← HT.out] at o2
        have O2 := hid o2
        have B2 := hid b2
        clear hown2 hgrow2 ho o2 b2 HB
        go_wp2
        go_roundw
        case rel => exact ⟨A2, c2, k + 1, rfl, by go_num, by omega, O2.out, B2⟩
        case measure => simp [intOf]; omega
    · obtain rfl : k = n := by omega
      rw [List.take_of_length_le (by rw [driveL_len, HL.out]; omega)] at ho
      have HO := hid ho
      clear ho
      go_wp2
      go_ret
      exact ⟨A1, c1, rfl, HO.out, HB.out⟩

set_option maxRecDepth 100000 in
set_option maxHeartbeats 1600000 in
theorem specDrivenOf_any (A : Option Addr) (n c : Nat) (l : List Int) (w : World) (hs : Sl w w.heap.size A n l) :
    Calls Try.prog 77 #[.slice A n c] w fun e w' => ∃ A2 m c2, e = .returned (.slice A2 m c2) ∧ w'.ownsRow w.heap.size 3 1 (.slice A2 m c2) m (ints (drivenOut l)) ∧ m ≤ 16 ∧ Below w.heap.size w w' := by
  have HL := hid hs.len
  have CK := hid (specBitsOk_any A n c l w w.heap.size hs)
  cases hok : bitsOk l with
  | false =>
    have HV := hid (show drivenOut l = [] from by unfold drivenOut; rw [hok]; rfl)
    rw [hok] at CK
    clear hok
    go_enter Try.func77, Try.ntmps77
    go_wp2_with fail
    with_reducible refine Calls.mono CK.out ?_
    rintro e w' ⟨rfl, rfl⟩
    go_wp2
    go_ret
    exact ⟨_, 0, _, rfl, by rw [HV.out]; exact World.ownsRow_lit w #[] 0 (Nat.le_refl _) (by simp [maxLen]) rfl, by omega, (Below.refl _ _).alloc (Nat.le_refl _) _⟩
  | true =>
    obtain ⟨hb, h1, h2⟩ := bitsOk_iff.1 hok
    have HV := hid (show drivenOut l = driveL l from by unfold drivenOut; rw [if_pos hok])
    rw [HL.out] at h1 h2
    have CV := hid (l11Drive_any A n c l w hs h1 h2 hb)
    rw [hok] at CK
    clear hok
    go_enter Try.func77, Try.ntmps77
    go_wp2_with fail
    with_reducible refine Calls.mono CK.out ?_
    rintro e w' ⟨rfl, rfl⟩
    go_wp2_with fail
    with_reducible refine Calls.mono CV.out ?_
    rintro e w2 ⟨A2, c2, rfl, o2, b2⟩
    go_wp2
    go_ret
    exact ⟨A2, n, c2, rfl, by rw [HV.out]; exact o2, h2, b2⟩

set_option maxRecDepth 100000 in
set_option maxHeartbeats 3200000 in
theorem specFreeAs_any (A : Option Addr) (n c : Nat) (l : List Int) (w : World) (hs : Sl w w.heap.size A n l) :
    Calls Try.prog 79 #[.slice A n c] w fun e w' => ∃ A2 m c2, e = .returned (.slice A2 m c2) ∧ w'.ownsRow w.heap.size 3 1 (.slice A2 m c2) m (ints (freeOut l)) ∧ m ≤ 16 ∧ Below w.heap.size w w' := by
  obtain ⟨i0, hi, hz0, hz1, hz2⟩ := info_parts info_int
  have ho0 : (w.alloc (.cells #[] 3)).ownsRow w.heap.size 3 1 (.slice (some ⟨w.heap.size, 0, none⟩) 0 0) 0 (ints []) := World.ownsRow_lit w #[] 0 (Nat.le_refl _) (by simp [maxLen]) rfl
  have hb0 : Below w.heap.size w (w.alloc (.cells #[] 3)) := (Below.refl _ _).alloc (Nat.le_refl _) _
  have HL := hid hs.len
  have hm := hs.max
  have CK := hid (fun (W : World) (hW : Below w.heap.size w W) => specBitsOk_any A n c l W _ (hs.below hW))
  cases hok : bitsOk l with
  | false =>
    have HV := hid (show freeOut l = [] from by unfold freeOut; rw [hok]; rfl)
    have HO := hid ho0
    have HB := hid hb0
    rw [hok] at CK
    clear hok ho0
    by_cases hn0 : 0 < n
    · have d1 : (0 : Int) ≤ (n : Int) - 1 := by omega
      go_enter Try.func79, Try.ntmps79
      go_wp2
      go_loop [3, 4] (fun v i => v = .slice (some ⟨w.heap.size, 0, none⟩) 0 0 ∧ i = .int .i64 ((n : Int) - 1)) (fun _ _ => 0)
      case atStart => exact ⟨rfl, rfl⟩
      case round =>
        obtain ⟨rfl, rfl⟩ := hrel
        go_wp2_with (go_at_call 44; with_reducible refine Calls.mono (CK.out _ hb0) ?_; rintro e w' ⟨rfl, rfl⟩)
        go_ret
        exact ⟨_, 0, _, rfl, by rw [HV.out]; exact HO.out, by omega, HB.out⟩
    · obtain rfl : n = 0 := by omega
      go_enter Try.func79, Try.ntmps79
      go_wp2
      go_loop [3, 4] (fun v i => v = .slice (some ⟨w.heap.size, 0, none⟩) 0 0 ∧ i = .int .i64 (-1)) (fun _ _ => 0)
      case atStart => exact ⟨rfl, rfl⟩
      case round =>
        obtain ⟨rfl, rfl⟩ := hrel
        go_wp2
        go_ret
        exact ⟨_, 0, _, rfl, by rw [HV.out]; exact HO.out, by omega, HB.out⟩
  | true =>
    obtain ⟨hb, h1, h2⟩ := bitsOk_iff.1 hok
    have HV := hid (show freeOut l = freeL l from by unfold freeOut; rw [if_pos hok])
    have HX := hid (fun k => bit_nth hb k)
    rw [HL.out] at h1 h2
    rw [hok] at CK
    obtain ⟨b, off, rfl, hbS, hc⟩ := hs.2.2 (by omega)
    have HC := hid hc
    clear hok hb hc hs
    go_enter Try.func79, Try.ntmps79
    go_wp2
    go_loopw [3, 4] (fun v i wr => ∃ (A1 : Option Addr) (c1 k j : Nat), v = .slice A1 k c1 ∧ i = .int .i64 ((j : Int) - 1) ∧ k + j = n ∧ wr.ownsRow w.heap.size 3 1 (.slice A1 k c1) k (ints ((freeL l).take k)) ∧ Hid (Below w.heap.size w wr)) (fun _ i _ => (intOf i + 1).toNat)
    case atStart => exact ⟨_, _, 0, n, rfl, rfl, by omega, ho0, hid hb0⟩
    case round =>
      clear ho0 hb0
      obtain ⟨A1, c1, k, j, rfl, rfl, hkj, ho, HB⟩ := hrel
      by_cases hj : 0 < j
      · obtain ⟨j, rfl⟩ : ∃ j', j = j' + 1 := ⟨j - 1, by omega⟩
        have x0 := (HB.out.cell (p := ⟨b, off + j, none⟩) hbS).trans (HC.out j (by omega))
        have b0 := HX.out j
        have HT := hid (free_take (l := l) (k := k) (by rw [HL.out]; omega))
        have hjk : n - 1 - k = j := by omega
        rw [HL.out, hjk] at HT
        obtain ⟨x, hx⟩ : ∃ x, nth l j = x := ⟨_, rfl⟩
        rw [hx] at x0 b0 HT
        have ej : ((j + 1 : Nat) : Int) - 1 = (j : Int) := by omega
        rw [ej]
        have hzz := HB.out.size
        have hv1 := own_blk ho
        have hlti : (j : Int) < (n : Int) := by omega
        have hj0 : (0 : Int) ≤ (j : Int) := by omega
        have w1 : IntKind.i64.wrap (1 - x) = 1 - x := IntWalk.i64_in _ (by omega)
        clear hx ej hjk
        go_wp2_with (first | (go_at_call 44; with_reducible refine Calls.mono (CK.out _ HB.out) ?_; rintro e w' ⟨rfl, rfl⟩) | (at_builtin; refine wpList_append_own _ rfl _ _ 23 rfl w.heap.size 3 i0 (.int .i64 0) 1 8 Try.underlying23 hi hz0 hz1 hz2 rfl (by decide) (.slice A1 k c1) _ _ rfl (ho.alloc _) ⟨wr.heap.size, 0, none⟩ 1 1 [.int .i64 (1 - x)] rfl rfl (cell_one_new wr _ _) (by simp [Value.oneCell']) (by simp only [maxLen]; omega) (by omega) (by simp; omega) ?_; intro v2 w2 hown2 hgrow2 _))
        obtain ⟨A2, c2, rfl, o2, b2⟩ := pushedB HB.out (Nat.le_refl _) (by omega) hv1 hown2 hgrow2
        rw [← HT.out] at o2
        have O2 := hid o2
        have B2 := hid b2
        clear hown2 hgrow2 ho o2 b2 HB
        go_wp2
        go_roundw
        case rel => exact ⟨A2, c2, k + 1, j, rfl, by go_num, by omega, O2.out, B2⟩
        case measure => simp [intOf]
      · obtain rfl : j = 0 := by omega
        obtain rfl : k = n := by omega
        rw [List.take_of_length_le (by rw [freeL_len, HL.out]; omega), ← HV.out] at ho
        have HO := hid ho
        clear ho
        go_wp2
        go_ret
        exact ⟨A1, k, c1, rfl, HO.out, h2, HB.out⟩

end Go.Proofs.Ytkejcajboneniaa

namespace Go.Proofs.Ytkejcajboneniaa
open Go.RowKit
set_option linter.unusedVariables false
set_option linter.unusedSimpArgs false

theorem own_capsD {w : World} {B n c : Nat} {A : Option Addr} {e : TypeId} {xs : List Value} (h : w.ownsRow B e 1 (.slice A n c) n xs) : n ≤ c ∧ c ≤ maxLen := by
  rcases h.2 with ⟨h1, h2⟩ | ⟨g, cap, cur, hv, hb, hg, hnc, hcm, hs, ht⟩
  · injection h1 with h1 h3 h4
    subst h3; subst h4
    exact ⟨Nat.le_refl _, by simp [maxLen]⟩
  · injection hv with h1 h2 h3
    subst h3
    exact ⟨hnc, hcm⟩
theorem Sl.takeD {w : World} {B n k : Nat} {A : Option Addr} {l : List Int} (h : Sl w B A n l) (hk : k ≤ n) : Sl w B A k (l.take k) := by
  refine ⟨by rw [List.length_take, h.1]; omega, Nat.le_trans hk h.2.1, fun h0 => ?_⟩
  obtain ⟨b, off, e, hb, hc⟩ := h.2.2 (by omega)
  refine ⟨b, off, e, hb, fun j hj => ?_⟩
  rw [hc j (by omega)]
  simp [nth, List.getD, hj]

set_option maxRecDepth 100000 in
set_option maxHeartbeats 6400000 in
theorem bitsDraw_any (g P : Nat) (m : Int) (w : World) (hr : Rd w g P) (hP : P < 100000) (hm : 1 ≤ m) (hm2 : m ≤ 1000000) :
    Calls Try.prog 50 #[.pointer (some ⟨g, 0, none⟩), .int .i64 m] w fun e w' => ∃ A n c l, e = .returned (.slice A n c) ∧ w'.ownsRow w.heap.size 3 1 (.slice A n c) n (ints l) ∧ n ≤ 17 ∧ Rd w' g (P + 40) ∧ w.grownBy w' (some g) := by
  obtain ⟨i0, hi, hz0, hz1, hz2⟩ := info_parts info_int
  have hglt := hr.lt
  have hr0 := hr.below ((Below.refl w.heap.size w).alloc (Nat.le_refl _) (.cells #[] 3)) hglt
  have ho0 : (w.alloc (.cells #[] 3)).ownsRow w.heap.size 3 1 (.slice (some ⟨w.heap.size, 0, none⟩) 0 0) 0 (ints []) := World.ownsRow_lit w #[] 0 (Nat.le_refl _) (by simp [maxLen]) rfl
  have hg0 : w.grownBy (w.alloc (.cells #[] 3)) (some g) := grown_alloc w _ (some g)
  go_enter Try.func50, Try.ntmps50
  go_wp2_with fail
  refine (pick_any g P 16 _ hr0 (by omega) (by omega) (by omega)).mono ?_
  rintro e w1 ⟨p, rfl, hp0, hp1, hr1, hg1⟩
  have ho1 := ho0.kept hg1 (.inr (by simp [Value.ownBlock]; omega))
  have hg01 : w.grownBy w1 (some g) := hg0.andThen hg1 (by simp)
  have hgl1 := hr1.lt
  have hz1' := hg01.size
  clear hg1 ho0 hr0 hg0
  have hr1' : Rd (w1.alloc (.cells #[.int .i64 (1 + p), .int .i64 8, .int .i64 4, .int .i64 16, .int .i64 7] 3)) g (P + 1) := hr1.grown (grown_alloc _ _ none) (by simp)
  have ho1' := own_kept_none ho1 (grown_alloc w1 (.cells #[.int .i64 (1 + p), .int .i64 8, .int .i64 4, .int .i64 16, .int .i64 7] 3) none)
  have hg01' : w.grownBy (w1.alloc (.cells #[.int .i64 (1 + p), .int .i64 8, .int .i64 4, .int .i64 16, .int .i64 7] 3)) (some g) := World.grownBy.andThen (row' := none) hg01 (grown_alloc _ _ _) (by simp)
  have HLW := hid (heap_alloc_new w1 (.cells #[.int .i64 (1 + p), .int .i64 8, .int .i64 4, .int .i64 16, .int .i64 7] 3))
  clear hr1 ho1 hg01
  go_wp2_with fail
  refine (pick_any g _ 9 _ hr1' (by omega) (by omega) (by omega)).mono ?_
  rintro e w2 ⟨q, rfl, hq0, hq1, hr2, hg2⟩
  have hbk := (hg2.block w1.heap.size (by simp) (by simp; omega)).trans HLW.out
  have hqc : ∃ (j K : Nat), q / 2 = (j : Int) ∧ j < 5 ∧ w2.cell? ⟨w1.heap.size, j, none⟩ = some (.int .i64 K) ∧ 1 ≤ K ∧ K ≤ 16 := by
    obtain ⟨p, rfl⟩ := Int.eq_ofNat_of_zero_le hp0
    rcases (show q / 2 = 0 ∨ q / 2 = 1 ∨ q / 2 = 2 ∨ q / 2 = 3 ∨ q / 2 = 4 by omega) with h | h | h | h | h
    · exact ⟨0, 1 + p, h, by omega, by rw [cell_of_row w2 _ 0 _ _ _ hbk]; simp, by omega, by omega⟩
    · exact ⟨1, 8, h, by omega, by rw [cell_of_row w2 _ 1 _ _ _ hbk]; simp, by omega, by omega⟩
    · exact ⟨2, 4, h, by omega, by rw [cell_of_row w2 _ 2 _ _ _ hbk]; simp, by omega, by omega⟩
    · exact ⟨3, 16, h, by omega, by rw [cell_of_row w2 _ 3 _ _ _ hbk]; simp, by omega, by omega⟩
    · exact ⟨4, 7, h, by omega, by rw [cell_of_row w2 _ 4 _ _ _ hbk]; simp, by omega, by omega⟩
  obtain ⟨j0, K, hj, hj5, hK, hK1, hK2⟩ := hqc
  have hjt : q.tdiv 2 = (j0 : Int) := by rw [Int.tdiv_eq_ediv_of_nonneg hq0, hj]
  have hj5i : (j0 : Int) < 5 := by omega
  have hj0i : (0 : Int) ≤ (j0 : Int) := by omega
  have ho2 := ho1'.kept hg2 (.inr (by simp [Value.ownBlock]; omega))
  have hg02 := hg01'.andThen hg2 (by simp)
  clear hg2 ho1' hg01' hr1' hbk HLW
  go_wp2
  go_loopw [5, 6] (fun v kk wr => ∃ (A : Option Addr) (i c : Nat) (l : List Int) (j : Nat), v = .slice A i c ∧ kk = .int .i64 j ∧ i + j ≤ 16 ∧ 1 ≤ i + j ∧ wr.ownsRow w.heap.size 3 1 (.slice A i c) i (ints l) ∧ Rd wr g (P + 2 + i) ∧ w.grownBy wr (some g)) (fun _ kk _ => (intOf kk).toNat)
  case atStart =>
    exact ⟨_, 0, 0, [], K, rfl, rfl, by omega, by omega, ho2, hr2.more (by omega), hg02⟩
  case round =>
    obtain ⟨A, i, c, l, j, rfl, rfl, hij, hij1, hown, hrr, hgg⟩ := hrel
    clear ho2 hr2 hg02 hK
    by_cases hj : 0 < j
    · have hv := own_blk hown
      have hvg := own_ne hown hglt
      go_wp2_with fail
      refine (pick_any g _ 2 _ hrr (by omega) (by omega) (by omega)).mono ?_
      rintro e w5 ⟨x, rfl, x0, x1, r5, g5⟩
      replace hown := hown.kept g5 hvg
      replace hgg := hgg.andThen g5 (by simp)
      clear g5 hrr
      go_wp2_with (at_builtin; refine wpList_append_own _ rfl _ _ 23 rfl w.heap.size 3 i0 (.int .i64 0) 1 8 Try.underlying23 hi hz0 hz1 hz2 rfl (by decide) (.slice A i c) _ _ rfl (hown.alloc _) ⟨w5.heap.size, 0, none⟩ 1 1 [.int .i64 x] rfl rfl (cell_one_new _ _ _) (by simp [Value.oneCell']) (by simp only [maxLen]; omega) (by omega) (by have := hgg.size; simp; omega) ?_; intro v2 w2 hown2 hgrow2 _)
      obtain ⟨A2, c2, rfl, hown3, hgg3⟩ := pushed hgg (Nat.le_refl _) hgg.size hv hown2 hgrow2
      have hr3 : Rd w2 g (P + 2 + i + 1) := (r5.grown (grown_alloc _ _ none) (by simp)).grown hgrow2 (by
        intro k hk
        rcases hv with h | ⟨k', h, hk'⟩
        · rw [h] at hk; cases hk
        · rw [h] at hk; cases hk; omega)
      clear hown2 hgrow2 hown hgg r5
      go_wp2
      go_roundw
      case rel => exact ⟨A2, i + 1, c2, l ++ [x], j - 1, rfl, by go_num, by omega, by omega, hown3, hr3.more (by omega), hgg3⟩
      case measure => simp [intOf]; omega
    · obtain rfl : j = 0 := by omega
      go_wp2_with fail
      refine (odd_any g _ m _ hrr (by omega) hm hm2).mono ?_
      rintro e w3 ⟨b, rfl, hr3, hg3⟩
      have hv : (Value.slice A i c).ownBlock = none ∨ ∃ k, (Value.slice A i c).ownBlock = some k ∧ w.heap.size ≤ k := by
        rcases h : (Value.slice A i c).ownBlock with _ | k
        · exact .inl rfl
        · exact .inr ⟨k, rfl, (hown.lt k h).1⟩
      have hown3 := hown.kept hg3 (by rcases hv with h | ⟨k, h, hk⟩ <;> rw [h] <;> simp; omega)
      have hgg3 := hgg.andThen hg3 (by simp)
      clear hg3 hown hgg hrr
      cases b with
      | false =>
        go_wp2
        go_ret
        exact ⟨A, i, c, l, rfl, hown3, by omega, hr3.more (by omega), hgg3⟩
      | true =>
        go_wp2_with fail
        refine (pick_any g _ 3 _ hr3 (by omega) (by omega) (by omega)).mono ?_
        rintro e w4 ⟨y, rfl, hy0, hy1, hr4, hg4⟩
        have hown4 := hown3.kept hg4 (by rcases hv with h | ⟨k, h, hk⟩ <;> rw [h] <;> simp; omega)
        have hgg4 := hgg3.andThen hg4 (by simp)
        clear hg4 hown3 hgg3 hr3
        obtain ⟨i, rfl⟩ : ∃ i', i = i' + 1 := ⟨i - 1, by omega⟩
        obtain ⟨g2, c2, hv2, hb2, hb3⟩ := own_shape hown4
        injection hv2 with e1 e2 e3
        subst e1
        subst e3
        clear hv
        rcases (show y = 0 ∨ y = 1 ∨ y = 2 by omega) with rfl | rfl | rfl
        · go_wp2
          go_ret
          refine ⟨_, 0, 0, [], rfl, ?_, by omega, (hr4.below ((Below.refl w4.heap.size w4).alloc (Nat.le_refl _) _) hr4.lt).more (by omega), hgg4.andThen (grown_alloc w4 _ none) (by simp)⟩
          exact own_mono (World.ownsRow_lit w4 #[] 0 (Nat.le_refl _) (by simp [maxLen]) rfl) hgg4.size
        · have hcell := own_cell (j := 0) hown4 (by have := hown4.1; simpa using this) (by omega)
          have hfz := hown4.frozenAt 0
          have hst := (hown4.stored 0 (.int .i64 2)).1
          rw [ints_set] at hst
          have hgs := (hown4.stored 0 (.int .i64 2)).2
          have HS := hid hst
          have HG := hid hgs
          clear hst hgs hown4
          go_wp2
          go_ret
          exact ⟨_, _, _, _, rfl, HS.out, by omega, (hr4.grown HG.out (by intro k hk; cases hk; omega)).more (by omega), hgg4.andThen HG.out (by intro k hk; cases hk; left; omega)⟩
        · go_wp2_with (refine wpList_make_full _ rfl (.const (.int .i64 17)) (.const (.int .i64 17)) 23 rfl w.heap.size 3 i0 _ 1 Try.underlying23 hi hz0 hz1 .i64 .i64 17 17 17 rfl rfl rfl rfl (by rw [hz2]; omega) (by simp [maxLen]) hgg4.size ?_; intro w5 hown5 hg5)
          go_ret
          rw [madeInts] at hown5
          exact ⟨_, _, _, _, rfl, hown5, by omega, (hr4.grown hg5 (by simp)).more (by omega), hgg4.andThen hg5 (by simp)⟩


theorem lit5 (x y z q : Int) (q0 : 0 ≤ q) (q1 : q < 13) (x0 : 0 ≤ x) (x1 : x < 20) (y0 : 0 ≤ y) (y1 : y < 250) (z0 : 0 ≤ z) (z1 : z < 250) :
    ∃ (j : Nat) (t : Int), q / 3 = (j : Int) ∧ q.tdiv 3 = (j : Int) ∧ (j : Int) < 5 ∧ (0 : Int) ≤ (j : Int) ∧ j < 5 ∧ -1 ≤ t ∧ t ≤ 1001 ∧ (#[.int .i64 x, .int .i64 y, .int .i64 (z * 4), .int .i64 (-1), .int .i64 1001] : Array Value)[j]? = some (.int .i64 t) := by
  have e : q.tdiv 3 = q / 3 := Int.tdiv_eq_ediv_of_nonneg q0
  rcases (show q / 3 = 0 ∨ q / 3 = 1 ∨ q / 3 = 2 ∨ q / 3 = 3 ∨ q / 3 = 4 by omega) with h | h | h | h | h
  · exact ⟨0, x, h, by rw [e, h]; rfl, by omega, by omega, by omega, by omega, by omega, rfl⟩
  · exact ⟨1, y, h, by rw [e, h]; rfl, by omega, by omega, by omega, by omega, by omega, rfl⟩
  · exact ⟨2, z * 4, h, by rw [e, h]; rfl, by omega, by omega, by omega, by omega, by omega, rfl⟩
  · exact ⟨3, -1, h, by rw [e, h]; rfl, by omega, by omega, by omega, by omega, by omega, rfl⟩
  · exact ⟨4, 1001, h, by rw [e, h]; rfl, by omega, by omega, by omega, by omega, by omega, rfl⟩

end Go.Proofs.Ytkejcajboneniaa

namespace Go.Proofs.Ytkejcajboneniaa
open Go.RowKit
set_option linter.unusedVariables false
set_option linter.unusedSimpArgs false

/-- A digit, as a byte. -/
def digB (n : Nat) : UInt8 := UInt8.ofNat (48 + n)
/-- A number's digits, as bytes. -/
def numB (n : Nat) : List UInt8 := if h : n < 10 then [digB n] else numB (n / 10) ++ [digB (n % 10)]
termination_by n
decreasing_by omega
theorem numB_lt {n : Nat} (h : n < 10) : numB n = [digB n] := by rw [numB, dif_pos h]
theorem numB_ge {n : Nat} (h : ¬ n < 10) : numB n = numB (n / 10) ++ [digB (n % 10)] := by rw [numB, dif_neg h]
theorem digit_nat {n : Nat} (h : n < 10) : (digB n).toNat = 48 + n := by
  unfold digB
  rw [UInt8.toNat_ofNat']
  omega
theorem numB_len : ∀ n : Nat, (numB n).length ≤ n + 1 := by
  intro n
  induction n using Nat.strongRecOn with
  | _ n ih =>
    by_cases h : n < 10
    · rw [numB_lt h]; simp
    · rw [numB_ge h, List.length_append]
      have := ih (n / 10) (by omega)
      simp
      omega
/-- '+' of two texts. -/
theorem cat_any (a b : List UInt8) (h : a.length + b.length ≤ 4000000000000000000) (W : World) : (Op.stringOp .add ⟨a.toArray⟩ ⟨b.toArray⟩).run Try.prog W = .ok (.string ⟨(a ++ b).toArray⟩) W := by
  have h1 := run_string_add_sum (P := Try.prog) (w := W) ⟨a.toArray⟩ ⟨b.toArray⟩ (by show a.toArray.size + b.toArray.size ≤ _; simp; omega)
  rw [show (⟨(a ++ b).toArray⟩ : ByteArray) = ⟨a.toArray⟩ ++ ⟨b.toArray⟩ from ByteArray.ext (by simp)]
  exact h1
/-- A slice of one byte that has just been made, as a string. -/
theorem conv_cell (W : World) (g n : Nat) (h : n < 10) (hc : W.cell? ⟨g, 0, none⟩ = some (.int .u8 (48 + (n : Int)))) :
    (convert 22 9 (.slice (some ⟨g, 0, none⟩) 1 1)).run Try.prog W = .ok (.string ⟨#[digB n]⟩) W := by
  have := run_convert_bytes_back (P := Try.prog) W 22 9 5 ⟨g, 0, none⟩ 1 [digB n] Try.underlying22 Try.underlying5 Try.underlying9
    (fun j hj => by
      obtain rfl : j = 0 := by simpa using hj
      rw [show (⟨g, 0, none⟩ : Addr).add 0 = ⟨g, 0, none⟩ from rfl, hc]
      have e := digit_nat h
      simp only [List.getElem_cons_zero, e]
      simp)
  simpa using this
theorem conv_digit (W : World) (n : Nat) (h : n < 10) :
    (convert 22 9 (.slice (some ⟨W.heap.size, 0, none⟩) 1 1)).run Try.prog (W.alloc (.cells #[.int .u8 (48 + (n : Int))] 5)) = .ok (.string ⟨#[digB n]⟩) (W.alloc (.cells #[.int .u8 (48 + (n : Int))] 5)) :=
  conv_cell _ _ n h (cell_of_row _ _ 0 _ _ _ (heap_alloc_new W _))

set_option maxRecDepth 100000 in
set_option maxHeartbeats 1600000 in
theorem number_small (n : Nat) (w : World) (h : n < 10) :
    Calls Try.prog 80 #[.int .i64 n] w fun e w' => e = .returned (encStr (numB n)) ∧ Below w.heap.size w w' := by
  have h1 : (n : Int) < 10 := by omega
  have h2 : max (n : Int) 0 = (n : Int) := by omega
  have hcv := fun W => conv_digit W n h
  rw [numB_lt h]
  go_enter Try.func80, Try.ntmps80
  go_wp2
  go_ret
  exact ⟨rfl, (Below.refl _ _).alloc (Nat.le_refl _) _⟩

set_option maxRecDepth 100000 in
set_option maxHeartbeats 1600000 in
theorem number_any (n : Nat) (hn : n ≤ 1000000000) (w : World) :
    Calls Try.prog 80 #[.int .i64 n] w fun e w' => e = .returned (encStr (numB n)) ∧ Below w.heap.size w w' := by
  by_cases h : n < 10
  · exact number_small n w h
  · have IH := hid (fun W : World => number_any (n / 10) (by omega) W)
    rw [numB_ge h]
    have hcv := fun W => conv_digit W (n % 10) (Nat.mod_lt _ (by omega))
    obtain ⟨q, hq⟩ : ∃ q, n / 10 = q := ⟨_, rfl⟩
    obtain ⟨r, hr⟩ : ∃ r, n % 10 = r := ⟨_, rfl⟩
    have m1 : (n : Int).tdiv 10 = (q : Int) := by rw [Int.tdiv_eq_ediv_of_nonneg (by omega), ← hq]; omega
    have m2 : (n : Int).tmod 10 = (r : Int) := by rw [Int.tmod_eq_emod_of_nonneg (by omega), ← hr]; omega
    have w1 : IntKind.i64.wrap (q : Int) = (q : Int) := IntWalk.i64_in _ (by omega)
    have w2 : IntKind.i64.wrap (r : Int) = (r : Int) := IntWalk.i64_in _ (by omega)
    have w3 : IntKind.i64.wrap (48 + (r : Int)) = 48 + (r : Int) := IntWalk.i64_in _ (by omega)
    have w8 : IntKind.u8.wrap (48 + (r : Int)) = 48 + (r : Int) := IntWalk.u8_in _ (by omega)
    have h1 : decide ((n : Int) < 10) = false := by simp; omega
    have h1' : ¬ (n : Int) < 10 := by omega
    have hct := fun W => cat_any (numB q) [digB r] (by have := numB_len q; simp; omega) W
    rw [hq] at IH
    rw [hr] at hcv
    rw [hq, hr]
    go_enter Try.func80, Try.ntmps80
    go_wp2
    have hr10 : r < 10 := by omega
    have HC5 := hid (fun (W : World) (hb : Below (w.alloc (.cells #[.int .u8 (48 + (r : Int))] 5)).drew.heap.size (w.alloc (.cells #[.int .u8 (48 + (r : Int))] 5)).drew W) => conv_cell W w.heap.size r hr10 (by
      have h5 : (w.alloc (.cells #[.int .u8 (48 + (r : Int))] 5)).drew.cell? ⟨w.heap.size, 0, none⟩ = some (.int .u8 (48 + (r : Int))) := cell_of_row _ _ 0 _ _ _ (heap_alloc_new w (.cells #[.int .u8 (48 + (r : Int))] 5))
      exact (hb.cell (p := ⟨w.heap.size, 0, none⟩) (by show w.heap.size < (w.alloc _).heap.size; simp)).trans h5))
    have hcv2 := HC5.out _ (Below.refl _ _)
    go_region_with (first
      | (go_at_call 80; with_reducible refine Calls.mono (IH.out (w.alloc (.cells #[.int .u8 (48 + (r : Int))] 5)).drew) ?_; rintro e w5 ⟨rfl, b5⟩; have hc5 := HC5.out _ b5)
      | (go_at_call 80; with_reducible refine Calls.mono (IH.out w.drew) ?_; rintro e w5 ⟨rfl, b5⟩))
    all_goals
      go_wp2
      go_ret
      first
        | exact ⟨rfl, ((Below.refl _ _).drew.trans (b5.mono (Nat.le_refl _))).alloc b5.size _⟩
        | exact ⟨rfl, ((Below.refl _ _).alloc (Nat.le_refl _) _).drew.trans (b5.mono (by show w.heap.size ≤ (w.alloc _).heap.size; simp))⟩
termination_by n
decreasing_by omega
end Go.Proofs.Ytkejcajboneniaa

namespace Go.Proofs.Ytkejcajboneniaa
open Go.RowKit
set_option linter.unusedVariables false
set_option linter.unusedSimpArgs false

/-- A ring's digits. -/
def rowB (l : List Int) : List UInt8 := l.map fun x => digB x.toNat
def rowTextOut (l : List Int) : List UInt8 := if bitsOk l = true then rowB l else []
theorem rowB_len (l : List Int) : (rowB l).length = l.length := by simp [rowB]
theorem rowB_take {l : List Int} {k : Nat} (h : k < l.length) : rowB (l.take (k + 1)) = rowB (l.take k) ++ [digB (nth l k).toNat] := by rw [take_nth h]; simp [rowB]

set_option maxRecDepth 100000 in
set_option maxHeartbeats 1600000 in
theorem specRowText_any (A : Option Addr) (n c : Nat) (l : List Int) (w : World) (hs : Sl w w.heap.size A n l) :
    Calls Try.prog 61 #[.slice A n c] w fun e w' => e = .returned (encStr (rowTextOut l)) ∧ Below w.heap.size w w' := by
  have HL := hid hs.len
  have hm := hs.max
  have CK := hid (fun (W : World) (hW : Below w.heap.size w W) => specBitsOk_any A n c l W _ (hs.below hW))
  cases hok : bitsOk l with
  | false =>
    have HV := hid (show rowTextOut l = [] from by unfold rowTextOut; rw [hok]; rfl)
    rw [hok] at CK
    clear hok
    by_cases hn0 : 0 < n
    · have d1 : (0 : Int) < (n : Int) := by omega
      go_enter Try.func61, Try.ntmps61
      go_wp2
      go_loop [3, 4] (fun v i => v = .string ⟨#[]⟩ ∧ i = .int .i64 0) (fun _ _ => 0)
      case atStart => exact ⟨rfl, rfl⟩
      case round =>
        obtain ⟨rfl, rfl⟩ := hrel
        go_wp2_with (go_at_call 44; with_reducible refine Calls.mono (CK.out _ (Below.refl _ _)) ?_; rintro e w' ⟨rfl, rfl⟩)
        go_ret
        exact ⟨by rw [HV.out]; rfl, Below.refl _ _⟩
    · obtain rfl : n = 0 := by omega
      go_enter Try.func61, Try.ntmps61
      go_wp2
      go_loop [3, 4] (fun v i => v = .string ⟨#[]⟩ ∧ i = .int .i64 0) (fun _ _ => 0)
      case atStart => exact ⟨rfl, rfl⟩
      case round =>
        obtain ⟨rfl, rfl⟩ := hrel
        go_wp2
        go_ret
        exact ⟨by rw [HV.out]; rfl, Below.refl _ _⟩
  | true =>
    obtain ⟨hb, h1, h2⟩ := bitsOk_iff.1 hok
    have HV := hid (show rowTextOut l = rowB l from by unfold rowTextOut; rw [if_pos hok])
    have HX := hid (fun k => bit_nth hb k)
    rw [HL.out] at h1 h2
    rw [hok] at CK
    obtain ⟨b, off, rfl, hbS, hc⟩ := hs.2.2 (by omega)
    have HC := hid hc
    clear hok hb hc hs
    go_enter Try.func61, Try.ntmps61
    go_wp2
    go_loopw [3, 4] (fun v i wr => ∃ k : Nat, v = .string ⟨(rowB (l.take k)).toArray⟩ ∧ i = .int .i64 k ∧ k ≤ n ∧ Hid (Below w.heap.size w wr)) (fun _ i _ => n - (intOf i).toNat)
    case atStart => exact ⟨0, rfl, rfl, Nat.zero_le _, hid (Below.refl _ _)⟩
    case round =>
      obtain ⟨k, rfl, rfl, hk, HB⟩ := hrel
      by_cases hlt : k < n
      · have x0 := (HB.out.cell (p := ⟨b, off + k, none⟩) hbS).trans (HC.out k hlt)
        have b0 := HX.out k
        have HT := hid (rowB_take (l := l) (k := k) (by rw [HL.out]; exact hlt))
        obtain ⟨x, hx⟩ : ∃ x, nth l k = x := ⟨_, rfl⟩
        rw [hx] at x0 b0 HT
        obtain ⟨q, rfl⟩ : ∃ q : Nat, x = q := Int.eq_ofNat_of_zero_le (by omega)
        rw [Int.toNat_natCast] at HT
        have hlti : (k : Int) < (n : Int) := by omega
        have hct := fun W => cat_any (rowB (l.take k)) [digB q] (by rw [rowB_len, List.length_take]; simp; omega) W
        rw [← HT.out] at hct
        have CN := hid (number_any q (by omega) wr)
        rw [numB_lt (show q < 10 by omega)] at CN
        clear hx
        go_wp2_with (first | (go_at_call 44; with_reducible refine Calls.mono (CK.out _ HB.out) ?_; rintro e w' ⟨rfl, rfl⟩) | (go_at_call 80; with_reducible refine Calls.mono CN.out ?_; rintro e w5 ⟨rfl, b5⟩))
        have B5 := hid (HB.out.trans (b5.mono HB.out.size))
        go_roundw
        case rel => exact ⟨k + 1, rfl, by go_num, by omega, B5⟩
        case measure => simp [intOf]; omega
      · obtain rfl : k = n := by omega
        have HT := hid (show l.take k = l from List.take_of_length_le (by rw [HL.out]; omega))
        go_wp2
        go_ret
        exact ⟨by rw [HV.out, HT.out]; rfl, HB.out⟩
end Go.Proofs.Ytkejcajboneniaa

namespace Go.Proofs.Ytkejcajboneniaa
open Go.RowKit
set_option linter.unusedVariables false
set_option linter.unusedSimpArgs false

def flipB : List UInt8 := [102, 108, 105, 112, 32]
def roundB : List UInt8 := [114, 111, 117, 110, 100, 32]
def sumsB : List UInt8 := [115, 117, 109, 115]
def carsB : List UInt8 := [99, 97, 114, 115]
def votesB : List UInt8 := [118, 111, 116, 101, 115]
def freeB : List UInt8 := [102, 114, 101, 101]
def backB : List UInt8 := [98, 97, 99, 107]
/-- What DeedText gives. -/
def deedB (k n : Int) : List UInt8 :=
  if k = 3 ∧ within n 0 99 = true then flipB ++ numB n.toNat
  else if k = 4 ∧ within n 0 99 = true then roundB ++ numB n.toNat
  else if k = 0 ∧ n = 0 then sumsB
  else if k = 1 ∧ n = 0 then carsB
  else if k = 2 ∧ n = 0 then votesB
  else if k = 5 ∧ n = 0 then freeB
  else if k = 6 ∧ n = 0 then backB
  else []
abbrev deed (k n : Int) : Value := .agg #[.int .i64 k, .int .i64 n]

end Go.Proofs.Ytkejcajboneniaa

namespace Go.Proofs.Ytkejcajboneniaa
open Go.RowKit
set_option linter.unusedVariables false
set_option linter.unusedSimpArgs false

def isDig (b : UInt8) : Bool := decide (48 ≤ b.toNat ∧ b.toNat ≤ 57)
def stepD (n : Nat) (b : UInt8) : Nat := 10 * n + (b.toNat - 48)
def valB (s : List UInt8) : Nat := s.foldl stepD 0
theorem valB_snoc (s : List UInt8) (b : UInt8) : valB (s ++ [b]) = 10 * valB s + (b.toNat - 48) := by simp [valB, stepD]
theorem fold_lt : ∀ (s : List UInt8) (n : Nat), s.all isDig = true → s.foldl stepD n < (n + 1) * 10 ^ s.length
  | [], n, _ => by simp
  | b :: l, n, h => by
    rw [List.all_cons, Bool.and_eq_true] at h
    have h1 := fold_lt l (stepD n b) h.2
    have h2 := h.1
    simp only [isDig, decide_eq_true_eq] at h2
    rw [List.foldl_cons, List.length_cons, Nat.pow_succ]
    refine Nat.lt_of_lt_of_le h1 ?_
    rw [show (n + 1) * (10 ^ l.length * 10) = ((n + 1) * 10) * 10 ^ l.length by rw [Nat.mul_assoc, Nat.mul_comm 10 _]]
    exact Nat.mul_le_mul_right _ (by unfold stepD; omega)
theorem valB_lt (s : List UInt8) (h : s.all isDig = true) : valB s < 10 ^ s.length := by
  have := fold_lt s 0 h
  simpa [valB] using this
theorem valB_lt6 (s : List UInt8) (h : s.all isDig = true) (hl : s.length ≤ 6) : valB s < 1000000 :=
  Nat.lt_of_lt_of_le (valB_lt s h) (Nat.le_trans (Nat.pow_le_pow_right (by decide) hl) (by decide))
/-- What l1Digits tells. -/
def digitsOut (s : List UInt8) : Int :=
  if within (s.length : Int) 1 6 = true ∧ (s.length = 1 ∨ s.head? ≠ some 48) ∧ s.all isDig = true then (valB s : Int) else -1
theorem digitsOut_le (s : List UInt8) : -1 ≤ digitsOut s ∧ digitsOut s < 1000000 := by
  unfold digitsOut
  split
  · rename_i h
    have := valB_lt6 s h.2.2 (by have := within_iff.1 h.1; omega)
    omega
  · omega

end Go.Proofs.Ytkejcajboneniaa

namespace Go.Proofs.Ytkejcajboneniaa
open Go.RowKit
set_option linter.unusedVariables false
set_option linter.unusedSimpArgs false

/-- Byte k of a text. -/
def bat (s : List UInt8) (k : Nat) : UInt8 := s.getD k 0
theorem bat_lt {s : List UInt8} {k : Nat} (h : k < s.length) : s[k] = bat s k := by simp [bat, List.getD, h]
/-- The bytes i up to j. -/
def sub (s : List UInt8) (i j : Nat) : List UInt8 := (s.take j).drop i
/-- Where the last piece of the first k bytes begins, and the pieces before. -/
def cutF (s : List UInt8) (p : UInt8) : Nat → Nat
  | 0 => 0
  | k + 1 => if bat s k = p then k + 1 else cutF s p k
def cutD (s : List UInt8) (p : UInt8) : Nat → List (List UInt8)
  | 0 => []
  | k + 1 => if bat s k = p then cutD s p k ++ [sub s (cutF s p k) k] else cutD s p k
/-- What l1Cut gives. -/
def cutB (s : List UInt8) (p : UInt8) : List (List UInt8) := cutD s p s.length ++ [sub s (cutF s p s.length) s.length]
theorem cutF_le (s : List UInt8) (p : UInt8) : ∀ k, cutF s p k ≤ k
  | 0 => Nat.le_refl _
  | k + 1 => by
    have := cutF_le s p k
    unfold cutF
    split <;> omega
theorem cutD_len (s : List UInt8) (p : UInt8) : ∀ k, (cutD s p k).length ≤ k
  | 0 => Nat.le_refl _
  | k + 1 => by
    have := cutD_len s p k
    unfold cutD
    split <;> simp <;> omega
theorem sub_len (s : List UInt8) (i j : Nat) : (sub s i j).length ≤ s.length := by simp only [sub, List.length_drop, List.length_take]; omega
/-- Texts as values. -/
def strs (l : List (List UInt8)) : List Value := l.map encStr
theorem extract_sub (s : List UInt8) (i j : Nat) : (⟨s.toArray⟩ : ByteArray).extract i j = ⟨(sub s i j).toArray⟩ := by
  apply ByteArray.ext
  rw [ByteArray.data_extract]
  simp [sub, List.drop_take]
theorem sub_str (s : List UInt8) (i j : Nat) : Value.string ((⟨s.toArray⟩ : ByteArray).extract i j) = encStr (sub s i j) := by rw [extract_sub]
theorem info_str : (Try.prog.info? 9).map (fun i => (i.zero, i.size, i.bytes)) = some (some (encStr []), 1, 16) := by kernel_rfl
theorem grew {w w1 w2 : World} {B : Nat} {v : Value} {o : Obj} (hg : Below w.heap.size w w1) (hB : w.heap.size ≤ B) (hv : v.ownBlock = none ∨ ∃ k, v.ownBlock = some k ∧ B ≤ k) (hg2 : (w1.alloc o).grownBy w2 v.ownBlock) :
    Below w.heap.size w w2 := by
  refine (hg.alloc hg.size _).grown hg2 (by have := hg.size; simp; omega) ?_
  intro k hk
  rcases hv with hv | ⟨k', hv, hk'⟩
  · rw [hv] at hk; cases hk
  · rw [hv] at hk; cases hk; omega

end Go.Proofs.Ytkejcajboneniaa

namespace Go.Proofs.Ytkejcajboneniaa
open Go.RowKit
set_option linter.unusedVariables false
set_option linter.unusedSimpArgs false

/-- The cells of a list of deeds. -/
def flat : List (Int × Int) → List Int
  | [] => []
  | a :: l => a.1 :: a.2 :: flat l
theorem flat_len : ∀ l, (flat l).length = 2 * l.length
  | [] => rfl
  | a :: l => by simp only [flat, List.length_cons, flat_len l]; omega
theorem flat_append : ∀ a b, flat (a ++ b) = flat a ++ flat b
  | [], b => rfl
  | x :: a, b => by simp only [List.cons_append, flat, flat_append a b]
theorem nth_cons_succ (a : Int) (l : List Int) (k : Nat) : nth (a :: l) (k + 1) = nth l k := by simp [nth]
theorem nth_flat0 : ∀ (l : List (Int × Int)) (k : Nat), nth (flat l) (k * 2) = (l.getD k (0, 0)).1
  | [], k => by simp [flat, nth]
  | a :: l, 0 => by simp [flat, nth]
  | a :: l, k + 1 => by
    rw [show (k + 1) * 2 = k * 2 + 1 + 1 by omega]
    simp only [flat, nth_cons_succ]
    rw [nth_flat0 l k]
    simp
theorem nth_flat1 : ∀ (l : List (Int × Int)) (k : Nat), nth (flat l) (k * 2 + 1) = (l.getD k (0, 0)).2
  | [], k => by simp [flat, nth]
  | a :: l, 0 => by simp [flat, nth]
  | a :: l, k + 1 => by
    rw [show (k + 1) * 2 + 1 = k * 2 + 1 + 1 + 1 by omega]
    simp only [flat, nth_cons_succ]
    rw [nth_flat1 l k]
    simp
/-- The slice value '.slice A n c' reads as the list of deeds l in the world w, below block B. -/
def SlD (w : World) (B : Nat) (A : Option Addr) (n : Nat) (l : List (Int × Int)) : Prop :=
  l.length = n ∧ n ≤ maxLen ∧ (0 < n → ∃ b off, A = some ⟨b, off, none⟩ ∧ b < B ∧ ∀ j, j < 2 * n → w.cell? ⟨b, off + j, none⟩ = some (.int .i64 (nth (flat l) j)))
section
variable {w w' : World} {B B' n : Nat} {A : Option Addr} {l : List (Int × Int)}
theorem SlD.len (h : SlD w B A n l) : l.length = n := h.1
theorem SlD.max (h : SlD w B A n l) : n ≤ 9223372036854775807 := h.2.1
theorem SlD.nil (w : World) (B : Nat) : SlD w B none 0 [] := ⟨rfl, by simp [maxLen], fun h => absurd h (by omega)⟩
theorem SlD.keep (h : SlD w B A n l) (hB : B ≤ B') (hk : ∀ p : Addr, p.block < B → w'.cell? p = w.cell? p) : SlD w' B' A n l :=
  ⟨h.1, h.2.1, fun hn => by
    obtain ⟨b, off, e, hb, hc⟩ := h.2.2 hn
    exact ⟨b, off, e, by omega, fun j hj => (hk _ hb).trans (hc j hj)⟩⟩
theorem SlD.more (h : SlD w B A n l) (hB : B ≤ B') : SlD w B' A n l := h.keep hB fun _ _ => rfl
theorem SlD.below (h : SlD w B A n l) (hb : Below B w w') : SlD w' B A n l := h.keep (Nat.le_refl _) fun _ hp => hb.cell hp
theorem SlD.on (h : SlD w w.heap.size A n l) (hb : Below w.heap.size w w') : SlD w' w'.heap.size A n l := (h.below hb).more hb.size
theorem SlD.of_own {base : Nat} {c : Nat} {e : TypeId} (h : w.ownsRow base e 2 (.slice A n c) n (ints (flat l))) : SlD w w.heap.size A n l := by
  have hl : l.length = n := by have := h.1; simp only [ints, List.length_map, flat_len] at this; omega
  rcases h.2 with ⟨h1, h2⟩ | ⟨g, cap, cur, hv, hb, hg, hnc, hcm, hs, ht⟩
  · injection h1 with h1 h3
    subst h1; subst h3
    obtain rfl := List.eq_nil_of_length_eq_zero hl
    exact SlD.nil _ _
  · injection hv with h1 h2 h3
    subst h1; subst h3
    refine ⟨hl, Nat.le_trans hnc hcm, fun hn => ⟨g, 0, rfl, ?_, fun j hj => ?_⟩⟩
    · rcases Nat.lt_or_ge g w.heap.size with hlt | hge
      · exact hlt
      · rw [Array.getElem?_eq_none hge] at hg; cases hg
    · have hj2 : j < (flat l).length := by rw [flat_len]; omega
      rw [World.ownsRow.cellAt h (0 + j) (by omega)]
      simp [nth, List.getD, hj2]
end

theorem deedB_len (k n : Int) : (deedB k n).length ≤ 200 := by
  unfold deedB
  split
  · rename_i h
    have hb := within_iff.1 h.2
    have := numB_len n.toNat
    simp only [flipB, List.length_append, List.length_cons, List.length_nil]
    omega
  split
  · rename_i h
    have hb := within_iff.1 h.2
    have := numB_len n.toNat
    simp only [roundB, List.length_append, List.length_cons, List.length_nil]
    omega
  (repeat' split) <;> decide
def deedP (a : Int × Int) : List UInt8 := deedB a.1 a.2
/-- The lines of deeds. -/
def linesB : List (Int × Int) → List UInt8
  | [] => []
  | a :: l => deedP a ++ [10] ++ linesB l
theorem linesB_append : ∀ a b, linesB (a ++ b) = linesB a ++ linesB b
  | [], b => rfl
  | x :: a, b => by simp only [List.cons_append, linesB, linesB_append a b, List.append_assoc]
theorem linesB_len : ∀ l, (linesB l).length ≤ 201 * l.length
  | [] => Nat.le_refl _
  | a :: l => by
    have := deedB_len a.1 a.2
    have := linesB_len l
    simp only [linesB, deedP, List.length_append, List.length_cons, List.length_nil]
    omega
/-- What JournalText gives. -/
def hasText (a : Int × Int) : Bool := deedP a != []
def journalOut (l : List (Int × Int)) : List UInt8 := if l.all hasText = true then linesB l else []

end Go.Proofs.Ytkejcajboneniaa

namespace Go.Proofs.Ytkejcajboneniaa
open Go.RowKit
set_option linter.unusedVariables false
set_option linter.unusedSimpArgs false

def plainD : List (Int × Int) := [(0, 0), (1, 0), (2, 0), (5, 0), (6, 0)]
/-- The deeds that ReadDeed tries. -/
def candD (s : List UInt8) : List (Int × Int) :=
  if (cutB s 32).length = 2 then plainD ++ [(3, digitsOut ((cutB s 32).getD 1 [])), (4, digitsOut ((cutB s 32).getD 1 []))] else plainD
def isText (s : List UInt8) (a : Int × Int) : Bool := s != [] && deedP a == s
/-- What ReadDeed gives. -/
def readOut (s : List UInt8) : Option (Int × Int) := (candD s).find? (isText s)
def deedV (a : Int × Int) : Value := .agg #[.int .i64 a.1, .int .i64 a.2]
def readV : Option (Int × Int) → Value
  | some a => .tuple #[deedV a, .bool true]
  | none => .tuple #[deedV (0, 0), .bool false]
theorem info_deed : (Try.prog.info? 45).map (fun i => (i.zero, i.size, i.bytes)) = some (some (deedV (0, 0)), 2, 16) := by kernel_rfl

section
variable {P : Program} {fn : Func} {p u : Tmp} {ty : TypeId}
theorem results_kk (h : fn.results = #[.cell p ty, .tmp u]) (tmps : Array Value) (w : World) (g : Nat) (t : TypeId) (cs : Array Value) (fr : Nat × Nat) (d : TypeDesc)
    (hp : tmps.getD p undef = .pointer (some ⟨g, 0, none⟩)) (hg : w.heap[g]? = some (.cells cs t fr))
    (hu : P.underlying ty = some d) (hd : (match d with | .struct _ | .array _ _ => true | _ => false) = true) (hi : (P.info? ty).map (·.size) = some cs.size) :
    (results fn tmps).run P w = .ok (.tuple #[.agg cs, tmps.getD u undef]) w := by
  have hp' : tmps[p]?.getD undef = .pointer (some ⟨g, 0, none⟩) := by simpa using hp
  simp [results, h, hp', asAddr, run_loadVar_row w g t ty cs fr d hg hu hd hi]
end
theorem own_len {w : World} {B n : Nat} {e : TypeId} {v : Value} {l : List (List UInt8)} (h : w.ownsRow B e 1 v n (strs l)) : n = l.length := by
  have := h.1
  simpa [strs] using this.symm
theorem cutD_mem (s : List UInt8) (p : UInt8) : ∀ k, ∀ x ∈ cutD s p k, x.length ≤ s.length
  | 0 => by intro x hx; simp [cutD] at hx
  | k + 1 => by
    intro x hx
    unfold cutD at hx
    split at hx
    · rcases List.mem_append.1 hx with h | h
      · exact cutD_mem s p k x h
      · obtain rfl := List.mem_singleton.1 h
        exact sub_len _ _ _
    · exact cutD_mem s p k x hx
theorem cutB_mem (s : List UInt8) (p : UInt8) : ∀ x ∈ cutB s p, x.length ≤ s.length := by
  intro x hx
  unfold cutB at hx
  rcases List.mem_append.1 hx with h | h
  · exact cutD_mem s p _ x h
  · obtain rfl := List.mem_singleton.1 h
    exact sub_len _ _ _
theorem readOut_some {s : List UInt8} {k : Nat} (hk : k < (candD s).length) (hn : ∀ a ∈ (candD s).take k, isText s a = false) (h : isText s (candD s)[k] = true) : readOut s = some (candD s)[k] := by
  unfold readOut
  have e : candD s = (candD s).take k ++ (candD s)[k] :: (candD s).drop (k + 1) := by rw [← List.drop_eq_getElem_cons hk, List.take_append_drop]
  generalize hx : (candD s)[k] = x at *
  rw [e, List.find?_append, List.find?_eq_none.2 (by simpa using hn)]
  simp [h]
theorem readOut_none {s : List UInt8} (hn : ∀ a ∈ candD s, isText s a = false) : readOut s = none := List.find?_eq_none.2 (by simpa using hn)

end Go.Proofs.Ytkejcajboneniaa

namespace Go.Proofs.Ytkejcajboneniaa
open Go.RowKit
set_option linter.unusedVariables false
set_option linter.unusedSimpArgs false

/-- What ReadJournal has read of the first k bytes: the deeds, where it goes on, and whether it has stopped. -/
def jgo (s : List UInt8) : Nat → List (Int × Int) × Nat × Bool
  | 0 => ([], 0, false)
  | k + 1 =>
    if (jgo s k).2.2 = true then jgo s k
    else if bat s k = 10 then
      match readOut (sub s (jgo s k).2.1 k) with
      | none => ((jgo s k).1, (jgo s k).2.1, true)
      | some a => ((jgo s k).1 ++ [a], k + 1, false)
    else jgo s k
def jOut (s : List UInt8) : List (Int × Int) × Nat := ((jgo s s.length).1, (jgo s s.length).2.1)
theorem jgo_stop {s : List UInt8} {k : Nat} (h : (jgo s k).2.2 = true) : ∀ d, jgo s (k + d) = jgo s k
  | 0 => rfl
  | d + 1 => by
    have ih := jgo_stop h d
    rw [← Nat.add_assoc, jgo, ih, if_pos h]
theorem jgo_from (s : List UInt8) : ∀ k, (jgo s k).2.1 ≤ k
  | 0 => Nat.le_refl _
  | k + 1 => by
    have ih := jgo_from s k
    rw [jgo]
    split
    · omega
    split
    · split
      · show (jgo s k).2.1 ≤ k + 1; omega
      · exact Nat.le_refl _
    · omega
theorem jgo_len (s : List UInt8) : ∀ k, (jgo s k).1.length ≤ k
  | 0 => Nat.le_refl _
  | k + 1 => by
    have ih := jgo_len s k
    rw [jgo]
    split
    · omega
    split
    · split
      · show (jgo s k).1.length ≤ k + 1; omega
      · simp; omega
    · omega

theorem own_blk2 {w : World} {B n : Nat} {A : Option Addr} {c : Nat} {e : TypeId} {sz : Nat} {xs : List Value} (h : w.ownsRow B e sz (.slice A n c) n xs) :
    (Value.slice A n c).ownBlock = none ∨ ∃ k, (Value.slice A n c).ownBlock = some k ∧ B ≤ k := by
  rcases hb : (Value.slice A n c).ownBlock with _ | k
  · exact .inl rfl
  · exact .inr ⟨k, rfl, (h.lt k hb).1⟩

theorem own_on2 {w w' : World} {B n : Nat} {v : Value} {e : TypeId} {sz : Nat} {xs : List Value} (h : w.ownsRow B e sz v n xs) (hb : Below w.heap.size w w') : w'.ownsRow B e sz v n xs := by
  refine ⟨h.1, ?_⟩
  rcases h.2 with h2 | ⟨g, cap, cur, h1, h2, h3, h4⟩
  · exact .inl h2
  · refine .inr ⟨g, cap, cur, h1, h2, (hb.block g ?_).trans h3, h4⟩
    rcases Nat.lt_or_ge g w.heap.size with hlt | hge
    · exact hlt
    · rw [Array.getElem?_eq_none hge] at h3; cases h3
theorem ints_flat_snoc (l : List (Int × Int)) (a : Int × Int) : ints (flat l) ++ [.int .i64 a.1, .int .i64 a.2] = ints (flat (l ++ [a])) := by rw [flat_append]; simp [ints, flat]

end Go.Proofs.Ytkejcajboneniaa

namespace Go.Proofs.Ytkejcajboneniaa
open Go.RowKit
set_option linter.unusedVariables false
set_option linter.unusedSimpArgs false

theorem results_bb {P : Program} {fn : Func} {p : Tmp} {ty : TypeId} (h : fn.results = #[.cell p ty]) (tmps : Array Value) (w : World) (g : Nat) (t : TypeId) (cs : Array Value) (fr : Nat × Nat) (d : TypeDesc)
    (hp : tmps.getD p undef = .pointer (some ⟨g, 0, none⟩)) (hg : w.heap[g]? = some (.cells cs t fr))
    (hu : P.underlying ty = some d) (hd : (match d with | .struct _ | .array _ _ => true | _ => false) = true) (hi : (P.info? ty).map (·.size) = some cs.size) :
    (results fn tmps).run P w = .ok (.agg cs) w := by
  have hp' : tmps[p]?.getD undef = .pointer (some ⟨g, 0, none⟩) := by simpa using hp
  simp [results, h, hp', asAddr, run_loadVar_row w g t ty cs fr d hg hu hd hi]

set_option maxHeartbeats 800000 in
theorem toDeed_any (a b : Int) (w : World) :
    Calls Try.prog 34 #[deed a b] w fun e w' => e = .returned (deed a b) ∧ Below w.heap.size w w' := by
  go_enter Try.func34, Try.ntmps34
  go_wp2
  have h1 := heap_alloc_new (w.alloc (.cells #[.int .i64 a, .int .i64 b] 50)) (.cells #[.int .i64 a, .int .i64 b] 45)
  rw [show (w.alloc (.cells #[.int .i64 a, .int .i64 b] 50)).heap.size = w.heap.size + 1 by simp] at h1
  have h2 := (Below.heap_alloc ((w.alloc (.cells #[.int .i64 a, .int .i64 b] 50)).alloc (.cells #[.int .i64 a, .int .i64 b] 45)) (.cells #[.int .i64 a, .int .i64 b] 45) (w.heap.size + 1) (by simp)).trans h1
  refine bodyPost_ret (results_bb rfl _ _ (w.heap.size + 1) _ _ _ _ rfl h2 Try.underlying45 rfl (by kernel_rfl)) rfl ?_
  exact ⟨rfl, (((Below.refl w.heap.size w).alloc (Nat.le_refl _) _).alloc (by simp) _).alloc (by simp; omega) _⟩

set_option maxHeartbeats 800000 in
theorem eqDeed_any (a b : Int × Int) (w : World) :
    Calls Try.prog 66 #[deed a.1 a.2, deed b.1 b.2] w fun e w' => e = .returned (.bool (decide (a = b))) ∧ Below w.heap.size w w' := by
  have HV := hid (show decide (a = b) = (decide (a.1 = b.1) && decide (a.2 = b.2)) from by rw [Bool.eq_iff_iff]; simp [Prod.ext_iff])
  by_cases h1 : a.1 = b.1
  · by_cases h2 : a.2 = b.2
    · have hq1 : (a.1 == b.1) = true := by simp [h1]
      have hq2 : (a.2 == b.2) = true := by simp [h2]
      go_enter Try.func66, Try.ntmps66
      go_wp2
      go_ret
      exact ⟨by rw [HV.out]; simp [h1, h2], ((Below.refl w.heap.size w).alloc (Nat.le_refl _) _).alloc (by simp) _⟩
    · have hq1 : (a.1 == b.1) = true := by simp [h1]
      have hq2 : (a.2 == b.2) = false := by simp [h2]
      go_enter Try.func66, Try.ntmps66
      go_wp2
      go_ret
      exact ⟨by rw [HV.out]; simp [h1, h2], ((Below.refl w.heap.size w).alloc (Nat.le_refl _) _).alloc (by simp) _⟩
  · have hq1 : (a.1 == b.1) = false := by simp [h1]
    go_enter Try.func66, Try.ntmps66
    go_wp2
    go_ret
    exact ⟨by rw [HV.out]; simp [h1], ((Below.refl w.heap.size w).alloc (Nat.le_refl _) _).alloc (by simp) _⟩
end Go.Proofs.Ytkejcajboneniaa

namespace Go.Proofs.Ytkejcajboneniaa
open Go.RowKit
set_option linter.unusedVariables false
set_option linter.unusedSimpArgs false

theorem madeDeeds (n : Nat) : (madeCells (deedV (0, 0)).cells (n * 2)).toList = ints (List.replicate (n * 2) 0) := by
  simp only [madeCells, deedV, Value.cells, ints, List.map_replicate]
  apply List.ext_getElem?
  intro j
  by_cases h : j < n * 2
  · rcases Nat.mod_two_eq_zero_or_one j with h2 | h2 <;> simp [h, h2]
  · simp [show n * 2 ≤ j from by omega]
theorem own_cell2 {w : World} {base g n c j : Nat} {e : TypeId} {l : List Int} (h : w.ownsRow base e 2 (.slice (some ⟨g, 0, none⟩) n c) n (ints l)) (hl : l.length = n * 2) (hj : j < n * 2) :
    w.cell? ⟨g, j, none⟩ = some (.int .i64 (nth l j)) := by
  rw [h.cellAt j (by omega)]
  simp [nth, List.getD, show j < l.length from by omega]
theorem filled_len (l : List Int) {k n : Nat} (h : l.length = n) (hk : k ≤ n) : (filled l k n).length = n := by simp [filled]; omega
theorem flat_len2 (l : List (Int × Int)) : (flat l).length = l.length * 2 := by rw [flat_len]; omega

theorem SlD.of_pairs {w : World} {x : Addr} {n cap : Nat} {q : Nat → Int × Int} (hl : n ≤ cap) (hm : cap ≤ maxLen)
    (hq : ∀ i, i < n → w.cell? (x.add (i * 2)) = some (.int .i64 (q i).1) ∧ w.cell? (x.add (i * 2 + 1)) = some (.int .i64 (q i).2)) : SlD w w.heap.size (some x) n ((List.range n).map q) := by
  refine ⟨by simp, Nat.le_trans hl hm, fun hn => ?_⟩
  obtain ⟨b, off, spot⟩ := x
  have hc0 := (hq 0 hn).1
  have hspot : spot = none := by simpa [Addr.add] using World.cell?_spot hc0
  subst hspot
  have e : ∀ j, (⟨b, off, none⟩ : Addr).add j = ⟨b, off + j, none⟩ := fun j => by
    unfold Addr.add
    by_cases h0 : j = 0 <;> simp [h0]
  refine ⟨b, off, rfl, ?_, fun j hj => ?_⟩
  · rw [e] at hc0
    rcases Nat.lt_or_ge b w.heap.size with hlt | hge
    · exact hlt
    · simp [World.cell?, Array.getElem?_eq_none hge] at hc0
  · have hi : j / 2 < n := by omega
    have hg : ((List.range n).map q).getD (j / 2) (0, 0) = q (j / 2) := by simp [List.getD, hi]
    obtain ⟨h0, h1⟩ := hq (j / 2) hi
    rw [e] at h0 h1
    rcases Nat.mod_two_eq_zero_or_one j with h2 | h2
    · have hj2 : j = j / 2 * 2 := by omega
      rw [hj2, nth_flat0, hg]
      exact h0
    · have hj2 : j = j / 2 * 2 + 1 := by omega
      rw [hj2, nth_flat1, hg]
      exact h1

set_option maxRecDepth 100000 in
set_option maxHeartbeats 1600000 in
theorem szDeedS_any (A : Option Addr) (n c : Nat) (x : Int) (w : World) (hn : n ≤ 9223372036854775807) (h0 : 0 ≤ x) (h1 : x ≤ 9223372036854775807) :
    Calls Try.prog 38 #[.slice A n c, .int .i64 x] w fun e w' => e = .returned (.int .i64 (if x - n < 0 then -1 else x - n)) ∧ w = w' := by
  have w1 : IntKind.i64.wrap (x - n) = x - n := IntWalk.i64_in _ (by omega)
  by_cases h : x - n < 0
  · rw [if_pos h]
    go_enter Try.func38, Try.ntmps38
    go_wp2
    go_ret
    exact ⟨rfl, rfl⟩
  · rw [if_neg h]
    go_enter Try.func38, Try.ntmps38
    go_wp2
    go_ret
    exact ⟨rfl, rfl⟩

set_option maxRecDepth 100000 in
set_option maxHeartbeats 1600000 in
theorem toDeedS_any (A : Option Addr) (n c : Nat) (l : List (Int × Int)) (w : World) (hs : SlD w w.heap.size A n l) (hn : n ≤ 2000000) :
    Calls Try.prog 39 #[.slice A n c] w fun e w' => ∃ g, e = .returned (.slice (some ⟨g, 0, none⟩) n n) ∧ w'.ownsRow w.heap.size 45 2 (.slice (some ⟨g, 0, none⟩) n n) n (ints (flat l)) ∧ Below w.heap.size w w' := by
  obtain ⟨i0, hi, hz0, hz1, hz2⟩ := info_parts info_deed
  have HL := hid hs.len
  have HF := hid (show (flat l).length = n * 2 from by rw [flat_len2, hs.len])
  go_enter Try.func39, Try.ntmps39
  go_wp2_with (refine wpList_make_full _ rfl (.tmp 6) (.tmp 6) 53 rfl w.heap.size 45 i0 _ 2 Try.underlying53 hi hz0 hz1 .i64 .i64 n n n rfl rfl rfl rfl (by rw [hz2]; omega) (by simp only [maxLen]; omega) (Nat.le_refl _) ?_; intro w1 hown1 hg1)
  rw [madeDeeds, ← filled_zero (flat l) (n * 2)] at hown1
  have hbw : Below w.heap.size w w1 := (Below.refl _ _).grown hg1 (Nat.le_refl _) (by simp)
  have hlw : w.heap.size < w1.heap.size := (hown1.lt _ rfl).2
  clear hg1 hi hz0 hz1 hz2
  go_loopw [4] (fun i wr => ∃ k : Nat, k ≤ n ∧ i = .int .i64 k ∧ w.heap.size < wr.heap.size ∧ wr.ownsRow w.heap.size 45 2 (.slice (some ⟨w.heap.size, 0, none⟩) n n) n (ints (filled (flat l) (k * 2) (n * 2))) ∧ Below w.heap.size w wr) (fun i _ => n - (intOf i).toNat)
  case atStart => exact ⟨0, Nat.zero_le _, rfl, hlw, hown1, hbw⟩
  case round =>
    obtain ⟨k, hk, rfl, hlr, hown, hb⟩ := hrel
    clear hown1 hbw hlw
    by_cases hlt : k < n
    · obtain ⟨b, off, rfl, hbl, hc⟩ := (hs.below hb).2.2 (by omega)
      have hc0 := hc (k * 2) (by omega)
      have hc1 := hc (k * 2 + 1) (by omega)
      have s1 := filled_step HF.out (show k * 2 < n * 2 by omega)
      have s2 := filled_step HF.out (show k * 2 + 1 < n * 2 by omega)
      rw [show k * 2 + 1 + 1 = (k + 1) * 2 by omega] at s2
      rw [nth_flat0] at hc0 s1
      rw [nth_flat1] at s2
      rw [nth_flat1, ← Nat.add_assoc] at hc1
      obtain ⟨a, ha⟩ : ∃ a, l.getD k (0, 0) = a := ⟨_, rfl⟩
      rw [ha] at hc0 hc1 s1 s2
      have CT := hid (toDeed_any a.1 a.2 wr)
      have S1 := hid s1
      have S2 := hid s2
      have HO := hid hown
      have HB := hid hb
      clear hc s1 s2 hown ha hb
      go_wp2_with (go_at_call 34; with_reducible refine Calls.mono CT.out ?_; rintro e w5 ⟨rfl, b5⟩; have o5 := own_on2 HO.out b5; have f50 := o5.frozenAt (k * 2); have f51 := o5.frozenAt (k * 2 + 1); have v50 := own_cell2 o5 (filled_len _ HF.out (by omega)) (show k * 2 < n * 2 by omega); have v51 := own_cell2 o5 (filled_len _ HF.out (by omega)) (show k * 2 + 1 < n * 2 by omega))
      have hst := (o5.stored (k * 2) (.int .i64 a.1)).1
      rw [ints_set, S1.out] at hst
      have hst2 := (hst.stored (k * 2 + 1) (.int .i64 a.2)).1
      rw [ints_set, S2.out] at hst2
      have HS := hid hst2
      have B5 := hid (((HB.out.trans (b5.mono HB.out.size)).setCell (p := ⟨w.heap.size, k * 2, none⟩) (Nat.le_refl _) (.int .i64 a.1)).setCell (p := ⟨w.heap.size, k * 2 + 1, none⟩) (Nat.le_refl _) (.int .i64 a.2))
      have hz5 := b5.size
      clear hst hst2 o5 f50 f51 v50 v51
      go_roundw
      case rel => exact ⟨k + 1, by omega, by go_num, by simp; omega, HS.out, B5.out⟩
      case measure => simp [intOf]; omega
    · obtain rfl : k = n := by omega
      rw [filled_all HF.out] at hown
      have HO := hid hown
      clear hown
      go_wp2
      go_ret
      exact ⟨_, rfl, HO.out, hb⟩

set_option maxRecDepth 100000 in
set_option maxHeartbeats 1600000 in
/-- laws.eqDeedS of two slices that read alike. -/
theorem eqDeedS_any (A A2 : Option Addr) (n c n2 c2 : Nat) (l : List (Int × Int)) (w : World) (hs : SlD w w.heap.size A n l) (hs2 : SlD w w.heap.size A2 n2 l) :
    Calls Try.prog 40 #[.slice A n c, .slice A2 n2 c2] w fun e w' => e = .returned (.bool true) ∧ Below w.heap.size w w' := by
  obtain rfl : n2 = n := by rw [← hs2.len, hs.len]
  have hm := hs.max
  have hnn : ((n2 : Int) != (n2 : Int)) = false := by simp
  go_enter Try.func40, Try.ntmps40
  go_wp2
  go_loopw [5] (fun i wr => ∃ k : Nat, k ≤ n2 ∧ i = .int .i64 k ∧ Hid (Below w.heap.size w wr)) (fun i _ => n2 - (intOf i).toNat)
  case atStart => exact ⟨0, Nat.zero_le _, rfl, hid (Below.refl _ _)⟩
  case round =>
    obtain ⟨k, hk, rfl, HB⟩ := hrel
    by_cases hlt : k < n2
    · obtain ⟨b, off, rfl, hbl, hc⟩ := (hs.below HB.out).2.2 (by omega)
      obtain ⟨b2, off2, rfl, hbl2, hc2⟩ := (hs2.below HB.out).2.2 (by omega)
      have x0 := hc (k * 2) (by omega)
      have x1 := hc (k * 2 + 1) (by omega)
      have y0 := hc2 (k * 2) (by omega)
      have y1 := hc2 (k * 2 + 1) (by omega)
      rw [nth_flat0] at x0 y0
      rw [nth_flat1, ← Nat.add_assoc] at x1 y1
      obtain ⟨a, ha⟩ : ∃ a, l.getD k (0, 0) = a := ⟨_, rfl⟩
      rw [ha] at x0 x1 y0 y1
      have CE := hid (fun W => eqDeed_any a a W)
      rw [show decide (a = a) = true from decide_eq_true rfl] at CE
      have hki : (k : Int) < (n2 : Int) := by omega
      have hk0 : (0 : Int) ≤ (k : Int) := by omega
      clear hc hc2 ha
      go_wp2_with fail
      go_region_with (go_at_call 66; with_reducible refine Calls.mono (CE.out _) ?_; rintro e w5 ⟨rfl, b5⟩)
      all_goals
        go_wp2
        have HB5 := hid (HB.out.drew.trans (b5.mono (show w.heap.size ≤ wr.heap.size from HB.out.size)))
        go_roundw
        case rel => exact ⟨k + 1, by omega, by go_num, HB5⟩
        case measure => simp [intOf]; omega
    · go_wp2
      go_ret
      exact ⟨rfl, HB.out⟩

set_option maxRecDepth 100000 in
set_option maxHeartbeats 1600000 in
/-- laws.markDeedS: writes k, k+1 .. into a row of deeds that the call owns. -/
theorem markDeedS_any (A : Option Addr) (n c base : Nat) (l : List (Int × Int)) (k0 : Int) (w : World) (ho : w.ownsRow base 45 2 (.slice A n c) n (ints (flat l))) (hk0 : 0 ≤ k0) (hk1 : k0 + n * 2 ≤ 9223372036854775807) (hb : base ≤ w.heap.size) :
    Calls Try.prog 41 #[.slice A n c, .int .i64 k0] w fun e w' => e = .returned (.int .i64 (k0 + n * 2)) ∧ w'.ownsRow base 45 2 (.slice A n c) n (ints (marks k0 (n * 2))) ∧ w.grownBy w' (Value.slice A n c).ownBlock := by
  have HL := hid (show (flat l).length = n * 2 from by have := ho.1; simpa using this)
  go_enter Try.func41, Try.ntmps41
  go_wp2
  go_loopw [1, 5] (fun x i wr => ∃ k : Nat, k ≤ n ∧ i = .int .i64 k ∧ x = .int .i64 (k0 + k * 2) ∧ wr.ownsRow base 45 2 (.slice A n c) n (ints (marked (flat l) k0 (k * 2))) ∧ w.grownBy wr (Value.slice A n c).ownBlock) (fun _ i _ => n - (intOf i).toNat)
  case atStart => exact ⟨0, Nat.zero_le _, rfl, by simp, by rw [marked_zero]; exact ho, World.grownBy.refl _ _⟩
  case round =>
    obtain ⟨k, hk, rfl, rfl, hown, hg⟩ := hrel
    by_cases hlt : k < n
    · have hown2 := hown
      rcases hown2.2 with ⟨h1, h2⟩ | ⟨g, cap, cur, hv, hbg, hgg, hnc, hcm, hsz, ht⟩
      · omega
      · injection hv with h1 h2 h3
        subst h1
        subst h3
        clear hown2 hgg ht hsz h2
        have hcell := own_cell2 hown (marked_len HL.out (by omega)) (show k * 2 < n * 2 by omega)
        have hcell2 := own_cell2 hown (marked_len HL.out (by omega)) (show k * 2 + 1 < n * 2 by omega)
        have hfz := hown.frozenAt (k * 2)
        have hfz2 := hown.frozenAt (k * 2 + 1)
        obtain ⟨hst1, hst2⟩ := hown.stored (k * 2) (.int .i64 (k0 + k * 2))
        have ms := marked_step (k := k0) HL.out (show k * 2 < n * 2 by omega)
        rw [show k0 + ((k * 2 : Nat) : Int) = k0 + k * 2 by push_cast; rfl] at ms
        rw [ints_set, ms] at hst1
        obtain ⟨hst3, hst4⟩ := hst1.stored (k * 2 + 1) (.int .i64 (k0 + k * 2 + 1))
        have ms2 := marked_step (k := k0) HL.out (show k * 2 + 1 < n * 2 by omega)
        rw [show k0 + ((k * 2 + 1 : Nat) : Int) = k0 + k * 2 + 1 by push_cast; omega, show k * 2 + 1 + 1 = (k + 1) * 2 by omega] at ms2
        rw [ints_set, ms2] at hst3
        have HS := hid hst3
        have HG := hid ((hg.trans hst2).trans hst4)
        have w1 : IntKind.i64.wrap (k0 + (k : Int) * 2 + 1) = k0 + k * 2 + 1 := IntWalk.i64_in _ (by omega)
        have w2 : IntKind.i64.wrap (k0 + (k : Int) * 2 + 1 + 1) = k0 + k * 2 + 1 + 1 := IntWalk.i64_in _ (by omega)
        clear hst1 hst2 hst3 hst4 hown ho ms ms2
        go_wp2
        go_roundw
        case rel => exact ⟨k + 1, by omega, by go_num, by congr 1; push_cast; omega, HS.out, HG.out⟩
        case measure => simp [intOf]; omega
    · obtain rfl : k = n := by omega
      rw [marked_all HL.out] at hown
      have HO := hid hown; clear hown ho
      have HG := hid hg; clear hg
      go_wp2
      go_ret
      exact ⟨rfl, HO.out, HG.out⟩

end Go.Proofs.Ytkejcajboneniaa

namespace Go.Proofs.Ytkejcajboneniaa
open Go.RowKit
set_option linter.unusedVariables false
set_option linter.unusedSimpArgs false

set_option maxHeartbeats 800000 in
theorem oddz_any (g P : Nat) (m : Int) (w : World) (hr : Rd w g P) (hP : P < 1000000) (hm : 0 ≤ m) (hm2 : m ≤ 1000000) :
    Calls Try.prog 64 #[.pointer (some ⟨g, 0, none⟩), .int .i64 m] w fun e w' => ∃ b : Bool, e = .returned (.bool b) ∧ Rd w' g (P + 1) ∧ w.grownBy w' (some g) := by
  by_cases h0 : m = 0
  · subst h0
    go_enter Try.func64, Try.ntmps64
    go_wp2
    go_ret
    exact ⟨false, rfl, hr.more (by omega), World.grownBy.refl _ _⟩
  · exact odd_any g P m w hr hP (by omega) hm2

set_option maxRecDepth 100000 in
set_option maxHeartbeats 6400000 in
theorem bitsz_any (g P : Nat) (m : Int) (w : World) (hr : Rd w g P) (hP : P < 100000) (hm : 0 ≤ m) (hm2 : m ≤ 1000000) :
    Calls Try.prog 50 #[.pointer (some ⟨g, 0, none⟩), .int .i64 m] w fun e w' => ∃ A n c l, e = .returned (.slice A n c) ∧ w'.ownsRow w.heap.size 3 1 (.slice A n c) n (ints l) ∧ n ≤ 17 ∧ Rd w' g (P + 40) ∧ w.grownBy w' (some g) := by
  obtain ⟨i0, hi, hz0, hz1, hz2⟩ := info_parts info_int
  have hglt := hr.lt
  have hr0 := hr.below ((Below.refl w.heap.size w).alloc (Nat.le_refl _) (.cells #[] 3)) hglt
  have ho0 : (w.alloc (.cells #[] 3)).ownsRow w.heap.size 3 1 (.slice (some ⟨w.heap.size, 0, none⟩) 0 0) 0 (ints []) := World.ownsRow_lit w #[] 0 (Nat.le_refl _) (by simp [maxLen]) rfl
  have hg0 : w.grownBy (w.alloc (.cells #[] 3)) (some g) := grown_alloc w _ (some g)
  go_enter Try.func50, Try.ntmps50
  go_wp2_with fail
  refine (pick_any g P 16 _ hr0 (by omega) (by omega) (by omega)).mono ?_
  rintro e w1 ⟨p, rfl, hp0, hp1, hr1, hg1⟩
  have ho1 := ho0.kept hg1 (.inr (by simp [Value.ownBlock]; omega))
  have hg01 : w.grownBy w1 (some g) := hg0.andThen hg1 (by simp)
  have hgl1 := hr1.lt
  have hz1' := hg01.size
  clear hg1 ho0 hr0 hg0
  have hr1' : Rd (w1.alloc (.cells #[.int .i64 (1 + p), .int .i64 8, .int .i64 4, .int .i64 16, .int .i64 7] 3)) g (P + 1) := hr1.grown (grown_alloc _ _ none) (by simp)
  have ho1' := own_kept_none ho1 (grown_alloc w1 (.cells #[.int .i64 (1 + p), .int .i64 8, .int .i64 4, .int .i64 16, .int .i64 7] 3) none)
  have hg01' : w.grownBy (w1.alloc (.cells #[.int .i64 (1 + p), .int .i64 8, .int .i64 4, .int .i64 16, .int .i64 7] 3)) (some g) := World.grownBy.andThen (row' := none) hg01 (grown_alloc _ _ _) (by simp)
  have HLW := hid (heap_alloc_new w1 (.cells #[.int .i64 (1 + p), .int .i64 8, .int .i64 4, .int .i64 16, .int .i64 7] 3))
  clear hr1 ho1 hg01
  go_wp2_with fail
  refine (pick_any g _ 9 _ hr1' (by omega) (by omega) (by omega)).mono ?_
  rintro e w2 ⟨q, rfl, hq0, hq1, hr2, hg2⟩
  have hbk := (hg2.block w1.heap.size (by simp) (by simp; omega)).trans HLW.out
  have hqc : ∃ (j K : Nat), q / 2 = (j : Int) ∧ j < 5 ∧ w2.cell? ⟨w1.heap.size, j, none⟩ = some (.int .i64 K) ∧ 1 ≤ K ∧ K ≤ 16 := by
    obtain ⟨p, rfl⟩ := Int.eq_ofNat_of_zero_le hp0
    rcases (show q / 2 = 0 ∨ q / 2 = 1 ∨ q / 2 = 2 ∨ q / 2 = 3 ∨ q / 2 = 4 by omega) with h | h | h | h | h
    · exact ⟨0, 1 + p, h, by omega, by rw [cell_of_row w2 _ 0 _ _ _ hbk]; simp, by omega, by omega⟩
    · exact ⟨1, 8, h, by omega, by rw [cell_of_row w2 _ 1 _ _ _ hbk]; simp, by omega, by omega⟩
    · exact ⟨2, 4, h, by omega, by rw [cell_of_row w2 _ 2 _ _ _ hbk]; simp, by omega, by omega⟩
    · exact ⟨3, 16, h, by omega, by rw [cell_of_row w2 _ 3 _ _ _ hbk]; simp, by omega, by omega⟩
    · exact ⟨4, 7, h, by omega, by rw [cell_of_row w2 _ 4 _ _ _ hbk]; simp, by omega, by omega⟩
  obtain ⟨j0, K, hj, hj5, hK, hK1, hK2⟩ := hqc
  have hjt : q.tdiv 2 = (j0 : Int) := by rw [Int.tdiv_eq_ediv_of_nonneg hq0, hj]
  have hj5i : (j0 : Int) < 5 := by omega
  have hj0i : (0 : Int) ≤ (j0 : Int) := by omega
  have ho2 := ho1'.kept hg2 (.inr (by simp [Value.ownBlock]; omega))
  have hg02 := hg01'.andThen hg2 (by simp)
  clear hg2 ho1' hg01' hr1' hbk HLW
  go_wp2
  go_loopw [5, 6] (fun v kk wr => ∃ (A : Option Addr) (i c : Nat) (l : List Int) (j : Nat), v = .slice A i c ∧ kk = .int .i64 j ∧ i + j ≤ 16 ∧ 1 ≤ i + j ∧ wr.ownsRow w.heap.size 3 1 (.slice A i c) i (ints l) ∧ Rd wr g (P + 2 + i) ∧ w.grownBy wr (some g)) (fun _ kk _ => (intOf kk).toNat)
  case atStart =>
    exact ⟨_, 0, 0, [], K, rfl, rfl, by omega, by omega, ho2, hr2.more (by omega), hg02⟩
  case round =>
    obtain ⟨A, i, c, l, j, rfl, rfl, hij, hij1, hown, hrr, hgg⟩ := hrel
    clear ho2 hr2 hg02 hK
    by_cases hj : 0 < j
    · have hv := own_blk hown
      have hvg := own_ne hown hglt
      go_wp2_with fail
      refine (pick_any g _ 2 _ hrr (by omega) (by omega) (by omega)).mono ?_
      rintro e w5 ⟨x, rfl, x0, x1, r5, g5⟩
      replace hown := hown.kept g5 hvg
      replace hgg := hgg.andThen g5 (by simp)
      clear g5 hrr
      go_wp2_with (at_builtin; refine wpList_append_own _ rfl _ _ 23 rfl w.heap.size 3 i0 (.int .i64 0) 1 8 Try.underlying23 hi hz0 hz1 hz2 rfl (by decide) (.slice A i c) _ _ rfl (hown.alloc _) ⟨w5.heap.size, 0, none⟩ 1 1 [.int .i64 x] rfl rfl (cell_one_new _ _ _) (by simp [Value.oneCell']) (by simp only [maxLen]; omega) (by omega) (by have := hgg.size; simp; omega) ?_; intro v2 w2 hown2 hgrow2 _)
      obtain ⟨A2, c2, rfl, hown3, hgg3⟩ := pushed hgg (Nat.le_refl _) hgg.size hv hown2 hgrow2
      have hr3 : Rd w2 g (P + 2 + i + 1) := (r5.grown (grown_alloc _ _ none) (by simp)).grown hgrow2 (by
        intro k hk
        rcases hv with h | ⟨k', h, hk'⟩
        · rw [h] at hk; cases hk
        · rw [h] at hk; cases hk; omega)
      clear hown2 hgrow2 hown hgg r5
      go_wp2
      go_roundw
      case rel => exact ⟨A2, i + 1, c2, l ++ [x], j - 1, rfl, by go_num, by omega, by omega, hown3, hr3.more (by omega), hgg3⟩
      case measure => simp [intOf]; omega
    · obtain rfl : j = 0 := by omega
      go_wp2_with fail
      refine (oddz_any g _ m _ hrr (by omega) hm hm2).mono ?_
      rintro e w3 ⟨b, rfl, hr3, hg3⟩
      have hv : (Value.slice A i c).ownBlock = none ∨ ∃ k, (Value.slice A i c).ownBlock = some k ∧ w.heap.size ≤ k := by
        rcases h : (Value.slice A i c).ownBlock with _ | k
        · exact .inl rfl
        · exact .inr ⟨k, rfl, (hown.lt k h).1⟩
      have hown3 := hown.kept hg3 (by rcases hv with h | ⟨k, h, hk⟩ <;> rw [h] <;> simp; omega)
      have hgg3 := hgg.andThen hg3 (by simp)
      clear hg3 hown hgg hrr
      cases b with
      | false =>
        go_wp2
        go_ret
        exact ⟨A, i, c, l, rfl, hown3, by omega, hr3.more (by omega), hgg3⟩
      | true =>
        go_wp2_with fail
        refine (pick_any g _ 3 _ hr3 (by omega) (by omega) (by omega)).mono ?_
        rintro e w4 ⟨y, rfl, hy0, hy1, hr4, hg4⟩
        have hown4 := hown3.kept hg4 (by rcases hv with h | ⟨k, h, hk⟩ <;> rw [h] <;> simp; omega)
        have hgg4 := hgg3.andThen hg4 (by simp)
        clear hg4 hown3 hgg3 hr3
        obtain ⟨i, rfl⟩ : ∃ i', i = i' + 1 := ⟨i - 1, by omega⟩
        obtain ⟨g2, c2, hv2, hb2, hb3⟩ := own_shape hown4
        injection hv2 with e1 e2 e3
        subst e1
        subst e3
        clear hv
        rcases (show y = 0 ∨ y = 1 ∨ y = 2 by omega) with rfl | rfl | rfl
        · go_wp2
          go_ret
          refine ⟨_, 0, 0, [], rfl, ?_, by omega, (hr4.below ((Below.refl w4.heap.size w4).alloc (Nat.le_refl _) _) hr4.lt).more (by omega), hgg4.andThen (grown_alloc w4 _ none) (by simp)⟩
          exact own_mono (World.ownsRow_lit w4 #[] 0 (Nat.le_refl _) (by simp [maxLen]) rfl) hgg4.size
        · have hcell := own_cell (j := 0) hown4 (by have := hown4.1; simpa using this) (by omega)
          have hfz := hown4.frozenAt 0
          have hst := (hown4.stored 0 (.int .i64 2)).1
          rw [ints_set] at hst
          have hgs := (hown4.stored 0 (.int .i64 2)).2
          have HS := hid hst
          have HG := hid hgs
          clear hst hgs hown4
          go_wp2
          go_ret
          exact ⟨_, _, _, _, rfl, HS.out, by omega, (hr4.grown HG.out (by intro k hk; cases hk; omega)).more (by omega), hgg4.andThen HG.out (by intro k hk; cases hk; left; omega)⟩
        · go_wp2_with (refine wpList_make_full _ rfl (.const (.int .i64 17)) (.const (.int .i64 17)) 23 rfl w.heap.size 3 i0 _ 1 Try.underlying23 hi hz0 hz1 .i64 .i64 17 17 17 rfl rfl rfl rfl (by rw [hz2]; omega) (by simp [maxLen]) hgg4.size ?_; intro w5 hown5 hg5)
          go_ret
          rw [madeInts] at hown5
          exact ⟨_, _, _, _, rfl, hown5, by omega, (hr4.grown hg5 (by simp)).more (by omega), hgg4.andThen hg5 (by simp)⟩



theorem grown_set (w : World) (p : Addr) (u : Value) (hp : p.spot = none) : w.grownBy (w.setCell p u) (some p.block) := by
  refine ⟨rfl, rfl, rfl, by simp, fun k hk hne => heap_setCell_other w p k u (fun h => hne (by rw [h]))⟩
theorem pairCells {W : World} {g : Nat} {u v : Value} {t : TypeId} (h : W.heap[g]? = some (.cells #[u, v] t (0, 0))) :
    W.cell? ⟨g, 0, none⟩ = some u ∧ W.cell? ⟨g, 1, none⟩ = some v ∧ W.frozen? ⟨g, 0, none⟩ = false ∧ W.frozen? ⟨g, 1, none⟩ = false :=
  ⟨by rw [cell_of_row W g 0 _ _ _ h]; rfl, by rw [cell_of_row W g 1 _ _ _ h]; rfl, frozen_of_row W g 0 _ _ h, frozen_of_row W g 1 _ _ h⟩
theorem pairSet1 {W : World} {g : Nat} {u v x : Value} {t : TypeId} (h : W.heap[g]? = some (.cells #[u, v] t (0, 0))) : (W.setCell ⟨g, 1, none⟩ x).heap[g]? = some (.cells #[u, x] t (0, 0)) := heap_setCell_same W g 1 _ t x h
theorem pairSet0 {W : World} {g : Nat} {u v x : Value} {t : TypeId} (h : W.heap[g]? = some (.cells #[u, v] t (0, 0))) : (W.setCell ⟨g, 0, none⟩ x).heap[g]? = some (.cells #[x, v] t (0, 0)) := heap_setCell_same W g 0 _ t x h

set_option maxRecDepth 100000 in
set_option maxHeartbeats 6400000 in
theorem deedDraw_any (g P : Nat) (A : Option Addr) (n c : Nat) (w : World) (hr : Rd w g P) (hP : P < 100000) (hn : n ≤ 17) :
    Calls Try.prog 57 #[.pointer (some ⟨g, 0, none⟩), .slice A n c] w fun e w' => ∃ a : Int × Int, e = .returned (deed a.1 a.2) ∧ (0 ≤ a.1 ∧ a.1 ≤ 13 ∧ -1 ≤ a.2 ∧ a.2 ≤ 100) ∧ Rd w' g (P + 5) ∧ w.grownBy w' (some g) := by
  have hglt := hr.lt
  have g0 := grown_alloc w (.cells #[.int .i64 0, .int .i64 0] 45) (some g)
  have r0 := hr.grown (grown_alloc w (.cells #[.int .i64 0, .int .i64 0] 45) none) (by simp)
  have hb0 := heap_alloc_new w (.cells #[.int .i64 0, .int .i64 0] 45)
  have hs0 : (w.alloc (.cells #[.int .i64 0, .int .i64 0] 45)).heap.size = w.heap.size + 1 := by simp
  go_enter Try.func57, Try.ntmps57
  go_wp2_with fail
  refine (pick_any g _ 7 _ r0 (by omega) (by omega) (by omega)).mono ?_
  rintro e w1 ⟨x, rfl, hx0, hx1, r1, g1⟩
  go_wp2_with fail
  refine (pick_any g _ 60 _ r1 (by omega) (by omega) (by omega)).mono ?_
  rintro e w2 ⟨y, rfl, hy0, hy1, r2, g2⟩
  obtain ⟨t, ht, ht0, ht1⟩ : ∃ t : Int, y.tdiv 59 = t ∧ 0 ≤ t ∧ t ≤ 1 := ⟨y / 59, by rw [Int.tdiv_eq_ediv_of_nonneg hy0], by omega, by omega⟩
  obtain ⟨K, hK, hK0, hK1⟩ : ∃ K : Int, x + t * 7 = K ∧ 0 ≤ K ∧ K ≤ 13 := ⟨_, rfl, by omega, by omega⟩
  have w1' : IntKind.i64.wrap t = t := IntWalk.i64_in _ (by omega)
  have w2' : IntKind.i64.wrap (t * 7) = t * 7 := IntWalk.i64_in _ (by omega)
  have w3' : IntKind.i64.wrap K = K := IntWalk.i64_in _ (by omega)
  have g12 := g1.andThen g2 (by simp)
  have hR2 := (g12.block w.heap.size (by omega) (by simp; omega)).trans hb0
  have G2 := g0.andThen g12 (by simp)
  have hsz12 := g12.size
  clear g1 g2 g12 g0 r0 hb0 r1
  obtain ⟨L, hL⟩ : ∃ L, w2.heap.size = L := ⟨_, rfl⟩
  obtain ⟨Wa, hWa⟩ : ∃ Wa, w2.alloc (.cells #[.int .i64 K, .int .i64 0] 45) = Wa := ⟨_, rfl⟩
  have ra : Rd Wa g (P + 2) := by rw [← hWa]; exact r2.grown (grown_alloc w2 _ none) (by simp)
  have ga : w2.grownBy Wa none := by rw [← hWa]; exact grown_alloc w2 _ none
  have hLa : Wa.heap[L]? = some (.cells #[.int .i64 K, .int .i64 0] 45 (0, 0)) := by rw [← hWa, ← hL]; exact heap_alloc_new w2 _
  have hsa : L < Wa.heap.size := by rw [← hWa, ← hL]; simp
  obtain ⟨aL0, aL1, eL0, eL1⟩ := pairCells hLa
  obtain ⟨W3, hW3⟩ : ∃ W3, Wa.setCell ⟨L, 1, none⟩ (.int .i64 0) = W3 := ⟨_, rfl⟩
  have gb : Wa.grownBy W3 (some L) := by rw [← hW3]; exact grown_set Wa ⟨L, 1, none⟩ _ rfl
  have r3 : Rd W3 g (P + 2) := ra.grown gb (by intro k hk; cases hk; omega)
  have g3 : w2.grownBy W3 none := ga.andThen gb (by intro k hk; cases hk; left; omega)
  have hL3 : W3.heap[L]? = some (.cells #[.int .i64 K, .int .i64 0] 45 (0, 0)) := by rw [← hW3]; exact pairSet1 hLa
  have hs3 : L < W3.heap.size := by have := gb.size; omega
  clear ra ga gb hLa hsa
  have hR3 := (g3.block w.heap.size (by omega) (by simp)).trans hR2
  have G3 := G2.andThen g3 (by simp)
  have hLw : w.heap.size < L := by omega
  have hgL : g < L := by omega
  have H3 := hid hR3
  obtain ⟨cL0, cL1, fL0, fL1⟩ := pairCells hL3
  clear hR2 G2 r2 g3 hR3 hsz12
  by_cases hk : K = 3 ∨ K = 4
  · obtain ⟨M, hM, hM0, hM1⟩ : ∃ M : Int, max (n : Int) 1 = M ∧ 1 ≤ M ∧ M ≤ 17 := ⟨_, rfl, by omega, by omega⟩
    have HL3 := hid hL3
    clear hL3
    have q34 : (K == 3) = true ∨ (K == 3) = false ∧ (K == 4) = true := by rcases hk with rfl | rfl <;> decide
    rcases q34 with q3 | ⟨q3, q4⟩
    · go_wp2_with fail
      refine (pick_any g _ M W3 r3 (by omega) hM0 (by omega)).mono ?_
      rintro e w4 ⟨z, rfl, hz0, hz1, r4, g4⟩
      have hL4 := (g4.block L hs3 (by simp; omega)).trans HL3.out
      have hR4 := (g4.block w.heap.size (by omega) (by simp; omega)).trans H3.out
      have G4 := G3.andThen g4 (by simp)
      have hs4 := g4.size
      clear cL0 cL1 fL0 fL1
      obtain ⟨cL0, cL1, fL0, fL1⟩ := pairCells hL4
      obtain ⟨W5, hW5⟩ : ∃ W5, w4.setCell ⟨L, 1, none⟩ (.int .i64 z) = W5 := ⟨_, rfl⟩
      have g5 : w4.grownBy W5 (some L) := by rw [← hW5]; exact grown_set w4 ⟨L, 1, none⟩ _ rfl
      have HL5 := hid (show W5.heap[L]? = some (.cells #[.int .i64 K, .int .i64 z] 45 (0, 0)) from by rw [← hW5]; exact pairSet1 hL4)
      have H5 := hid ((g5.block w.heap.size (by omega) (by simp; omega)).trans hR4)
      have G5 := G4.andThen g5 (by intro k hk; cases hk; left; omega)
      have r5 : Rd W5 g (P + 3) := r4.grown g5 (by intro k hk; cases hk; omega)
      have hs5 : L < W5.heap.size := by have := g5.size; omega
      clear hL4 hR4 g4 g5 r4 G4 r3 G3 H3 HL3 hM
      go_wp2_with fail
      refine (oddz_any g _ 40 _ r5 (by omega) (by omega) (by omega)).mono ?_
      rintro e w6 ⟨b, rfl, r6, g6⟩
      have hL6 := (g6.block L hs5 (by simp; omega)).trans HL5.out
      have hR6 := (g6.block w.heap.size (by omega) (by simp; omega)).trans H5.out
      have G6 := G5.andThen g6 (by simp)
      have hs6 := g6.size
      clear g6 r5 G5 H5 HL5 cL0 cL1 fL0 fL1
      cases b with
      | false =>
        obtain ⟨dL0, dL1, jL0, jL1⟩ := pairCells hL6
        obtain ⟨dR0, dR1, jR0, jR1⟩ := pairCells hR6
        obtain ⟨WA, hWA⟩ : ∃ WA, w6.setCell ⟨w.heap.size, 0, none⟩ (.int .i64 K) = WA := ⟨_, rfl⟩
        have hRA : WA.heap[w.heap.size]? = some (.cells #[.int .i64 K, .int .i64 0] 45 (0, 0)) := by rw [← hWA]; exact pairSet0 hR6
        have gA : w6.grownBy WA (some w.heap.size) := by rw [← hWA]; exact grown_set w6 ⟨w.heap.size, 0, none⟩ _ rfl
        obtain ⟨kR0, kR1, lR0, lR1⟩ := pairCells hRA
        have gB : WA.grownBy (WA.setCell ⟨w.heap.size, 1, none⟩ (.int .i64 z)) (some w.heap.size) := grown_set WA ⟨w.heap.size, 1, none⟩ (.int .i64 z) rfl
        have hRB : (WA.setCell ⟨w.heap.size, 1, none⟩ (.int .i64 z)).heap[w.heap.size]? = some (.cells #[.int .i64 K, .int .i64 z] 45 (0, 0)) := pairSet1 hRA
        have RB := hid ((r6.grown gA (by intro k hk; cases hk; omega)).grown gB (by intro k hk; cases hk; omega))
        have GB := hid ((G6.andThen gA (by intro k hk; cases hk; left; omega)).andThen gB (by intro k hk; cases hk; left; omega))
        have HRB := hid hRB
        clear gA gB hRA hRB
        go_wp2
        refine bodyPost_ret (results_bb rfl _ _ w.heap.size _ _ _ _ rfl HRB.out Try.underlying45 rfl (by kernel_rfl)) rfl ?_
        exact ⟨(K, z), rfl, by refine ⟨hK0, hK1, ?_, ?_⟩ <;> (show _ ≤ _; omega), RB.out.more (by omega), GB.out⟩
      | true =>
        obtain ⟨W7, hW7⟩ : ∃ W7, w6.alloc (.cells #[.int .i64 (-1), .int .i64 16, .int .i64 100] 3) = W7 := ⟨_, rfl⟩
        have g7 : w6.grownBy W7 none := by rw [← hW7]; exact grown_alloc w6 _ none
        have g7s : w6.grownBy W7 (some g) := by rw [← hW7]; exact grown_alloc w6 _ _
        have r7 : Rd W7 g (P + 4) := r6.grown g7 (by simp)
        have hB7 : W7.heap[w6.heap.size]? = some (.cells #[.int .i64 (-1), .int .i64 16, .int .i64 100] 3 (0, 0)) := by rw [← hW7]; exact heap_alloc_new w6 _
        have hs7 : w6.heap.size < W7.heap.size := by rw [← hW7]; simp
        go_wp2_with fail
        refine (pick_any g _ 3 _ r7 (by omega) (by omega) (by omega)).mono ?_
        rintro e w8 ⟨u, rfl, hu0, hu1, r8, g8⟩
        have g78 := g7s.andThen g8 (by simp)
        have hL8 := (g78.block L (by omega) (by simp; omega)).trans hL6
        have hR8 := (g78.block w.heap.size (by omega) (by simp; omega)).trans hR6
        have hB8 := (g8.block w6.heap.size hs7 (by simp; omega)).trans hB7
        have G8 := G6.andThen g78 (by simp)
        have hs8 := g8.size
        obtain ⟨v, hv, hv0, hv1, U, hU, hU3, hcU⟩ : ∃ v : Int, v = v ∧ -1 ≤ v ∧ v ≤ 100 ∧ ∃ U : Nat, u = U ∧ U < 3 ∧ w8.cell? ⟨w6.heap.size, U, none⟩ = some (.int .i64 v) := by
          rcases (show u = 0 ∨ u = 1 ∨ u = 2 by omega) with rfl | rfl | rfl
          · exact ⟨-1, rfl, by omega, by omega, 0, rfl, by omega, by rw [cell_of_row w8 _ 0 _ _ _ hB8]; rfl⟩
          · exact ⟨16, rfl, by omega, by omega, 1, rfl, by omega, by rw [cell_of_row w8 _ 1 _ _ _ hB8]; rfl⟩
          · exact ⟨100, rfl, by omega, by omega, 2, rfl, by omega, by rw [cell_of_row w8 _ 2 _ _ _ hB8]; rfl⟩
        subst hU
        have hUi : (U : Int) < 3 := by omega
        have hU0 : (0 : Int) ≤ (U : Int) := by omega
        clear hB8 hB7 g7 g7s g8 g78 G6 hL6 hR6 r7 r6 hv
        obtain ⟨mL0, mL1, nL0, nL1⟩ := pairCells hL8
        obtain ⟨W9, hW9⟩ : ∃ W9, w8.setCell ⟨L, 1, none⟩ (.int .i64 v) = W9 := ⟨_, rfl⟩
        have g9 : w8.grownBy W9 (some L) := by rw [← hW9]; exact grown_set w8 ⟨L, 1, none⟩ _ rfl
        have hL9 : W9.heap[L]? = some (.cells #[.int .i64 K, .int .i64 v] 45 (0, 0)) := by rw [← hW9]; exact pairSet1 hL8
        have hR9 := (g9.block w.heap.size (by omega) (by simp; omega)).trans hR8
        have G9 := G8.andThen g9 (by intro k hk; cases hk; left; omega)
        have r9 : Rd W9 g (P + 5) := r8.grown g9 (by intro k hk; cases hk; omega)
        clear g9 G8 hR8 r8 hL8
        obtain ⟨dL0, dL1, jL0, jL1⟩ := pairCells hL9
        obtain ⟨dR0, dR1, jR0, jR1⟩ := pairCells hR9
        obtain ⟨WA, hWA⟩ : ∃ WA, W9.setCell ⟨w.heap.size, 0, none⟩ (.int .i64 K) = WA := ⟨_, rfl⟩
        have hRA : WA.heap[w.heap.size]? = some (.cells #[.int .i64 K, .int .i64 0] 45 (0, 0)) := by rw [← hWA]; exact pairSet0 hR9
        have gA : W9.grownBy WA (some w.heap.size) := by rw [← hWA]; exact grown_set W9 ⟨w.heap.size, 0, none⟩ _ rfl
        obtain ⟨kR0, kR1, lR0, lR1⟩ := pairCells hRA
        have gB : WA.grownBy (WA.setCell ⟨w.heap.size, 1, none⟩ (.int .i64 v)) (some w.heap.size) := grown_set WA ⟨w.heap.size, 1, none⟩ (.int .i64 v) rfl
        have hRB : (WA.setCell ⟨w.heap.size, 1, none⟩ (.int .i64 v)).heap[w.heap.size]? = some (.cells #[.int .i64 K, .int .i64 v] 45 (0, 0)) := pairSet1 hRA
        have RB := hid ((r9.grown gA (by intro k hk; cases hk; omega)).grown gB (by intro k hk; cases hk; omega))
        have GB := hid ((G9.andThen gA (by intro k hk; cases hk; left; omega)).andThen gB (by intro k hk; cases hk; left; omega))
        have HRB := hid hRB
        clear gA gB hRA hRB
        go_wp2
        refine bodyPost_ret (results_bb rfl _ _ w.heap.size _ _ _ _ rfl HRB.out Try.underlying45 rfl (by kernel_rfl)) rfl ?_
        exact ⟨(K, v), rfl, by refine ⟨hK0, hK1, ?_, ?_⟩ <;> (show _ ≤ _; omega), RB.out.more (by omega), GB.out⟩
    · go_wp2_with fail
      refine (pick_any g _ M W3 r3 (by omega) hM0 (by omega)).mono ?_
      rintro e w4 ⟨z, rfl, hz0, hz1, r4, g4⟩
      have hL4 := (g4.block L hs3 (by simp; omega)).trans HL3.out
      have hR4 := (g4.block w.heap.size (by omega) (by simp; omega)).trans H3.out
      have G4 := G3.andThen g4 (by simp)
      have hs4 := g4.size
      clear cL0 cL1 fL0 fL1
      obtain ⟨cL0, cL1, fL0, fL1⟩ := pairCells hL4
      obtain ⟨W5, hW5⟩ : ∃ W5, w4.setCell ⟨L, 1, none⟩ (.int .i64 z) = W5 := ⟨_, rfl⟩
      have g5 : w4.grownBy W5 (some L) := by rw [← hW5]; exact grown_set w4 ⟨L, 1, none⟩ _ rfl
      have HL5 := hid (show W5.heap[L]? = some (.cells #[.int .i64 K, .int .i64 z] 45 (0, 0)) from by rw [← hW5]; exact pairSet1 hL4)
      have H5 := hid ((g5.block w.heap.size (by omega) (by simp; omega)).trans hR4)
      have G5 := G4.andThen g5 (by intro k hk; cases hk; left; omega)
      have r5 : Rd W5 g (P + 3) := r4.grown g5 (by intro k hk; cases hk; omega)
      have hs5 : L < W5.heap.size := by have := g5.size; omega
      clear hL4 hR4 g4 g5 r4 G4 r3 G3 H3 HL3 hM
      go_wp2_with fail
      refine (oddz_any g _ 40 _ r5 (by omega) (by omega) (by omega)).mono ?_
      rintro e w6 ⟨b, rfl, r6, g6⟩
      have hL6 := (g6.block L hs5 (by simp; omega)).trans HL5.out
      have hR6 := (g6.block w.heap.size (by omega) (by simp; omega)).trans H5.out
      have G6 := G5.andThen g6 (by simp)
      have hs6 := g6.size
      clear g6 r5 G5 H5 HL5 cL0 cL1 fL0 fL1
      cases b with
      | false =>
        obtain ⟨dL0, dL1, jL0, jL1⟩ := pairCells hL6
        obtain ⟨dR0, dR1, jR0, jR1⟩ := pairCells hR6
        obtain ⟨WA, hWA⟩ : ∃ WA, w6.setCell ⟨w.heap.size, 0, none⟩ (.int .i64 K) = WA := ⟨_, rfl⟩
        have hRA : WA.heap[w.heap.size]? = some (.cells #[.int .i64 K, .int .i64 0] 45 (0, 0)) := by rw [← hWA]; exact pairSet0 hR6
        have gA : w6.grownBy WA (some w.heap.size) := by rw [← hWA]; exact grown_set w6 ⟨w.heap.size, 0, none⟩ _ rfl
        obtain ⟨kR0, kR1, lR0, lR1⟩ := pairCells hRA
        have gB : WA.grownBy (WA.setCell ⟨w.heap.size, 1, none⟩ (.int .i64 z)) (some w.heap.size) := grown_set WA ⟨w.heap.size, 1, none⟩ (.int .i64 z) rfl
        have hRB : (WA.setCell ⟨w.heap.size, 1, none⟩ (.int .i64 z)).heap[w.heap.size]? = some (.cells #[.int .i64 K, .int .i64 z] 45 (0, 0)) := pairSet1 hRA
        have RB := hid ((r6.grown gA (by intro k hk; cases hk; omega)).grown gB (by intro k hk; cases hk; omega))
        have GB := hid ((G6.andThen gA (by intro k hk; cases hk; left; omega)).andThen gB (by intro k hk; cases hk; left; omega))
        have HRB := hid hRB
        clear gA gB hRA hRB
        go_wp2
        refine bodyPost_ret (results_bb rfl _ _ w.heap.size _ _ _ _ rfl HRB.out Try.underlying45 rfl (by kernel_rfl)) rfl ?_
        exact ⟨(K, z), rfl, by refine ⟨hK0, hK1, ?_, ?_⟩ <;> (show _ ≤ _; omega), RB.out.more (by omega), GB.out⟩
      | true =>
        obtain ⟨W7, hW7⟩ : ∃ W7, w6.alloc (.cells #[.int .i64 (-1), .int .i64 16, .int .i64 100] 3) = W7 := ⟨_, rfl⟩
        have g7 : w6.grownBy W7 none := by rw [← hW7]; exact grown_alloc w6 _ none
        have g7s : w6.grownBy W7 (some g) := by rw [← hW7]; exact grown_alloc w6 _ _
        have r7 : Rd W7 g (P + 4) := r6.grown g7 (by simp)
        have hB7 : W7.heap[w6.heap.size]? = some (.cells #[.int .i64 (-1), .int .i64 16, .int .i64 100] 3 (0, 0)) := by rw [← hW7]; exact heap_alloc_new w6 _
        have hs7 : w6.heap.size < W7.heap.size := by rw [← hW7]; simp
        go_wp2_with fail
        refine (pick_any g _ 3 _ r7 (by omega) (by omega) (by omega)).mono ?_
        rintro e w8 ⟨u, rfl, hu0, hu1, r8, g8⟩
        have g78 := g7s.andThen g8 (by simp)
        have hL8 := (g78.block L (by omega) (by simp; omega)).trans hL6
        have hR8 := (g78.block w.heap.size (by omega) (by simp; omega)).trans hR6
        have hB8 := (g8.block w6.heap.size hs7 (by simp; omega)).trans hB7
        have G8 := G6.andThen g78 (by simp)
        have hs8 := g8.size
        obtain ⟨v, hv, hv0, hv1, U, hU, hU3, hcU⟩ : ∃ v : Int, v = v ∧ -1 ≤ v ∧ v ≤ 100 ∧ ∃ U : Nat, u = U ∧ U < 3 ∧ w8.cell? ⟨w6.heap.size, U, none⟩ = some (.int .i64 v) := by
          rcases (show u = 0 ∨ u = 1 ∨ u = 2 by omega) with rfl | rfl | rfl
          · exact ⟨-1, rfl, by omega, by omega, 0, rfl, by omega, by rw [cell_of_row w8 _ 0 _ _ _ hB8]; rfl⟩
          · exact ⟨16, rfl, by omega, by omega, 1, rfl, by omega, by rw [cell_of_row w8 _ 1 _ _ _ hB8]; rfl⟩
          · exact ⟨100, rfl, by omega, by omega, 2, rfl, by omega, by rw [cell_of_row w8 _ 2 _ _ _ hB8]; rfl⟩
        subst hU
        have hUi : (U : Int) < 3 := by omega
        have hU0 : (0 : Int) ≤ (U : Int) := by omega
        clear hB8 hB7 g7 g7s g8 g78 G6 hL6 hR6 r7 r6 hv
        obtain ⟨mL0, mL1, nL0, nL1⟩ := pairCells hL8
        obtain ⟨W9, hW9⟩ : ∃ W9, w8.setCell ⟨L, 1, none⟩ (.int .i64 v) = W9 := ⟨_, rfl⟩
        have g9 : w8.grownBy W9 (some L) := by rw [← hW9]; exact grown_set w8 ⟨L, 1, none⟩ _ rfl
        have hL9 : W9.heap[L]? = some (.cells #[.int .i64 K, .int .i64 v] 45 (0, 0)) := by rw [← hW9]; exact pairSet1 hL8
        have hR9 := (g9.block w.heap.size (by omega) (by simp; omega)).trans hR8
        have G9 := G8.andThen g9 (by intro k hk; cases hk; left; omega)
        have r9 : Rd W9 g (P + 5) := r8.grown g9 (by intro k hk; cases hk; omega)
        clear g9 G8 hR8 r8 hL8
        obtain ⟨dL0, dL1, jL0, jL1⟩ := pairCells hL9
        obtain ⟨dR0, dR1, jR0, jR1⟩ := pairCells hR9
        obtain ⟨WA, hWA⟩ : ∃ WA, W9.setCell ⟨w.heap.size, 0, none⟩ (.int .i64 K) = WA := ⟨_, rfl⟩
        have hRA : WA.heap[w.heap.size]? = some (.cells #[.int .i64 K, .int .i64 0] 45 (0, 0)) := by rw [← hWA]; exact pairSet0 hR9
        have gA : W9.grownBy WA (some w.heap.size) := by rw [← hWA]; exact grown_set W9 ⟨w.heap.size, 0, none⟩ _ rfl
        obtain ⟨kR0, kR1, lR0, lR1⟩ := pairCells hRA
        have gB : WA.grownBy (WA.setCell ⟨w.heap.size, 1, none⟩ (.int .i64 v)) (some w.heap.size) := grown_set WA ⟨w.heap.size, 1, none⟩ (.int .i64 v) rfl
        have hRB : (WA.setCell ⟨w.heap.size, 1, none⟩ (.int .i64 v)).heap[w.heap.size]? = some (.cells #[.int .i64 K, .int .i64 v] 45 (0, 0)) := pairSet1 hRA
        have RB := hid ((r9.grown gA (by intro k hk; cases hk; omega)).grown gB (by intro k hk; cases hk; omega))
        have GB := hid ((G9.andThen gA (by intro k hk; cases hk; left; omega)).andThen gB (by intro k hk; cases hk; left; omega))
        have HRB := hid hRB
        clear gA gB hRA hRB
        go_wp2
        refine bodyPost_ret (results_bb rfl _ _ w.heap.size _ _ _ _ rfl HRB.out Try.underlying45 rfl (by kernel_rfl)) rfl ?_
        exact ⟨(K, v), rfl, by refine ⟨hK0, hK1, ?_, ?_⟩ <;> (show _ ≤ _; omega), RB.out.more (by omega), GB.out⟩
  · have q3 : (K == 3) = false := by simp; omega
    have q4 : (K == 4) = false := by simp; omega
    have HL3 := hid hL3
    clear hL3
    obtain ⟨z, hz, hz0, hz1⟩ : ∃ z : Int, (0 : Int) = z ∧ 0 ≤ z ∧ z ≤ 17 := ⟨0, rfl, by omega, by omega⟩
    rw [hz] at HL3 cL1
    have HL5 := HL3
    have H5 := H3
    have G5 := G3
    have r5 : Rd W3 g (P + 3) := r3.more (by omega)
    have hs5 : L < W3.heap.size := hs3
    clear r3 G3 H3 HL3 hz
    go_wp2_with fail
    refine (oddz_any g _ 40 _ r5 (by omega) (by omega) (by omega)).mono ?_
    rintro e w6 ⟨b, rfl, r6, g6⟩
    have hL6 := (g6.block L hs5 (by simp; omega)).trans HL5.out
    have hR6 := (g6.block w.heap.size (by omega) (by simp; omega)).trans H5.out
    have G6 := G5.andThen g6 (by simp)
    have hs6 := g6.size
    clear g6 r5 G5 H5 HL5 cL0 cL1 fL0 fL1
    cases b with
    | false =>
      obtain ⟨dL0, dL1, jL0, jL1⟩ := pairCells hL6
      obtain ⟨dR0, dR1, jR0, jR1⟩ := pairCells hR6
      obtain ⟨WA, hWA⟩ : ∃ WA, w6.setCell ⟨w.heap.size, 0, none⟩ (.int .i64 K) = WA := ⟨_, rfl⟩
      have hRA : WA.heap[w.heap.size]? = some (.cells #[.int .i64 K, .int .i64 0] 45 (0, 0)) := by rw [← hWA]; exact pairSet0 hR6
      have gA : w6.grownBy WA (some w.heap.size) := by rw [← hWA]; exact grown_set w6 ⟨w.heap.size, 0, none⟩ _ rfl
      obtain ⟨kR0, kR1, lR0, lR1⟩ := pairCells hRA
      have gB : WA.grownBy (WA.setCell ⟨w.heap.size, 1, none⟩ (.int .i64 z)) (some w.heap.size) := grown_set WA ⟨w.heap.size, 1, none⟩ (.int .i64 z) rfl
      have hRB : (WA.setCell ⟨w.heap.size, 1, none⟩ (.int .i64 z)).heap[w.heap.size]? = some (.cells #[.int .i64 K, .int .i64 z] 45 (0, 0)) := pairSet1 hRA
      have RB := hid ((r6.grown gA (by intro k hk; cases hk; omega)).grown gB (by intro k hk; cases hk; omega))
      have GB := hid ((G6.andThen gA (by intro k hk; cases hk; left; omega)).andThen gB (by intro k hk; cases hk; left; omega))
      have HRB := hid hRB
      clear gA gB hRA hRB
      go_wp2
      refine bodyPost_ret (results_bb rfl _ _ w.heap.size _ _ _ _ rfl HRB.out Try.underlying45 rfl (by kernel_rfl)) rfl ?_
      exact ⟨(K, z), rfl, by refine ⟨hK0, hK1, ?_, ?_⟩ <;> (show _ ≤ _; omega), RB.out.more (by omega), GB.out⟩
    | true =>
      obtain ⟨W7, hW7⟩ : ∃ W7, w6.alloc (.cells #[.int .i64 (-1), .int .i64 16, .int .i64 100] 3) = W7 := ⟨_, rfl⟩
      have g7 : w6.grownBy W7 none := by rw [← hW7]; exact grown_alloc w6 _ none
      have g7s : w6.grownBy W7 (some g) := by rw [← hW7]; exact grown_alloc w6 _ _
      have r7 : Rd W7 g (P + 4) := r6.grown g7 (by simp)
      have hB7 : W7.heap[w6.heap.size]? = some (.cells #[.int .i64 (-1), .int .i64 16, .int .i64 100] 3 (0, 0)) := by rw [← hW7]; exact heap_alloc_new w6 _
      have hs7 : w6.heap.size < W7.heap.size := by rw [← hW7]; simp
      go_wp2_with fail
      refine (pick_any g _ 3 _ r7 (by omega) (by omega) (by omega)).mono ?_
      rintro e w8 ⟨u, rfl, hu0, hu1, r8, g8⟩
      have g78 := g7s.andThen g8 (by simp)
      have hL8 := (g78.block L (by omega) (by simp; omega)).trans hL6
      have hR8 := (g78.block w.heap.size (by omega) (by simp; omega)).trans hR6
      have hB8 := (g8.block w6.heap.size hs7 (by simp; omega)).trans hB7
      have G8 := G6.andThen g78 (by simp)
      have hs8 := g8.size
      obtain ⟨v, hv, hv0, hv1, U, hU, hU3, hcU⟩ : ∃ v : Int, v = v ∧ -1 ≤ v ∧ v ≤ 100 ∧ ∃ U : Nat, u = U ∧ U < 3 ∧ w8.cell? ⟨w6.heap.size, U, none⟩ = some (.int .i64 v) := by
        rcases (show u = 0 ∨ u = 1 ∨ u = 2 by omega) with rfl | rfl | rfl
        · exact ⟨-1, rfl, by omega, by omega, 0, rfl, by omega, by rw [cell_of_row w8 _ 0 _ _ _ hB8]; rfl⟩
        · exact ⟨16, rfl, by omega, by omega, 1, rfl, by omega, by rw [cell_of_row w8 _ 1 _ _ _ hB8]; rfl⟩
        · exact ⟨100, rfl, by omega, by omega, 2, rfl, by omega, by rw [cell_of_row w8 _ 2 _ _ _ hB8]; rfl⟩
      subst hU
      have hUi : (U : Int) < 3 := by omega
      have hU0 : (0 : Int) ≤ (U : Int) := by omega
      clear hB8 hB7 g7 g7s g8 g78 G6 hL6 hR6 r7 r6 hv
      obtain ⟨mL0, mL1, nL0, nL1⟩ := pairCells hL8
      obtain ⟨W9, hW9⟩ : ∃ W9, w8.setCell ⟨L, 1, none⟩ (.int .i64 v) = W9 := ⟨_, rfl⟩
      have g9 : w8.grownBy W9 (some L) := by rw [← hW9]; exact grown_set w8 ⟨L, 1, none⟩ _ rfl
      have hL9 : W9.heap[L]? = some (.cells #[.int .i64 K, .int .i64 v] 45 (0, 0)) := by rw [← hW9]; exact pairSet1 hL8
      have hR9 := (g9.block w.heap.size (by omega) (by simp; omega)).trans hR8
      have G9 := G8.andThen g9 (by intro k hk; cases hk; left; omega)
      have r9 : Rd W9 g (P + 5) := r8.grown g9 (by intro k hk; cases hk; omega)
      clear g9 G8 hR8 r8 hL8
      obtain ⟨dL0, dL1, jL0, jL1⟩ := pairCells hL9
      obtain ⟨dR0, dR1, jR0, jR1⟩ := pairCells hR9
      obtain ⟨WA, hWA⟩ : ∃ WA, W9.setCell ⟨w.heap.size, 0, none⟩ (.int .i64 K) = WA := ⟨_, rfl⟩
      have hRA : WA.heap[w.heap.size]? = some (.cells #[.int .i64 K, .int .i64 0] 45 (0, 0)) := by rw [← hWA]; exact pairSet0 hR9
      have gA : W9.grownBy WA (some w.heap.size) := by rw [← hWA]; exact grown_set W9 ⟨w.heap.size, 0, none⟩ _ rfl
      obtain ⟨kR0, kR1, lR0, lR1⟩ := pairCells hRA
      have gB : WA.grownBy (WA.setCell ⟨w.heap.size, 1, none⟩ (.int .i64 v)) (some w.heap.size) := grown_set WA ⟨w.heap.size, 1, none⟩ (.int .i64 v) rfl
      have hRB : (WA.setCell ⟨w.heap.size, 1, none⟩ (.int .i64 v)).heap[w.heap.size]? = some (.cells #[.int .i64 K, .int .i64 v] 45 (0, 0)) := pairSet1 hRA
      have RB := hid ((r9.grown gA (by intro k hk; cases hk; omega)).grown gB (by intro k hk; cases hk; omega))
      have GB := hid ((G9.andThen gA (by intro k hk; cases hk; left; omega)).andThen gB (by intro k hk; cases hk; left; omega))
      have HRB := hid hRB
      clear gA gB hRA hRB
      go_wp2
      refine bodyPost_ret (results_bb rfl _ _ w.heap.size _ _ _ _ rfl HRB.out Try.underlying45 rfl (by kernel_rfl)) rfl ?_
      exact ⟨(K, v), rfl, by refine ⟨hK0, hK1, ?_, ?_⟩ <;> (show _ ≤ _; omega), RB.out.more (by omega), GB.out⟩

end Go.Proofs.Ytkejcajboneniaa
