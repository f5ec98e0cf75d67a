/-
  Texts put together: It Num Tab TabL Nuw Pl. No statement is proved here.
-/
import Derived.Test.YtkejcajboneniabGreatDoorShelf
import Derived.Test.YtkejcajboneniabGreatDoorQMd
import Derived.WalkSmall
import Derived.Lib.AtoiAllCases
import Derived.Lib.ItoaNum
import Derived.Test.YtkejcajboneniabGreatDoorProg
import Derived.Lib.LaidTab
import Derived.Lib.TrailingZeros
import Derived.Stop.LaidErr
import Derived.WalkKit
import Derived.Below
import Derived.Lib.AppendIntMem
import Derived.Lib.SmallJoins
import Derived.Sort.EncStr
import Derived.ChangeArms
import Derived.Lib.AtoiErrMem
import Derived.Lib.Join
import Derived.BigQuiet
import Derived.Deep.QuietTactic
import Derived.Test.YtkejcajboneniabGreatDoorQT12b
set_option linter.unusedVariables false
set_option linter.unusedSimpArgs false
namespace Go.Proofs.YtkejcajboneniabGreatDoor
open Go.RowKit

theorem dec_num (n : Nat) : Lib.decDigits n = numB n := by
  induction n using Nat.strongRecOn with
  | _ n ih =>
    by_cases h : n < 10
    · rw [Lib.decDigits, dif_pos h, numB_lt h]; rfl
    · rw [Lib.decDigits, dif_neg h, numB_ge h, ih _ (by omega)]; rfl
theorem below_grow (w : World) (k : Nat) (os : Array Obj) : Below w.heap.size w (Sort.grow (w.drewN k) os) :=
  ⟨rfl, rfl, rfl, by simp [Sort.grow, World.drewN], fun i hi => by simp [Sort.grow, World.drewN, Array.getElem?_append, hi]⟩
theorem itoa_any (n : Nat) (w : World) (hn : n ≤ 9223372036854775807) (hP : Lib.TabIs Tryz.prog w "internal/strconv.uint64pow10" .u64 Lib.pow10Tab) :
    Calls Tryz.prog 54 #[.int .i64 n] w fun e w' => e = .returned (encStr (numB n)) ∧ Below w.heap.size w w' := by
  refine (sh_strconv_Itoa (n : Int) (by omega) (by omega) w hP).mono ?_
  rintro e w' ⟨rfl, k, os, rfl⟩
  exact ⟨by rw [show Lib.itoa (n : Int) = numB n from by unfold Lib.itoa; rw [if_neg (by omega), Int.toNat_natCast, dec_num]], below_grow w k os⟩
theorem itoaS_any (n : Nat) (w : World) (hn : n < 100) :
    Calls Tryz.prog 54 #[.int .i64 n] w fun e w' => e = .returned (encStr (numB n)) ∧ w = w' := by
  refine (sh_strconv_Itoa_small n hn w).mono ?_
  rintro e w' ⟨rfl, rfl⟩
  exact ⟨by rw [dec_num], rfl⟩
end Go.Proofs.YtkejcajboneniabGreatDoor
namespace Go.Proofs.YtkejcajboneniabGreatDoor
open Go.RowKit

theorem parse_append : ∀ (a b : List UInt8) (acc : Nat), Lib.parseUint10 acc (a ++ b) = match Lib.parseUint10 acc a with | .ok u => Lib.parseUint10 u b | .syntax => .syntax | .range => .range
  | [], b, acc => rfl
  | c :: r, b, acc => by
    simp only [List.cons_append, Lib.parseUint10]
    split
    · split
      · rfl
      · split
        · rfl
        · exact parse_append r b _
    · rfl
theorem parse_num : ∀ n : Nat, n < 1000000000000 → Lib.parseUint10 0 (numB n) = .ok n := by
  intro n
  induction n using Nat.strongRecOn with
  | _ n ih =>
    intro hn
    have hd : ∀ d, d < 10 → (digB d).toNat = 48 + d := fun d h => digit_nat h
    by_cases h : n < 10
    · rw [numB_lt h]
      simp only [Lib.parseUint10]
      rw [if_pos (by rw [hd n h]; omega), if_neg (by omega), if_neg (by rw [hd n h]; omega)]
      congr 1
      rw [hd n h]; omega
    · rw [numB_ge h, parse_append, ih (n / 10) (by omega) (by omega)]
      simp only [Lib.parseUint10]
      have h1 := hd (n % 10) (by omega)
      rw [if_pos (by rw [h1]; omega), if_neg (by omega), if_neg (by rw [h1]; omega)]
      congr 1
      rw [h1]; omega
theorem num_head : ∀ n : Nat, ∃ c r, numB n = c :: r ∧ 48 ≤ c.toNat ∧ c.toNat ≤ 57 := by
  intro n
  induction n using Nat.strongRecOn with
  | _ n ih =>
    by_cases h : n < 10
    · exact ⟨_, [], numB_lt h, by rw [digit_nat h]; omega, by rw [digit_nat h]; omega⟩
    · obtain ⟨c, r, e, h1, h2⟩ := ih (n / 10) (by omega)
      exact ⟨c, r ++ [digB (n % 10)], by rw [numB_ge h, e]; rfl, h1, h2⟩
theorem atoi_num {n : Nat} (hn : n < 1000000000000) : Lib.atoiAll (numB n) = .ok (n : Int) := by
  obtain ⟨c, r, e, h1, h2⟩ := num_head n
  have hp : Lib.parseMag (numB n) = .ok n := by
    unfold Lib.parseMag
    rw [if_neg (by rw [e]; simp), parse_num n hn]
  rw [e] at hp ⊢
  unfold Lib.atoiAll
  simp only
  rw [if_neg (show ¬ (c.toNat = 43 ∨ c.toNat = 45) by omega), hp]
  simp only
  rw [if_neg (by omega), if_neg (by omega), if_neg (by omega)]
/-- What numberOf gives: the number in 0..most whose digits a text is, and whether there is one. -/
def numOut (s : List UInt8) (most : Nat) : Int × Bool :=
  match Lib.atoiAll s with
  | .ok v => if 0 ≤ v ∧ v ≤ (most : Int) ∧ numB v.toNat = s then (v, true) else (0, false)
  | _ => (0, false)
theorem numOut_yes {q most : Nat} (h : q ≤ most) (hm : most < 1000000000000) : numOut (numB q) most = ((q : Int), true) := by
  unfold numOut
  rw [atoi_num (by omega)]
  simp only
  rw [if_pos ⟨by omega, by omega, by rw [Int.toNat_natCast]⟩]
theorem numOut_iff {s : List UInt8} {most : Nat} {v : Int} (h : numOut s most = (v, true)) : ∃ q : Nat, v = q ∧ q ≤ most ∧ numB q = s := by
  unfold numOut at h
  split at h
  · rename_i u hu
    split at h
    · rename_i hc
      injection h with h1 h2
      subst h1
      exact ⟨u.toNat, by omega, by omega, hc.2.2⟩
    · injection h with h1 h2; cases h2
  · injection h with h1 h2; cases h2
theorem numOut_no {s : List UInt8} {most : Nat} (h : (numOut s most).2 = false) : numOut s most = (0, false) := by
  unfold numOut at h ⊢
  split
  · rename_i u hu
    rw [hu] at h
    simp only at h
    split at h
    · cases h
    · rename_i hc; rw [if_neg hc]
  · rfl
end Go.Proofs.YtkejcajboneniabGreatDoor
namespace Go.Proofs.YtkejcajboneniabGreatDoor
open Go.RowKit

/-- The cells of the tables that are read. -/
structure Tabs (w : World) : Prop where
  c2 : w.cell? ⟨5, 2, none⟩ = some (.int .i64 3)
  c3 : w.cell? ⟨5, 3, none⟩ = some (.int .i64 5)
  c4 : w.cell? ⟨5, 4, none⟩ = some (.int .i64 7)
  c5 : w.cell? ⟨5, 5, none⟩ = some (.int .i64 9)
theorem Tabs.on {w w' : World} (h : Tabs w) (hg : w.grownBy w' none) : Tabs w' :=
  ⟨hg.cell h.c2 (by simp), hg.cell h.c3 (by simp), hg.cell h.c4 (by simp), hg.cell h.c5 (by simp)⟩
theorem Tabs.lt {w : World} (h : Tabs w) : 5 < w.heap.size := by
  rcases Nat.lt_or_ge 5 w.heap.size with h' | h'
  · exact h'
  · have := h.c2
    simp [World.cell?, Array.getElem?_eq_none h'] at this
theorem Tabs.below {w w' : World} (h : Tabs w) (hb : Below w.heap.size w w') : Tabs w' :=
  ⟨(hb.cell h.lt).trans h.c2, (hb.cell h.lt).trans h.c3, (hb.cell h.lt).trans h.c4, (hb.cell h.lt).trans h.c5⟩
theorem tab0_name : Tryz.prog.globalNamed "loop.example/rowmachines/impl.slowForParts" = some 5 := by kernel_rfl
theorem Tabs.of {W : World} (h : Lib.TabIs Tryz.prog W "loop.example/rowmachines/impl.slowForParts" .i64 [0, 0, 3, 5, 7, 9]) : Tabs W :=
  ⟨h.cell tab0_name 2 (by decide), h.cell tab0_name 3 (by decide), h.cell tab0_name 4 (by decide), h.cell tab0_name 5 (by decide)⟩
/-- The library's table of the lowest bits. -/
structure TabsZ (w : World) : Prop where
  z : ∀ j, j < 64 → w.cell? ⟨7, j, none⟩ = some (.int .u8 (Lib.deBruijn64tab.getD j 0))
theorem TabsZ.on {w w' : World} (h : TabsZ w) (hg : w.grownBy w' none) : TabsZ w' := ⟨fun j hj => hg.cell (h.z j hj) (by simp)⟩
theorem TabsZ.lt {w : World} (h : TabsZ w) : 7 < w.heap.size := by
  rcases Nat.lt_or_ge 7 w.heap.size with h' | h'
  · exact h'
  · have := h.z 0 (by decide)
    simp [World.cell?, Array.getElem?_eq_none h'] at this
theorem TabsZ.below {w w' : World} (h : TabsZ w) (hb : Below w.heap.size w w') : TabsZ w' := ⟨fun j hj => (hb.cell h.lt).trans (h.z j hj)⟩
def zTab : List Int := [0, 1, 56, 2, 57, 49, 28, 3, 61, 58, 42, 50, 38, 29, 17, 4, 62, 47, 59, 36, 45, 43, 51, 22, 53, 39, 33, 30, 24, 18, 12, 5, 63, 55, 48, 27, 60, 41, 37, 16, 46, 35, 44, 21, 52, 32, 23, 11, 54, 26, 40, 15, 34, 20, 31, 10, 25, 14, 19, 9, 13, 8, 7, 6]
theorem zTab_at : ∀ j, j < 64 → zTab.getD j 0 = ((Lib.deBruijn64tab.getD j 0 : Nat) : Int) := by decide +kernel
theorem tabZ_name : Tryz.prog.globalNamed "math/bits.deBruijn64tab" = some 7 := by kernel_rfl
theorem TabsZ.of {W : World} (h : Lib.TabIs Tryz.prog W "math/bits.deBruijn64tab" .u8 zTab) : TabsZ W := ⟨fun j hj => by rw [← zTab_at j hj]; exact h.cell tabZ_name j hj⟩
/-- Both tables. -/
structure Tabs2 (w : World) : Prop where
  t : Tabs w
  z : TabsZ w
theorem Tabs2.on {w w' : World} (h : Tabs2 w) (hg : w.grownBy w' none) : Tabs2 w' := ⟨h.t.on hg, h.z.on hg⟩
theorem Tabs2.below {w w' : World} (h : Tabs2 w) (hb : Below w.heap.size w w') : Tabs2 w' := ⟨h.t.below hb, h.z.below hb⟩
theorem Tabs2.of {W : World} (h : TabsZ W) (k : Tabs W) : Tabs2 W := ⟨k, h⟩
end Go.Proofs.YtkejcajboneniabGreatDoor
namespace Go.Proofs.YtkejcajboneniabGreatDoor
open Go.RowKit

/-- The words of deeds, by their kinds. -/
def wordsL : List (List UInt8) := [[115, 117, 109, 115], [99, 97, 114, 115], [118, 111, 116, 101, 115], [102, 108, 105, 112], [114, 111, 117, 110, 100], [102, 114, 101, 101], [98, 97, 99, 107]]
def wordB (j : Nat) : List UInt8 := wordsL.getD j []
theorem words_below {w w' : World} (h : ∀ j, j < 7 → w.cell? ⟨0, j, none⟩ = some (encStr (wordB j))) (hb : Below w.heap.size w w') : ∀ j, j < 7 → w'.cell? ⟨0, j, none⟩ = some (encStr (wordB j)) := fun j hj => by
  have hlt : 0 < w.heap.size := by
    rcases Nat.lt_or_ge 0 w.heap.size with h' | h'
    · exact h'
    · have := h 0 (by decide)
      simp [World.cell?, Array.getElem?_eq_none h'] at this
  exact (hb.cell (p := ⟨0, j, none⟩) hlt).trans (h j hj)
theorem errErrSyntax_name : Tryz.prog.globalNamed "strconv.ErrSyntax" = some 3 := by kernel_rfl
theorem errErrSyntax_below {w w' : World} (h : ∃ tp p, w.var? Tryz.prog "strconv.ErrSyntax" = some #[.iface tp p]) (hb : Below w.heap.size w w') : ∃ tp p, w'.var? Tryz.prog "strconv.ErrSyntax" = some #[.iface tp p] := by
  obtain ⟨tp, p, h1⟩ := h
  exact ⟨tp, p, Joins.var_stays errErrSyntax_name h1 hb (Nat.le_refl _)⟩
theorem errErrRange_name : Tryz.prog.globalNamed "strconv.ErrRange" = some 4 := by kernel_rfl
theorem errErrRange_below {w w' : World} (h : ∃ tp p, w.var? Tryz.prog "strconv.ErrRange" = some #[.iface tp p]) (hb : Below w.heap.size w w') : ∃ tp p, w'.var? Tryz.prog "strconv.ErrRange" = some #[.iface tp p] := by
  obtain ⟨tp, p, h1⟩ := h
  exact ⟨tp, p, Joins.var_stays errErrRange_name h1 hb (Nat.le_refl _)⟩
structure TabsP (w : World) : Prop where
  p : Lib.TabIs Tryz.prog w "internal/strconv.uint64pow10" .u64 Lib.pow10Tab
theorem TabsP.below {w w' : World} (h : TabsP w) (hb : Below w.heap.size w w') : TabsP w' where
  p := Lib.tabBelow_of_tabIs h.p w' hb
structure TabsD (w : World) : Prop where
  d : ∀ j, j < 7 → w.cell? ⟨0, j, none⟩ = some (encStr (wordB j))
theorem TabsD.below {w w' : World} (h : TabsD w) (hb : Below w.heap.size w w') : TabsD w' where
  d := words_below h.d hb
structure TabsL (w : World) : Prop where
  t : Tabs w
  z : TabsZ w
  p : Lib.TabIs Tryz.prog w "internal/strconv.uint64pow10" .u64 Lib.pow10Tab
  d : ∀ j, j < 7 → w.cell? ⟨0, j, none⟩ = some (encStr (wordB j))
  s : ∃ tp p, w.var? Tryz.prog "strconv.ErrSyntax" = some #[.iface tp p]
  r : ∃ tp p, w.var? Tryz.prog "strconv.ErrRange" = some #[.iface tp p]
theorem TabsL.below {w w' : World} (h : TabsL w) (hb : Below w.heap.size w w') : TabsL w' where
  t := h.t.below hb
  z := h.z.below hb
  p := Lib.tabBelow_of_tabIs h.p w' hb
  d := words_below h.d hb
  s := errErrSyntax_below h.s hb
  r := errErrRange_below h.r hb
theorem TabsL.P {w : World} (h : TabsL w) : TabsP w where
  p := h.p
theorem TabsL.D {w : World} (h : TabsL w) : TabsD w where
  d := h.d
end Go.Proofs.YtkejcajboneniabGreatDoor
namespace Go.Proofs.YtkejcajboneniabGreatDoor
open Go.RowKit

theorem atoi_ok_any (s : List UInt8) (v : Int) (w : World) (hs : s.length ≤ 281474976710000) (h : Lib.atoiAll s = .ok v) :
    Calls Tryz.prog 115 #[encStr s] w fun e w' => e = .returned (.tuple #[.int .i64 v, .nilIface]) ∧ Below w.heap.size w w' := by
  refine (sh_strconv_Atoi_ok ⟨s.toArray⟩ (by show s.toArray.size ≤ _; simp; omega) v (by simpa using h) w).mono ?_
  rintro e w' ⟨rfl, rfl | ⟨t, rfl⟩⟩
  · exact ⟨rfl, Below.refl _ _⟩
  · exact ⟨rfl, Lib.bytesWorld_below _ _ _⟩
theorem atoi_no_any (s : List UInt8) (w : World) (hs : s.length ≤ 281474976710000) (hT : TabsL w) (h : ∀ v, Lib.atoiAll s ≠ .ok v) :
    Calls Tryz.prog 115 #[encStr s] w fun e w' => (∃ v t p, e = .returned (.tuple #[.int .i64 v, .iface t p])) ∧ Below w.heap.size w w' := by
  cases hk : Lib.atoiAll s with
  | ok v => exact absurd hk (h v)
  | «syntax» =>
    obtain ⟨tp, p, hv⟩ := hT.s
    refine (sh_strconv_Atoi_syntax_var ⟨s.toArray⟩ (by show s.toArray.size ≤ _; simp; omega) (by simpa using hk) tp p w hv).mono ?_
    rintro e w' ⟨N, rfl, _, _, hb⟩
    exact ⟨⟨_, _, _, rfl⟩, hb⟩
  | range =>
    obtain ⟨tp, p, hv⟩ := hT.r
    refine (sh_strconv_Atoi_range_var ⟨s.toArray⟩ (by show s.toArray.size ≤ _; simp; omega) (by simpa using hk) tp p w hv).mono ?_
    rintro e w' ⟨N, rfl, _, _, hb⟩
    exact ⟨⟨_, _, _, rfl⟩, hb⟩

set_option maxRecDepth 100000 in
set_option maxHeartbeats 1600000 in
theorem numberOf_any (s : List UInt8) (most : Nat) (w : World) (hs : s.length ≤ 281474976710000) (hm : most < 1000000000000) (hT : TabsL w) :
    Calls Tryz.prog 94 #[encStr s, .int .i64 most] w fun e w' => e = .returned (.tuple #[.int .i64 (numOut s most).1, .bool (numOut s most).2]) ∧ Below w.heap.size w w' := by
  by_cases hk : ∃ v, Lib.atoiAll s = .ok v
  · obtain ⟨v, hv⟩ := hk
    have CA := hid (atoi_ok_any s v w hs hv)
    by_cases hneg : v < 0
    · have HV := hid (show numOut s most = (0, false) from by unfold numOut; rw [hv]; simp only; rw [if_neg (by omega)])
      clear hv
      go_enter Tryz.func94, Tryz.ntmps94
      go_wp2_with fail
      with_reducible refine Calls.mono CA.out ?_
      rintro e w1 ⟨rfl, b1⟩
      go_wp2
      go_ret2
      exact ⟨by rw [HV.out]; rfl, b1⟩
    · obtain ⟨q, rfl⟩ : ∃ q : Nat, v = q := Int.eq_ofNat_of_zero_le (by omega)
      have hneg' : ¬ ((q : Int) < 0) := by omega
      by_cases hbig : (most : Int) < (q : Int)
      · have HV := hid (show numOut s most = (0, false) from by unfold numOut; rw [hv]; simp only; rw [if_neg (by omega)])
        clear hv
        go_enter Tryz.func94, Tryz.ntmps94
        go_wp2_with fail
        with_reducible refine Calls.mono CA.out ?_
        rintro e w1 ⟨rfl, b1⟩
        go_wp2
        go_ret2
        exact ⟨by rw [HV.out]; rfl, b1⟩
      · have CI := hid (fun (W : World) (hW : Below w.heap.size w W) => itoa_any q W (by omega) (hT.below hW).p)
        cases heq : (numB q == s) with
        | true =>
          have HV := hid (show numOut s most = ((q : Int), true) from by unfold numOut; rw [hv]; simp only; rw [if_pos ⟨by omega, by omega, by rw [Int.toNat_natCast]; simpa using heq⟩])
          clear hv
          have hq : numB q = s := by simpa using heq
          subst hq
          clear heq
          go_enter Tryz.func94, Tryz.ntmps94
          go_wp2_with fail
          with_reducible refine Calls.mono CA.out ?_
          rintro e w1 ⟨rfl, b1⟩
          go_wp2_with fail
          with_reducible refine Calls.mono (CI.out _ b1) ?_
          rintro e w2 ⟨rfl, b2⟩
          go_wp2
          go_ret2
          exact ⟨by rw [HV.out]; rfl, below_tr b1 b2⟩
        | false =>
          have HV := hid (show numOut s most = (0, false) from by unfold numOut; rw [hv]; simp only; rw [if_neg (by rintro ⟨_, _, h⟩; rw [Int.toNat_natCast] at h; simp [h] at heq)])
          clear hv
          have hne : numB q ≠ s := by simpa using heq
          have hne2 : ¬ ((⟨(numB q).toArray⟩ : ByteArray) = ⟨s.toArray⟩) := by
            intro h
            injection h with h
            exact hne (by simpa using h)
          go_enter Tryz.func94, Tryz.ntmps94
          go_wp2_with fail
          with_reducible refine Calls.mono CA.out ?_
          rintro e w1 ⟨rfl, b1⟩
          go_wp2_with fail
          with_reducible refine Calls.mono (CI.out _ b1) ?_
          rintro e w2 ⟨rfl, b2⟩
          go_wp2
          go_ret2
          exact ⟨by rw [HV.out]; rfl, below_tr b1 b2⟩
  · have CA := hid (atoi_no_any s w hs hT (fun v hv => hk ⟨v, hv⟩))
    have HV := hid (show numOut s most = (0, false) from by
      unfold numOut
      split
      · rename_i v hv; exact absurd ⟨v, hv⟩ hk
      · rfl)
    clear hk
    go_enter Tryz.func94, Tryz.ntmps94
    go_wp2_with fail
    with_reducible refine Calls.mono CA.out ?_
    rintro e w1 ⟨⟨v, t, p, rfl⟩, b1⟩
    go_wp2
    go_ret2
    exact ⟨by rw [HV.out]; rfl, b1⟩

/-- What strings.Cut gives at a separator of one byte. -/
def cutW (s : List UInt8) (c : UInt8) : List UInt8 × List UInt8 × Bool :=
  if 0 ≤ Lib.indexByte s c then (s.take (Lib.indexByte s c).toNat, s.drop ((Lib.indexByte s c).toNat + 1), true) else (s, [], false)
theorem index_lt : ∀ (s : List UInt8) (c : UInt8), Lib.indexByte s c < s.length
  | [], c => by simp [Lib.indexByte]
  | b :: l, c => by
    have := index_lt l c
    simp only [Lib.indexByte]
    split
    · simp
    · split
      · simp; omega
      · simp; omega
theorem index_any (s : List UInt8) (c : UInt8) (w : World) :
    Calls Tryz.prog 114 #[encStr s, encStr [c]] w fun e w' => e = .returned (.int .i64 (Lib.indexByte s c)) ∧ w = w' := by
  refine (sh_stringslite_Index_one ⟨s.toArray⟩ c w).mono ?_
  rintro e w' ⟨rfl, rfl⟩
  exact ⟨by simp, rfl⟩

set_option maxRecDepth 100000 in
set_option maxHeartbeats 1600000 in
theorem cutLite_any (s : List UInt8) (c : UInt8) (w : World) (hs : s.length ≤ 281474976710000) :
    Calls Tryz.prog 93 #[encStr s, encStr [c]] w fun e w' => e = .returned (.tuple #[encStr (cutW s c).1, encStr (cutW s c).2.1, .bool (cutW s c).2.2]) ∧ Below w.heap.size w w' := by
  have CI := hid (index_any s c w)
  have hlt := index_lt s c
  have hge := Lib.indexByte_ge s c
  have hsz : (⟨s.toArray⟩ : ByteArray).size = s.length := by show s.toArray.size = _; simp
  by_cases h0 : 0 ≤ Lib.indexByte s c
  · obtain ⟨i, hi⟩ : ∃ i : Nat, Lib.indexByte s c = i := Int.eq_ofNat_of_zero_le h0
    have HV := hid (show cutW s c = (s.take i, s.drop (i + 1), true) from by unfold cutW; rw [if_pos h0, hi]; rfl)
    rw [hi] at CI hlt
    have hil : i < s.length := by omega
    have q0 : (0 : Int) ≤ (i : Int) := by omega
    have q1 : (i : Int) ≤ (s.length : Int) := by omega
    have q2 : (i : Int) + 1 ≤ (s.length : Int) := by omega
    have q3 : (0 : Int) ≤ (i : Int) + 1 := by omega
    have wi : IntKind.i64.wrap ((i : Int) + 1) = (i : Int) + 1 := IntWalk.i64_in _ (by omega)
    clear hi h0 hge
    go_enter Tryz.func93, Tryz.ntmps93
    go_wp2_with fail
    with_reducible refine Calls.mono CI.out ?_
    rintro e w1 ⟨rfl, rfl⟩
    go_wp2
    go_quiet (fail)
    go_wp2
    go_ret3
    refine ⟨?_, below_drewN (Below.refl _ _) _⟩
    rw [HV.out]
    simp only [extract_sub]
    rw [show sub s 0 i = s.take i from rfl, show sub s (i + 1) s.length = s.drop (i + 1) from by simp [sub]]
    rfl
  · have HV := hid (show cutW s c = (s, [], false) from by unfold cutW; rw [if_neg h0])
    have hm1 : Lib.indexByte s c = -1 := by omega
    rw [hm1] at CI
    clear h0 hge hlt hm1
    go_enter Tryz.func93, Tryz.ntmps93
    go_wp2_with fail
    with_reducible refine Calls.mono CI.out ?_
    rintro e w1 ⟨rfl, rfl⟩
    go_wp2
    go_ret3
    exact ⟨by rw [HV.out]; rfl, Below.refl _ _⟩

set_option maxHeartbeats 800000 in
theorem strCut_any (s : List UInt8) (c : UInt8) (w : World) (hs : s.length ≤ 281474976710000) :
    Calls Tryz.prog 44 #[encStr s, encStr [c]] w fun e w' => e = .returned (.tuple #[encStr (cutW s c).1, encStr (cutW s c).2.1, .bool (cutW s c).2.2]) ∧ Below w.heap.size w w' := by
  have CI := hid (cutLite_any s c w hs)
  go_enter Tryz.func44, Tryz.ntmps44
  go_wp2_with fail
  with_reducible refine Calls.mono CI.out ?_
  rintro e w1 ⟨rfl, b1⟩
  go_wp2
  go_ret3
  exact ⟨rfl, b1⟩

/-- The digits of numbers that are not negative, each for itself; and with a text between each two. -/
def numT (l : List Int) : List (List UInt8) := l.map fun x => numB x.toNat
def joinB (l : List Int) (sep : List UInt8) : List UInt8 := Lib.join (numT l) sep
theorem join_len (sep : List UInt8) (K : Nat) : ∀ xs : List (List UInt8), (∀ x ∈ xs, x.length ≤ K) → (Lib.join xs sep).length ≤ xs.length * (K + sep.length)
  | [], _ => by simp [Lib.join]
  | [x], h => by
    have := h x (by simp)
    simp [Lib.join, List.intercalate]
    omega
  | x :: y :: r, h => by
    have h1 := h x (by simp)
    have h2 := join_len sep K (y :: r) (fun z hz => h z (by simp [hz]))
    have e : Lib.join (x :: y :: r) sep = x ++ (sep ++ Lib.join (y :: r) sep) := by
      simp [Lib.join, List.intercalate]
    rw [e, List.length_append, List.length_append]
    have e2 : (x :: y :: r).length * (K + sep.length) = (y :: r).length * (K + sep.length) + (K + sep.length) := by
      rw [List.length_cons, Nat.add_mul, Nat.one_mul]
    rw [e2]
    omega

set_option maxRecDepth 100000 in
set_option maxHeartbeats 1600000 in
theorem joined_any (A : Option Addr) (n c : Nat) (l : List Int) (sep : List UInt8) (w : World) (hs : Sl w w.heap.size A n l) (h0 : ∀ x ∈ l, 0 ≤ x ∧ x ≤ 1000000000) (hn : n ≤ 1000) (hp : sep.length ≤ 1) (hT : TabsP w) :
    Calls Tryz.prog 89 #[.slice A n c, encStr sep] w fun e w' => e = .returned (encStr (joinB l sep)) ∧ Below w.heap.size w w' := by
  obtain ⟨j0, hj, hjz0, hjz1, hjz2⟩ := info_parts info_str
  have HL := hid hs.len
  have HS := hid hs
  have H0 := hid h0
  have hTN : (numT l).length = n := by unfold numT; rw [List.length_map, HL.out]
  have HTN := hid hTN
  clear hs h0 hTN
  go_enter Tryz.func89, Tryz.ntmps89
  go_wp2_with (refine wpList_make_full _ rfl (.tmp 9) (.tmp 9) 53 rfl w.heap.size 9 j0 _ 1 Tryz.underlying53 hj hjz0 hjz1 .i64 .i64 n n n rfl rfl rfl rfl (by rw [hjz2]; omega) (by simp only [maxLen]; omega) (Nat.le_refl _) ?_; intro w1 o1 g1)
  have hb1 := hid (below_grown g1)
  clear g1
  go_loopw [13] (fun i wr => ∃ (k : Nat) (vs : List Value), i = .int .i64 k ∧ k ≤ n ∧ wr.ownsRow w.heap.size 9 1 (.slice (some ⟨w.heap.size, 0, none⟩) n n) n vs ∧ Hid (vs.take k = strs ((numT l).take k)) ∧ Hid (Below w.heap.size w wr)) (fun i _ => n - (intOf i).toNat)
  case atStart => exact ⟨0, _, rfl, Nat.zero_le _, o1, hid rfl, hb1⟩
  case round =>
    clear o1 hb1
    obtain ⟨k, vs, rfl, hk, o1, HV, BB⟩ := hrel
    have hvl : vs.length = n := by have := o1.1; omega
    have hwz := BB.out.size
    have hlw := own_hi o1 w.heap.size rfl
    by_cases hlt : k < n
    · obtain ⟨b, off, rfl, hb, hc⟩ := (HS.out.on BB.out).2.2 (by omega)
      have hck := hc k hlt
      have hx := H0.out (nth l k) (by
        have e : nth l k = l[k]'(by rw [HL.out]; exact hlt) := by simp [nth, List.getD, List.getElem?_eq_getElem (show k < l.length by rw [HL.out]; exact hlt)]
        rw [e]; exact List.getElem_mem _)
      have HTK := hid (show (numT l).take (k + 1) = (numT l).take k ++ [numB (nth l k).toNat] from by
        rw [List.take_succ_eq_append_getElem (by rw [HTN.out]; exact hlt)]
        simp [numT, nth, List.getD, List.getElem?_eq_getElem (show k < l.length by rw [HL.out]; exact hlt)])
      clear hc
      obtain ⟨x, hxe⟩ : ∃ x, nth l k = x := ⟨_, rfl⟩
      rw [hxe] at hck hx HTK
      obtain ⟨q, rfl⟩ : ∃ q : Nat, x = q := Int.eq_ofNat_of_zero_le (by omega)
      rw [Int.toNat_natCast] at HTK
      have hki : (k : Int) < (n : Int) := by omega
      have p7 : (0 : Int) ≤ (k : Int) := by omega
      have CI := hid (itoa_any q wr (by omega) (hT.below BB.out).p)
      obtain ⟨vk, hkv⟩ : ∃ x, vs[k]? = some x := ⟨_, List.getElem?_eq_getElem (by omega)⟩
      have HVL := hid hvl
      have HKV := hid hkv
      clear hxe hvl hkv hx
      go_wp2_with fail
      with_reducible refine Calls.mono CI.out ?_
      rintro e w5 ⟨rfl, b5⟩
      have O5 := own_on o1 b5
      have hcz := (O5.cellAt k (by omega)).trans HKV.out
      have hfz := O5.frozenAt k
      obtain ⟨p1, p2⟩ := O5.stored k (encStr (numB q))
      have QO := hid p1
      have QV := hid (show (vs.set k (encStr (numB q))).take (k + 1) = strs ((numT l).take (k + 1)) from by
        rw [HTK.out, List.take_succ_eq_append_getElem (by rw [List.length_set, HVL.out]; exact hlt), List.take_set_of_le (Nat.le_refl _), HV.out]
        simp [strs])
      have QB := hid ((BB.out.trans (b5.mono hwz)).grown p2 (Nat.le_trans hwz b5.size) (by intro j hj; simp [Value.ownBlock] at hj; omega))
      clear p1 p2 b5 O5 o1 HV BB
      go_wp2
      go_roundw
      case rel => exact ⟨k + 1, _, by go_num, by omega, QO.out, QV, QB⟩
      case measure => simp [intOf]; omega
    · obtain rfl : k = n := by omega
      have HVS := hid (show vs = strs (numT l) from by
        have h := HV.out
        rwa [List.take_of_length_le (by omega), List.take_of_length_le (by rw [HTN.out]; exact Nat.le_refl _)] at h)
      by_cases hk0 : k = 0
      · subst hk0
        have HJ := hid (show joinB l sep = [] from by
          unfold joinB
          rw [List.eq_nil_of_length_eq_zero HTN.out]
          rfl)
        go_wp2_with fail
        with_reducible refine Calls.mono (sh_strings_Join_none _ _ _ _) ?_
        rintro e w5 ⟨rfl, rfl⟩
        go_wp2
        go_ret
        exact ⟨by rw [HJ.out]; rfl, BB.out⟩
      · have CJ := hid (sh_strings_Join w.heap.size 0 k ((numT l).map fun x => ⟨x.toArray⟩) ⟨sep.toArray⟩ wr (by
            intro j x hx
            have hj : j < k := by have := (List.getElem?_eq_some_iff.1 hx).1; rw [List.length_map, HTN.out] at this; exact this
            rw [Nat.zero_add, o1.cellAt j (by omega), HVS.out]
            simp [strs, encStr] at hx ⊢
            obtain ⟨y, hy, rfl⟩ := hx
            exact ⟨y, hy, rfl⟩) hlw (by rw [List.length_map, HTN.out]; omega) (by rw [List.length_map, HTN.out]; exact Nat.le_refl _) (by
            have e : (List.map (fun x : ByteArray => x.data.toList) ((numT l).map fun x => (⟨x.toArray⟩ : ByteArray))) = numT l := by simp [List.map_map, Function.comp_def]
            rw [e]
            have h1 := join_len sep 1000000001 (numT l) (fun x hx => by
              obtain ⟨y, hy, rfl⟩ := List.mem_map.1 hx
              have h2 := numB_len y.toNat
              have h3 := H0.out y hy
              omega)
            rw [HTN.out] at h1
            show (Lib.join (numT l) sep).length ≤ _
            have h2 : k * (1000000001 + sep.length) ≤ 1000 * 1000000002 := Nat.mul_le_mul hn (by omega)
            omega))
        rw [List.length_map, HTN.out] at CJ
        have HE := hid (show (List.map (fun x : ByteArray => x.data.toList) ((numT l).map fun x => (⟨x.toArray⟩ : ByteArray))) = numT l from by simp [List.map_map, Function.comp_def])
        rw [HE.out] at CJ
        go_wp2_with fail
        with_reducible refine Calls.mono CJ.out ?_
        rintro e w5 ⟨rfl, b5⟩
        have B5 := hid (BB.out.trans (b5.mono hwz))
        clear b5
        go_wp2
        go_ret
        exact ⟨rfl, B5.out⟩
end Go.Proofs.YtkejcajboneniabGreatDoor
namespace Go.Proofs.YtkejcajboneniabGreatDoor
open Go.RowKit

/-- namesPlace: of flip and round. -/
def placed (k : Int) : Bool := decide (k = 3 ∨ k = 4)
set_option maxHeartbeats 800000 in
theorem namesPlace_any (k N : Int) (w : World) :
    Calls Tryz.prog 53 #[deed k N] w fun e w' => e = .returned (.bool (placed k)) ∧ Below w.heap.size w w' := by
  have hB := (Below.refl w.heap.size w).alloc (Nat.le_refl _) (.cells #[.int .i64 k, .int .i64 N] 39)
  by_cases h3 : k = 3
  · subst h3
    go_enter Tryz.func53, Tryz.ntmps53
    go_wp2
    go_ret
    exact ⟨ret_bool (by decide), hB⟩
  · by_cases h4 : k = 4
    · subst h4
      go_enter Tryz.func53, Tryz.ntmps53
      go_wp2
      go_ret
      exact ⟨ret_bool (by decide), hB⟩
    · have HF := hid (show placed k = false from by unfold placed; simp [h3, h4])
      have h3' : (k == 3) = false := by simpa using h3
      have h4' : (k == 4) = false := by simpa using h4
      go_enter Tryz.func53, Tryz.ntmps53
      go_wp2
      go_ret
      exact ⟨ret_bool HF.out.symm, hB⟩
end Go.Proofs.YtkejcajboneniabGreatDoor
