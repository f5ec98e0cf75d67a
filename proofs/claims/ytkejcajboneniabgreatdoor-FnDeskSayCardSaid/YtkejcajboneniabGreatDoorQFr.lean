/-
  What the frames of this seat's claims name of the texts' tables and views. No statement is proved here.
-/
import Derived.Test.YtkejcajboneniabGreatDoorQMa
import Derived.WalkKit
import Derived.WalkSpells
import Derived.Deep.Draws
import Derived.OpenShut
import Derived.Test.YtkejcajboneniabGreatDoorQMi
import Derived.Test.YtkejcajboneniabGreatDoorQMo
import Derived.Test.YtkejcajboneniabGreatDoorQMd
import Derived.Test.YtkejcajboneniabGreatDoorQMs
import Derived.Test.YtkejcajboneniabGreatDoorProg
import Derived.Lib.LaidTab
import Derived.Lib.TrailingZeros
import Derived.Stop.LaidErr
import Derived.Below
import Derived.Lib.AppendIntMem
import Derived.Lib.ItoaNum
import Derived.Lib.SmallJoins
import Derived.Sort.EncStr
import Derived.ChangeArms
set_option linter.unusedVariables false
set_option linter.unusedSimpArgs false
namespace Go.Proofs.YtkejcajboneniabGreatDoor
open Go.RowKit

section
variable {w w' : World} {B B' n : Nat} {A : Option Addr} {l : List Int}
end

/-- A slice of ints that came in, in the frame's words. -/
theorem Sl.of_row {w : World} {a : Option Addr} {n cap : Nat} {zs : List Int}
    (h : (a = none ∧ n = 0 ∧ cap = 0 ∧ zs = []) ∨
      ∃ x, a = some x ∧ n ≤ cap ∧ cap ≤ maxLen ∧ zs.length = cap ∧ (∀ i, i < zs.length → w.cell? (x.add i) = some (.int .i64 (zs.getD i 0))) ∧ ∀ n ∈ zs, (Lit.int .i64 n).wf = true) :
    Sl w w.heap.size a n (zs.take n) ∧ ∀ x ∈ zs.take n, -9223372036854775808 ≤ x ∧ x ≤ 9223372036854775807 := by
  rcases h with ⟨rfl, rfl, rfl, rfl⟩ | ⟨x, rfl, hl, hm, hz, hc, hw⟩
  · exact ⟨Sl.nil _ _, by simp⟩
  · refine ⟨⟨by simp; omega, Nat.le_trans hl hm, fun hn => ?_⟩, fun y hy => bounds_i64 (hw y (List.mem_of_mem_take hy))⟩
    obtain ⟨b, off, spot⟩ := x
    have hc0 := hc 0 (by omega)
    have hspot : spot = none := by simpa [Addr.add] using World.cell?_spot hc0
    subst hspot
    have hcj : ∀ j, j < n → w.cell? ⟨b, off + j, none⟩ = some (.int .i64 (nth (zs.take n) j)) := fun j hj => by
      have := hc j (by omega)
      have e : (⟨b, off, none⟩ : Addr).add j = ⟨b, off + j, none⟩ := by
        unfold Addr.add
        by_cases h0 : j = 0 <;> simp [h0]
      rw [e] at this
      rw [this]
      simp [nth, List.getD, hj]
    refine ⟨b, off, rfl, ?_, hcj⟩
    have h0 := hcj 0 hn
    rcases Nat.lt_or_ge b w.heap.size with hlt | hge
    · exact hlt
    · simp [World.cell?, Array.getElem?_eq_none hge] at h0

theorem By.of_row {w : World} {a : Option Addr} {n cap : Nat} {zs : List Int}
    (h : (a = none ∧ n = 0 ∧ cap = 0 ∧ zs = []) ∨
      ∃ x, a = some x ∧ n ≤ cap ∧ cap ≤ maxLen ∧ zs.length = cap ∧ (∀ i, i < zs.length → w.cell? (x.add i) = some (.int .u8 (zs.getD i 0))) ∧ ∀ n ∈ zs, (Lit.int .u8 n).wf = true) :
    By w w.heap.size a n := by
  rcases h with ⟨rfl, rfl, rfl, rfl⟩ | ⟨x, rfl, hl, hm, hz, hc, hw⟩
  · exact ⟨by simp [maxLen], fun h => absurd h (by omega)⟩
  · refine ⟨Nat.le_trans hl hm, fun hn => ?_⟩
    obtain ⟨b, off, spot⟩ := x
    have hc0 := hc 0 (by omega)
    have hspot : spot = none := by simpa [Addr.add] using World.cell?_spot hc0
    subst hspot
    have hcj : ∀ j, j < n → w.cell? ⟨b, off + j, none⟩ = some (.int .u8 (zs.getD j 0)) := fun j hj => by
      have := hc j (by omega)
      have e : (⟨b, off, none⟩ : Addr).add j = ⟨b, off + j, none⟩ := by
        unfold Addr.add
        by_cases h0 : j = 0 <;> simp [h0]
      rw [e] at this
      exact this
    refine ⟨b, off, rfl, ?_, fun j hj => ?_⟩
    · have h0 := hcj 0 hn
      rcases Nat.lt_or_ge b w.heap.size with hlt | hge
      · exact hlt
      · simp [World.cell?, Array.getElem?_eq_none hge] at h0
    · have hmem : zs.getD j 0 ∈ zs := by
        have hlt : j < zs.length := by omega
        simp [List.getD, hlt]
      have hbd := bounds_u8 (hw _ hmem)
      exact ⟨_, hbd.1, hbd.2, hcj j hj⟩

theorem row_cap {k : IntKind} {w : World} {a : Option Addr} {n cap : Nat} {zs : List Int}
    (h : (a = none ∧ n = 0 ∧ cap = 0 ∧ zs = []) ∨
      ∃ x, a = some x ∧ n ≤ cap ∧ cap ≤ maxLen ∧ zs.length = cap ∧ (∀ i, i < zs.length → w.cell? (x.add i) = some (.int k (zs.getD i 0))) ∧ ∀ n ∈ zs, (Lit.int k n).wf = true) : n ≤ cap := by
  rcases h with ⟨rfl, rfl, rfl, rfl⟩ | ⟨x, rfl, hl, _⟩
  · exact Nat.le_refl _
  · exact hl

end Go.Proofs.YtkejcajboneniabGreatDoor
namespace Go.Proofs.YtkejcajboneniabGreatDoor
open Go.RowKit

theorem SlS.of_rows {w : World} {base : Nat} {a : Addr} {len cap : Nat} {A : Nat → Option Addr} {L C : Nat → Nat} {Z : Nat → List Int} (hl : len ≤ cap) (hm : cap ≤ maxLen)
    (h : ∀ r, r < cap → w.cell? (a.add r) = some (.slice (A r) (L r) (C r)) ∧ L r ≤ C r ∧ C r ≤ maxLen ∧ (Z r).length = C r ∧ (∀ n ∈ Z r, (Lit.int .i64 n).wf = true) ∧ (A r = none → C r = 0) ∧
      ∀ a', A r = some a' → base ≤ a'.block ∧ ∀ c, c < C r → w.cell? (a'.add c) = some (.int .i64 ((Z r).getD c 0))) :
    SlS w w.heap.size (some a) len ((List.range len).map fun r => (Z r).take (L r)) := by
  refine ⟨(List.range len).map fun r => .slice (A r) (L r) (C r), ⟨by simp, Nat.le_trans hl hm, fun hn => ?_⟩, by simp, fun j v l hv hl2 => ?_⟩
  · obtain ⟨b, off, spot⟩ := a
    have hc0 := (h 0 (by omega)).1
    have hspot : spot = none := by simpa [Addr.add] using World.cell?_spot hc0
    subst hspot
    have e : ∀ j, (⟨b, off, none⟩ : Addr).add j = ⟨b, off + j, none⟩ := fun j => by
      unfold Addr.add
      by_cases h0 : j = 0 <;> simp [h0]
    refine ⟨b, off, rfl, ?_, fun j v hv => ?_⟩
    · rw [e] at hc0
      rcases Nat.lt_or_ge b w.heap.size with hlt | hge
      · exact hlt
      · simp [World.cell?, Array.getElem?_eq_none hge] at hc0
    · have hj : j < len := by have := (List.getElem?_eq_some_iff.1 hv).1; simpa using this
      have hj2 := (h j (by omega)).1
      rw [e] at hj2
      rw [hj2]
      simpa [hj] using hv
  · have hj : j < len := by have := (List.getElem?_eq_some_iff.1 hv).1; simpa using this
    obtain ⟨h1, h2, h3, h4, h5, h6, h7⟩ := h j (by omega)
    have ev : v = .slice (A j) (L j) (C j) := by simpa [hj] using hv.symm
    have el : l = (Z j).take (L j) := by simpa [hj] using hl2.symm
    subst ev; subst el
    refine ⟨A j, L j, C j, rfl, ?_, h2, by simpa [maxLen] using h3⟩
    refine (Sl.of_row (cap := C j) (zs := Z j) ?_).1
    rcases hA : A j with _ | a'
    · left
      have h0 := h6 hA
      exact ⟨rfl, by omega, h0, List.eq_nil_of_length_eq_zero (by omega)⟩
    · right
      exact ⟨a', rfl, h2, h3, h4, fun i hi => (h7 a' hA).2 i (by omega), h5⟩
end Go.Proofs.YtkejcajboneniabGreatDoor
namespace Go.Proofs.YtkejcajboneniabGreatDoor
open Go.RowKit

/-- A slice of strings that came in, in the frame's words. -/
theorem SlT.of_strings {w : World} {x : Addr} {n cap : Nat} {ss : List ByteArray} (hl : n ≤ cap) (hm : cap ≤ maxLen) (hs : ss.length = cap) (hc : ∀ i, i < ss.length → w.cell? (x.add i) = some (.string (ss.getD i ByteArray.empty))) (hz : ∀ s ∈ ss, s.size ≤ maxLen) :
    ∃ zs, SlT w w.heap.size (some x) n zs ∧ ∀ s ∈ zs, s.length ≤ maxLen := by
  refine ⟨(ss.take n).map (fun s => s.data.toList), ⟨by simp; omega, Nat.le_trans hl hm, fun hn => ?_⟩, ?_⟩
  · obtain ⟨b, off, spot⟩ := x
    have hc0 := hc 0 (by omega)
    have hspot : spot = none := by simpa [Addr.add] using World.cell?_spot hc0
    subst hspot
    have e : ∀ j, (⟨b, off, none⟩ : Addr).add j = ⟨b, off + j, none⟩ := fun j => by
      unfold Addr.add
      by_cases h0 : j = 0 <;> simp [h0]
    refine ⟨b, off, rfl, ?_, fun j hj => ?_⟩
    · rw [e] at hc0
      rcases Nat.lt_or_ge b w.heap.size with hlt | hge
      · exact hlt
      · simp [World.cell?, Array.getElem?_eq_none hge] at hc0
    · have h := hc j (by omega)
      rw [e] at h
      rw [h]
      have hj2 : j < ss.length := by omega
      simp [encStr, List.getD, hj, hj2]
  · intro s h
    obtain ⟨t, ht, rfl⟩ := List.mem_map.1 h
    have h := hz t (List.mem_of_mem_take ht)
    show t.data.toList.length ≤ maxLen
    rw [Array.length_toList]
    exact h
end Go.Proofs.YtkejcajboneniabGreatDoor
namespace Go.Proofs.YtkejcajboneniabGreatDoor
open Go.RowKit

theorem tab0 {W : World} {rest : List (String × DataW Unit)} (h : laidMet Tryz.prog (("loop.example/rowmachines/impl.slowForParts", Lib.tabData .i64 [0, 0, 3, 5, 7, 9]) :: rest) W) : Lib.TabIs Tryz.prog W "loop.example/rowmachines/impl.slowForParts" .i64 [0, 0, 3, 5, 7, 9] :=
  Lib.tabIs_of_head tab0_name (show (Tryz.prog.globals[5]?).map (·.type) = some 200 by kernel_rfl) Tryz.underlying200 Tryz.underlying3 (by kernel_rfl) (by kernel_rfl) h
theorem tabZ {W : World} {rest : List (String × DataW Unit)} (h : laidMet Tryz.prog (("math/bits.deBruijn64tab", Lib.tabData .u8 zTab) :: rest) W) : Lib.TabIs Tryz.prog W "math/bits.deBruijn64tab" .u8 zTab :=
  Lib.tabIs_of_head tabZ_name (show (Tryz.prog.globals[7]?).map (·.type) = some 203 by kernel_rfl) Tryz.underlying203 Tryz.underlying5 (by kernel_rfl) (by kernel_rfl) h
end Go.Proofs.YtkejcajboneniabGreatDoor
namespace Go.Proofs.YtkejcajboneniabGreatDoor
open Go.RowKit

def pTab : List Int := [1, 10, 100, 1000, 10000, 100000, 1000000, 10000000, 100000000, 1000000000, 10000000000, 100000000000, 1000000000000, 10000000000000, 100000000000000, 1000000000000000, 10000000000000000, 100000000000000000, 1000000000000000000, 10000000000000000000]
theorem pTab_eq : pTab = Lib.pow10Tab := by decide +kernel
theorem tabP_name : Tryz.prog.globalNamed "internal/strconv.uint64pow10" = some 2 := by kernel_rfl
theorem tabP {W : World} {rest : List (String × DataW Unit)} (h : laidMet Tryz.prog (("internal/strconv.uint64pow10", Lib.tabData .u64 pTab) :: rest) W) : Lib.TabIs Tryz.prog W "internal/strconv.uint64pow10" .u64 pTab :=
  Lib.tabIs_of_head tabP_name (show (Tryz.prog.globals[2]?).map (·.type) = some 174 by kernel_rfl) Tryz.underlying174 Tryz.underlying142 (by kernel_rfl) (by kernel_rfl) h
theorem tabP_of {W : World} (h : Lib.TabIs Tryz.prog W "internal/strconv.uint64pow10" .u64 pTab) : Lib.TabIs Tryz.prog W "internal/strconv.uint64pow10" .u64 Lib.pow10Tab := by rw [← pTab_eq]; exact h
/-- An array of strings that reads as it was laid holds these strings. -/
theorem strs_of_trod {H : Type} {enc : TypeId × Value → H} {P : Program} {w : World} {base : Nat} {sp : Nat → Bool} {held : Bool} {fuel : Nat} {t e : TypeId} {n : Nat} {cs : List Value} {zs : List (List UInt8)} {p : List MemPlace}
    (ht : P.underlying t = some (.array n e)) (he : P.underlying e = some .string) (hce : P.cellsOf e = 1) (hct : P.cellsOf t = n)
    (h : DataW.trod enc P w base sp held fuel t cs = some (.agg (zs.map fun z => .lit (.string z)), p)) : cs = zs.map encStr := by
  cases fuel with
  | zero => simp [DataW.trod] at h
  | succ fuel =>
    simp only [DataW.trod, ht, hce, hct, Nat.mul_one] at h
    split at h
    · rename_i hl
      obtain ⟨xs, hm, hx⟩ := Option.map_eq_some_iff.1 h
      have hxs : xs.map (·.1) = zs.map fun z => (DataW.lit (.string z) : DataW H) := by
        have := congrArg Prod.fst hx
        simpa using this
      have hxl : xs.length = n := by simpa using Lib.mapM_length hm
      have hzl : zs.length = n := by
        have := congrArg List.length hxs
        simp at this
        omega
      apply List.ext_getElem?
      intro i
      by_cases hi : i < n
      · obtain ⟨b, hb, hf⟩ := Lib.mapM_at hm i i (by simp [hi])
        obtain ⟨z, hc, rfl, _⟩ := DataW.trod_string he hf
        have h1 : cs[i]? = some (.string z) := by
          have := congrArg (·[0]?) hc
          simpa [List.getElem?_take, List.getElem?_drop] using this
        have h2 : (xs.map (·.1))[i]? = some (DataW.lit (.string z.data.toList) : DataW H) := by simp [hb]
        rw [hxs] at h2
        simp only [List.getElem?_map, Option.map_eq_some_iff, DataW.lit.injEq, Lit.string.injEq] at h2
        obtain ⟨z', hz', e'⟩ := h2
        rw [h1, List.getElem?_map, hz', e']
        rfl
      · rw [List.getElem?_eq_none (by omega), List.getElem?_eq_none (by simp; omega)]
    · cases h
theorem tabD_name : Tryz.prog.globalNamed "loop.example/rowmachines/impl.deedWords" = some 0 := by kernel_rfl
theorem tabD {W : World} {rest : List (String × DataW Unit)} (h : laidMet Tryz.prog (("loop.example/rowmachines/impl.deedWords", .agg (wordsL.map fun z => .lit (.string z))) :: rest) W) : ∀ j, j < 7 → W.cell? ⟨0, j, none⟩ = some (encStr (wordB j)) := by
  obtain ⟨ps, ⟨g', t', cs, fuel, p, q, hg', ht', hvar, hd, _, _⟩, _⟩ := h
  obtain rfl := Option.some.inj (tabD_name.symm.trans hg')
  obtain rfl := Option.some.inj ((show (Tryz.prog.globals[0]?).map (·.type) = some 77 by kernel_rfl).symm.trans ht')
  have hcs := strs_of_trod Tryz.underlying77 Tryz.underlying9 (by kernel_rfl) (by kernel_rfl) hd
  intro j hj
  rw [World.var?_cell tabD_name hvar j, ← Array.getElem?_toList, hcs, List.getElem?_map]
  unfold wordB
  rw [List.getD_eq_getElem?_getD, List.getElem?_eq_getElem (show j < wordsL.length from hj)]
  rfl
theorem starErr : "*" ++ "errors.errorString" = "*errors.errorString" := by decide
/-- The one row of that name. -/
theorem rowErr (u : TypeId) (h : Tryz.prog.typeName? 3 u = some "*errors.errorString") : u = 197 :=
  typeName_ptr_named (nm := "errors.errorString") (by rw [starErr]; kernel_rfl) (by kernel_rfl) (by decide) u (by rw [starErr]; exact h)
theorem tabS {W : World} {text : List UInt8} {rest : List (String × DataW Unit)} (h : laidMet Tryz.prog (("strconv.ErrSyntax", .iface "*errors.errorString" (.ptr (.agg [.lit (.string text)]))) :: rest) W) : ∃ tp p, W.var? Tryz.prog "strconv.ErrSyntax" = some #[.iface tp p] := by
  obtain ⟨a, s, h1, _⟩ := laid_sentinel h errErrSyntax_name (show (Tryz.prog.globals[3]?).map (·.type) = some 85 by kernel_rfl) Tryz.underlying85 rowErr Tryz.underlying197 Tryz.underlying199 rfl rfl Tryz.underlying9 (by kernel_rfl) (by kernel_rfl)
  exact ⟨_, _, h1⟩
theorem tabR {W : World} {text : List UInt8} {rest : List (String × DataW Unit)} (h : laidMet Tryz.prog (("strconv.ErrRange", .iface "*errors.errorString" (.ptr (.agg [.lit (.string text)]))) :: rest) W) : ∃ tp p, W.var? Tryz.prog "strconv.ErrRange" = some #[.iface tp p] := by
  obtain ⟨a, s, h1, _⟩ := laid_sentinel h errErrRange_name (show (Tryz.prog.globals[4]?).map (·.type) = some 85 by kernel_rfl) Tryz.underlying85 rowErr Tryz.underlying197 Tryz.underlying199 rfl rfl Tryz.underlying9 (by kernel_rfl) (by kernel_rfl)
  exact ⟨_, _, h1⟩
end Go.Proofs.YtkejcajboneniabGreatDoor
