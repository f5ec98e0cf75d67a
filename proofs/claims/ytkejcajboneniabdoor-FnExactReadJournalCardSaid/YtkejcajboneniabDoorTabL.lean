/-
  All tables that the program's lines may read: the program's own, math/bits', strconv's powers of ten, the words of deeds, strconv's two errors; that they go on. No statement is proved here.
-/
import Derived.Test.YtkejcajboneniabDoorTab
import Derived.Lib.AppendIntMem
import Derived.Lib.ItoaNum
import Derived.Stop.LaidErr
import Derived.Lib.SmallJoins
import Derived.Sort.EncStr
import Derived.ChangeArms
namespace Go.Proofs.YtkejcajboneniabDoor
open Go.RowKit
set_option linter.unusedVariables false
set_option linter.unusedSimpArgs false

/-- The words of deeds, by their kinds. -/
def wordsL : List (List UInt8) := [[115, 117, 109, 115], [99, 97, 114, 115], [118, 111, 116, 101, 115], [102, 108, 105, 112], [114, 111, 117, 110, 100], [102, 114, 101, 101], [98, 97, 99, 107]]
def wordB (j : Nat) : List UInt8 := wordsL.getD j []
theorem words_below {w w' : World} (h : ∀ j, j < 7 → w.cell? ⟨0, j, none⟩ = some (encStr (wordB j))) (hb : Below w.heap.size w w') : ∀ j, j < 7 → w'.cell? ⟨0, j, none⟩ = some (encStr (wordB j)) := fun j hj => by
  have hlt : 0 < w.heap.size := by
    rcases Nat.lt_or_ge 0 w.heap.size with h' | h'
    · exact h'
    · have := h 0 (by decide)
      simp [World.cell?, Array.getElem?_eq_none h'] at this
  exact (hb.cell (p := ⟨0, j, none⟩) hlt).trans (h j hj)
theorem errErrSyntax_name : Tryd.prog.globalNamed "strconv.ErrSyntax" = some 3 := by kernel_rfl
theorem errErrSyntax_below {w w' : World} (h : ∃ tp p, w.var? Tryd.prog "strconv.ErrSyntax" = some #[.iface tp p]) (hb : Below w.heap.size w w') : ∃ tp p, w'.var? Tryd.prog "strconv.ErrSyntax" = some #[.iface tp p] := by
  obtain ⟨tp, p, h1⟩ := h
  exact ⟨tp, p, Joins.var_stays errErrSyntax_name h1 hb (Nat.le_refl _)⟩
theorem errErrRange_name : Tryd.prog.globalNamed "strconv.ErrRange" = some 4 := by kernel_rfl
theorem errErrRange_below {w w' : World} (h : ∃ tp p, w.var? Tryd.prog "strconv.ErrRange" = some #[.iface tp p]) (hb : Below w.heap.size w w') : ∃ tp p, w'.var? Tryd.prog "strconv.ErrRange" = some #[.iface tp p] := by
  obtain ⟨tp, p, h1⟩ := h
  exact ⟨tp, p, Joins.var_stays errErrRange_name h1 hb (Nat.le_refl _)⟩
structure TabsP (w : World) : Prop where
  p : Lib.TabIs Tryd.prog w "internal/strconv.uint64pow10" .u64 Lib.pow10Tab
theorem TabsP.below {w w' : World} (h : TabsP w) (hb : Below w.heap.size w w') : TabsP w' where
  p := Lib.tabBelow_of_tabIs h.p w' hb
structure TabsD (w : World) : Prop where
  d : ∀ j, j < 7 → w.cell? ⟨0, j, none⟩ = some (encStr (wordB j))
theorem TabsD.below {w w' : World} (h : TabsD w) (hb : Below w.heap.size w w') : TabsD w' where
  d := words_below h.d hb
structure TabsL (w : World) : Prop where
  z : TabsZ w
  p : Lib.TabIs Tryd.prog w "internal/strconv.uint64pow10" .u64 Lib.pow10Tab
  d : ∀ j, j < 7 → w.cell? ⟨0, j, none⟩ = some (encStr (wordB j))
  s : ∃ tp p, w.var? Tryd.prog "strconv.ErrSyntax" = some #[.iface tp p]
  r : ∃ tp p, w.var? Tryd.prog "strconv.ErrRange" = some #[.iface tp p]
theorem TabsL.below {w w' : World} (h : TabsL w) (hb : Below w.heap.size w w') : TabsL w' where
  z := h.z.below hb
  p := Lib.tabBelow_of_tabIs h.p w' hb
  d := words_below h.d hb
  s := errErrSyntax_below h.s hb
  r := errErrRange_below h.r hb
theorem TabsL.P {w : World} (h : TabsL w) : TabsP w where
  p := h.p
theorem TabsL.D {w : World} (h : TabsL w) : TabsD w where
  d := h.d
def pTab : List Int := [1, 10, 100, 1000, 10000, 100000, 1000000, 10000000, 100000000, 1000000000, 10000000000, 100000000000, 1000000000000, 10000000000000, 100000000000000, 1000000000000000, 10000000000000000, 100000000000000000, 1000000000000000000, 10000000000000000000]
theorem pTab_eq : pTab = Lib.pow10Tab := by decide +kernel
theorem tabP_name : Tryd.prog.globalNamed "internal/strconv.uint64pow10" = some 2 := by kernel_rfl
theorem tabP {W : World} {rest : List (String × DataW Unit)} (h : laidMet Tryd.prog (("internal/strconv.uint64pow10", Lib.tabData .u64 pTab) :: rest) W) : Lib.TabIs Tryd.prog W "internal/strconv.uint64pow10" .u64 pTab :=
  Lib.tabIs_of_head tabP_name (show (Tryd.prog.globals[2]?).map (·.type) = some 100 by kernel_rfl) Tryd.underlying100 Tryd.underlying85 (by kernel_rfl) (by kernel_rfl) h
theorem tabP_of {W : World} (h : Lib.TabIs Tryd.prog W "internal/strconv.uint64pow10" .u64 pTab) : Lib.TabIs Tryd.prog W "internal/strconv.uint64pow10" .u64 Lib.pow10Tab := by rw [← pTab_eq]; exact h
/-- An array of strings that reads as it was laid holds these strings. -/
theorem strs_of_trod {H : Type} {enc : TypeId × Value → H} {P : Program} {w : World} {base : Nat} {sp : Nat → Bool} {held : Bool} {fuel : Nat} {t e : TypeId} {n : Nat} {cs : List Value} {zs : List (List UInt8)} {p : List MemPlace}
    (ht : P.underlying t = some (.array n e)) (he : P.underlying e = some .string) (hce : P.cellsOf e = 1) (hct : P.cellsOf t = n)
    (h : DataW.trod enc P w base sp held fuel t cs = some (.agg (zs.map fun z => .lit (.string z)), p)) : cs = zs.map encStr := by
  cases fuel with
  | zero => simp [DataW.trod] at h
  | succ fuel =>
    simp only [DataW.trod, ht, hce, hct, Nat.mul_one] at h
    split at h
    · rename_i hl
      obtain ⟨xs, hm, hx⟩ := Option.map_eq_some_iff.1 h
      have hxs : xs.map (·.1) = zs.map fun z => (DataW.lit (.string z) : DataW H) := by
        have := congrArg Prod.fst hx
        simpa using this
      have hxl : xs.length = n := by simpa using Lib.mapM_length hm
      have hzl : zs.length = n := by
        have := congrArg List.length hxs
        simp at this
        omega
      apply List.ext_getElem?
      intro i
      by_cases hi : i < n
      · obtain ⟨b, hb, hf⟩ := Lib.mapM_at hm i i (by simp [hi])
        obtain ⟨z, hc, rfl, _⟩ := DataW.trod_string he hf
        have h1 : cs[i]? = some (.string z) := by
          have := congrArg (·[0]?) hc
          simpa [List.getElem?_take, List.getElem?_drop] using this
        have h2 : (xs.map (·.1))[i]? = some (DataW.lit (.string z.data.toList) : DataW H) := by simp [hb]
        rw [hxs] at h2
        simp only [List.getElem?_map, Option.map_eq_some_iff, DataW.lit.injEq, Lit.string.injEq] at h2
        obtain ⟨z', hz', e'⟩ := h2
        rw [h1, List.getElem?_map, hz', e']
        rfl
      · rw [List.getElem?_eq_none (by omega), List.getElem?_eq_none (by simp; omega)]
    · cases h
theorem tabD_name : Tryd.prog.globalNamed "loop.example/rowmachines/impl.deedWords" = some 0 := by kernel_rfl
theorem tabD {W : World} {rest : List (String × DataW Unit)} (h : laidMet Tryd.prog (("loop.example/rowmachines/impl.deedWords", .agg (wordsL.map fun z => .lit (.string z))) :: rest) W) : ∀ j, j < 7 → W.cell? ⟨0, j, none⟩ = some (encStr (wordB j)) := by
  obtain ⟨ps, ⟨g', t', cs, fuel, p, q, hg', ht', hvar, hd, _, _⟩, _⟩ := h
  obtain rfl := Option.some.inj (tabD_name.symm.trans hg')
  obtain rfl := Option.some.inj ((show (Tryd.prog.globals[0]?).map (·.type) = some 66 by kernel_rfl).symm.trans ht')
  have hcs := strs_of_trod Tryd.underlying66 Tryd.underlying9 (by kernel_rfl) (by kernel_rfl) hd
  intro j hj
  rw [World.var?_cell tabD_name hvar j, ← Array.getElem?_toList, hcs, List.getElem?_map]
  unfold wordB
  rw [List.getD_eq_getElem?_getD, List.getElem?_eq_getElem (show j < wordsL.length from hj)]
  rfl
theorem starErr : "*" ++ "errors.errorString" = "*errors.errorString" := by decide
/-- The one row of that name. -/
theorem rowErr (u : TypeId) (h : Tryd.prog.typeName? 3 u = some "*errors.errorString") : u = 111 :=
  typeName_ptr_named (nm := "errors.errorString") (by rw [starErr]; kernel_rfl) (by kernel_rfl) (by decide) u (by rw [starErr]; exact h)
theorem tabS {W : World} {text : List UInt8} {rest : List (String × DataW Unit)} (h : laidMet Tryd.prog (("strconv.ErrSyntax", .iface "*errors.errorString" (.ptr (.agg [.lit (.string text)]))) :: rest) W) : ∃ tp p, W.var? Tryd.prog "strconv.ErrSyntax" = some #[.iface tp p] := by
  obtain ⟨a, s, h1, _⟩ := laid_sentinel h errErrSyntax_name (show (Tryd.prog.globals[3]?).map (·.type) = some 48 by kernel_rfl) Tryd.underlying48 rowErr Tryd.underlying111 Tryd.underlying113 rfl rfl Tryd.underlying9 (by kernel_rfl) (by kernel_rfl)
  exact ⟨_, _, h1⟩
theorem tabR {W : World} {text : List UInt8} {rest : List (String × DataW Unit)} (h : laidMet Tryd.prog (("strconv.ErrRange", .iface "*errors.errorString" (.ptr (.agg [.lit (.string text)]))) :: rest) W) : ∃ tp p, W.var? Tryd.prog "strconv.ErrRange" = some #[.iface tp p] := by
  obtain ⟨a, s, h1, _⟩ := laid_sentinel h errErrRange_name (show (Tryd.prog.globals[4]?).map (·.type) = some 48 by kernel_rfl) Tryd.underlying48 rowErr Tryd.underlying111 Tryd.underlying113 rfl rfl Tryd.underlying9 (by kernel_rfl) (by kernel_rfl)
  exact ⟨_, _, h1⟩
end Go.Proofs.YtkejcajboneniabDoor
