/-
  What the program's functions of chapter 9 give: one contract each. No statement is proved here.
-/
import Derived.Test.YtegmkacapldnoaaC9v
import Derived.Test.YtegmkacapldnoaaC9x
namespace Go.Proofs.Ytegmkacapldnoaa
open Go.RowKit
set_option linter.unusedVariables false
set_option linter.unusedSimpArgs false

theorem own_caps9 {w : World} {B n c : Nat} {A : Option Addr} {e : TypeId} {xs : List Value} (h : w.ownsRow B e 1 (.slice A n c) n xs) : n ≤ c ∧ c ≤ maxLen := by
  rcases h.2 with ⟨h1, h2⟩ | ⟨g, cap, cur, hv, hb, hg, hnc, hcm, hs, ht⟩
  · injection h1 with h1 h3 h4
    subst h3; subst h4
    exact ⟨Nat.le_refl _, by simp [maxLen]⟩
  · injection hv with h1 h2 h3
    subst h3
    exact ⟨hnc, hcm⟩

theorem implRingOk_any (A : Option Addr) (n c : Nat) (l : List Int) (w : World) (hs : Sl w w.heap.size A n l) (hc : n ≤ c) (hcm : c ≤ maxLen) :
    Calls Try.prog 16 #[.slice A n c] w fun e w' => e = .returned (.bool (ringOk l)) ∧ Below w.heap.size w w' := by
  refine (ringI_any A n c l w _ hs hc hcm).mono ?_
  rintro e w' ⟨rfl, rfl⟩
  exact ⟨rfl, Below.refl _ _⟩
theorem implSentAt_any (A : Option Addr) (n c : Nat) (l : List Int) (s : Int) (w : World) (hs : Sl w w.heap.size A n l) (hc : n ≤ c) (hcm : c ≤ maxLen) :
    Calls Try.prog 20 #[.slice A n c, .int .i64 s] w fun e w' => ∃ A2 m c2, e = .returned (.slice A2 m c2) ∧ w'.ownsRow w.heap.size 3 1 (.slice A2 m c2) m (ints (sentOut l s)) ∧ m ≤ 12 ∧ Below w.heap.size w w' :=
  sentI_any A n c l s w hs hc hcm
theorem implChosenAt_any (A : Option Addr) (n c : Nat) (l : List Int) (w : World) (hs : Sl w w.heap.size A n l) (hc : n ≤ c) (hcm : c ≤ maxLen) :
    Calls Try.prog 25 #[.slice A n c] w fun e w' => e = .returned (chosenOut l) ∧ Below w.heap.size w w' :=
  chosenI_any A n c l w hs hc hcm
theorem implMessagesOf_any (A : Option Addr) (n c : Nat) (l : List Int) (w : World) (hs : Sl w w.heap.size A n l) (hc : n ≤ c) (hcm : c ≤ maxLen) :
    Calls Try.prog 28 #[.slice A n c] w fun e w' => e = .returned (.int .i64 (messOut l)) ∧ Below w.heap.size w w' :=
  messI_any A n c l w hs hc hcm
theorem implReachOf_any (A : Option Addr) (n c : Nat) (l : List Int) (w : World) (hs : Sl w w.heap.size A n l) (hc : n ≤ c) (hcm : c ≤ maxLen) :
    Calls Try.prog 30 #[.slice A n c] w fun e w' => ∃ A2 m c2, e = .returned (.slice A2 m c2) ∧ w'.ownsRow w.heap.size 3 1 (.slice A2 m c2) m (ints (reachOut l)) ∧ m ≤ 12 ∧ Below w.heap.size w w' :=
  reachI_any A n c l w hs hc hcm
theorem implWentRound_any (A : Option Addr) (n c : Nat) (l : List Int) (f : Int) (w : World) (hs : Sl w w.heap.size A n l) (hc : n ≤ c) (hcm : c ≤ maxLen) (hf : (Lit.int .i64 f).wf = true) :
    Calls Try.prog 34 #[.slice A n c, .int .i64 f] w fun e w' => ∃ A2 m c2, e = .returned (.slice A2 m c2) ∧ w'.ownsRow w.heap.size 3 1 (.slice A2 m c2) m (ints (wentOut l f)) ∧ m ≤ 12 ∧ Below w.heap.size w w' :=
  wentR_any A n c l f w hs hc hcm
end Go.Proofs.Ytegmkacapldnoaa
