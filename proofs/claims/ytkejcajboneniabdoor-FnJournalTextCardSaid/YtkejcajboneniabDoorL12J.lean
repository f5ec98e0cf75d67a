/-
  The walk of laws.FnJournalText. No statement is proved here.
-/
import Derived.Test.YtkejcajboneniabDoorT12u
import Derived.Test.YtkejcajboneniabDoorT12i
import Derived.Test.YtkejcajboneniabDoorDj12
import Derived.Test.YtkejcajboneniabDoorC1a
namespace Go.Proofs.YtkejcajboneniabDoor
open Go.RowKit
set_option linter.unusedVariables false
set_option linter.unusedSimpArgs false

theorem journal_some {l : List (Int × Int)} (h : journalOut l ≠ []) : journalOut l = linesB l ∧ l.all hasText = true := by
  unfold journalOut at h ⊢
  split
  · rename_i h1; exact ⟨rfl, h1⟩
  · rename_i h1; rw [if_neg h1] at h; exact absurd rfl h
theorem journalOut_len (l : List (Int × Int)) : (journalOut l).length ≤ 201 * l.length := by
  unfold journalOut
  split
  · exact linesB_len l
  · simp

set_option maxRecDepth 100000 in
set_option maxHeartbeats 3200000 in
theorem fnJournalText_walk (A : Option Addr) (n c : Nat) (w : World) (hs : By w w.heap.size A n) (hc : n ≤ c) (hT : TabsL w) :
    Calls Tryd.prog 3 #[.slice A n c] w fun e w' => e = .returned (.bool true) ∧ Below w.heap.size w w' := by
  have hm : n ≤ 9223372036854775807 := hs.1
  by_cases hbig : 1048576 < n
  · go_enter Tryd.func3, Tryd.ntmps3
    go_wp2
    go_ret
    exact ⟨rfl, Below.refl _ _⟩
  go_enter Tryd.func3, Tryd.ntmps3
  go_wp2_with fail
  refine (drawJournalText_any A n c _ hs hc).mono ?_
  rintro e w1 ⟨A1, n1, c1, l, rfl, o1, hn1, b1⟩
  clear hs hc hbig hm
  have hl1 : l.length = n1 := (SlD.of_own o1).len
  have CI := hid (fun (W : World) (hW : Below w.heap.size w W) (h : SlD W W.heap.size A1 n1 l) => implJournalText_any A1 n1 c1 l W h (by omega) (hT.below hW).D)
  have CS := hid (fun (W : World) (h : SlD W W.heap.size A1 n1 l) => specJournalText_any A1 n1 c1 l W h (by omega))
  have hjl := journalOut_len l
  have HS := hid (journal_some (l := l))
  obtain ⟨s, hs⟩ : ∃ s, journalOut l = s := ⟨_, rfl⟩
  rw [hs] at CI CS hjl HS
  clear hs
  have hsz : (⟨s.toArray⟩ : ByteArray).size = s.length := by show s.toArray.size = _; simp
  have CR := hid (fun (W : World) (hW : Below w.heap.size w W) => implReadJournal_any s (by omega) W (hT.below hW))
  go_wp2_with fail
  with_reducible refine Calls.mono (CI.out _ b1 (SlD.of_own o1)) ?_
  rintro e w2 ⟨rfl, b2⟩
  have o2 := own_on2 o1 b2
  have B2 := b1.trans (b2.mono b1.size)
  go_wp2_with fail
  with_reducible refine Calls.mono (CS.out _ (SlD.of_own o2)) ?_
  rintro e w3 ⟨rfl, b3⟩
  have o3 := own_on2 o2 b3
  have B3 := hid (B2.trans (b3.mono B2.size))
  clear o1 o2 b1 b2 b3 B2 CI CS
  cases s with
  | nil =>
    go_wp2_with fail
    refine (alive_any _).mono ?_
    rintro e w5 ⟨rfl, b5⟩
    go_wp2
    go_ret
    exact ⟨rfl, B3.out.trans (b5.mono B3.out.size)⟩
  | cons s0 t =>
    obtain ⟨hs1, hs2⟩ := HS.out (by simp)
    have hr := read_lines hs2
    rw [← hs1] at hr
    rw [hr] at CR
    obtain ⟨S, hS⟩ : ∃ S : List UInt8, s0 :: t = S := ⟨_, rfl⟩
    have hne : S.isEmpty = false := by rw [← hS]; rfl
    rw [hS] at CR hsz ⊢
    clear hr hs1 hs2 HS hS
    have hll : ((S.length : Int) == (S.length : Int)) = true := by simp
    go_wp2_with fail
    with_reducible refine Calls.mono (CR.out _ B3.out) ?_
    rintro e w5 ⟨AX, nX, cX, rfl, oX, b5⟩
    have o5 := own_on2 o3 b5
    have B5 := hid (B3.out.trans (b5.mono B3.out.size))
    go_wp2_with fail
    refine (sameDeeds_any _ _ _ _ _ _ l _ (SlD.of_own oX) (SlD.of_own o5)).mono ?_
    rintro e w6 ⟨rfl, b6⟩
    go_wp2
    go_ret
    exact ⟨rfl, B5.out.trans (b6.mono B5.out.size)⟩
end Go.Proofs.YtkejcajboneniabDoor
