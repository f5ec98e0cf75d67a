/-
  The walk of laws.FnRowText. No statement is proved here.
-/
import Derived.Test.YtkejcajboneniaaDoorT12a
import Derived.Test.YtkejcajboneniaaDoorT12e
import Derived.Test.YtkejcajboneniaaDoorT12i
import Derived.Test.YtkejcajboneniaaDoorDr12
import Derived.Test.YtkejcajboneniaaDoorC1a
namespace Go.Proofs.YtkejcajboneniaaDoor
open Go.RowKit
set_option linter.unusedVariables false
set_option linter.unusedSimpArgs false

theorem rowB_bat {l : List Int} (h : ∀ x ∈ l, x = 0 ∨ x = 1) {k : Nat} (hk : k < l.length) : (bat (rowB l) k).toNat = if nth l k = 1 then 49 else 48 := by
  have h1 : bat (rowB l) k = digB (nth l k).toNat := by simp [bat, rowB, List.getD, hk, nth]
  rw [h1]
  rcases bit_nth h k with h2 | h2 <;> rw [h2] <;> rfl

set_option maxRecDepth 100000 in
set_option maxHeartbeats 3200000 in
theorem fnRowText_walk (A : Option Addr) (n c : Nat) (w : World) (hs : By w w.heap.size A n) (hc : n ≤ c) (hT : TabsP w) :
    Calls Tryd.prog 3 #[.slice A n c] w fun e w' => e = .returned (.bool true) ∧ Below w.heap.size w w' := by
  have hm : n ≤ 9223372036854775807 := hs.1
  by_cases hbig : 1048576 < n
  · go_enter Tryd.func3, Tryd.ntmps3
    go_wp2
    go_ret
    exact ⟨rfl, Below.refl _ _⟩
  go_enter Tryd.func3, Tryd.ntmps3
  go_wp2_with fail
  refine (drawRowText_any A n c _ hs hc).mono ?_
  rintro e w1 ⟨A1, n1, c1, l, rfl, o1, hn1, hb1⟩
  have HB := hid hb1
  clear hs hc hb1 hbig hm
  replace o1 := own_mono (base' := 0) o1 (Nat.zero_le _)
  have hl1 : l.length = n1 := by have := o1.1; simpa using this
  have HL := hid hl1
  have CI := hid (fun (W : World) (hW : Below w.heap.size w W) (hs : Sl W W.heap.size A1 n1 l) => implRowText_any A1 n1 c1 l W hs (hT.below hW))
  have CS := hid (fun (W : World) (hs : Sl W W.heap.size A1 n1 l) => specRowText_any A1 n1 c1 l W hs)
  have CK := hid (fun (W : World) (hs : Sl W W.heap.size A1 n1 l) => implBitsOk_any A1 n1 c1 l W hs)
  have CO := hid (fun (W : World) (hs : Sl W W.heap.size A1 n1 l) => implOnesOf_any A1 n1 c1 l W hs)
  clear hl1
  cases hk : bitsOk l with
  | false =>
    rw [show rowTextOut l = [] from by unfold rowTextOut; rw [hk]; rfl] at CI CS
    rw [hk] at CK
    clear hk CO
    go_wp2_with fail
    with_reducible refine Calls.mono (CI.out _ HB.out (Sl.of_own o1)) ?_
    rintro e w2 ⟨rfl, st2⟩
    replace o1 := own_on o1 st2
    replace HB := hid (HB.out.trans (st2.mono HB.out.size))
    clear st2
    go_wp2_with fail
    with_reducible refine Calls.mono (CS.out _ (Sl.of_own o1)) ?_
    rintro e w3 ⟨rfl, st3⟩
    replace o1 := own_on o1 st3
    replace HB := hid (HB.out.trans (st3.mono HB.out.size))
    clear st3
    go_wp2_with fail
    with_reducible refine Calls.mono (CK.out _ (Sl.of_own o1)) ?_
    rintro e w4 ⟨rfl, st4⟩
    replace HB := hid (HB.out.trans (st4.mono HB.out.size))
    clear st4
    go_wp2_with fail
    refine (alive_any _).mono ?_
    rintro e w5 ⟨rfl, st5⟩
    replace HB := hid (HB.out.trans (st5.mono HB.out.size))
    clear st5
    go_wp2
    go_ret
    exact ⟨rfl, HB.out⟩
  | true =>
    obtain ⟨hb, h1, h2⟩ := bitsOk_iff.1 hk
    rw [HL.out] at h1 h2
    have HX := hid (fun k (hk2 : k < n1) => rowB_bat hb (show k < l.length by rw [HL.out]; exact hk2))
    rw [show rowTextOut l = rowB l from by unfold rowTextOut; rw [if_pos hk]] at CI CS
    rw [show onesOut l = (ones l : Int) from by unfold onesOut; rw [if_pos hk]] at CO
    have hsl : (rowB l).length = n1 := by rw [rowB_len, HL.out]
    obtain ⟨s, hs⟩ : ∃ s, rowB l = s := ⟨_, rfl⟩
    rw [hs] at CI CS HX hsl
    have hne : s.isEmpty = false := by
      cases s with
      | nil => simp at hsl; omega
      | cons => rfl
    have hsz : (⟨s.toArray⟩ : ByteArray).size = n1 := by show s.toArray.size = _; simp [hsl]
    have hle := ones_le l
    rw [HL.out] at hle
    have HSL := hid hsl
    have HLE := hid hle
    clear hk hb hs CK hsl hle
    go_wp2_with fail
    with_reducible refine Calls.mono (CI.out _ HB.out (Sl.of_own o1)) ?_
    rintro e w2 ⟨rfl, st2⟩
    replace o1 := own_on o1 st2
    replace HB := hid (HB.out.trans (st2.mono HB.out.size))
    clear st2
    go_wp2_with fail
    with_reducible refine Calls.mono (CS.out _ (Sl.of_own o1)) ?_
    rintro e w3 ⟨rfl, st3⟩
    replace o1 := own_on o1 st3
    replace HB := hid (HB.out.trans (st3.mono HB.out.size))
    have O1 := hid o1
    clear st3 o1 CI CS
    go_wp2_with fail
    go_loop [5, 6] (fun v i => ∃ k : Nat, k ≤ n1 ∧ i = .int .i64 k ∧ v = .int .i64 (ones (l.take k))) (fun _ i => n1 - (intOf i).toNat)
    case atStart => exact ⟨0, Nat.zero_le _, rfl, rfl⟩
    case round =>
      obtain ⟨k, hk, rfl, rfl⟩ := hrel
      by_cases hlt : k < n1
      · have hlti : (k : Int) < (n1 : Int) := by omega
        have hk0 : (0 : Int) ≤ (k : Int) := by omega
        have hlt2 : k < s.length := by rw [HSL.out]; exact hlt
        have hxk : ∀ h : k < (⟨s.toArray⟩ : ByteArray).size, (⟨s.toArray⟩ : ByteArray)[k]'h = bat s k := fun _ => bat_lt hlt2
        have hbx := HX.out k hlt
        have HT := hid (ones_take (l := l) (k := k) (by rw [HL.out]; exact hlt))
        have hto := ones_le (l.take k)
        rw [List.length_take] at hto
        obtain ⟨u, hu⟩ : ∃ u : Nat, ones (l.take k) = u := ⟨_, rfl⟩
        rw [hu] at HT hto ⊢
        by_cases h1 : nth l k = 1
        · rw [if_pos h1] at hbx HT
          have hq : (((bat s k).toNat : Int) == 49) = true := by rw [hbx]; rfl
          go_wp2_with fail
          go_round
          case rel => exact ⟨k + 1, by omega, by go_num, by rw [HT.out]; go_num⟩
          case measure => simp [intOf]; omega
        · rw [if_neg h1] at hbx HT
          have hq : (((bat s k).toNat : Int) == 49) = false := by rw [hbx]; rfl
          go_wp2_with fail
          go_round
          case rel => exact ⟨k + 1, by omega, by go_num, by rw [HT.out]; rfl⟩
          case measure => simp [intOf]; omega
      · obtain rfl : k = n1 := by omega
        have HT := hid (show l.take k = l from List.take_of_length_le (by rw [HL.out]; omega))
        rw [HT.out]
        have hkk : ((k : Int) == (k : Int)) = true := by simp
        have hoo : (((ones l : Nat) : Int) == ((ones l : Nat) : Int)) = true := by simp
        go_wp2_with fail
        with_reducible refine Calls.mono (CO.out _ (Sl.of_own O1.out)) ?_
        rintro e w4 ⟨rfl, st4⟩
        go_wp2
        go_ret
        exact ⟨rfl, HB.out.trans (st4.mono HB.out.size)⟩
end Go.Proofs.YtkejcajboneniaaDoor
