/-
  Walks of the program's JournalText and ReadJournal. No statement is proved here.
-/
import Derived.Test.YtkejcajboneniabDoorT12j
import Derived.Test.YtkejcajboneniabDoorT12g
import Derived.Test.YtkejcajboneniabDoorT12d
import Derived.Test.YtkejcajboneniabDoorBld
namespace Go.Proofs.YtkejcajboneniabDoor
open Go.RowKit
set_option linter.unusedVariables false
set_option linter.unusedSimpArgs false

set_option maxRecDepth 100000 in
set_option maxHeartbeats 3200000 in
theorem implJournalText_any (A : Option Addr) (n c : Nat) (l : List (Int × Int)) (w : World) (hs : SlD w w.heap.size A n l) (hn : n ≤ 10000000) (hT : TabsD w) :
    Calls Tryd.prog 7 #[.slice A n c] w fun e w' => e = .returned (encStr (journalOut l)) ∧ Below w.heap.size w w' := by
  have HL := hid hs.len
  have F0 : IsB w.heap.size [] (w.alloc (.cells #[.pointer none, .slice none 0 0] 45)) := Lib.fresh_isBuilder 45 5 w
  have B0 := (Below.refl w.heap.size w).alloc (Nat.le_refl _) (.cells #[.pointer none, .slice none 0 0] 45)
  have HF0 := hid F0
  have HB0 := hid B0
  clear F0 B0
  go_enter Tryd.func7, Tryd.ntmps7
  go_wp2
  go_loopw [9] (fun i wr => ∃ k : Nat, k ≤ n ∧ i = .int .i64 k ∧ Hid ((l.take k).all hasText = true) ∧ Hid (IsB w.heap.size (linesB (l.take k)) wr) ∧ Hid (Below w.heap.size w wr)) (fun i _ => n - (intOf i).toNat)
  case atStart => exact ⟨0, Nat.zero_le _, rfl, hid rfl, HF0, HB0⟩
  case round =>
    clear HF0 HB0
    obtain ⟨k, hk, rfl, HA, HI, HB⟩ := hrel
    have hwz := HB.out.size
    have hbl := isB_lt HI.out
    by_cases hlt : k < n
    · obtain ⟨b, off, rfl, hbS, hc⟩ := (hs.below HB.out).2.2 (by omega)
      have hc0 := hc (k * 2) (by omega)
      have hc1 := hc (k * 2 + 1) (by omega)
      rw [nth_flat0] at hc0
      rw [nth_flat1, ← Nat.add_assoc] at hc1
      obtain ⟨a, ha⟩ : ∃ a, l.getD k (0, 0) = a := ⟨_, rfl⟩
      rw [ha] at hc0 hc1
      have HT := hid (show l.take (k + 1) = l.take k ++ [a] from by rw [List.take_succ_eq_append_getElem (by rw [HL.out]; exact hlt), ← ha]; simp [List.getD, show k < l.length from by rw [HL.out]; exact hlt])
      have hlti : (k : Int) < (n : Int) := by omega
      have hk0 : (0 : Int) ≤ (k : Int) := by omega
      clear hc
      have g3 := (Below.refl wr.heap.size wr).alloc (Nat.le_refl _) (.cells #[.int .i64 a.1, .int .i64 a.2] 42)
      have X3 := heap_alloc_new wr (.cells #[.int .i64 a.1, .int .i64 a.2] 42)
      obtain ⟨w3, e3⟩ : ∃ W, wr.alloc (.cells #[.int .i64 a.1, .int .i64 a.2] 42) = W := ⟨_, rfl⟩
      have hz3 : w3.heap.size = wr.heap.size + 1 := by rw [← e3]; simp
      rw [e3] at g3 X3
      have x0 : w3.cell? ⟨wr.heap.size, 0, none⟩ = some (.int .i64 a.1) := cell_of_row _ _ 0 _ _ _ X3
      have x1 : w3.cell? ⟨wr.heap.size, 1, none⟩ = some (.int .i64 a.2) := cell_of_row _ _ 1 _ _ _ X3
      have HB3 := hid (HB.out.trans (g3.mono hwz))
      have HI3 := hid (isB_on HI.out g3)
      have CD := hid (implDeedText_any a.1 a.2 w3 (hT.below HB3.out))
      have hdl := deedB_len a.1 a.2
      obtain ⟨s, hsd⟩ : ∃ s, deedB a.1 a.2 = s := ⟨_, rfl⟩
      rw [hsd] at CD hdl
      have hll := linesB_len (l.take k)
      rw [List.length_take, Nat.min_eq_left (by rw [HL.out]; exact hk)] at hll
      have HSD := hid hsd
      clear hsd g3 X3 HI HB
      cases s with
      | nil =>
        have HV := hid (show journalOut l = [] from by
          unfold journalOut
          rw [if_neg]
          intro h
          rw [List.all_eq_true] at h
          have := h a (by rw [← ha]; simp [List.getD, show k < l.length from by rw [HL.out]; exact hlt])
          simp [hasText, deedP, HSD.out] at this)
        clear ha
        go_wp2_with fail
        with_reducible refine Calls.mono CD.out ?_
        rintro e w5 ⟨rfl, b5⟩
        have HB5 := hid (HB3.out.trans (b5.mono (by omega)))
        clear b5
        go_wp2
        go_ret
        exact ⟨by rw [HV.out]; rfl, HB5.out⟩
      | cons s0 s =>
        have HA2 := hid (show (l.take (k + 1)).all hasText = true from by rw [HT.out, List.all_append, HA.out]; simp [hasText, deedP, HSD.out])
        have HL2 := hid (show linesB (l.take (k + 1)) = linesB (l.take k) ++ (s0 :: (s ++ [10])) from by rw [HT.out, linesB_append]; simp [linesB, deedP, HSD.out])
        have c2 := fun W => cat_any (s0 :: s) [10] (by simp at hdl ⊢; omega) W
        clear ha
        go_wp2_with fail
        with_reducible refine Calls.mono CD.out ?_
        rintro e w5 ⟨rfl, b5⟩
        have hz5 := b5.size
        have HB5 := hid (HB3.out.trans (b5.mono (by omega)))
        have CW := hid (writeString_any w.heap.size (linesB (l.take k)) (s0 :: (s ++ [10])) w5 (isB_on HI3.out b5) (by simp at hdl ⊢; omega))
        clear b5 x0 x1 HI3
        go_wp2_with fail
        with_reducible refine Calls.mono CW.out ?_
        rintro e w6 ⟨⟨v, rfl⟩, h6, b6⟩
        have HI6 := hid h6
        rw [← HL2.out] at HI6
        have HB6 := hid (HB5.out.trans b6)
        clear h6 b6
        go_wp2
        go_roundw
        case rel => exact ⟨k + 1, by omega, by go_num, HA2, HI6, HB6⟩
        case measure => simp [intOf]; omega
    · obtain rfl : k = n := by omega
      have HT := hid (show l.take k = l from List.take_of_length_le (by rw [HL.out]; omega))
      have HV := hid (show journalOut l = linesB (l.take k) from by unfold journalOut; have h := HA.out; rw [HT.out] at h; rw [if_pos h, HT.out])
      have CS := hid (sh_Builder_String_any w.heap.size w.heap.size (linesB (l.take k)) wr HI.out hwz)
      go_wp2_with fail
      with_reducible refine Calls.mono CS.out ?_
      rintro e w5 ⟨rfl, b5⟩
      have HB5 := hid (HB.out.trans b5)
      clear b5
      go_wp2
      go_ret
      exact ⟨by rw [HV.out]; rfl, HB5.out⟩

theorem readV_formK (o : Option (Int × Int)) : ∃ (a : Int × Int) (b : Bool), readV o = .tuple #[deed a.1 a.2, .bool b] := by
  cases o with
  | none => exact ⟨(0, 0), false, rfl⟩
  | some a => exact ⟨a, true, rfl⟩
theorem ib_yes : ∀ (l : List UInt8) (c : UInt8) (i : Nat), Lib.indexByte l c = (i : Int) → i < l.length ∧ bat l i = c ∧ ∀ j, j < i → bat l j ≠ c
  | [], c, i, h => by simp [Lib.indexByte] at h
  | b :: l, c, i, h => by
    simp only [Lib.indexByte] at h
    split at h
    · rename_i hb
      obtain rfl : i = 0 := by omega
      exact ⟨by simp, by simpa [bat] using hb, fun j hj => absurd hj (by omega)⟩
    · rename_i hb
      split at h
      · omega
      · have hge := Lib.indexByte_ge l c
        have hne1 : Lib.indexByte l c ≠ -1 := by rename_i h2; simpa using h2
        obtain ⟨i', rfl⟩ : ∃ i', i = i' + 1 := ⟨i - 1, by omega⟩
        obtain ⟨h1, h2, h3⟩ := ib_yes l c i' (by omega)
        refine ⟨by simp; omega, by simpa [bat] using h2, fun j hj => ?_⟩
        rcases j with _ | j
        · simpa [bat] using hb
        · have := h3 j (by omega)
          simpa [bat] using this
theorem ib_no : ∀ (l : List UInt8) (c : UInt8), Lib.indexByte l c < 0 → ∀ j, j < l.length → bat l j ≠ c
  | [], c, h, j, hj => by simp at hj
  | b :: l, c, h, j, hj => by
    simp only [Lib.indexByte] at h
    split at h
    · omega
    · rename_i hb
      split at h
      · rename_i h2
        rcases j with _ | j
        · simpa [bat] using hb
        · have h3 : Lib.indexByte l c < 0 := by have : Lib.indexByte l c = -1 := by simpa using h2
                                                omega
          have := ib_no l c h3 j (by simpa using hj)
          simpa [bat] using this
      · rename_i h2
        have hge := Lib.indexByte_ge l c
        have : Lib.indexByte l c ≠ -1 := by simpa using h2
        omega
theorem bat_drop (s : List UInt8) (r j : Nat) : bat (s.drop r) j = bat s (r + j) := by simp [bat, List.getD]
/-- Where no line ends, nothing is read. -/
theorem jgo_still {s : List UInt8} {r : Nat} {L : List (Int × Int)} (h : jgo s r = (L, r, false)) : ∀ d, (∀ j, j < d → bat s (r + j) ≠ 10) → jgo s (r + d) = (L, r, false)
  | 0, _ => h
  | d + 1, hd => by
    have ih := jgo_still h d (fun j hj => hd j (by omega))
    rw [← Nat.add_assoc, jgo, ih, if_neg (by simp), if_neg (hd d (by omega))]
theorem jgo_lineP {s : List UInt8} {r i : Nat} {L : List (Int × Int)} (h : jgo s r = (L, r, false)) (hi : Lib.indexByte (s.drop r) 10 = (i : Int)) :
    jgo s (r + i + 1) = match readOut ((s.drop r).take i) with | none => (L, r, true) | some a => (L ++ [a], r + i + 1, false) := by
  obtain ⟨h1, h2, h3⟩ := ib_yes _ _ _ hi
  have ih := jgo_still h i (fun j hj => by have := h3 j hj; rwa [bat_drop] at this)
  rw [bat_drop] at h2
  rw [jgo, ih, if_neg (by simp), if_pos h2]
  have e : sub s r (r + i) = (s.drop r).take i := by
    unfold sub
    rw [List.drop_take, show r + i - r = i by omega]
  rw [e]
  cases readOut ((s.drop r).take i) <;> rfl
theorem jOut_end {s : List UInt8} {r : Nat} {L : List (Int × Int)} (h : jgo s r = (L, r, false)) (hr : r ≤ s.length) (hi : Lib.indexByte (s.drop r) 10 < 0) : jOut s = (L, r) := by
  have ih := jgo_still h (s.length - r) (fun j hj => by
    have := ib_no _ _ hi j (by rw [List.length_drop]; omega)
    rwa [bat_drop] at this)
  rw [show r + (s.length - r) = s.length by omega] at ih
  unfold jOut
  rw [ih]
theorem jOut_stop {s : List UInt8} {r i : Nat} {L : List (Int × Int)} (h : jgo s r = (L, r, false)) (hr : r ≤ s.length) (hi : Lib.indexByte (s.drop r) 10 = (i : Int)) (hn : readOut ((s.drop r).take i) = none) : jOut s = (L, r) := by
  have h1 := jgo_lineP h hi
  rw [hn] at h1
  obtain ⟨h2, _, _⟩ := ib_yes _ _ _ hi
  rw [List.length_drop] at h2
  have h3 := jgo_stop (s := s) (k := r + i + 1) (by rw [h1]) (s.length - (r + i + 1))
  rw [show r + i + 1 + (s.length - (r + i + 1)) = s.length by omega] at h3
  unfold jOut
  rw [h3, h1]

set_option maxRecDepth 100000 in
set_option maxHeartbeats 3200000 in
theorem implReadJournal_any (s : List UInt8) (hn : s.length ≤ 10000000) (w : World) (hT : TabsL w) :
    Calls Tryd.prog 10 #[encStr s] w fun e w' => ∃ A m c, e = .returned (.tuple #[.slice A m c, .int .i64 (jOut s).2]) ∧ w'.ownsRow w.heap.size 42 2 (.slice A m c) m (ints (flat (jOut s).1)) ∧ Below w.heap.size w w' := by
  obtain ⟨i0, hi, hz0, hz1, hz2⟩ := info_parts info_deed
  have hsz : (⟨s.toArray⟩ : ByteArray).size = s.length := by show s.toArray.size = _; simp
  have ho0 : w.ownsRow w.heap.size 42 2 (.slice none 0 0) 0 (ints (flat [])) := World.ownsRow_nil _ _ _ _
  go_enter Tryd.func10, Tryd.ntmps10
  go_wp2
  go_loopw [4, 5] (fun v f wr => ∃ (A1 : Option Addr) (m c1 r : Nat) (L : List (Int × Int)), v = .slice A1 m c1 ∧ f = .int .i64 r ∧ r ≤ s.length ∧ m ≤ r ∧ Hid (jgo s r = (L, r, false)) ∧ Hid (wr.ownsRow w.heap.size 42 2 (.slice A1 m c1) m (ints (flat L))) ∧ Hid (Below w.heap.size w wr)) (fun _ f _ => s.length - (intOf f).toNat)
  case atStart => exact ⟨_, 0, _, 0, [], rfl, rfl, Nat.zero_le _, Nat.le_refl _, hid rfl, hid ho0, hid (Below.refl _ _)⟩
  case round =>
    clear ho0
    obtain ⟨A1, m, c1, r, L, rfl, rfl, hr, hm, HJ, HO, HB⟩ := hrel
    have hwz := HB.out.size
    have hri : (r : Int) ≤ (s.length : Int) := by omega
    have hr0 : (0 : Int) ≤ (r : Int) := by omega
    have hss : (s.length : Int) ≤ (s.length : Int) := by omega
    obtain ⟨t, ht⟩ : ∃ t, sub s r s.length = t := ⟨_, rfl⟩
    have hsub := sub_str s r s.length
    rw [ht] at hsub
    have hts : t = s.drop r := by rw [← ht]; simp [sub]
    have htl : t.length ≤ 10000000 := by rw [hts, List.length_drop]; omega
    have HTS := hid hts
    have CC := hid (strCut_any t 10 wr (by omega))
    clear ht hts
    by_cases h0 : Lib.indexByte t 10 < 0
    · have hc : cutW t 10 = (t, [], false) := by unfold cutW; rw [if_neg (by omega)]
      rw [hc] at CC
      have HV := hid (show jOut s = (L, r) from jOut_end HJ.out hr (by rw [← HTS.out]; exact h0))
      obtain ⟨a, bb, hf⟩ := readV_formK (readOut t)
      have CR := hid (fun (W : World) (hW : Below w.heap.size w W) => implReadDeed_any t htl W (hT.below hW))
      rw [hf] at CR
      clear hf hc h0
      go_wp2_with fail
      with_reducible refine Calls.mono CC.out ?_
      rintro e w4 ⟨rfl, b4⟩
      have HB4 := hid (HB.out.trans (b4.mono hwz))
      go_wp2_with fail
      with_reducible refine Calls.mono (CR.out _ HB4.out) ?_
      rintro e w5 ⟨rfl, b5⟩
      have b45 := below_tr b4 b5
      have g6 := (Below.refl w5.heap.size w5).alloc (Nat.le_refl _) (.cells #[.int .i64 a.1, .int .i64 a.2] 42)
      have b46 := below_tr b45 g6
      have HO6 := hid (own_on2 HO.out b46)
      have HB6 := hid (HB.out.trans (b46.mono hwz))
      clear b4 b5 b45 g6 b46
      go_wp2
      go_ret2
      exact ⟨A1, m, c1, by rw [HV.out]; rfl, by rw [HV.out]; exact HO6.out, HB6.out⟩
    · obtain ⟨i, hi2⟩ : ∃ i : Nat, Lib.indexByte t 10 = i := Int.eq_ofNat_of_zero_le (by omega)
      have hc : cutW t 10 = (t.take i, t.drop (i + 1), true) := by unfold cutW; rw [if_pos (by omega), hi2]; rfl
      rw [hc] at CC
      obtain ⟨hil, _, _⟩ := ib_yes _ _ _ hi2
      have htl2 : t.length = s.length - r := by rw [HTS.out, List.length_drop]
      obtain ⟨line, hln⟩ : ∃ x, t.take i = x := ⟨_, rfl⟩
      have hll : line.length = i := by rw [← hln, List.length_take]; omega
      rw [hln] at CC
      have CR := hid (fun (W : World) (hW : Below w.heap.size w W) => implReadDeed_any line (by omega) W (hT.below hW))
      rw [HTS.out] at hi2 hln
      have hlsz : (⟨line.toArray⟩ : ByteArray).size = i := by show line.toArray.size = _; simp [hll]
      cases hro : readOut line with
      | none =>
        have HV := hid (show jOut s = (L, r) from jOut_stop HJ.out hr hi2 (by rw [hln]; exact hro))
        rw [hro] at CR
        have CR2 : Hid (∀ W, Below w.heap.size w W → Calls Tryd.prog 27 #[encStr line] W fun e w' => e = .returned (.tuple #[.agg #[.int .i64 0, .int .i64 0], .bool false]) ∧ Below W.heap.size W w') := CR
        clear CR hro hi2 hc hln
        go_wp2_with fail
        with_reducible refine Calls.mono CC.out ?_
        rintro e w4 ⟨rfl, b4⟩
        have HB4 := hid (HB.out.trans (b4.mono hwz))
        go_wp2_with fail
        with_reducible refine Calls.mono (CR2.out _ HB4.out) ?_
        rintro e w5 ⟨rfl, b5⟩
        have b45 := below_tr b4 b5
        have g6 := (Below.refl w5.heap.size w5).alloc (Nat.le_refl _) (.cells #[.int .i64 0, .int .i64 0] 42)
        have b46 := below_tr b45 g6
        have HO6 := hid (own_on2 HO.out b46)
        have HB6 := hid (HB.out.trans (b46.mono hwz))
        clear b4 b5 b45 g6 b46
        go_wp2
        go_ret2
        exact ⟨A1, m, c1, by rw [HV.out]; rfl, by rw [HV.out]; exact HO6.out, HB6.out⟩
      | some a =>
        have HJ2 := hid (show jgo s (r + i + 1) = (L ++ [a], r + i + 1, false) from by rw [jgo_lineP HJ.out hi2, hln, hro])
        rw [hro] at CR
        have CR2 : Hid (∀ W, Below w.heap.size w W → Calls Tryd.prog 27 #[encStr line] W fun e w' => e = .returned (.tuple #[.agg #[.int .i64 a.1, .int .i64 a.2], .bool true]) ∧ Below W.heap.size W w') := CR
        have wi : IntKind.i64.wrap ((i : Int) + 1) = (i : Int) + 1 := IntWalk.i64_in _ (by omega)
        have wr2 : IntKind.i64.wrap ((r : Int) + ((i : Int) + 1)) = (r : Int) + ((i : Int) + 1) := IntWalk.i64_in _ (by omega)
        clear CR hro hi2 hc hln
        go_wp2_with fail
        with_reducible refine Calls.mono CC.out ?_
        rintro e w4 ⟨rfl, b4⟩
        have HB4 := hid (HB.out.trans (b4.mono hwz))
        go_wp2_with fail
        with_reducible refine Calls.mono (CR2.out _ HB4.out) ?_
        rintro e w5 ⟨rfl, b5⟩
        obtain ⟨W6, hW6⟩ : ∃ W6, (w5.alloc (.cells #[.int .i64 a.1, .int .i64 a.2] 42)) = W6 := ⟨_, rfl⟩
        have c60 : W6.cell? ⟨w5.heap.size, 0, none⟩ = some (.int .i64 a.1) := by rw [← hW6]; simp
        have c61 : W6.cell? ⟨w5.heap.size, 1, none⟩ = some (.int .i64 a.2) := by rw [← hW6]; simp
        have g6 : Below w5.heap.size w5 W6 := by rw [← hW6]; exact (Below.refl _ _).alloc (Nat.le_refl _) _
        have b46 := below_tr (below_tr b4 b5) g6
        have o6 := own_on2 HO.out b46
        have hv := own_blk2 o6
        have HB6 := hid (HB.out.trans (b46.mono hwz))
        have hz6 := HB6.out.size
        clear b4 b5 g6 b46
        go_wp2_with (at_builtin; refine wpList_append_own _ rfl _ _ 23 rfl w.heap.size 42 i0 (deedV (0, 0)) 2 16 Tryd.underlying23 hi hz0 hz1 hz2 rfl (by decide) (.slice A1 m c1) _ _ rfl (o6.alloc _) ⟨W6.heap.size, 0, none⟩ 1 1 [.int .i64 a.1, .int .i64 a.2] rfl rfl (cells_new _ [.int .i64 a.1, .int .i64 a.2] _) (by simp [Value.oneCell']) (by simp only [maxLen]; omega) (by omega) (by simp; omega) ?_; intro v2 w2 o2 g2 _; obtain ⟨g, c2, rfl, hbg, hlt2⟩ := own_shape1 o2 (by omega); have B2 := hid (grew HB6.out (Nat.le_refl _) hv g2); have O2 := hid (show w2.ownsRow w.heap.size 42 2 (.slice (some ⟨g, 0, none⟩) (m + 1) c2) (m + 1) (ints (flat (L ++ [a]))) from by rw [← ints_flat_snoc]; exact o2); clear o2 g2)
        go_roundw
        case rel => exact ⟨_, m + 1, c2, r + i + 1, L ++ [a], rfl, by go_num, by omega, by omega, HJ2, O2, B2⟩
        case measure => simp [intOf]; omega
end Go.Proofs.YtkejcajboneniabDoor
