/-
  What chapter 6's laws ask of counters, reckoned. No walk, and no statement is proved here.
-/
import Derived.Test.YtdacjpaaffpfgaaC6l
import Derived.Test.YtdacjpaaffpfgaaC6a
namespace Go.Proofs.Ytdacjpaaffpfgaa
open Go.RowKit
set_option linter.unusedVariables false
set_option linter.unusedSimpArgs false

theorem ctrOk_sw {D C : List Int} (h : ctrOk D C = true) : ctrOk C D = true := by
  obtain ⟨h1, h2, h3⟩ := ctrOk_iff.1 h
  refine ctrOk_iff.2 ⟨by omega, h2.symm, ?_⟩
  intro p hp
  obtain ⟨k, hk, rfl⟩ := List.mem_iff_getElem.1 hp
  have hkl : k < C.length ∧ k < D.length := by rw [List.length_zip] at hk; omega
  have hk2 : k < (D.zip C).length := by rw [List.length_zip]; omega
  have := h3 _ (List.getElem_mem hk2)
  simp only [List.getElem_zip, okP] at this ⊢
  omega
theorem ctrOk_swap (D C : List Int) : ctrOk C D = ctrOk D C := Bool.eq_iff_iff.2 ⟨ctrOk_sw, ctrOk_sw⟩
theorem ctrOk_zero {D C : List Int} (h : ctrOk D C = true) : ctrOk D (List.replicate D.length 0) = true := by
  obtain ⟨h1, h2, h3⟩ := ctrOk_iff.1 h
  refine ctrOk_iff.2 ⟨h1, by simp, ?_⟩
  intro p hp
  obtain ⟨k, hk, rfl⟩ := List.mem_iff_getElem.1 hp
  have hk2 : k < (D.zip C).length := by rw [List.length_zip, List.length_replicate] at hk; rw [List.length_zip]; omega
  have := h3 _ (List.getElem_mem hk2)
  simp only [List.getElem_zip, List.getElem_replicate, okP] at this ⊢
  obtain ⟨t1, t2, t3⟩ := this
  exact ⟨t1, .inl trivial, by omega⟩
theorem ctrOk_nil : ctrOk [] [] = false := by decide
theorem told_of {l : Cnt} (h1 : 1 ≤ l.length) (h8 : l.length ≤ 8) (h : okL l) : toldC (l.map Prod.fst) (l.map Prod.snd) = toldL l := by
  unfold toldC; rw [if_pos (ctrOk_of h1 h8 h), zip_of]
theorem told_yes {D C : List Int} (h : ctrOk D C = true) : toldC D C = toldL (D.zip C) := by unfold toldC; rw [if_pos h]
theorem told_no {D C : List Int} (h : ctrOk D C = false) : toldC D C = -1 := by unfold toldC; rw [h]; rfl
theorem zeros_law {n : Int} (h : within n 1 8 = true) : ctrOk (zerosOut n) (zerosOut n) = true ∧ toldC (zerosOut n) (zerosOut n) = 0 ∧ ((zerosOut n).length : Int) = n := by
  have hb := within_iff.1 h
  have e : zerosOut n = (zeroL n.toNat).map Prod.fst := by unfold zerosOut; rw [if_pos h, zeroL_fst]
  have e2 : zerosOut n = (zeroL n.toNat).map Prod.snd := by unfold zerosOut; rw [if_pos h, zeroL_snd]
  have hl : (zeroL n.toNat).length = n.toNat := by simp [zeroL]
  refine ⟨?_, ?_, by rw [e]; simp [hl]; omega⟩
  · have := ctrOk_of (l := zeroL n.toNat) (by omega) (by omega) (zeroL_ok _)
    rwa [← e, ← e2] at this
  · have := told_of (l := zeroL n.toNat) (by omega) (by omega) (zeroL_ok _)
    rw [← e, ← e2, zeroL_told] at this
    exact this
theorem last_zip {D C : List Int} (h : C.length = D.length) (h1 : 1 ≤ D.length) (i : Int) : lastL i (D.zip C) = nth C (D.length - 1) := by
  obtain ⟨D', d, rfl⟩ : ∃ D' d, D = D' ++ [d] := ⟨D.dropLast, D.getLast (by intro e; subst e; simp at h1), (List.dropLast_concat_getLast _).symm⟩
  obtain ⟨C', c, rfl⟩ : ∃ C' c, C = C' ++ [c] := ⟨C.dropLast, C.getLast (by intro e; subst e; simp at h), (List.dropLast_concat_getLast _).symm⟩
  have hl : C'.length = D'.length := by simpa using h
  rw [List.zip_append hl.symm]
  simp only [List.zip_cons_cons, List.zip_nil_right, last_snoc]
  simp [nth, List.getD, hl]
theorem tick_law {D C : List Int} (h : ctrOk D C = true) (t : Bool) : ctrOk (tickD D C t) (tickC D C t) = true ∧ toldC (tickD D C t) (tickC D C t) = toldC D C + bitI t - nth C (D.length - 1) * 2 ^ D.length ∧ (nth C (D.length - 1) = 0 ∨ nth C (D.length - 1) = 1) := by
  obtain ⟨h1, h2, h3⟩ := ctrOk_iff.1 h
  have hz : (D.zip C).length = D.length := by rw [List.length_zip]; omega
  have ho := tick_ok h3 (bitI_01 t)
  have e1 : tickD D C t = (tickL (bitI t) (D.zip C)).map Prod.fst := by unfold tickD; rw [if_pos h]
  have e2 : tickC D C t = (tickL (bitI t) (D.zip C)).map Prod.snd := by unfold tickC; rw [if_pos h]
  have hl : (tickL (bitI t) (D.zip C)).length = D.length := by rw [tickL_len, hz]
  rw [e1, e2]
  refine ⟨ctrOk_of (by omega) (by omega) ho, ?_, ?_⟩
  · rw [told_of (by omega) (by omega) ho, tick_told, told_yes h, last_zip h2 h1.1, hz]
  · rw [← last_zip h2 h1.1 (bitI t)]; exact last_bit h3 (bitI_01 t)
theorem told_law {D C : List Int} (h : ctrOk D C = true) : 0 ≤ toldC D C ∧ toldC D C + 2 ≤ 2 * 2 ^ D.length ∧ (toldC D C = 0 ↔ ∀ j, j < D.length → nth D j = 0 ∧ nth C j = 0) := by
  obtain ⟨h1, h2, h3⟩ := ctrOk_iff.1 h
  have hz : (D.zip C).length = D.length := by rw [List.length_zip]; omega
  rw [told_yes h]
  have hb := told_bd h3
  rw [hz] at hb
  refine ⟨hb.1, hb.2, ?_⟩
  rw [told_none h3]
  constructor
  · intro ha j hj
    have := ha _ (List.getElem_mem (show j < (D.zip C).length by omega))
    rw [List.getElem_zip] at this
    rw [nth_lt hj, nth_lt (by omega)]
    exact this
  · intro ha p hp
    obtain ⟨k, hk, rfl⟩ := List.mem_iff_getElem.1 hp
    have := ha k (by omega)
    rw [nth_lt (by omega), nth_lt (by omega)] at this
    rw [List.getElem_zip]
    exact this
theorem counted_law {m : Int} {ts : List Bool} (h : countOk m ts = true) : (1 ≤ m ∧ m ≤ 8) ∧ ts.length ≤ 300 ∧ ∃ T o : Nat, toldC (countD m ts) (countC m ts) = T ∧ (T : Int) + o * 2 ^ m.toNat = many ts := by
  have h2 : within m 1 8 = true ∧ ts.length ≤ 300 := by simpa [countOk] using h
  have hb := within_iff.1 h2.1
  have e1 : countD m ts = (countL (zeroL m.toNat) ts).map Prod.fst := by unfold countD; rw [if_pos h]
  have e2 : countC m ts = (countL (zeroL m.toNat) ts).map Prod.snd := by unfold countC; rw [if_pos h]
  have hl : (countL (zeroL m.toNat) ts).length = m.toNat := by rw [countL_len]; simp [zeroL]
  have ho := count_ok (zeroL_ok m.toNat) ts
  obtain ⟨o, hoo⟩ := count_told (zeroL_ok m.toNat) ts
  rw [show (zeroL m.toNat).length = m.toNat from by simp [zeroL], zeroL_told] at hoo
  have hd := (told_bd ho).1
  obtain ⟨T, hT⟩ := Int.eq_ofNat_of_zero_le hd
  refine ⟨hb, h2.2, T, o, ?_, ?_⟩
  · rw [e1, e2, told_of (by omega) (by omega) ho, hT]
  · rw [← hT, hoo]; omega
theorem rest_law {D C : List Int} (h : ctrOk D C = true) : (∀ j, j < D.length → nth (restC D C) j = 0) ∧ (restC D C).length = D.length ∧ toldC (restD D C) (restC D C) = toldC D C % 2 ^ D.length := by
  obtain ⟨h1, h2, h3⟩ := ctrOk_iff.1 h
  have hz : (D.zip C).length = D.length := by rw [List.length_zip]; omega
  have e1 : restD D C = (restL (D.zip C) D.length).map Prod.fst := by unfold restD; rw [if_pos h]
  have e2 : restC D C = (restL (D.zip C) D.length).map Prod.snd := by unfold restC; rw [if_pos h]
  have hl : (restL (D.zip C) D.length).length = D.length := by rw [restL_len, hz]
  have ho := rest_ok h3 D.length
  refine ⟨?_, by rw [e2]; simp [hl], ?_⟩
  · intro j hj
    rw [e2, nth_snd (by omega)]
    exact rest_still h3 D.length j hj (by omega)
  · rw [e1, e2, told_of (by omega) (by omega) ho, told_yes h]
    have := rest_told h3
    rwa [hz] at this
end Go.Proofs.Ytdacjpaaffpfgaa
