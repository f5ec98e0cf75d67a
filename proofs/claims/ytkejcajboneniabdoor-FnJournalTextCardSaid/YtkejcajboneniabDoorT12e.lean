/-
  The walk of the model's l1Cut. No statement is proved here.
-/
import Derived.Test.YtkejcajboneniabDoorT12c
import Derived.Test.YtkejcajboneniabDoorNest
namespace Go.Proofs.YtkejcajboneniabDoor
open Go.RowKit
set_option linter.unusedVariables false
set_option linter.unusedSimpArgs false

/-- Byte k of a text. -/
def bat (s : List UInt8) (k : Nat) : UInt8 := s.getD k 0
theorem bat_lt {s : List UInt8} {k : Nat} (h : k < s.length) : s[k] = bat s k := by simp [bat, List.getD, h]
/-- The bytes i up to j. -/
def sub (s : List UInt8) (i j : Nat) : List UInt8 := (s.take j).drop i
/-- Where the last piece of the first k bytes begins, and the pieces before. -/
def cutF (s : List UInt8) (p : UInt8) : Nat → Nat
  | 0 => 0
  | k + 1 => if bat s k = p then k + 1 else cutF s p k
def cutD (s : List UInt8) (p : UInt8) : Nat → List (List UInt8)
  | 0 => []
  | k + 1 => if bat s k = p then cutD s p k ++ [sub s (cutF s p k) k] else cutD s p k
/-- What l1Cut gives. -/
def cutB (s : List UInt8) (p : UInt8) : List (List UInt8) := cutD s p s.length ++ [sub s (cutF s p s.length) s.length]
theorem cutF_le (s : List UInt8) (p : UInt8) : ∀ k, cutF s p k ≤ k
  | 0 => Nat.le_refl _
  | k + 1 => by
    have := cutF_le s p k
    unfold cutF
    split <;> omega
theorem cutD_len (s : List UInt8) (p : UInt8) : ∀ k, (cutD s p k).length ≤ k
  | 0 => Nat.le_refl _
  | k + 1 => by
    have := cutD_len s p k
    unfold cutD
    split <;> simp <;> omega
theorem sub_len (s : List UInt8) (i j : Nat) : (sub s i j).length ≤ s.length := by simp only [sub, List.length_drop, List.length_take]; omega
/-- Texts as values. -/
def strs (l : List (List UInt8)) : List Value := l.map encStr
theorem extract_sub (s : List UInt8) (i j : Nat) : (⟨s.toArray⟩ : ByteArray).extract i j = ⟨(sub s i j).toArray⟩ := by
  apply ByteArray.ext
  rw [ByteArray.data_extract]
  simp [sub, List.drop_take]
theorem sub_str (s : List UInt8) (i j : Nat) : Value.string ((⟨s.toArray⟩ : ByteArray).extract i j) = encStr (sub s i j) := by rw [extract_sub]
theorem info_str : (Tryd.prog.info? 9).map (fun i => (i.zero, i.size, i.bytes)) = some (some (encStr []), 1, 16) := by kernel_rfl
theorem grew {w w1 w2 : World} {B : Nat} {v : Value} {o : Obj} (hg : Below w.heap.size w w1) (hB : w.heap.size ≤ B) (hv : v.ownBlock = none ∨ ∃ k, v.ownBlock = some k ∧ B ≤ k) (hg2 : (w1.alloc o).grownBy w2 v.ownBlock) :
    Below w.heap.size w w2 := by
  refine (hg.alloc hg.size _).grown hg2 (by have := hg.size; simp; omega) ?_
  intro k hk
  rcases hv with hv | ⟨k', hv, hk'⟩
  · rw [hv] at hk; cases hk
  · rw [hv] at hk; cases hk; omega

set_option maxRecDepth 100000 in
set_option maxHeartbeats 1600000 in
theorem cut_any (s : List UInt8) (p : UInt8) (hn : s.length ≤ 10000000) (w : World) :
    Calls Tryd.prog 43 #[encStr s, .int .u8 p.toNat] w fun e w' => ∃ A m c, e = .returned (.slice A m c) ∧ w'.ownsRow w.heap.size 9 1 (.slice A m c) m (strs (cutB s p)) ∧ Below w.heap.size w w' := by
  obtain ⟨i0, hi, hz0, hz1, hz2⟩ := info_parts info_str
  have hsz : (⟨s.toArray⟩ : ByteArray).size = s.length := by show s.toArray.size = _; simp
  have ho0 : (w.alloc (.cells #[] 9)).ownsRow w.heap.size 9 1 (.slice (some ⟨w.heap.size, 0, none⟩) 0 0) 0 (strs (cutD s p 0)) := World.ownsRow_lit w #[] 0 (Nat.le_refl _) (by simp [maxLen]) rfl
  have hb0 : Below w.heap.size w (w.alloc (.cells #[] 9)) := (Below.refl _ _).alloc (Nat.le_refl _) _
  go_enter Tryd.func43, Tryd.ntmps43
  go_wp2
  go_loopw [5, 6, 7] (fun v f i wr => ∃ (A1 : Option Addr) (m c1 k : Nat), v = .slice A1 m c1 ∧ f = .int .i64 (cutF s p k) ∧ i = .int .i64 k ∧ k ≤ s.length ∧ m = (cutD s p k).length ∧ wr.ownsRow w.heap.size 9 1 (.slice A1 m c1) m (strs (cutD s p k)) ∧ Hid (Below w.heap.size w wr)) (fun _ _ i _ => s.length - (intOf i).toNat)
  case atStart => exact ⟨_, 0, _, 0, rfl, rfl, rfl, Nat.zero_le _, rfl, ho0, hid hb0⟩
  case round =>
    clear ho0 hb0
    obtain ⟨A1, m, c1, k, rfl, rfl, rfl, hk, hm, ho, HB⟩ := hrel
    have hf := cutF_le s p k
    have hml := cutD_len s p k
    rw [← hm] at hml
    have HM := hid hm
    clear hm
    by_cases hlt : k < s.length
    · have hlti : (k : Int) < (s.length : Int) := by omega
      have hk0 : (0 : Int) ≤ (k : Int) := by omega
      have hxk : ∀ h : k < (⟨s.toArray⟩ : ByteArray).size, (⟨s.toArray⟩ : ByteArray)[k]'h = bat s k := fun _ => bat_lt hlt
      by_cases hp : bat s k = p
      · have hq : (((bat s k).toNat : Int) == (p.toNat : Int)) = true := by rw [hp]; simp
        have HF := hid (show cutF s p (k + 1) = k + 1 from by rw [cutF, if_pos hp])
        have HD := hid (show cutD s p (k + 1) = cutD s p k ++ [sub s (cutF s p k) k] from by rw [cutD, if_pos hp])
        obtain ⟨f, hf2⟩ : ∃ f, cutF s p k = f := ⟨_, rfl⟩
        rw [hf2] at hf HD ⊢
        have hfi : (f : Int) ≤ (k : Int) := by omega
        have hf0 : (0 : Int) ≤ (f : Int) := by omega
        have hki : (k : Int) ≤ (s.length : Int) := by omega
        have hsub := sub_str s f k
        have hv := own_blk ho
        go_wp2_with (at_builtin; refine wpList_append_own _ rfl _ _ 73 rfl w.heap.size 9 i0 (encStr []) 1 16 Tryd.underlying73 hi hz0 hz1 hz2 rfl (by decide) (.slice A1 m c1) _ _ rfl (ho.alloc _) ⟨wr.heap.size, 0, none⟩ 1 1 [encStr (sub s f k)] rfl rfl (cells_new _ [encStr (sub s f k)] _) (by simp [Value.oneCell']) (by simp only [maxLen]; omega) (by omega) (by have := HB.out.size; simp; omega) ?_; intro v2 w2 o2 g2 _)
        obtain ⟨g, c2, rfl, hbg, hlt2⟩ := own_shape1 o2 (by omega)
        have B2 := hid (grew HB.out (Nat.le_refl _) hv g2)
        have O2 := hid (show w2.ownsRow w.heap.size 9 1 (.slice (some ⟨g, 0, none⟩) (m + 1) c2) (m + 1) (strs (cutD s p (k + 1))) from by rw [HD.out]; simpa [strs] using o2)
        go_roundw
        case rel => exact ⟨_, m + 1, c2, k + 1, rfl, by rw [HF.out]; go_num, by go_num, by omega, by rw [HD.out, HM.out]; simp, O2.out, B2⟩
        case measure => simp [intOf]; omega
      · have hq : (((bat s k).toNat : Int) == (p.toNat : Int)) = false := by
          have : (bat s k).toNat ≠ p.toNat := fun h => hp (UInt8.toNat_inj.1 h)
          simp; omega
        have HF := hid (show cutF s p (k + 1) = cutF s p k from by rw [cutF, if_neg hp])
        have HD := hid (show cutD s p (k + 1) = cutD s p k from by rw [cutD, if_neg hp])
        have HO := hid ho
        go_wp2
        go_roundw
        case rel => exact ⟨A1, m, c1, k + 1, rfl, by rw [HF.out], by go_num, by omega, by rw [HD.out, HM.out], by rw [HD.out]; exact HO.out, HB⟩
        case measure => simp [intOf]; omega
    · obtain rfl : k = s.length := by omega
      obtain ⟨f, hf2⟩ : ∃ f, cutF s p s.length = f := ⟨_, rfl⟩
      have HC := hid (show cutB s p = cutD s p s.length ++ [sub s f s.length] from by unfold cutB; rw [hf2])
      rw [hf2] at hf ⊢
      have hfi : (f : Int) ≤ (s.length : Int) := by omega
      have hf0 : (0 : Int) ≤ (f : Int) := by omega
      have hsub := sub_str s f s.length
      have hv := own_blk ho
      go_wp2_with (at_builtin; refine wpList_append_own _ rfl _ _ 73 rfl w.heap.size 9 i0 (encStr []) 1 16 Tryd.underlying73 hi hz0 hz1 hz2 rfl (by decide) (.slice A1 m c1) _ _ rfl (ho.alloc _) ⟨wr.heap.size, 0, none⟩ 1 1 [encStr (sub s f s.length)] rfl rfl (cells_new _ [encStr (sub s f s.length)] _) (by simp [Value.oneCell']) (by simp only [maxLen]; omega) (by omega) (by have := HB.out.size; simp; omega) ?_; intro v2 w2 o2 g2 _)
      obtain ⟨g, c2, rfl, hbg, hlt2⟩ := own_shape1 o2 (by omega)
      have B2 := hid (grew HB.out (Nat.le_refl _) hv g2)
      have O2 := hid (show w2.ownsRow w.heap.size 9 1 (.slice (some ⟨g, 0, none⟩) (m + 1) c2) (m + 1) (strs (cutB s p)) from by rw [HC.out]; simpa [strs] using o2)
      go_ret
      exact ⟨_, _, _, rfl, O2.out, B2.out⟩
end Go.Proofs.YtkejcajboneniabDoor
