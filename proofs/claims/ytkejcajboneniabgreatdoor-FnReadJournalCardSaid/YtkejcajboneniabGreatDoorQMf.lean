/-
  Texts put together: T12f T12x T12g T12y T12t T12u. No statement is proved here.
-/
import Derived.Test.YtkejcajboneniabGreatDoorQMe
import Derived.Test.YtkejcajboneniabGreatDoorQMd
import Derived.Below
import Derived.Handy
import Derived.Test.YtkejcajboneniabGreatDoorQMa
set_option linter.unusedVariables false
set_option linter.unusedSimpArgs false
namespace Go.Proofs.YtkejcajboneniabGreatDoor
open Go.RowKit

def plainD : List (Int × Int) := [(0, 0), (1, 0), (2, 0), (5, 0), (6, 0)]
/-- The deeds that ReadDeed tries. -/
def candD (s : List UInt8) : List (Int × Int) :=
  if (cutB s 32).length = 2 then plainD ++ [(3, digitsOut ((cutB s 32).getD 1 [])), (4, digitsOut ((cutB s 32).getD 1 []))] else plainD
def isText (s : List UInt8) (a : Int × Int) : Bool := s != [] && deedP a == s
/-- What ReadDeed gives. -/
def readOut (s : List UInt8) : Option (Int × Int) := (candD s).find? (isText s)
def deedV (a : Int × Int) : Value := .agg #[.int .i64 a.1, .int .i64 a.2]
def readV : Option (Int × Int) → Value
  | some a => .tuple #[deedV a, .bool true]
  | none => .tuple #[deedV (0, 0), .bool false]
theorem info_deed : (Tryz.prog.info? 39).map (fun i => (i.zero, i.size, i.bytes)) = some (some (deedV (0, 0)), 2, 16) := by kernel_rfl

section
variable {P : Program} {fn : Func} {p u : Tmp} {ty : TypeId}
theorem results_kk (h : fn.results = #[.cell p ty, .tmp u]) (tmps : Array Value) (w : World) (g : Nat) (t : TypeId) (cs : Array Value) (fr : Nat × Nat) (d : TypeDesc)
    (hp : tmps.getD p undef = .pointer (some ⟨g, 0, none⟩)) (hg : w.heap[g]? = some (.cells cs t fr))
    (hu : P.underlying ty = some d) (hd : (match d with | .struct _ | .array _ _ => true | _ => false) = true) (hi : (P.info? ty).map (·.size) = some cs.size) :
    (results fn tmps).run P w = .ok (.tuple #[.agg cs, tmps.getD u undef]) w := by
  have hp' : tmps[p]?.getD undef = .pointer (some ⟨g, 0, none⟩) := by simpa using hp
  simp [results, h, hp', asAddr, run_loadVar_row w g t ty cs fr d hg hu hd hi]
end
theorem own_len {w : World} {B n : Nat} {e : TypeId} {v : Value} {l : List (List UInt8)} (h : w.ownsRow B e 1 v n (strs l)) : n = l.length := by
  have := h.1
  simpa [strs] using this.symm
theorem cutD_mem (s : List UInt8) (p : UInt8) : ∀ k, ∀ x ∈ cutD s p k, x.length ≤ s.length
  | 0 => by intro x hx; simp [cutD] at hx
  | k + 1 => by
    intro x hx
    unfold cutD at hx
    split at hx
    · rcases List.mem_append.1 hx with h | h
      · exact cutD_mem s p k x h
      · obtain rfl := List.mem_singleton.1 h
        exact sub_len _ _ _
    · exact cutD_mem s p k x hx
theorem cutB_mem (s : List UInt8) (p : UInt8) : ∀ x ∈ cutB s p, x.length ≤ s.length := by
  intro x hx
  unfold cutB at hx
  rcases List.mem_append.1 hx with h | h
  · exact cutD_mem s p _ x h
  · obtain rfl := List.mem_singleton.1 h
    exact sub_len _ _ _
theorem readOut_some {s : List UInt8} {k : Nat} (hk : k < (candD s).length) (hn : ∀ a ∈ (candD s).take k, isText s a = false) (h : isText s (candD s)[k] = true) : readOut s = some (candD s)[k] := by
  unfold readOut
  have e : candD s = (candD s).take k ++ (candD s)[k] :: (candD s).drop (k + 1) := by rw [← List.drop_eq_getElem_cons hk, List.take_append_drop]
  generalize hx : (candD s)[k] = x at *
  rw [e, List.find?_append, List.find?_eq_none.2 (by simpa using hn)]
  simp [h]
theorem readOut_none {s : List UInt8} (hn : ∀ a ∈ candD s, isText s a = false) : readOut s = none := List.find?_eq_none.2 (by simpa using hn)

set_option maxRecDepth 100000 in
set_option maxHeartbeats 1600000 in
theorem specReadDeed_any (s : List UInt8) (hn : s.length ≤ 10000000) (w : World) :
    Calls Tryz.prog 46 #[encStr s] w fun e w' => e = .returned (readV (readOut s)) ∧ Below w.heap.size w w' := by
  obtain ⟨i0, hi, hz0, hz1, hz2⟩ := info_parts info_deed
  obtain ⟨W1, hW1⟩ : ∃ W1, (w.alloc (.cells #[.int .i64 0, .int .i64 0] 39)) = W1 := ⟨_, rfl⟩
  have B0 := hid (show Below w.heap.size w W1 from by rw [← hW1]; exact (Below.refl w.heap.size w).alloc (Nat.le_refl _) _)
  have r0 : W1.cell? ⟨w.heap.size, 0, none⟩ = some (.int .i64 0) := by rw [← hW1]; simp
  have r1 : W1.cell? ⟨w.heap.size, 1, none⟩ = some (.int .i64 0) := by rw [← hW1]; simp
  have f0 : W1.frozen? ⟨w.heap.size, 0, none⟩ = false := by rw [← hW1]; simp
  have f1 : W1.frozen? ⟨w.heap.size, 1, none⟩ = false := by rw [← hW1]; simp
  have hl1 : w.heap.size < W1.heap.size := by rw [← hW1]; simp
  have rb : W1.heap[w.heap.size]? = some (.cells #[.int .i64 0, .int .i64 0] 39 (0, 0)) := by rw [← hW1]; exact heap_alloc_new w _
  have CC := hid (show Calls Tryz.prog 73 #[encStr s, .int .u8 32] W1 _ from cut_any s 32 hn W1)
  by_cases h2 : (cutB s 32).length = 2

  · obtain ⟨x0, x1, hxx⟩ : ∃ x0 x1, cutB s 32 = [x0, x1] := by
      rcases h : cutB s 32 with _ | ⟨a, _ | ⟨b, _ | ⟨c, l⟩⟩⟩
      · rw [h] at h2; simp at h2
      · rw [h] at h2; simp at h2
      · exact ⟨a, b, rfl⟩
      · rw [h] at h2; simp at h2
    have HC := hid (show candD s = plainD ++ [(3, digitsOut x1), (4, digitsOut x1)] from by unfold candD; rw [if_pos h2, hxx]; rfl)
    have HLen := hid (show (candD s).length = 7 from by rw [HC.out]; rfl)
    rw [hxx] at CC
    have hx1 : x1.length ≤ 10000000 := Nat.le_trans (cutB_mem s 32 x1 (by rw [hxx]; simp)) hn
    have CG := hid (fun W => digits_any x1 (by simp only [maxLen]; omega) W)
    obtain ⟨q, hq⟩ : ∃ q, digitsOut x1 = q := ⟨_, rfl⟩
    rw [hq] at CG HC
    go_enter Tryz.func46, Tryz.ntmps46
    go_wp2_with fail
    with_reducible refine Calls.mono CC.out ?_
    rintro e w2 ⟨A, m, c, rfl, o2, b2⟩
    obtain rfl : m = 2 := own_len o2
    obtain ⟨g1, c1, hs1, hg1, hl2⟩ := own_shape1 o2 (by omega)
    injection hs1 with e1 e2 e3
    subst e1
    clear e2 e3
    obtain ⟨W2, hW2⟩ : ∃ W2, (w2.alloc (.cells #[.int .i64 0, .int .i64 0, .int .i64 1, .int .i64 0, .int .i64 2, .int .i64 0, .int .i64 5, .int .i64 0, .int .i64 6, .int .i64 0] 39)) = W2 := ⟨_, rfl⟩
    have b3 : Below w2.heap.size w2 W2 := by rw [← hW2]; exact (Below.refl w2.heap.size w2).alloc (Nat.le_refl _) _
    have hcw : W2.cell? ⟨g1, 1, none⟩ = some (encStr x1) := (b3.cell (p := ⟨g1, 1, none⟩) hl2).trans (o2.cellAt 1 (by omega))
    have o3 : W2.ownsRow w2.heap.size 39 2 (.slice (some ⟨w2.heap.size, 0, none⟩) 5 5) 5 [.int .i64 0, .int .i64 0, .int .i64 1, .int .i64 0, .int .i64 2, .int .i64 0, .int .i64 5, .int .i64 0, .int .i64 6, .int .i64 0] := by rw [← hW2]; exact World.ownsRow_lit w2 #[.int .i64 0, .int .i64 0, .int .i64 1, .int .i64 0, .int .i64 2, .int .i64 0, .int .i64 5, .int .i64 0, .int .i64 6, .int .i64 0] 5 (Nat.le_refl _) (by simp [maxLen]) rfl
    have hz23 := b3.size
    go_wp2_with (first | (go_at_call 74; refine (CG.out _).mono ?_; rintro e w' ⟨rfl, rfl⟩) | (at_builtin; refine wpList_append_own _ rfl _ _ 24 rfl w2.heap.size 39 i0 (deedV (0, 0)) 2 16 Tryz.underlying24 hi hz0 hz1 hz2 rfl (by decide) (.slice (some ⟨w2.heap.size, 0, none⟩) 5 5) _ _ rfl (o3.alloc _) ⟨W2.heap.size, 0, none⟩ 2 2 [.int .i64 3, .int .i64 q, .int .i64 4, .int .i64 q] rfl rfl (cells_new _ [.int .i64 3, .int .i64 q, .int .i64 4, .int .i64 q] _) (by simp [Value.oneCell']) (by simp only [maxLen]; omega) (by omega) (by simp; omega) ?_; intro v2 W3 o4 g4 _))
    obtain ⟨g, c2, rfl, hbg, hlt2⟩ := own_shape1 (m := 7) o4 (by omega)
    have hz22 : W1.heap.size ≤ w2.heap.size := b2.size
    have B3 := hid (show Below W1.heap.size W1 W3 from ((b2.trans (b3.mono hz22)).alloc (by omega) _).grown g4 (by simp; omega) (by intro k hk; simp [Value.ownBlock] at hk; omega))
    have SD : Hid (SlD W3 W3.heap.size (some ⟨g, 0, none⟩) 7 (candD s)) := hid (SlD.of_own (base := w2.heap.size) (e := 39) (c := c2) (by rw [HC.out]; exact o4))
    have R0 := hid ((B3.out.cell (p := ⟨w.heap.size, 0, none⟩) hl1).trans r0)
    have R1 := hid ((B3.out.cell (p := ⟨w.heap.size, 1, none⟩) hl1).trans r1)
    have G0 := hid ((B3.out.frozen (p := ⟨w.heap.size, 0, none⟩) hl1).trans f0)
    have G1 := hid ((B3.out.frozen (p := ⟨w.heap.size, 1, none⟩) hl1).trans f1)
    have RB := hid ((B3.out.block _ hl1).trans rb)
    have LR := hid (Nat.lt_of_lt_of_le hl1 B3.out.size)
    have HW := hid hW1
    clear hW1 r0 r1 f0 f1 rb hW2 o2 o3 o4 g4 b2 b3 hcw hxx hq CC CG hbg hlt2 hg1 hl2

    go_loopw [7] (fun i wr => ∃ k : Nat, i = .int .i64 k ∧ k ≤ 7 ∧ Hid (∀ a ∈ (candD s).take k, isText s a = false) ∧ Hid (Below W3.heap.size W3 wr)) (fun i _ => 7 - (intOf i).toNat)
    case atStart => exact ⟨0, rfl, Nat.zero_le _, hid (fun a ha => by simp at ha), hid (Below.refl _ _)⟩
    case round =>
      obtain ⟨k, rfl, hk, HN, HB⟩ := hrel
      have hzz := HB.out.size
      have hlr : w.heap.size < wr.heap.size := Nat.lt_of_lt_of_le LR.out hzz
      have r20 := (HB.out.cell (p := ⟨w.heap.size, 0, none⟩) LR.out).trans R0.out
      have r21 := (HB.out.cell (p := ⟨w.heap.size, 1, none⟩) LR.out).trans R1.out
      have f20 := (HB.out.frozen (p := ⟨w.heap.size, 0, none⟩) LR.out).trans G0.out
      have f21 := (HB.out.frozen (p := ⟨w.heap.size, 1, none⟩) LR.out).trans G1.out
      by_cases hlt : k < 7
      · have hlti : (k : Int) < 7 := by omega
        have hk0 : (0 : Int) ≤ (k : Int) := by omega
        have hlt2 : k < (candD s).length := by rw [HLen.out]; exact hlt
        obtain ⟨a, ha⟩ : ∃ a, (candD s)[k] = a := ⟨_, rfl⟩
        have HT := hid (show (candD s).take (k + 1) = (candD s).take k ++ [a] from by rw [List.take_succ_eq_append_getElem hlt2, ha])
        obtain ⟨b, off, hbo, hbS, hc⟩ := (SD.out.on HB.out).2.2 (by omega)
        injection hbo with hbo
        injection hbo with e1 e2 e3
        subst e1
        subst e2
        have hc0 := hc (k * 2) (by omega)
        have hc1 := hc (k * 2 + 1) (by omega)
        have ha2 : (candD s).getD k (0, 0) = a := by rw [← ha]; simp [List.getD, hlt2]
        rw [nth_flat0, ha2, Nat.zero_add] at hc0
        rw [nth_flat1, ha2, Nat.zero_add] at hc1
        clear hc ha2
        by_cases hs0 : s = []
        · have HF := hid (show isText s a = false from by rw [hs0]; rfl)
          have hne : s.isEmpty = true := by rw [hs0]; rfl
          have ha2 := hid ha
          clear ha
          go_wp2
          go_roundw
          case rel => exact ⟨k + 1, by go_num, by omega, hid (by rw [HT.out]; intro b hb; rcases List.mem_append.1 hb with h | h; exact HN.out b h; obtain rfl := List.mem_singleton.1 h; exact HF.out), HB⟩
          case measure => simp [intOf]; omega
        · have hne : s.isEmpty = false := by
            cases s with
            | nil => exact absurd rfl hs0
            | cons => rfl
          have CD := hid (specDeedText_any a.1 a.2 wr)
          obtain ⟨t, ht⟩ : ∃ t, deedB a.1 a.2 = t := ⟨_, rfl⟩
          rw [ht] at CD
          have ha2 := hid ha
          have ht2 := hid ht
          clear ha ht
          by_cases hts : t = s
          · have heq : (t == s) = true := by rw [hts]; exact beq_self_eq_true _
            have HF := hid (show readOut s = some a from by rw [← ha2.out]; exact readOut_some hlt2 HN.out (by rw [ha2.out]; simp [isText, deedP, ht2.out, hts, hs0]))
            go_wp2_with (go_at_call 91; with_reducible refine Calls.mono CD.out ?_; rintro e w5 ⟨rfl, b5⟩; have r50 := (b5.cell (p := ⟨w.heap.size, 0, none⟩) hlr).trans r20; have r51 := (b5.cell (p := ⟨w.heap.size, 1, none⟩) hlr).trans r21; have f50 := (b5.frozen (p := ⟨w.heap.size, 0, none⟩) hlr).trans f20; have f51 := (b5.frozen (p := ⟨w.heap.size, 1, none⟩) hlr).trans f21; have c50 := (b5.cell (p := ⟨g, k * 2, none⟩) hbS).trans hc0; have c51 := (b5.cell (p := ⟨g, k * 2 + 1, none⟩) hbS).trans hc1)
            have q0 := (b5.block _ hlr).trans ((HB.out.block _ LR.out).trans RB.out)
            have q2 := heap_setCell_same _ _ 1 _ _ (.int .i64 a.2) (heap_setCell_same _ _ 0 _ _ (.int .i64 a.1) q0)
            refine bodyPost_ret (results_kk rfl _ _ w.heap.size _ _ _ _ rfl q2 Tryz.underlying39 rfl (by kernel_rfl)) rfl ?_
            exact ⟨by rw [HF.out]; rfl, (((B0.out.trans (B3.out.mono B0.out.size)).trans ((HB.out.trans (b5.mono hzz)).mono (Nat.le_trans B0.out.size B3.out.size))).setCell (Nat.le_refl _) _).setCell (Nat.le_refl _) _⟩
          · have heq : (t == s) = false := by rw [beq_eq_false_iff_ne]; exact hts
            have HF := hid (show isText s a = false from by simp [isText, deedP, ht2.out, hts])
            go_wp2_with (go_at_call 91; with_reducible refine Calls.mono CD.out ?_; rintro e w5 ⟨rfl, b5⟩; have r50 := (b5.cell (p := ⟨w.heap.size, 0, none⟩) hlr).trans r20; have r51 := (b5.cell (p := ⟨w.heap.size, 1, none⟩) hlr).trans r21; have f50 := (b5.frozen (p := ⟨w.heap.size, 0, none⟩) hlr).trans f20; have f51 := (b5.frozen (p := ⟨w.heap.size, 1, none⟩) hlr).trans f21; have c50 := (b5.cell (p := ⟨g, k * 2, none⟩) hbS).trans hc0; have c51 := (b5.cell (p := ⟨g, k * 2 + 1, none⟩) hbS).trans hc1)
            have HB5 := hid (HB.out.trans (b5.mono hzz))
            go_roundw
            case rel => exact ⟨k + 1, by go_num, by omega, hid (by rw [HT.out]; intro b hb; rcases List.mem_append.1 hb with h | h; exact HN.out b h; obtain rfl := List.mem_singleton.1 h; exact HF.out), HB5⟩
            case measure => simp [intOf]; omega
      · have HF := hid (show readOut s = none from readOut_none (by have := HN.out; rwa [List.take_of_length_le (by rw [HLen.out]; omega)] at this))
        have hki : ¬ ((k : Int) < 7) := by omega
        go_wp2
        have q0 := (HB.out.block _ LR.out).trans RB.out
        have q2 := heap_setCell_same _ _ 1 _ _ (.int .i64 0) (heap_setCell_same _ _ 0 _ _ (.int .i64 0) q0)
        refine bodyPost_ret (results_kk rfl _ _ w.heap.size _ _ _ _ rfl q2 Tryz.underlying39 rfl (by kernel_rfl)) rfl ?_
        exact ⟨by rw [HF.out]; rfl, (((B0.out.trans (B3.out.mono B0.out.size)).trans (HB.out.mono (Nat.le_trans B0.out.size B3.out.size))).setCell (Nat.le_refl _) _).setCell (Nat.le_refl _) _⟩
  · have HC := hid (show candD s = plainD from by unfold candD; rw [if_neg h2])
    have HLen := hid (show (candD s).length = 5 from by rw [HC.out]; rfl)
    have h2i : (((cutB s 32).length : Int) == 2) = false := by simp; omega
    go_enter Tryz.func46, Tryz.ntmps46
    go_wp2_with (go_at_call 73; with_reducible refine Calls.mono CC.out ?_; rintro e w2 ⟨A, m, c, rfl, o2, b2⟩; obtain rfl := own_len o2)
    obtain ⟨W3, hW3⟩ : ∃ W3, (w2.alloc (.cells #[.int .i64 0, .int .i64 0, .int .i64 1, .int .i64 0, .int .i64 2, .int .i64 0, .int .i64 5, .int .i64 0, .int .i64 6, .int .i64 0] 39)) = W3 := ⟨_, rfl⟩
    have B3 := hid (show Below W1.heap.size W1 W3 from by rw [← hW3]; exact b2.alloc b2.size _)
    have SD : Hid (SlD W3 W3.heap.size (some ⟨w2.heap.size, 0, none⟩) 5 (candD s)) := hid (by
      rw [← hW3, HC.out]
      exact SlD.of_own (World.ownsRow_lit (base := 0) (e := 39) (size := 2) w2 #[.int .i64 0, .int .i64 0, .int .i64 1, .int .i64 0, .int .i64 2, .int .i64 0, .int .i64 5, .int .i64 0, .int .i64 6, .int .i64 0] 5 (Nat.zero_le _) (by simp [maxLen]) rfl))
    have R0 := hid ((B3.out.cell (p := ⟨w.heap.size, 0, none⟩) hl1).trans r0)
    have R1 := hid ((B3.out.cell (p := ⟨w.heap.size, 1, none⟩) hl1).trans r1)
    have G0 := hid ((B3.out.frozen (p := ⟨w.heap.size, 0, none⟩) hl1).trans f0)
    have G1 := hid ((B3.out.frozen (p := ⟨w.heap.size, 1, none⟩) hl1).trans f1)
    have RB := hid ((B3.out.block _ hl1).trans rb)
    have LR := hid (Nat.lt_of_lt_of_le hl1 B3.out.size)
    have HW := hid hW1
    rw [hW3]
    clear hW3 hW1 r0 r1 f0 f1 o2 b2
    go_loopw [7] (fun i wr => ∃ k : Nat, i = .int .i64 k ∧ k ≤ 5 ∧ Hid (∀ a ∈ (candD s).take k, isText s a = false) ∧ Hid (Below W3.heap.size W3 wr)) (fun i _ => 5 - (intOf i).toNat)
    case atStart => exact ⟨0, rfl, Nat.zero_le _, hid (fun a ha => by simp at ha), hid (Below.refl _ _)⟩
    case round =>
      obtain ⟨k, rfl, hk, HN, HB⟩ := hrel
      have hzz := HB.out.size
      have hlr : w.heap.size < wr.heap.size := Nat.lt_of_lt_of_le LR.out hzz
      have r20 := (HB.out.cell (p := ⟨w.heap.size, 0, none⟩) LR.out).trans R0.out
      have r21 := (HB.out.cell (p := ⟨w.heap.size, 1, none⟩) LR.out).trans R1.out
      have f20 := (HB.out.frozen (p := ⟨w.heap.size, 0, none⟩) LR.out).trans G0.out
      have f21 := (HB.out.frozen (p := ⟨w.heap.size, 1, none⟩) LR.out).trans G1.out
      by_cases hlt : k < 5
      · have hlti : (k : Int) < 5 := by omega
        have hk0 : (0 : Int) ≤ (k : Int) := by omega
        have hlt2 : k < (candD s).length := by rw [HLen.out]; exact hlt
        obtain ⟨a, ha⟩ : ∃ a, (candD s)[k] = a := ⟨_, rfl⟩
        have HT := hid (show (candD s).take (k + 1) = (candD s).take k ++ [a] from by rw [List.take_succ_eq_append_getElem hlt2, ha])
        obtain ⟨b, off, hbo, hbS, hc⟩ := (SD.out.on HB.out).2.2 (by omega)
        injection hbo with hbo
        injection hbo with e1 e2 e3
        subst e1
        subst e2
        have hc0 := hc (k * 2) (by omega)
        have hc1 := hc (k * 2 + 1) (by omega)
        have ha2 : (candD s).getD k (0, 0) = a := by rw [← ha]; simp [List.getD, hlt2]
        rw [nth_flat0, ha2, Nat.zero_add] at hc0
        rw [nth_flat1, ha2, Nat.zero_add] at hc1
        clear hc ha2
        by_cases hs0 : s = []
        · have HF := hid (show isText s a = false from by rw [hs0]; rfl)
          have hne : s.isEmpty = true := by rw [hs0]; rfl
          have ha2 := hid ha
          clear ha
          go_wp2
          go_roundw
          case rel => exact ⟨k + 1, by go_num, by omega, hid (by rw [HT.out]; intro b hb; rcases List.mem_append.1 hb with h | h; exact HN.out b h; obtain rfl := List.mem_singleton.1 h; exact HF.out), HB⟩
          case measure => simp [intOf]; omega
        · have hne : s.isEmpty = false := by
            cases s with
            | nil => exact absurd rfl hs0
            | cons => rfl
          have CD := hid (specDeedText_any a.1 a.2 wr)
          obtain ⟨t, ht⟩ : ∃ t, deedB a.1 a.2 = t := ⟨_, rfl⟩
          rw [ht] at CD
          have ha2 := hid ha
          have ht2 := hid ht
          clear ha ht
          by_cases hts : t = s
          · have heq : (t == s) = true := by rw [hts]; exact beq_self_eq_true _
            have HF := hid (show readOut s = some a from by rw [← ha2.out]; exact readOut_some hlt2 HN.out (by rw [ha2.out]; simp [isText, deedP, ht2.out, hts, hs0]))
            go_wp2_with (go_at_call 91; with_reducible refine Calls.mono CD.out ?_; rintro e w5 ⟨rfl, b5⟩; have r50 := (b5.cell (p := ⟨w.heap.size, 0, none⟩) hlr).trans r20; have r51 := (b5.cell (p := ⟨w.heap.size, 1, none⟩) hlr).trans r21; have f50 := (b5.frozen (p := ⟨w.heap.size, 0, none⟩) hlr).trans f20; have f51 := (b5.frozen (p := ⟨w.heap.size, 1, none⟩) hlr).trans f21; have c50 := (b5.cell (p := ⟨w2.heap.size, k * 2, none⟩) hbS).trans hc0; have c51 := (b5.cell (p := ⟨w2.heap.size, k * 2 + 1, none⟩) hbS).trans hc1)
            have q0 := (b5.block _ hlr).trans ((HB.out.block _ LR.out).trans RB.out)
            have q2 := heap_setCell_same _ _ 1 _ _ (.int .i64 a.2) (heap_setCell_same _ _ 0 _ _ (.int .i64 a.1) q0)
            refine bodyPost_ret (results_kk rfl _ _ w.heap.size _ _ _ _ rfl q2 Tryz.underlying39 rfl (by kernel_rfl)) rfl ?_
            exact ⟨by rw [HF.out]; rfl, (((B0.out.trans (B3.out.mono B0.out.size)).trans ((HB.out.trans (b5.mono hzz)).mono (Nat.le_trans B0.out.size B3.out.size))).setCell (Nat.le_refl _) _).setCell (Nat.le_refl _) _⟩
          · have heq : (t == s) = false := by rw [beq_eq_false_iff_ne]; exact hts
            have HF := hid (show isText s a = false from by simp [isText, deedP, ht2.out, hts])
            go_wp2_with (go_at_call 91; with_reducible refine Calls.mono CD.out ?_; rintro e w5 ⟨rfl, b5⟩; have r50 := (b5.cell (p := ⟨w.heap.size, 0, none⟩) hlr).trans r20; have r51 := (b5.cell (p := ⟨w.heap.size, 1, none⟩) hlr).trans r21; have f50 := (b5.frozen (p := ⟨w.heap.size, 0, none⟩) hlr).trans f20; have f51 := (b5.frozen (p := ⟨w.heap.size, 1, none⟩) hlr).trans f21; have c50 := (b5.cell (p := ⟨w2.heap.size, k * 2, none⟩) hbS).trans hc0; have c51 := (b5.cell (p := ⟨w2.heap.size, k * 2 + 1, none⟩) hbS).trans hc1)
            have HB5 := hid (HB.out.trans (b5.mono hzz))
            go_roundw
            case rel => exact ⟨k + 1, by go_num, by omega, hid (by rw [HT.out]; intro b hb; rcases List.mem_append.1 hb with h | h; exact HN.out b h; obtain rfl := List.mem_singleton.1 h; exact HF.out), HB5⟩
            case measure => simp [intOf]; omega
      · have HF := hid (show readOut s = none from readOut_none (by have := HN.out; rwa [List.take_of_length_le (by rw [HLen.out]; omega)] at this))
        have hki : ¬ ((k : Int) < 5) := by omega
        go_wp2
        have q0 := (HB.out.block _ LR.out).trans RB.out
        have q2 := heap_setCell_same _ _ 1 _ _ (.int .i64 0) (heap_setCell_same _ _ 0 _ _ (.int .i64 0) q0)
        refine bodyPost_ret (results_kk rfl _ _ w.heap.size _ _ _ _ rfl q2 Tryz.underlying39 rfl (by kernel_rfl)) rfl ?_
        exact ⟨by rw [HF.out]; rfl, (((B0.out.trans (B3.out.mono B0.out.size)).trans (HB.out.mono (Nat.le_trans B0.out.size B3.out.size))).setCell (Nat.le_refl _) _).setCell (Nat.le_refl _) _⟩
end Go.Proofs.YtkejcajboneniabGreatDoor
namespace Go.Proofs.YtkejcajboneniabGreatDoor
open Go.RowKit

theorem results_bb {P : Program} {fn : Func} {p : Tmp} {ty : TypeId} (h : fn.results = #[.cell p ty]) (tmps : Array Value) (w : World) (g : Nat) (t : TypeId) (cs : Array Value) (fr : Nat × Nat) (d : TypeDesc)
    (hp : tmps.getD p undef = .pointer (some ⟨g, 0, none⟩)) (hg : w.heap[g]? = some (.cells cs t fr))
    (hu : P.underlying ty = some d) (hd : (match d with | .struct _ | .array _ _ => true | _ => false) = true) (hi : (P.info? ty).map (·.size) = some cs.size) :
    (results fn tmps).run P w = .ok (.agg cs) w := by
  have hp' : tmps[p]?.getD undef = .pointer (some ⟨g, 0, none⟩) := by simpa using hp
  simp [results, h, hp', asAddr, run_loadVar_row w g t ty cs fr d hg hu hd hi]

end Go.Proofs.YtkejcajboneniabGreatDoor
namespace Go.Proofs.YtkejcajboneniabGreatDoor
open Go.RowKit

/-- What ReadJournal has read of the first k bytes: the deeds, where it goes on, and whether it has stopped. -/
def jgo (s : List UInt8) : Nat → List (Int × Int) × Nat × Bool
  | 0 => ([], 0, false)
  | k + 1 =>
    if (jgo s k).2.2 = true then jgo s k
    else if bat s k = 10 then
      match readOut (sub s (jgo s k).2.1 k) with
      | none => ((jgo s k).1, (jgo s k).2.1, true)
      | some a => ((jgo s k).1 ++ [a], k + 1, false)
    else jgo s k
def jOut (s : List UInt8) : List (Int × Int) × Nat := ((jgo s s.length).1, (jgo s s.length).2.1)
theorem jgo_stop {s : List UInt8} {k : Nat} (h : (jgo s k).2.2 = true) : ∀ d, jgo s (k + d) = jgo s k
  | 0 => rfl
  | d + 1 => by
    have ih := jgo_stop h d
    rw [← Nat.add_assoc, jgo, ih, if_pos h]
theorem jgo_from (s : List UInt8) : ∀ k, (jgo s k).2.1 ≤ k
  | 0 => Nat.le_refl _
  | k + 1 => by
    have ih := jgo_from s k
    rw [jgo]
    split
    · omega
    split
    · split
      · show (jgo s k).2.1 ≤ k + 1; omega
      · exact Nat.le_refl _
    · omega
theorem own_blk2 {w : World} {B n : Nat} {A : Option Addr} {c : Nat} {e : TypeId} {sz : Nat} {xs : List Value} (h : w.ownsRow B e sz (.slice A n c) n xs) :
    (Value.slice A n c).ownBlock = none ∨ ∃ k, (Value.slice A n c).ownBlock = some k ∧ B ≤ k := by
  rcases hb : (Value.slice A n c).ownBlock with _ | k
  · exact .inl rfl
  · exact .inr ⟨k, rfl, (h.lt k hb).1⟩

theorem own_on2 {w w' : World} {B n : Nat} {v : Value} {e : TypeId} {sz : Nat} {xs : List Value} (h : w.ownsRow B e sz v n xs) (hb : Below w.heap.size w w') : w'.ownsRow B e sz v n xs := by
  refine ⟨h.1, ?_⟩
  rcases h.2 with h2 | ⟨g, cap, cur, h1, h2, h3, h4⟩
  · exact .inl h2
  · refine .inr ⟨g, cap, cur, h1, h2, (hb.block g ?_).trans h3, h4⟩
    rcases Nat.lt_or_ge g w.heap.size with hlt | hge
    · exact hlt
    · rw [Array.getElem?_eq_none hge] at h3; cases h3
theorem ints_flat_snoc (l : List (Int × Int)) (a : Int × Int) : ints (flat l) ++ [.int .i64 a.1, .int .i64 a.2] = ints (flat (l ++ [a])) := by rw [flat_append]; simp [ints, flat]

set_option maxRecDepth 100000 in
set_option maxHeartbeats 1600000 in
theorem specReadJournal_any (s : List UInt8) (hn : s.length ≤ 10000000) (w : World) :
    Calls Tryz.prog 10 #[encStr s] w fun e w' => ∃ A m c, e = .returned (.tuple #[.slice A m c, .int .i64 (jOut s).2]) ∧ w'.ownsRow w.heap.size 39 2 (.slice A m c) m (ints (flat (jOut s).1)) ∧ Below w.heap.size w w' := by
  obtain ⟨i0, hi, hz0, hz1, hz2⟩ := info_parts info_deed
  have hsz : (⟨s.toArray⟩ : ByteArray).size = s.length := by show s.toArray.size = _; simp
  have ho0 : (w.alloc (.cells #[] 39)).ownsRow w.heap.size 39 2 (.slice (some ⟨w.heap.size, 0, none⟩) 0 0) 0 (ints (flat (jgo s 0).1)) := World.ownsRow_lit w #[] 0 (Nat.le_refl _) (by simp [maxLen]) rfl
  have hb0 : Below w.heap.size w (w.alloc (.cells #[] 39)) := (Below.refl _ _).alloc (Nat.le_refl _) _
  go_enter Tryz.func10, Tryz.ntmps10
  go_wp2
  go_loopw [4, 5, 6] (fun v f i wr => ∃ (A1 : Option Addr) (m c1 k : Nat), v = .slice A1 m c1 ∧ f = .int .i64 (jgo s k).2.1 ∧ i = .int .i64 k ∧ k ≤ s.length ∧ m ≤ k ∧ Hid ((jgo s k).2.2 = false) ∧ wr.ownsRow w.heap.size 39 2 (.slice A1 m c1) m (ints (flat (jgo s k).1)) ∧ Hid (Below w.heap.size w wr)) (fun _ _ i _ => s.length - (intOf i).toNat)
  case atStart => exact ⟨_, 0, _, 0, rfl, rfl, rfl, Nat.zero_le _, Nat.le_refl _, hid rfl, ho0, hid hb0⟩
  case round =>
    clear ho0 hb0
    obtain ⟨A1, m, c1, k, rfl, rfl, rfl, hk, hmk, HS, ho, HB⟩ := hrel
    have hf := jgo_from s k
    by_cases hlt : k < s.length
    · have hlti : (k : Int) < (s.length : Int) := by omega
      have hk0 : (0 : Int) ≤ (k : Int) := by omega
      have hxk : ∀ h : k < (⟨s.toArray⟩ : ByteArray).size, (⟨s.toArray⟩ : ByteArray)[k]'h = bat s k := fun _ => bat_lt hlt
      by_cases hp : bat s k = 10
      · have hq : (((bat s k).toNat : Int) == 10) = true := by rw [hp]; rfl
        obtain ⟨f, hf2⟩ : ∃ f, (jgo s k).2.1 = f := ⟨_, rfl⟩
        obtain ⟨l, hl⟩ : ∃ l, (jgo s k).1 = l := ⟨_, rfl⟩
        obtain ⟨t, ht⟩ : ∃ t, sub s f k = t := ⟨_, rfl⟩
        have hsub := sub_str s f k
        rw [ht] at hsub
        have HJ := hid (show jgo s (k + 1) = match readOut t with | none => (l, f, true) | some a => (l ++ [a], k + 1, false) from by rw [jgo, if_neg (by rw [HS.out]; decide), if_pos hp, hf2, hl, ht])
        rw [hf2] at hf ⊢
        rw [hl] at ho
        have hfi : (f : Int) ≤ (k : Int) := by omega
        have hf0 : (0 : Int) ≤ (f : Int) := by omega
        have hki : (k : Int) ≤ (s.length : Int) := by omega
        have CR := hid (specReadDeed_any t (by rw [← ht]; exact Nat.le_trans (sub_len _ _ _) hn) wr)
        have hv := own_blk2 ho
        clear hf2 hl ht
        cases hr : readOut t with
        | none =>
          rw [hr] at CR HJ
          have HJ2 := hid (show jOut s = (l, f) from by
            have h1 : (jgo s (k + 1)).2.2 = true := by rw [HJ.out]
            have h2 := jgo_stop h1 (s.length - (k + 1))
            rw [show k + 1 + (s.length - (k + 1)) = s.length by omega] at h2
            unfold jOut
            rw [h2, HJ.out])
          have CR2 : Hid (Calls Tryz.prog 46 #[encStr t] wr fun e w' => e = .returned (.tuple #[.agg #[.int .i64 0, .int .i64 0], .bool false]) ∧ Below wr.heap.size wr w') := CR
          clear CR
          have CR := CR2
          go_wp2_with (go_at_call 46; with_reducible refine Calls.mono CR.out ?_; rintro e w5 ⟨rfl, b5⟩)
          go_ret2
          exact ⟨A1, m, c1, by rw [HJ2.out]; rfl, by rw [HJ2.out]; exact (own_on2 ho b5).alloc _, (HB.out.trans (b5.mono HB.out.size)).alloc (Nat.le_trans HB.out.size b5.size) _⟩
        | some a =>
          rw [hr] at CR HJ
          have CR2 : Hid (Calls Tryz.prog 46 #[encStr t] wr fun e w' => e = .returned (.tuple #[.agg #[.int .i64 a.1, .int .i64 a.2], .bool true]) ∧ Below wr.heap.size wr w') := CR
          clear CR
          have CR := CR2
          go_wp2_with (first | (go_at_call 46; with_reducible refine Calls.mono CR.out ?_; rintro e w5 ⟨rfl, b5⟩; obtain ⟨W6, hW6⟩ : ∃ W6, (w5.alloc (.cells #[.int .i64 a.1, .int .i64 a.2] 39)) = W6 := ⟨_, rfl⟩; have hz6 : w5.heap.size ≤ W6.heap.size := (by rw [← hW6]; simp); have c60 : W6.cell? ⟨w5.heap.size, 0, none⟩ = some (.int .i64 a.1) := (by rw [← hW6]; simp); have c61 : W6.cell? ⟨w5.heap.size, 1, none⟩ = some (.int .i64 a.2) := (by rw [← hW6]; simp); have b6 : Below w.heap.size w W6 := (by rw [← hW6]; exact (HB.out.trans (b5.mono HB.out.size)).alloc (Nat.le_trans HB.out.size b5.size) _); have o6 : W6.ownsRow w.heap.size 39 2 (.slice A1 m c1) m (ints (flat l)) := (by rw [← hW6]; exact (own_on2 ho b5).alloc _)) | (at_builtin; refine wpList_append_own _ rfl _ _ 24 rfl w.heap.size 39 i0 (deedV (0, 0)) 2 16 Tryz.underlying24 hi hz0 hz1 hz2 rfl (by decide) (.slice A1 m c1) _ _ rfl (o6.alloc _) ⟨W6.heap.size, 0, none⟩ 1 1 [.int .i64 a.1, .int .i64 a.2] rfl rfl (cells_new _ [.int .i64 a.1, .int .i64 a.2] _) (by simp [Value.oneCell']) (by simp only [maxLen]; omega) (by omega) (by have := b6.size; simp; omega) ?_; intro v2 w2 o2 g2 _))
          obtain ⟨g, c2, rfl, hbg, hlt2⟩ := own_shape1 o2 (by omega)
          have B2 := hid (grew b6 (Nat.le_refl _) hv g2)
          have O2 := hid (show w2.ownsRow w.heap.size 39 2 (.slice (some ⟨g, 0, none⟩) (m + 1) c2) (m + 1) (ints (flat (l ++ [a]))) from by rw [← ints_flat_snoc]; exact o2)
          go_roundw
          case rel => exact ⟨_, m + 1, c2, k + 1, rfl, by rw [HJ.out]; go_num, by go_num, by omega, by omega, hid (by rw [HJ.out]), by rw [HJ.out]; exact O2.out, B2⟩
          case measure => simp [intOf]; omega
      · have hq : (((bat s k).toNat : Int) == 10) = false := by
          have : (bat s k).toNat ≠ 10 := fun h => hp (UInt8.toNat_inj.1 h)
          simp; omega
        have HJ := hid (show jgo s (k + 1) = jgo s k from by rw [jgo, if_neg (by rw [HS.out]; decide), if_neg hp])
        have HO := hid ho
        go_wp2
        go_roundw
        case rel => exact ⟨A1, m, c1, k + 1, rfl, by rw [HJ.out], by go_num, by omega, by omega, by rw [HJ.out]; exact HS, by rw [HJ.out]; exact HO.out, HB⟩
        case measure => simp [intOf]; omega
    · obtain rfl : k = s.length := by omega
      have HO := hid ho
      clear ho
      go_wp2
      go_ret2
      exact ⟨A1, m, c1, rfl, HO.out, HB.out⟩
end Go.Proofs.YtkejcajboneniabGreatDoor
namespace Go.Proofs.YtkejcajboneniabGreatDoor
open Go.RowKit

theorem madeDeeds (n : Nat) : (madeCells (deedV (0, 0)).cells (n * 2)).toList = ints (List.replicate (n * 2) 0) := by
  simp only [madeCells, deedV, Value.cells, ints, List.map_replicate]
  apply List.ext_getElem?
  intro j
  by_cases h : j < n * 2
  · rcases Nat.mod_two_eq_zero_or_one j with h2 | h2 <;> simp [h, h2]
  · simp [show n * 2 ≤ j from by omega]
theorem own_cell2 {w : World} {base g n c j : Nat} {e : TypeId} {l : List Int} (h : w.ownsRow base e 2 (.slice (some ⟨g, 0, none⟩) n c) n (ints l)) (hl : l.length = n * 2) (hj : j < n * 2) :
    w.cell? ⟨g, j, none⟩ = some (.int .i64 (nth l j)) := by
  rw [h.cellAt j (by omega)]
  simp [nth, List.getD, show j < l.length from by omega]
theorem flat_len2 (l : List (Int × Int)) : (flat l).length = l.length * 2 := by rw [flat_len]; omega

end Go.Proofs.YtkejcajboneniabGreatDoor
namespace Go.Proofs.YtkejcajboneniabGreatDoor
open Go.RowKit

def num2 (n : Nat) : List UInt8 := if n < 10 then [digB n] else [digB (n / 10), digB (n % 10)]
theorem numB_two {n : Nat} (h : n < 100) : numB n = num2 n := by
  unfold num2
  by_cases h1 : n < 10
  · rw [numB_lt h1, if_pos h1]
  · rw [numB_ge h1, numB_lt (by omega), if_neg h1]; rfl
set_option maxRecDepth 100000 in
theorem cut_flip : ∀ n : Fin 100, cutB (flipB ++ num2 n.val) 32 = [[102, 108, 105, 112], num2 n.val] := by decide
set_option maxRecDepth 100000 in
theorem cut_round : ∀ n : Fin 100, cutB (roundB ++ num2 n.val) 32 = [[114, 111, 117, 110, 100], num2 n.val] := by decide
set_option maxRecDepth 100000 in
theorem digits_num : ∀ n : Fin 100, digitsOut (num2 n.val) = (n.val : Int) := by decide
set_option maxRecDepth 100000 in
theorem flip_plain : ∀ n : Fin 100, ∀ a ∈ plainD, isText (flipB ++ num2 n.val) a = false := by decide
set_option maxRecDepth 100000 in
theorem round_plain : ∀ n : Fin 100, ∀ a ∈ plainD, isText (roundB ++ num2 n.val) a = false := by decide
theorem deedP_flip {q : Nat} (h : q < 100) : deedP (3, (q : Int)) = flipB ++ num2 q := by
  have hw : within (q : Int) 0 99 = true := within_iff.2 ⟨by omega, by omega⟩
  unfold deedP deedB
  rw [if_pos ⟨rfl, hw⟩, Int.toNat_natCast, numB_two h]
theorem deedP_round {q : Nat} (h : q < 100) : deedP (4, (q : Int)) = roundB ++ num2 q := by
  have hw : within (q : Int) 0 99 = true := within_iff.2 ⟨by omega, by omega⟩
  unfold deedP deedB
  rw [if_neg (fun h => absurd (show (4 : Int) = 3 from h.1) (by decide)), if_pos ⟨rfl, hw⟩, Int.toNat_natCast, numB_two h]
theorem read_flip {q : Nat} (h : q < 100) : readOut (flipB ++ num2 q) = some (3, (q : Int)) := by
  have h1 := cut_flip ⟨q, h⟩
  have h2 := digits_num ⟨q, h⟩
  have h3 := flip_plain ⟨q, h⟩
  simp only at h1 h2 h3
  have hc : candD (flipB ++ num2 q) = plainD ++ [(3, (q : Int)), (4, (q : Int))] := by
    unfold candD
    rw [h1, if_pos (by rfl)]
    show plainD ++ [(3, digitsOut (num2 q)), (4, digitsOut (num2 q))] = _
    rw [h2]
  have ht : isText (flipB ++ num2 q) (3, (q : Int)) = true := by
    unfold isText
    rw [deedP_flip h]
    simp [flipB]
  unfold readOut
  rw [hc, List.find?_append, List.find?_eq_none.2 (by simpa using h3)]
  simp [ht]
theorem read_round {q : Nat} (h : q < 100) : readOut (roundB ++ num2 q) = some (4, (q : Int)) := by
  have h1 := cut_round ⟨q, h⟩
  have h2 := digits_num ⟨q, h⟩
  have h3 := round_plain ⟨q, h⟩
  simp only at h1 h2 h3
  have hc : candD (roundB ++ num2 q) = plainD ++ [(3, (q : Int)), (4, (q : Int))] := by
    unfold candD
    rw [h1, if_pos (by rfl)]
    show plainD ++ [(3, digitsOut (num2 q)), (4, digitsOut (num2 q))] = _
    rw [h2]
  have hf : isText (roundB ++ num2 q) (3, (q : Int)) = false := by
    unfold isText
    rw [deedP_flip h]
    simp [flipB, roundB]
  have ht : isText (roundB ++ num2 q) (4, (q : Int)) = true := by
    unfold isText
    rw [deedP_round h]
    simp [roundB]
  unfold readOut
  rw [hc, List.find?_append, List.find?_eq_none.2 (by simpa using h3)]
  simp [ht, hf]
/-- What a text of a deed can be. -/
theorem deedB_form (k n : Int) : (∃ q : Nat, q < 100 ∧ n = q ∧ k = 3 ∧ deedB k n = flipB ++ num2 q) ∨ (∃ q : Nat, q < 100 ∧ n = q ∧ k = 4 ∧ deedB k n = roundB ++ num2 q) ∨
    (n = 0 ∧ ((k = 0 ∧ deedB k n = sumsB) ∨ (k = 1 ∧ deedB k n = carsB) ∨ (k = 2 ∧ deedB k n = votesB) ∨ (k = 5 ∧ deedB k n = freeB) ∨ (k = 6 ∧ deedB k n = backB))) ∨ deedB k n = [] := by
  by_cases h3 : k = 3 ∧ within n 0 99 = true
  · have hb := within_iff.1 h3.2
    obtain ⟨q, rfl⟩ : ∃ q : Nat, n = q := Int.eq_ofNat_of_zero_le hb.1
    obtain ⟨rfl, -⟩ := h3
    exact .inl ⟨q, by omega, rfl, rfl, deedP_flip (by omega)⟩
  by_cases h4 : k = 4 ∧ within n 0 99 = true
  · have hb := within_iff.1 h4.2
    obtain ⟨q, rfl⟩ : ∃ q : Nat, n = q := Int.eq_ofNat_of_zero_le hb.1
    obtain ⟨rfl, -⟩ := h4
    exact .inr (.inl ⟨q, by omega, rfl, rfl, deedP_round (by omega)⟩)
  by_cases h0 : k = 0 ∧ n = 0
  · obtain ⟨rfl, rfl⟩ := h0; exact .inr (.inr (.inl ⟨rfl, .inl ⟨rfl, rfl⟩⟩))
  by_cases h1 : k = 1 ∧ n = 0
  · obtain ⟨rfl, rfl⟩ := h1; exact .inr (.inr (.inl ⟨rfl, .inr (.inl ⟨rfl, rfl⟩)⟩))
  by_cases h2 : k = 2 ∧ n = 0
  · obtain ⟨rfl, rfl⟩ := h2; exact .inr (.inr (.inl ⟨rfl, .inr (.inr (.inl ⟨rfl, rfl⟩))⟩))
  by_cases h5 : k = 5 ∧ n = 0
  · obtain ⟨rfl, rfl⟩ := h5; exact .inr (.inr (.inl ⟨rfl, .inr (.inr (.inr (.inl ⟨rfl, rfl⟩)))⟩))
  by_cases h6 : k = 6 ∧ n = 0
  · obtain ⟨rfl, rfl⟩ := h6; exact .inr (.inr (.inl ⟨rfl, .inr (.inr (.inr (.inr ⟨rfl, rfl⟩)))⟩))
  refine .inr (.inr (.inr ?_))
  unfold deedB
  rw [if_neg h3, if_neg h4, if_neg h0, if_neg h1, if_neg h2, if_neg h5, if_neg h6]
set_option maxRecDepth 100000 in
theorem read_deed (a : Int × Int) (h : deedP a ≠ []) : readOut (deedP a) = some a := by
  obtain ⟨k, n⟩ := a
  unfold deedP at h ⊢
  simp only at h ⊢
  rcases deedB_form k n with ⟨q, hq, rfl, rfl, e⟩ | ⟨q, hq, rfl, rfl, e⟩ | ⟨rfl, ⟨rfl, e⟩ | ⟨rfl, e⟩ | ⟨rfl, e⟩ | ⟨rfl, e⟩ | ⟨rfl, e⟩⟩ | e
  · rw [e]; exact read_flip hq
  · rw [e]; exact read_round hq
  · rw [e]; decide
  · rw [e]; decide
  · rw [e]; decide
  · rw [e]; decide
  · rw [e]; decide
  · exact absurd e h
theorem read_text {s : List UInt8} {a : Int × Int} (h : readOut s = some a) : deedP a = s ∧ s ≠ [] := by
  have := List.find?_some h
  simp only [isText, Bool.and_eq_true, bne_iff_ne, beq_iff_eq] at this
  exact ⟨this.2, this.1⟩
end Go.Proofs.YtkejcajboneniabGreatDoor
namespace Go.Proofs.YtkejcajboneniabGreatDoor
open Go.RowKit

end Go.Proofs.YtkejcajboneniabGreatDoor
