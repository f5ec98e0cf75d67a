/-
  The walk of the model's ReadDeed. No statement is proved here.
-/
import Derived.Test.YtkejcajboneniabDoorT12d
import Derived.Test.YtkejcajboneniabDoorT12e
import Derived.Below
import Derived.Handy
namespace Go.Proofs.YtkejcajboneniabDoor
open Go.RowKit
set_option linter.unusedVariables false
set_option linter.unusedSimpArgs false

def plainD : List (Int × Int) := [(0, 0), (1, 0), (2, 0), (5, 0), (6, 0)]
/-- The deeds that ReadDeed tries. -/
def candD (s : List UInt8) : List (Int × Int) :=
  if (cutB s 32).length = 2 then plainD ++ [(3, digitsOut ((cutB s 32).getD 1 [])), (4, digitsOut ((cutB s 32).getD 1 []))] else plainD
def isText (s : List UInt8) (a : Int × Int) : Bool := s != [] && deedP a == s
/-- What ReadDeed gives. -/
def readOut (s : List UInt8) : Option (Int × Int) := (candD s).find? (isText s)
def deedV (a : Int × Int) : Value := .agg #[.int .i64 a.1, .int .i64 a.2]
def readV : Option (Int × Int) → Value
  | some a => .tuple #[deedV a, .bool true]
  | none => .tuple #[deedV (0, 0), .bool false]
theorem info_deed : (Tryd.prog.info? 42).map (fun i => (i.zero, i.size, i.bytes)) = some (some (deedV (0, 0)), 2, 16) := by kernel_rfl

section
variable {P : Program} {fn : Func} {p u : Tmp} {ty : TypeId}
theorem results_kk (h : fn.results = #[.cell p ty, .tmp u]) (tmps : Array Value) (w : World) (g : Nat) (t : TypeId) (cs : Array Value) (fr : Nat × Nat) (d : TypeDesc)
    (hp : tmps.getD p undef = .pointer (some ⟨g, 0, none⟩)) (hg : w.heap[g]? = some (.cells cs t fr))
    (hu : P.underlying ty = some d) (hd : (match d with | .struct _ | .array _ _ => true | _ => false) = true) (hi : (P.info? ty).map (·.size) = some cs.size) :
    (results fn tmps).run P w = .ok (.tuple #[.agg cs, tmps.getD u undef]) w := by
  have hp' : tmps[p]?.getD undef = .pointer (some ⟨g, 0, none⟩) := by simpa using hp
  simp [results, h, hp', asAddr, run_loadVar_row w g t ty cs fr d hg hu hd hi]
end
theorem own_len {w : World} {B n : Nat} {e : TypeId} {v : Value} {l : List (List UInt8)} (h : w.ownsRow B e 1 v n (strs l)) : n = l.length := by
  have := h.1
  simpa [strs] using this.symm
theorem cutD_mem (s : List UInt8) (p : UInt8) : ∀ k, ∀ x ∈ cutD s p k, x.length ≤ s.length
  | 0 => by intro x hx; simp [cutD] at hx
  | k + 1 => by
    intro x hx
    unfold cutD at hx
    split at hx
    · rcases List.mem_append.1 hx with h | h
      · exact cutD_mem s p k x h
      · obtain rfl := List.mem_singleton.1 h
        exact sub_len _ _ _
    · exact cutD_mem s p k x hx
theorem cutB_mem (s : List UInt8) (p : UInt8) : ∀ x ∈ cutB s p, x.length ≤ s.length := by
  intro x hx
  unfold cutB at hx
  rcases List.mem_append.1 hx with h | h
  · exact cutD_mem s p _ x h
  · obtain rfl := List.mem_singleton.1 h
    exact sub_len _ _ _
theorem readOut_some {s : List UInt8} {k : Nat} (hk : k < (candD s).length) (hn : ∀ a ∈ (candD s).take k, isText s a = false) (h : isText s (candD s)[k] = true) : readOut s = some (candD s)[k] := by
  unfold readOut
  have e : candD s = (candD s).take k ++ (candD s)[k] :: (candD s).drop (k + 1) := by rw [← List.drop_eq_getElem_cons hk, List.take_append_drop]
  generalize hx : (candD s)[k] = x at *
  rw [e, List.find?_append, List.find?_eq_none.2 (by simpa using hn)]
  simp [h]
theorem readOut_none {s : List UInt8} (hn : ∀ a ∈ candD s, isText s a = false) : readOut s = none := List.find?_eq_none.2 (by simpa using hn)

set_option maxRecDepth 100000 in
set_option maxHeartbeats 1600000 in
theorem specReadDeed_any (s : List UInt8) (hn : s.length ≤ 10000000) (w : World) :
    Calls Tryd.prog 30 #[encStr s] w fun e w' => e = .returned (readV (readOut s)) ∧ Below w.heap.size w w' := by
  obtain ⟨i0, hi, hz0, hz1, hz2⟩ := info_parts info_deed
  obtain ⟨W1, hW1⟩ : ∃ W1, (w.alloc (.cells #[.int .i64 0, .int .i64 0] 42)) = W1 := ⟨_, rfl⟩
  have B0 := hid (show Below w.heap.size w W1 from by rw [← hW1]; exact (Below.refl w.heap.size w).alloc (Nat.le_refl _) _)
  have r0 : W1.cell? ⟨w.heap.size, 0, none⟩ = some (.int .i64 0) := by rw [← hW1]; simp
  have r1 : W1.cell? ⟨w.heap.size, 1, none⟩ = some (.int .i64 0) := by rw [← hW1]; simp
  have f0 : W1.frozen? ⟨w.heap.size, 0, none⟩ = false := by rw [← hW1]; simp
  have f1 : W1.frozen? ⟨w.heap.size, 1, none⟩ = false := by rw [← hW1]; simp
  have hl1 : w.heap.size < W1.heap.size := by rw [← hW1]; simp
  have rb : W1.heap[w.heap.size]? = some (.cells #[.int .i64 0, .int .i64 0] 42 (0, 0)) := by rw [← hW1]; exact heap_alloc_new w _
  have CC := hid (show Calls Tryd.prog 43 #[encStr s, .int .u8 32] W1 _ from cut_any s 32 hn W1)
  by_cases h2 : (cutB s 32).length = 2

  · obtain ⟨x0, x1, hxx⟩ : ∃ x0 x1, cutB s 32 = [x0, x1] := by
      rcases h : cutB s 32 with _ | ⟨a, _ | ⟨b, _ | ⟨c, l⟩⟩⟩
      · rw [h] at h2; simp at h2
      · rw [h] at h2; simp at h2
      · exact ⟨a, b, rfl⟩
      · rw [h] at h2; simp at h2
    have HC := hid (show candD s = plainD ++ [(3, digitsOut x1), (4, digitsOut x1)] from by unfold candD; rw [if_pos h2, hxx]; rfl)
    have HLen := hid (show (candD s).length = 7 from by rw [HC.out]; rfl)
    rw [hxx] at CC
    have hx1 : x1.length ≤ 10000000 := Nat.le_trans (cutB_mem s 32 x1 (by rw [hxx]; simp)) hn
    have CG := hid (fun W => digits_any x1 (by simp only [maxLen]; omega) W)
    obtain ⟨q, hq⟩ : ∃ q, digitsOut x1 = q := ⟨_, rfl⟩
    rw [hq] at CG HC
    go_enter Tryd.func30, Tryd.ntmps30
    go_wp2_with fail
    with_reducible refine Calls.mono CC.out ?_
    rintro e w2 ⟨A, m, c, rfl, o2, b2⟩
    obtain rfl : m = 2 := own_len o2
    obtain ⟨g1, c1, hs1, hg1, hl2⟩ := own_shape1 o2 (by omega)
    injection hs1 with e1 e2 e3
    subst e1
    clear e2 e3
    obtain ⟨W2, hW2⟩ : ∃ W2, (w2.alloc (.cells #[.int .i64 0, .int .i64 0, .int .i64 1, .int .i64 0, .int .i64 2, .int .i64 0, .int .i64 5, .int .i64 0, .int .i64 6, .int .i64 0] 42)) = W2 := ⟨_, rfl⟩
    have b3 : Below w2.heap.size w2 W2 := by rw [← hW2]; exact (Below.refl w2.heap.size w2).alloc (Nat.le_refl _) _
    have hcw : W2.cell? ⟨g1, 1, none⟩ = some (encStr x1) := (b3.cell (p := ⟨g1, 1, none⟩) hl2).trans (o2.cellAt 1 (by omega))
    have o3 : W2.ownsRow w2.heap.size 42 2 (.slice (some ⟨w2.heap.size, 0, none⟩) 5 5) 5 [.int .i64 0, .int .i64 0, .int .i64 1, .int .i64 0, .int .i64 2, .int .i64 0, .int .i64 5, .int .i64 0, .int .i64 6, .int .i64 0] := by rw [← hW2]; exact World.ownsRow_lit w2 #[.int .i64 0, .int .i64 0, .int .i64 1, .int .i64 0, .int .i64 2, .int .i64 0, .int .i64 5, .int .i64 0, .int .i64 6, .int .i64 0] 5 (Nat.le_refl _) (by simp [maxLen]) rfl
    have hz23 := b3.size
    go_wp2_with (first | (go_at_call 44; refine (CG.out _).mono ?_; rintro e w' ⟨rfl, rfl⟩) | (at_builtin; refine wpList_append_own _ rfl _ _ 23 rfl w2.heap.size 42 i0 (deedV (0, 0)) 2 16 Tryd.underlying23 hi hz0 hz1 hz2 rfl (by decide) (.slice (some ⟨w2.heap.size, 0, none⟩) 5 5) _ _ rfl (o3.alloc _) ⟨W2.heap.size, 0, none⟩ 2 2 [.int .i64 3, .int .i64 q, .int .i64 4, .int .i64 q] rfl rfl (cells_new _ [.int .i64 3, .int .i64 q, .int .i64 4, .int .i64 q] _) (by simp [Value.oneCell']) (by simp only [maxLen]; omega) (by omega) (by simp; omega) ?_; intro v2 W3 o4 g4 _))
    obtain ⟨g, c2, rfl, hbg, hlt2⟩ := own_shape1 (m := 7) o4 (by omega)
    have hz22 : W1.heap.size ≤ w2.heap.size := b2.size
    have B3 := hid (show Below W1.heap.size W1 W3 from ((b2.trans (b3.mono hz22)).alloc (by omega) _).grown g4 (by simp; omega) (by intro k hk; simp [Value.ownBlock] at hk; omega))
    have SD : Hid (SlD W3 W3.heap.size (some ⟨g, 0, none⟩) 7 (candD s)) := hid (SlD.of_own (base := w2.heap.size) (e := 42) (c := c2) (by rw [HC.out]; exact o4))
    have R0 := hid ((B3.out.cell (p := ⟨w.heap.size, 0, none⟩) hl1).trans r0)
    have R1 := hid ((B3.out.cell (p := ⟨w.heap.size, 1, none⟩) hl1).trans r1)
    have G0 := hid ((B3.out.frozen (p := ⟨w.heap.size, 0, none⟩) hl1).trans f0)
    have G1 := hid ((B3.out.frozen (p := ⟨w.heap.size, 1, none⟩) hl1).trans f1)
    have RB := hid ((B3.out.block _ hl1).trans rb)
    have LR := hid (Nat.lt_of_lt_of_le hl1 B3.out.size)
    have HW := hid hW1
    clear hW1 r0 r1 f0 f1 rb hW2 o2 o3 o4 g4 b2 b3 hcw hxx hq CC CG hbg hlt2 hg1 hl2

    go_loopw [7] (fun i wr => ∃ k : Nat, i = .int .i64 k ∧ k ≤ 7 ∧ Hid (∀ a ∈ (candD s).take k, isText s a = false) ∧ Hid (Below W3.heap.size W3 wr)) (fun i _ => 7 - (intOf i).toNat)
    case atStart => exact ⟨0, rfl, Nat.zero_le _, hid (fun a ha => by simp at ha), hid (Below.refl _ _)⟩
    case round =>
      obtain ⟨k, rfl, hk, HN, HB⟩ := hrel
      have hzz := HB.out.size
      have hlr : w.heap.size < wr.heap.size := Nat.lt_of_lt_of_le LR.out hzz
      have r20 := (HB.out.cell (p := ⟨w.heap.size, 0, none⟩) LR.out).trans R0.out
      have r21 := (HB.out.cell (p := ⟨w.heap.size, 1, none⟩) LR.out).trans R1.out
      have f20 := (HB.out.frozen (p := ⟨w.heap.size, 0, none⟩) LR.out).trans G0.out
      have f21 := (HB.out.frozen (p := ⟨w.heap.size, 1, none⟩) LR.out).trans G1.out
      by_cases hlt : k < 7
      · have hlti : (k : Int) < 7 := by omega
        have hk0 : (0 : Int) ≤ (k : Int) := by omega
        have hlt2 : k < (candD s).length := by rw [HLen.out]; exact hlt
        obtain ⟨a, ha⟩ : ∃ a, (candD s)[k] = a := ⟨_, rfl⟩
        have HT := hid (show (candD s).take (k + 1) = (candD s).take k ++ [a] from by rw [List.take_succ_eq_append_getElem hlt2, ha])
        obtain ⟨b, off, hbo, hbS, hc⟩ := (SD.out.on HB.out).2.2 (by omega)
        injection hbo with hbo
        injection hbo with e1 e2 e3
        subst e1
        subst e2
        have hc0 := hc (k * 2) (by omega)
        have hc1 := hc (k * 2 + 1) (by omega)
        have ha2 : (candD s).getD k (0, 0) = a := by rw [← ha]; simp [List.getD, hlt2]
        rw [nth_flat0, ha2, Nat.zero_add] at hc0
        rw [nth_flat1, ha2, Nat.zero_add] at hc1
        clear hc ha2
        by_cases hs0 : s = []
        · have HF := hid (show isText s a = false from by rw [hs0]; rfl)
          have hne : s.isEmpty = true := by rw [hs0]; rfl
          have ha2 := hid ha
          clear ha
          go_wp2
          go_roundw
          case rel => exact ⟨k + 1, by go_num, by omega, hid (by rw [HT.out]; intro b hb; rcases List.mem_append.1 hb with h | h; exact HN.out b h; obtain rfl := List.mem_singleton.1 h; exact HF.out), HB⟩
          case measure => simp [intOf]; omega
        · have hne : s.isEmpty = false := by
            cases s with
            | nil => exact absurd rfl hs0
            | cons => rfl
          have CD := hid (specDeedText_any a.1 a.2 wr)
          obtain ⟨t, ht⟩ : ∃ t, deedB a.1 a.2 = t := ⟨_, rfl⟩
          rw [ht] at CD
          have ha2 := hid ha
          have ht2 := hid ht
          clear ha ht
          by_cases hts : t = s
          · have heq : (t == s) = true := by rw [hts]; exact beq_self_eq_true _
            have HF := hid (show readOut s = some a from by rw [← ha2.out]; exact readOut_some hlt2 HN.out (by rw [ha2.out]; simp [isText, deedP, ht2.out, hts, hs0]))
            go_wp2_with (go_at_call 24; with_reducible refine Calls.mono CD.out ?_; rintro e w5 ⟨rfl, b5⟩; have r50 := (b5.cell (p := ⟨w.heap.size, 0, none⟩) hlr).trans r20; have r51 := (b5.cell (p := ⟨w.heap.size, 1, none⟩) hlr).trans r21; have f50 := (b5.frozen (p := ⟨w.heap.size, 0, none⟩) hlr).trans f20; have f51 := (b5.frozen (p := ⟨w.heap.size, 1, none⟩) hlr).trans f21; have c50 := (b5.cell (p := ⟨g, k * 2, none⟩) hbS).trans hc0; have c51 := (b5.cell (p := ⟨g, k * 2 + 1, none⟩) hbS).trans hc1)
            have q0 := (b5.block _ hlr).trans ((HB.out.block _ LR.out).trans RB.out)
            have q2 := heap_setCell_same _ _ 1 _ _ (.int .i64 a.2) (heap_setCell_same _ _ 0 _ _ (.int .i64 a.1) q0)
            refine bodyPost_ret (results_kk rfl _ _ w.heap.size _ _ _ _ rfl q2 Tryd.underlying42 rfl (by kernel_rfl)) rfl ?_
            exact ⟨by rw [HF.out]; rfl, (((B0.out.trans (B3.out.mono B0.out.size)).trans ((HB.out.trans (b5.mono hzz)).mono (Nat.le_trans B0.out.size B3.out.size))).setCell (Nat.le_refl _) _).setCell (Nat.le_refl _) _⟩
          · have heq : (t == s) = false := by rw [beq_eq_false_iff_ne]; exact hts
            have HF := hid (show isText s a = false from by simp [isText, deedP, ht2.out, hts])
            go_wp2_with (go_at_call 24; with_reducible refine Calls.mono CD.out ?_; rintro e w5 ⟨rfl, b5⟩; have r50 := (b5.cell (p := ⟨w.heap.size, 0, none⟩) hlr).trans r20; have r51 := (b5.cell (p := ⟨w.heap.size, 1, none⟩) hlr).trans r21; have f50 := (b5.frozen (p := ⟨w.heap.size, 0, none⟩) hlr).trans f20; have f51 := (b5.frozen (p := ⟨w.heap.size, 1, none⟩) hlr).trans f21; have c50 := (b5.cell (p := ⟨g, k * 2, none⟩) hbS).trans hc0; have c51 := (b5.cell (p := ⟨g, k * 2 + 1, none⟩) hbS).trans hc1)
            have HB5 := hid (HB.out.trans (b5.mono hzz))
            go_roundw
            case rel => exact ⟨k + 1, by go_num, by omega, hid (by rw [HT.out]; intro b hb; rcases List.mem_append.1 hb with h | h; exact HN.out b h; obtain rfl := List.mem_singleton.1 h; exact HF.out), HB5⟩
            case measure => simp [intOf]; omega
      · have HF := hid (show readOut s = none from readOut_none (by have := HN.out; rwa [List.take_of_length_le (by rw [HLen.out]; omega)] at this))
        have hki : ¬ ((k : Int) < 7) := by omega
        go_wp2
        have q0 := (HB.out.block _ LR.out).trans RB.out
        have q2 := heap_setCell_same _ _ 1 _ _ (.int .i64 0) (heap_setCell_same _ _ 0 _ _ (.int .i64 0) q0)
        refine bodyPost_ret (results_kk rfl _ _ w.heap.size _ _ _ _ rfl q2 Tryd.underlying42 rfl (by kernel_rfl)) rfl ?_
        exact ⟨by rw [HF.out]; rfl, (((B0.out.trans (B3.out.mono B0.out.size)).trans (HB.out.mono (Nat.le_trans B0.out.size B3.out.size))).setCell (Nat.le_refl _) _).setCell (Nat.le_refl _) _⟩
  · have HC := hid (show candD s = plainD from by unfold candD; rw [if_neg h2])
    have HLen := hid (show (candD s).length = 5 from by rw [HC.out]; rfl)
    have h2i : (((cutB s 32).length : Int) == 2) = false := by simp; omega
    go_enter Tryd.func30, Tryd.ntmps30
    go_wp2_with (go_at_call 43; with_reducible refine Calls.mono CC.out ?_; rintro e w2 ⟨A, m, c, rfl, o2, b2⟩; obtain rfl := own_len o2)
    obtain ⟨W3, hW3⟩ : ∃ W3, (w2.alloc (.cells #[.int .i64 0, .int .i64 0, .int .i64 1, .int .i64 0, .int .i64 2, .int .i64 0, .int .i64 5, .int .i64 0, .int .i64 6, .int .i64 0] 42)) = W3 := ⟨_, rfl⟩
    have B3 := hid (show Below W1.heap.size W1 W3 from by rw [← hW3]; exact b2.alloc b2.size _)
    have SD : Hid (SlD W3 W3.heap.size (some ⟨w2.heap.size, 0, none⟩) 5 (candD s)) := hid (by
      rw [← hW3, HC.out]
      exact SlD.of_own (World.ownsRow_lit (base := 0) (e := 42) (size := 2) w2 #[.int .i64 0, .int .i64 0, .int .i64 1, .int .i64 0, .int .i64 2, .int .i64 0, .int .i64 5, .int .i64 0, .int .i64 6, .int .i64 0] 5 (Nat.zero_le _) (by simp [maxLen]) rfl))
    have R0 := hid ((B3.out.cell (p := ⟨w.heap.size, 0, none⟩) hl1).trans r0)
    have R1 := hid ((B3.out.cell (p := ⟨w.heap.size, 1, none⟩) hl1).trans r1)
    have G0 := hid ((B3.out.frozen (p := ⟨w.heap.size, 0, none⟩) hl1).trans f0)
    have G1 := hid ((B3.out.frozen (p := ⟨w.heap.size, 1, none⟩) hl1).trans f1)
    have RB := hid ((B3.out.block _ hl1).trans rb)
    have LR := hid (Nat.lt_of_lt_of_le hl1 B3.out.size)
    have HW := hid hW1
    rw [hW3]
    clear hW3 hW1 r0 r1 f0 f1 o2 b2
    go_loopw [7] (fun i wr => ∃ k : Nat, i = .int .i64 k ∧ k ≤ 5 ∧ Hid (∀ a ∈ (candD s).take k, isText s a = false) ∧ Hid (Below W3.heap.size W3 wr)) (fun i _ => 5 - (intOf i).toNat)
    case atStart => exact ⟨0, rfl, Nat.zero_le _, hid (fun a ha => by simp at ha), hid (Below.refl _ _)⟩
    case round =>
      obtain ⟨k, rfl, hk, HN, HB⟩ := hrel
      have hzz := HB.out.size
      have hlr : w.heap.size < wr.heap.size := Nat.lt_of_lt_of_le LR.out hzz
      have r20 := (HB.out.cell (p := ⟨w.heap.size, 0, none⟩) LR.out).trans R0.out
      have r21 := (HB.out.cell (p := ⟨w.heap.size, 1, none⟩) LR.out).trans R1.out
      have f20 := (HB.out.frozen (p := ⟨w.heap.size, 0, none⟩) LR.out).trans G0.out
      have f21 := (HB.out.frozen (p := ⟨w.heap.size, 1, none⟩) LR.out).trans G1.out
      by_cases hlt : k < 5
      · have hlti : (k : Int) < 5 := by omega
        have hk0 : (0 : Int) ≤ (k : Int) := by omega
        have hlt2 : k < (candD s).length := by rw [HLen.out]; exact hlt
        obtain ⟨a, ha⟩ : ∃ a, (candD s)[k] = a := ⟨_, rfl⟩
        have HT := hid (show (candD s).take (k + 1) = (candD s).take k ++ [a] from by rw [List.take_succ_eq_append_getElem hlt2, ha])
        obtain ⟨b, off, hbo, hbS, hc⟩ := (SD.out.on HB.out).2.2 (by omega)
        injection hbo with hbo
        injection hbo with e1 e2 e3
        subst e1
        subst e2
        have hc0 := hc (k * 2) (by omega)
        have hc1 := hc (k * 2 + 1) (by omega)
        have ha2 : (candD s).getD k (0, 0) = a := by rw [← ha]; simp [List.getD, hlt2]
        rw [nth_flat0, ha2, Nat.zero_add] at hc0
        rw [nth_flat1, ha2, Nat.zero_add] at hc1
        clear hc ha2
        by_cases hs0 : s = []
        · have HF := hid (show isText s a = false from by rw [hs0]; rfl)
          have hne : s.isEmpty = true := by rw [hs0]; rfl
          have ha2 := hid ha
          clear ha
          go_wp2
          go_roundw
          case rel => exact ⟨k + 1, by go_num, by omega, hid (by rw [HT.out]; intro b hb; rcases List.mem_append.1 hb with h | h; exact HN.out b h; obtain rfl := List.mem_singleton.1 h; exact HF.out), HB⟩
          case measure => simp [intOf]; omega
        · have hne : s.isEmpty = false := by
            cases s with
            | nil => exact absurd rfl hs0
            | cons => rfl
          have CD := hid (specDeedText_any a.1 a.2 wr)
          obtain ⟨t, ht⟩ : ∃ t, deedB a.1 a.2 = t := ⟨_, rfl⟩
          rw [ht] at CD
          have ha2 := hid ha
          have ht2 := hid ht
          clear ha ht
          by_cases hts : t = s
          · have heq : (t == s) = true := by rw [hts]; exact beq_self_eq_true _
            have HF := hid (show readOut s = some a from by rw [← ha2.out]; exact readOut_some hlt2 HN.out (by rw [ha2.out]; simp [isText, deedP, ht2.out, hts, hs0]))
            go_wp2_with (go_at_call 24; with_reducible refine Calls.mono CD.out ?_; rintro e w5 ⟨rfl, b5⟩; have r50 := (b5.cell (p := ⟨w.heap.size, 0, none⟩) hlr).trans r20; have r51 := (b5.cell (p := ⟨w.heap.size, 1, none⟩) hlr).trans r21; have f50 := (b5.frozen (p := ⟨w.heap.size, 0, none⟩) hlr).trans f20; have f51 := (b5.frozen (p := ⟨w.heap.size, 1, none⟩) hlr).trans f21; have c50 := (b5.cell (p := ⟨w2.heap.size, k * 2, none⟩) hbS).trans hc0; have c51 := (b5.cell (p := ⟨w2.heap.size, k * 2 + 1, none⟩) hbS).trans hc1)
            have q0 := (b5.block _ hlr).trans ((HB.out.block _ LR.out).trans RB.out)
            have q2 := heap_setCell_same _ _ 1 _ _ (.int .i64 a.2) (heap_setCell_same _ _ 0 _ _ (.int .i64 a.1) q0)
            refine bodyPost_ret (results_kk rfl _ _ w.heap.size _ _ _ _ rfl q2 Tryd.underlying42 rfl (by kernel_rfl)) rfl ?_
            exact ⟨by rw [HF.out]; rfl, (((B0.out.trans (B3.out.mono B0.out.size)).trans ((HB.out.trans (b5.mono hzz)).mono (Nat.le_trans B0.out.size B3.out.size))).setCell (Nat.le_refl _) _).setCell (Nat.le_refl _) _⟩
          · have heq : (t == s) = false := by rw [beq_eq_false_iff_ne]; exact hts
            have HF := hid (show isText s a = false from by simp [isText, deedP, ht2.out, hts])
            go_wp2_with (go_at_call 24; with_reducible refine Calls.mono CD.out ?_; rintro e w5 ⟨rfl, b5⟩; have r50 := (b5.cell (p := ⟨w.heap.size, 0, none⟩) hlr).trans r20; have r51 := (b5.cell (p := ⟨w.heap.size, 1, none⟩) hlr).trans r21; have f50 := (b5.frozen (p := ⟨w.heap.size, 0, none⟩) hlr).trans f20; have f51 := (b5.frozen (p := ⟨w.heap.size, 1, none⟩) hlr).trans f21; have c50 := (b5.cell (p := ⟨w2.heap.size, k * 2, none⟩) hbS).trans hc0; have c51 := (b5.cell (p := ⟨w2.heap.size, k * 2 + 1, none⟩) hbS).trans hc1)
            have HB5 := hid (HB.out.trans (b5.mono hzz))
            go_roundw
            case rel => exact ⟨k + 1, by go_num, by omega, hid (by rw [HT.out]; intro b hb; rcases List.mem_append.1 hb with h | h; exact HN.out b h; obtain rfl := List.mem_singleton.1 h; exact HF.out), HB5⟩
            case measure => simp [intOf]; omega
      · have HF := hid (show readOut s = none from readOut_none (by have := HN.out; rwa [List.take_of_length_le (by rw [HLen.out]; omega)] at this))
        have hki : ¬ ((k : Int) < 5) := by omega
        go_wp2
        have q0 := (HB.out.block _ LR.out).trans RB.out
        have q2 := heap_setCell_same _ _ 1 _ _ (.int .i64 0) (heap_setCell_same _ _ 0 _ _ (.int .i64 0) q0)
        refine bodyPost_ret (results_kk rfl _ _ w.heap.size _ _ _ _ rfl q2 Tryd.underlying42 rfl (by kernel_rfl)) rfl ?_
        exact ⟨by rw [HF.out]; rfl, (((B0.out.trans (B3.out.mono B0.out.size)).trans (HB.out.mono (Nat.le_trans B0.out.size B3.out.size))).setCell (Nat.le_refl _) _).setCell (Nat.le_refl _) _⟩
end Go.Proofs.YtkejcajboneniabDoor
