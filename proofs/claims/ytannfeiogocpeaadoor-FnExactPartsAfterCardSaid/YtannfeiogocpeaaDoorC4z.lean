/-
  Walks of the program's squads: the iterator over rows after 0, 1, 2 .. rounds, which ranges over the rounds itself, and squadAfter. No statement is proved here.
-/
import Derived.Test.YtannfeiogocpeaaDoorC4i
import Derived.Test.YtannfeiogocpeaaDoorC4y
namespace Go.Proofs.YtannfeiogocpeaaDoor
open Go.RowKit
set_option linter.unusedVariables false
set_option linter.unusedSimpArgs false

/-- Where no depth is asked all depths are one. -/
theorem yield_any {m m' : Nat} {P : Program} {l : Nat} {args : Array Value} {W : World} {R : Ending → World → Prop} (h : YieldAt Fence.wide m P l args W R) : YieldAt Fence.wide m' P l args W R := by
  obtain ⟨fn, tmps, assign, body, hy, hR⟩ := h
  exact ⟨fn, tmps, assign, body, hy, hR.1, fun c cs _ => hR.2 c cs (fun d h => by cases h)⟩

/-- What a round of the outer loop, whose record is block l, leaves as it lay. -/
structure Kpt (n0 l : Nat) (W W' : World) : Prop where
  below : Below n0 W W'
  keep : ∀ k, l < k → k < W.heap.size → W'.heap[k]? = W.heap[k]?
theorem Kpt.own {n0 l B s n : Nat} {v : Value} {e : TypeId} {xs : List Value} {W W' : World} (h : Kpt n0 l W W') (ho : W.ownsRow B e s v n xs) (hB : l < B) : W'.ownsRow B e s v n xs := by
  refine ⟨ho.1, ?_⟩
  rcases ho.2 with h2 | ⟨g, cap, cur, h1, h2, h3, h4⟩
  · exact .inl h2
  · exact .inr ⟨g, cap, cur, h1, h2, (h.keep g (by omega) (Array.getElem?_eq_some_iff.1 h3).1).trans h3, h4⟩

theorem round_inR {F : Fence} {m : Nat} {P : Program} {l l2 : Nat} {f : FuncId} {tmps : Array Value} {assign body : Code} {w : World} {R : Ending → World → Prop} (h : RoundIn F m P l f tmps assign body w R) : RoundIn (F.inRound l2) m P l f tmps assign body w R := h

theorem squadsOf_any (n : Int) (w : World) :
    Calls Tryd.prog 45 #[.int .i64 n] w fun e w' =>
      e = .returned (.func (.func 55) #[] #[.pointer (some ⟨w.heap.size, 0, none⟩)]) ∧ w' = w.alloc (.cells #[.int .i64 n] 3) := by
  go_enter Tryd.func45, Tryd.ntmps45
  go_wp2
  go_ret
  exact ⟨rfl, rfl⟩

/-- What is asked of a piece of code that goes on alone. -/
def goesOn (R : Act → World → Prop) : Exit → Act → World → Prop
  | .normal, a, w => R a w
  | _, _, _ => False
theorem wpIn_goesOn {F : Fence} {n : Nat} {P : Program} {c : Code} {R : Act → World → Prop} {K : Act → World → Prop} {Q : Exit → Act → World → Prop} {a : Act} {w : World} (h : c.wpIn F n P (goesOn R) a w) (hK : ∀ a w, R a w → K a w) :
    c.wpIn F n P (Exit.then K Q) a w := wpIn_mono h fun e a w hp => by cases e <;> first | exact hK _ _ hp | exact hp.elim

theorem with_zero (w : World) :
    Calls Tryd.prog 56 #[.int .u64 0, .int .i64 0] w fun e w' => e = .returned (.int .u64 1) ∧ w = w' := by
  have h := with_any 0 0 w (by omega) (by omega)
  exact h

attribute [local go_sem] Oper.semAt_some

set_option maxRecDepth 100000 in
set_option maxHeartbeats 3200000 in
theorem squads_in (m l n0 h N : Nat) (J : Nat → World → Prop) (Jx : Nat → Value → World → Prop) (W0 : World) (h1 : 1 ≤ N) (hN : N ≤ 40) (hn0 : n0 ≤ l) (hl : l < W0.heap.size) (hh : h < W0.heap.size) (hc : W0.cell? ⟨h, 0, none⟩ = some (.int .i64 N))
    (hT : ∀ W, Below n0 W0 W → Tabs W)
    (hJ : ∀ k W W', J k W → (∀ b, b ≤ l → W'.heap[b]? = W.heap[b]?) → J k W') (hJx : ∀ k v W W', Jx k v W → (∀ b, b ≤ l → W'.heap[b]? = W.heap[b]?) → Jx k v W')
    (hY : ∀ (k : Nat) (A : Option Addr) (q c t : Nat) (W : World), J k W → n0 ≤ W.heap.size → l < W.heap.size → YieldAt Fence.wide m Tryd.prog l #[.agg #[.slice A q c, .int .u64 t]] W fun e W' =>
      Kpt n0 l W W' ∧ ((e = .returned (.bool true) ∧ J (k + 1) W') ∨ (e = .returned (.bool false) ∧ Jx k (.agg #[.slice A q c, .int .u64 t]) W')))
    (h0 : J 0 W0) :
    CallsIn Fence.wide m Tryd.prog 55 #[.func (.yield l) #[] #[], .pointer (some ⟨h, 0, none⟩)] W0 fun e W' => (∃ v, e = .returned v) ∧ Below n0 W0 W' ∧
      (J ((roundsN N).length + 1) W' ∨ ∃ k A q c, k ≤ (roundsN N).length ∧ Jx k (.agg #[.slice A q c, .int .u64 (told64 N k : Nat)]) W' ∧ W'.ownsRow (l + 1) 56 2 (.slice A q c) q (pcells (partsP (N : Int) k))) := by
  have hwd : Fence.wide.depth.isSome = false := rfl
  have hwr : Fence.wide.round = none := rfl
  have hf1 : Fence.wide.fn 56 := trivial
  have hf2 : Fence.wide.fn 34 := trivial
  have hf3 : Fence.wide.fn 57 := trivial
  refine callsIn_of_wp_marks Tryd.func55 rfl trivial ?_ rfl
  simp only [Tryd.ntmps55, List.size_toArray, List.length_cons, List.length_nil, Nat.reduceAdd, Nat.reduceSub, Array.replicate_succ, Array.replicate_zero, List.push_toArray, List.append_toArray, List.nil_append, List.cons_append]
  have hlN := roundsN_len N hN
  obtain ⟨W1, hW1⟩ : ∃ W1 : World, W0.alloc (.cells #[.func (.yield l) #[] #[]] 76) = W1 := ⟨_, rfl⟩
  have hfo : Tryd.prog.follows .mixedOrders = true := by kernel_rfl
  have hc1 : W1.cell? ⟨h, 0, none⟩ = some (.int .i64 N) := by rw [← hW1]; exact (((Below.refl W0.heap.size W0).alloc (Nat.le_refl _) _).cell (p := ⟨h, 0, none⟩) hh).trans hc
  gi_wp2
  have hsz1 : W1.heap.size = W0.heap.size + 1 := by rw [← hW1]; simp
  have hh1 : h < W1.heap.size := by omega
  have hne1 : h ≠ W1.heap.size := by omega
  have hne2 : h ≠ W1.heap.size + 1 := by omega
  have HSZ := hid hsz1
  have y1 : Boxed W1 W0.heap.size 76 (.func (.yield l) #[] #[]) := by rw [← hW1]; exact Boxed.new W0 _ _
  have B1 := hid (show Below W0.heap.size W0 W1 from by rw [← hW1]; exact (Below.refl _ W0).alloc (Nat.le_refl _) _)
  have hwN : IntKind.i64.wrap ((N : Int) - 1) = (N : Int) - 1 := IntWalk.i64_in _ (by omega)
  clear hW1 hsz1
  have FA : Below W1.heap.size W1 ((W1.alloc (.cells #[.int .i64 0, .int .i64 ((N : Int) - 1)] 56)).alloc (.cells #[.slice (some ⟨W1.heap.size, 0, none⟩) 1 1, .int .u64 1] 52)).drew ∧
      ((W1.alloc (.cells #[.int .i64 0, .int .i64 ((N : Int) - 1)] 56)).alloc (.cells #[.slice (some ⟨W1.heap.size, 0, none⟩) 1 1, .int .u64 1] 52)).drew.ownsRow W1.heap.size 56 2 (.slice (some ⟨W1.heap.size, 0, none⟩) 1 1) 1 (pcells [(0, (N : Int) - 1)]) ∧
      Box2 ((W1.alloc (.cells #[.int .i64 0, .int .i64 ((N : Int) - 1)] 56)).alloc (.cells #[.slice (some ⟨W1.heap.size, 0, none⟩) 1 1, .int .u64 1] 52)).drew (W1.heap.size + 1) 52 (.slice (some ⟨W1.heap.size, 0, none⟩) 1 1) (.int .u64 1) := by
    refine ⟨(((Below.refl _ W1).alloc (Nat.le_refl _) _).alloc (by simp) _).drew, ?_, ?_⟩
    · exact ownS_on (ownS_none (World.ownsRow_lit W1 #[.int .i64 0, .int .i64 ((N : Int) - 1)] 1 (Nat.le_refl _) (by simp [maxLen]) rfl) (grown_alloc _ _ none)) (Below.refl _ _).drew
    · have := Box2.new (W1.alloc (.cells #[.int .i64 0, .int .i64 ((N : Int) - 1)] 56)) 52 (.slice (some ⟨W1.heap.size, 0, none⟩) 1 1) (.int .u64 1)
      rw [World.size_alloc] at this
      exact this
  have FB : Below W1.heap.size W1 ((W1.alloc (.cells #[.slice (some ⟨W1.heap.size + 1, 0, none⟩) 1 1, .int .u64 1] 52)).alloc (.cells #[.int .i64 0, .int .i64 ((N : Int) - 1)] 56)).drew ∧
      ((W1.alloc (.cells #[.slice (some ⟨W1.heap.size + 1, 0, none⟩) 1 1, .int .u64 1] 52)).alloc (.cells #[.int .i64 0, .int .i64 ((N : Int) - 1)] 56)).drew.ownsRow W1.heap.size 56 2 (.slice (some ⟨W1.heap.size + 1, 0, none⟩) 1 1) 1 (pcells [(0, (N : Int) - 1)]) ∧
      Box2 ((W1.alloc (.cells #[.slice (some ⟨W1.heap.size + 1, 0, none⟩) 1 1, .int .u64 1] 52)).alloc (.cells #[.int .i64 0, .int .i64 ((N : Int) - 1)] 56)).drew W1.heap.size 52 (.slice (some ⟨W1.heap.size + 1, 0, none⟩) 1 1) (.int .u64 1) := by
    refine ⟨(((Below.refl _ W1).alloc (Nat.le_refl _) _).alloc (by simp) _).drew, ?_, ?_⟩
    · have := World.ownsRow_lit (base := W1.heap.size) (e := 56) (size := 2) (W1.alloc (.cells #[.slice (some ⟨W1.heap.size + 1, 0, none⟩) 1 1, .int .u64 1] 52)) #[.int .i64 0, .int .i64 ((N : Int) - 1)] 1 (by simp) (by simp [maxLen]) rfl
      rw [World.size_alloc] at this
      exact ownS_on this (Below.refl _ _).drew
    · exact (Box2.new W1 52 (.slice (some ⟨W1.heap.size + 1, 0, none⟩) 1 1) (.int .u64 1)).below (n := W1.heap.size + 1) (((Below.refl _ _).alloc (by simp) _).drew) (by omega)
  refine wpIn_goesOn (R := fun a' W' => ∃ bp bn, W1.heap.size ≤ bp ∧ W1.heap.size ≤ bn ∧ a' = { tmps := #[.func (.yield l) #[] #[], .pointer (some ⟨h, 0, none⟩), .pointer (some ⟨W0.heap.size, 0, none⟩), .pointer (some ⟨bn, 0, none⟩), .int .i64 N, .int .i64 ((N : Int) - 1), .agg #[.int .i64 0, .int .i64 ((N : Int) - 1)], .slice (some ⟨bp, 0, none⟩) 1 1, .int .u64 1, .agg #[.slice (some ⟨bp, 0, none⟩) 1 1, .int .u64 1], undef, undef, undef, undef, undef, undef, undef, undef, undef, undef, undef, undef], defers := [] } ∧
      Below W1.heap.size W1 W' ∧ W'.ownsRow W1.heap.size 56 2 (.slice (some ⟨bp, 0, none⟩) 1 1) 1 (pcells [(0, (N : Int) - 1)]) ∧ Box2 W' bn 52 (.slice (some ⟨bp, 0, none⟩) 1 1) (.int .u64 1)) ?region ?rest
  case region =>
    refine wpIn_wide.2 ?_
    go_region_with (go_at_call 56; refine (with_zero _).mono ?_; rintro e w' ⟨rfl, rfl⟩)
    all_goals first
      | exact ⟨_, _, Nat.le_refl _, Nat.le_succ _, rfl, FA⟩
      | exact ⟨_, _, Nat.le_succ _, Nat.le_refl _, rfl, FB⟩
  case rest =>
    clear FA FB
    rintro a' W2 ⟨bp, bn, hbp, hbn, rfl, b2, o2, x2⟩
    have hc2 : W2.cell? ⟨h, 0, none⟩ = some (.int .i64 N) := (b2.cell (p := ⟨h, 0, none⟩) hh1).trans hc1
    have hs2 := b2.size
    gi_wp2_with (gi_at_call 34; refine (callsIn_wide.2 (roundsOfF_any _ _)).mono ?_; rintro e w' ⟨rfl, rfl⟩)
    obtain ⟨Wr, hWr⟩ : ∃ Wr : World, W2.alloc (.cells #[.int .i64 N] 3) = Wr := ⟨_, rfl⟩
    rw [hWr]
    have hsr : W2.heap.size + 1 ≤ Wr.heap.size := by rw [← hWr]; simp
    have hcr : Wr.cell? ⟨W2.heap.size, 0, none⟩ = some (.int .i64 N) := by rw [← hWr]; exact (Boxed.new W2 _ _).cell
    have br : Below W2.heap.size W2 Wr := by rw [← hWr]; exact (Below.refl _ _).alloc (Nat.le_refl _) _
    have hs1 : W0.heap.size + 1 ≤ W1.heap.size := by have := HSZ.out; omega
    have BW := hid ((B1.out.trans (b2.mono (by omega))).trans (br.mono (by omega)))
    have yr : Boxed Wr W0.heap.size 76 (.func (.yield l) #[] #[]) := (br.block _ (by omega)).trans ((b2.block _ (by omega)).trans y1)
    have hbn2 : bn < W2.heap.size := x2.lt
    have xr := x2.below br hbn2
    have or_ := ownS_mono (ownS_on o2 br) (show l + 1 ≤ W1.heap.size by omega)
    have jr : J 0 Wr := hJ 0 W0 Wr h0 (fun b hb => BW.out.block b (by omega))
    clear hWr hc2 hc1 y1 x2 o2 br
    have eg : ∀ args w, (callFunc 44 args).run Tryd.prog w = .ok (.enter 44 args) w := enters_of Tryd.func44 (by kernel_rfl) rfl
    refine range_bare (n := m) rfl eg ?_
    intro rc Wq hqs hqb hql hqd hYr
    have jq : J 0 Wq := hJ 0 Wr Wq jr (fun b hb => hqb.block b (by omega))
    refine (rounds_in (m - 1) (Wr.heap.size + 1) W2.heap.size N
      (fun pre W => W.heap[Wr.heap.size + 1]? = some (.loop (rc .ready none)) ∧ W.heap[Wr.heap.size]? = some (.deferred (some [])) ∧ J pre.length W ∧ Boxed W W0.heap.size 76 (.func (.yield l) #[] #[]) ∧
        (∃ A q c, Box2 W bn 52 (.slice A q c) (.int .u64 (told64 N pre.length : Nat)) ∧ W.ownsRow (l + 1) 56 2 (.slice A q c) q (pcells (partsP (N : Int) pre.length))) ∧ Below n0 W0 W ∧ Wr.heap.size + 2 ≤ W.heap.size)
      (fun W => W.heap[Wr.heap.size + 1]? = some (.loop (rc .done (some .ret))) ∧ W.heap[Wr.heap.size]? = some (.deferred (some [])) ∧ Below n0 W0 W ∧ Wr.heap.size + 2 ≤ W.heap.size ∧
        ∃ k A q c, k ≤ (roundsN N).length ∧ Jx k (.agg #[.slice A q c, .int .u64 (told64 N k : Nat)]) W ∧ W.ownsRow (l + 1) 56 2 (.slice A q c) q (pcells (partsP (N : Int) k))) Wq h1 hN
      ((hqb.cell (p := ⟨W2.heap.size, 0, none⟩) (by simp; omega)).trans hcr) ?yields
      ⟨hql, hqd, jq, (hqb.block _ (by omega)).trans yr, ⟨_, 1, 1, xr.below hqb (by omega), ownS_on or_ hqb⟩, (BW.out.mono (by omega)).trans (hqb.mono (by omega)), by omega⟩).mono ?behind
    case yields =>
      rintro pre x W ⟨hl2, hd2, hj, hy, ⟨A, q, c, hb, hr⟩, hB, hsz⟩ ⟨rest, hrest⟩ hx2 hx40
      have hk : pre.length < (roundsN N).length := by rw [hrest]; simp
      refine hYr #[.int .i64 x] W _ rfl hl2 ⟨?a1, ?w1, ?assign, ?ready, ?body⟩
      case assign =>
        intro K hK
        gi_wp2
        exact hK
      case ready => exact hl2
      have htc : told64 N (pre.length + 1) = (partsP (N : Int) pre.length).foldl tellN (told64 N pre.length) := rfl
      have hpc : partsP (N : Int) (pre.length + 1) = (partsP (N : Int) pre.length).flatMap split1 := rfl
      have htl : told64 N pre.length < 2 ^ 40 := told64_lt h1 hN _
      have hpl : (partsP (N : Int) pre.length).length ≤ 32 := Nat.le_trans (partsP_len _ _) (Nat.pow_le_pow_right (by omega) (show pre.length ≤ 5 by omega))
      have hpw : ∀ p ∈ partsP (N : Int) pre.length, 0 ≤ p.1 ∧ p.1 < p.2 ∧ p.2 ≤ 39 := fun p hp => by
        have a1 := partsP_bd (n := (N : Int)) (by omega) pre.length p hp
        have a2 := parts_wide_at h1 hN hk p hp
        omega
      have hjs : ∀ (W W' : World), J pre.length W → (∀ b, b ≤ l → W'.heap[b]? = W.heap[b]?) → J pre.length W' := hJ _
      have hjs' : ∀ (W W' : World), J (pre.length + 1) W → (∀ b, b ≤ l → W'.heap[b]? = W.heap[b]?) → J (pre.length + 1) W' := hJ _
      have hyk := fun (A : Option Addr) (q c t : Nat) (W : World) => hY pre.length A q c t W
      have hxk := fun (v : Value) (W W' : World) => hJx pre.length v W W'
      rw [List.length_append, List.length_cons, List.length_nil]
      obtain ⟨k, hke⟩ : ∃ k, pre.length = k := ⟨_, rfl⟩
      rw [hke] at hj hb hr hk htc hpc htl hpl hpw hjs hjs' hyk hxk
      rw [hke]
      obtain ⟨t, hte⟩ : ∃ t, told64 N k = t := ⟨_, rfl⟩
      obtain ⟨ps, hpse⟩ : ∃ ps, partsP (N : Int) k = ps := ⟨_, rfl⟩
      rw [hte] at hb htc htl
      rw [hpse] at hr htc hpc hpl hpw
      have HTC := hid htc
      have HPC := hid hpc
      have HTE := hid hte
      have HPE := hid hpse
      clear htc hpc hte hpse hke hrest hx2 hx40
      have hlW : Wr.heap.size + 1 < W.heap.size := by omega
      obtain ⟨Wb, hWb⟩ : ∃ Wb, W.putObj (Wr.heap.size + 1) (.loop (rc .busy none)) = Wb := ⟨_, rfl⟩
      rw [hWb]
      have lb : Wb.heap[Wr.heap.size + 1]? = some (.loop (rc .busy none)) := by rw [← hWb]; exact World.putObj_heap_same hlW
      have db : Wb.heap[Wr.heap.size]? = some (.deferred (some [])) := by rw [← hWb]; exact (World.putObj_heap_other (by omega)).trans hd2
      have yb : Boxed Wb W0.heap.size 76 (.func (.yield l) #[] #[]) := by rw [← hWb]; exact Boxed.put hy _ (by omega)
      have bb : Box2 Wb bn 52 (.slice A q c) (.int .u64 (t : Nat)) := by rw [← hWb]; exact hb.put _ (by omega)
      have rb : Wb.ownsRow (l + 1) 56 2 (.slice A q c) q (pcells ps) := by rw [← hWb]; exact ownsRow_putObj hr _ hl2 rfl
      have Bb := hid (show Below n0 W0 Wb from by rw [← hWb]; exact below_put hB _ (by omega) (by omega))
      have jb : J k Wb := by rw [← hWb]; exact hjs _ _ hj (fun b hb => World.putObj_heap_other (by omega))
      have szb : Wr.heap.size + 2 ≤ Wb.heap.size := by rw [← hWb]; simpa using hsz
      clear hl2 hd2 hj hy hb hr hB hsz hWb
      obtain ⟨fn, tmps, assign, body, hyy, hRd⟩ := yield_any (m' := m - 1 - 1 - 1) (hyk A q c t Wb jb (by omega) (by omega))
      have HR := hid hRd; clear hRd
      have yc := yb.cell
      have bc0 := bb.cell0
      have bc1 := bb.cell1
      have HBS := hid hbn2
      have hql : q ≤ 32 := by have h1 := rb.1; rw [pcells_len] at h1; omega
      gi_wp2
      refine (round_inR HR.out).mono ?_
      rintro e W3 ⟨hkp, (⟨rfl, hj3⟩ | ⟨rfl, hj3⟩)⟩
      · have l3 := (hkp.keep _ (by omega) (Array.getElem?_eq_some_iff.1 lb).1).trans lb
        have d3 := (hkp.keep _ (by omega) (Array.getElem?_eq_some_iff.1 db).1).trans db
        have b3 : Box2 W3 bn 52 (.slice A q c) (.int .u64 (t : Nat)) := (hkp.keep bn (by omega) bb.lt).trans bb
        have y3 : Boxed W3 W0.heap.size 76 (.func (.yield l) #[] #[]) := (hkp.keep _ (by omega) yb.lt).trans yb
        have r3 := hkp.own rb (by omega)
        have B3 := hid (Bb.out.trans hkp.below)
        have sz3 : Wr.heap.size + 2 ≤ W3.heap.size := by have := (Array.getElem?_eq_some_iff.1 l3).1; omega
        have CH := hid (halved_any A q c ps t W3 (PS.of_own r3 (by omega)) (by omega) hpw htl (hT W3 B3.out))
        have bc30 := b3.cell0
        have bc31 := b3.cell1
        clear hkp HR yc bc0 bc1 lb db bb yb rb Bb jb szb r3 hyy
        gi_wp2_with (gi_at_call 57; refine (CallsIn.inRound (Wr.heap.size + 1) (callsIn_wide.2 CH.out)).mono ?_; rintro e W4 ⟨A4, q4, c4, rfl, o4, b4⟩; have b44 := b3.below b4 b3.lt; have bc40 := b44.cell0; have bc41 := b44.cell1; have bf4 := b44.frozen)
        have l4 := (b4.block _ (Array.getElem?_eq_some_iff.1 l3).1).trans l3
        have d4 := (b4.block _ (Array.getElem?_eq_some_iff.1 d3).1).trans d3
        have hb3 := b3.lt
        have y4 : Boxed W4 W0.heap.size 76 (.func (.yield l) #[] #[]) := (b4.block _ y3.lt).trans y3
        obtain ⟨V0, hV0⟩ : ∃ V0, Value.slice A4 q4 c4 = V0 := ⟨_, rfl⟩
        obtain ⟨V1, hV1⟩ : ∃ V1, Value.int .u64 (ps.foldl tellN t : Nat) = V1 := ⟨_, rfl⟩
        have K5 := (KeepsOthers.setCell W4 ⟨bn, 0, none⟩ V0).trans (KeepsOthers.setCell _ ⟨bn, 1, none⟩ V1)
        have l5 := K5.same _ _ l4 rfl
        have d5 := K5.same _ _ d4 rfl
        have hbnl : bn ≠ W0.heap.size := by omega
        have y5 : Boxed ((W4.setCell ⟨bn, 0, none⟩ V0).setCell ⟨bn, 1, none⟩ V1) W0.heap.size 76 (.func (.yield l) #[] #[]) :=
          (heap_setCell_other _ ⟨bn, 1, none⟩ _ V1 (by simp; omega)).trans ((heap_setCell_other _ ⟨bn, 0, none⟩ _ V0 (by simp; omega)).trans y4)
        have x5 := (b44.set0 V0).set1 V1
        have o5 := ownS_mono (ownS_off (ownS_off o4 (grown_set _ bn 0 V0) hb3) (grown_set _ bn 1 V1) hb3) (show l + 1 ≤ W3.heap.size by omega)
        have B5 := ((B3.out.trans (b4.mono (by omega))).setCell (p := ⟨bn, 0, none⟩) (by simp; omega) V0).setCell (p := ⟨bn, 1, none⟩) (by simp; omega) V1
        have j5 : J (k + 1) ((W4.setCell ⟨bn, 0, none⟩ V0).setCell ⟨bn, 1, none⟩ V1) := hjs' _ _ hj3 fun b hb =>
          (heap_setCell_other _ ⟨bn, 1, none⟩ _ V1 (by simp; omega)).trans ((heap_setCell_other _ ⟨bn, 0, none⟩ _ V0 (by simp; omega)).trans (b4.block b (by omega)))
        have s5 : Wr.heap.size + 2 ≤ ((W4.setCell ⟨bn, 0, none⟩ V0).setCell ⟨bn, 1, none⟩ V1).heap.size := by have := b4.size; simp; omega
        subst hV0
        subst hV1
        refine ⟨l5, .inl ⟨rfl, World.putObj_heap_same (by omega), (World.putObj_heap_other (by omega)).trans d5, hjs' _ _ j5 (fun b hb => World.putObj_heap_other (by omega)), Boxed.put y5 _ (by omega), ⟨A4, q4, c4, ?_, ?_⟩, below_put B5 _ (by omega) (by omega), by simpa using s5⟩⟩
        · rw [show k + (0 + 1) = k + 1 from rfl, HTC.out]
          exact x5.put _ (by omega)
        · rw [show k + (0 + 1) = k + 1 from rfl, HPC.out]
          exact ownsRow_putObj o5 _ l5 rfl
      · have l3 := (hkp.keep _ (by omega) (Array.getElem?_eq_some_iff.1 lb).1).trans lb
        have d3 := (hkp.keep _ (by omega) (Array.getElem?_eq_some_iff.1 db).1).trans db
        have r3 := hkp.own rb (by omega)
        have B3 := Bb.out.trans hkp.below
        have sz3 : Wr.heap.size + 2 ≤ W3.heap.size := by have := (Array.getElem?_eq_some_iff.1 l3).1; omega
        have HJ3 := hid hj3
        have HR3 := hid r3
        have HB3 := hid B3
        clear hj3 r3 B3
        gi_wp2
        refine ⟨l3, .inr ⟨rfl, World.putObj_heap_same (by omega), (World.putObj_heap_other (by omega)).trans d3, below_put HB3.out _ (by omega) (by omega), by simpa using sz3, k, A, q, c, by omega, ?_, ?_⟩⟩
        · rw [HTE.out]
          exact hxk _ _ _ HJ3.out (fun b hb => World.putObj_heap_other (by omega))
        · rw [HPE.out]
          exact ownsRow_putObj HR3.out _ l3 rfl
    case behind =>
      rintro e W' ⟨hv, (⟨hl2, hd2, hj, hy, ⟨A, q, c, hb, hr⟩, hB, hsz⟩ | ⟨hl2, hd2, hB, hsz, k, A, q, c, hk, hx, hr⟩)⟩
      · refine ⟨hv, .inl ⟨hl2, fun o => ?_⟩⟩
        obtain ⟨R, hRe⟩ : ∃ R, (roundsN N).length = R := ⟨_, rfl⟩
        rw [hRe] at hj hb hr
        obtain ⟨W6, hW6⟩ : ∃ W6, W'.putObj (Wr.heap.size + 1) o = W6 := ⟨_, rfl⟩
        rw [hW6]
        have j6 : J R W6 := by rw [← hW6]; exact hJ _ _ _ hj (fun b hb => World.putObj_heap_other (by omega))
        have y6 : Boxed W6 W0.heap.size 76 (.func (.yield l) #[] #[]) := by rw [← hW6]; exact Boxed.put hy _ (by omega)
        have b6 : Box2 W6 bn 52 (.slice A q c) (.int .u64 (told64 N R : Nat)) := by rw [← hW6]; exact hb.put _ (by omega)
        have r6 : W6.ownsRow (l + 1) 56 2 (.slice A q c) q (pcells (partsP (N : Int) R)) := by rw [← hW6]; exact ownsRow_putObj hr _ hl2 rfl
        have d6 : W6.heap[Wr.heap.size]? = some (.deferred (some [])) := by rw [← hW6]; exact (World.putObj_heap_other (by omega)).trans hd2
        have B6 := hid (show Below n0 W0 W6 from by rw [← hW6]; exact below_put hB _ (by omega) (by omega))
        have s6 : Wr.heap.size + 2 ≤ W6.heap.size := by rw [← hW6]; simpa using hsz
        clear hW6 hl2 hd2 hj hy hb hr hB hsz
        obtain ⟨t, hte⟩ : ∃ t, told64 N R = t := ⟨_, rfl⟩
        rw [hte] at b6
        have HTE := hid hte
        have HRE := hid hRe
        clear hte hRe
        obtain ⟨fn, tmps, assign, body, hyy, hRd⟩ := yield_any (m' := m - 1) (hY R A q c t W6 j6 (by omega) (by omega))
        have HR := hid hRd; clear hRd
        have yc := y6.cell
        have bc0 := b6.cell0
        have bc1 := b6.cell1
        gi_wp2
        refine HR.out.mono ?_
        rintro e W7 ⟨hkp, h7⟩
        have d7 := (hkp.keep _ (by omega) (Array.getElem?_eq_some_iff.1 d6).1).trans d6
        have r7 := hid (hkp.own r6 (by omega))
        have B7 := hid (B6.out.trans hkp.below)
        have s7 : Wr.heap.size < W7.heap.size := (Array.getElem?_eq_some_iff.1 d7).1
        rcases h7 with ⟨rfl, hj7⟩ | ⟨rfl, hj7⟩
        · have HJ7 := hid hj7
          clear hkp HR yc bc0 bc1 y6 b6 r6 B6 j6 hj7 hyy
          gi_wp2
          refine ⟨by simp, .inl ⟨_, _, rfl, run_takeDeferred d7, ?_⟩⟩
          exact ⟨_, results_none rfl _ _ _, ⟨_, rfl⟩, below_put B7.out _ (by omega) (by omega), .inl (by rw [HRE.out]; exact hJ _ _ _ HJ7.out (fun b hb => World.putObj_heap_other (by omega)))⟩
        · have HJ7 := hid hj7
          clear hkp HR yc bc0 bc1 y6 b6 r6 B6 j6 hj7 hyy
          gi_wp2
          refine ⟨by simp, .inl ⟨_, _, rfl, run_takeDeferred d7, ?_⟩⟩
          exact ⟨_, results_none rfl _ _ _, ⟨_, rfl⟩, below_put B7.out _ (by omega) (by omega), .inr ⟨R, A, q, c, by rw [HRE.out]; exact Nat.le_refl _, by rw [HTE.out]; exact hJx _ _ _ _ HJ7.out (fun b hb => World.putObj_heap_other (by omega)), ownsRow_putObj r7.out _ d7 rfl⟩⟩
      · refine ⟨hv, .inr ⟨hl2, fun o => ?_⟩⟩
        obtain ⟨W6, hW6⟩ : ∃ W6, W'.putObj (Wr.heap.size + 1) o = W6 := ⟨_, rfl⟩
        rw [hW6]
        have j6 := hid (show Jx k (.agg #[.slice A q c, .int .u64 (told64 N k : Nat)]) W6 from by rw [← hW6]; exact hJx _ _ _ _ hx (fun b hb => World.putObj_heap_other (by omega)))
        have r6 := hid (show W6.ownsRow (l + 1) 56 2 (.slice A q c) q (pcells (partsP (N : Int) k)) from by rw [← hW6]; exact ownsRow_putObj hr _ hl2 rfl)
        have d6 : W6.heap[Wr.heap.size]? = some (.deferred (some [])) := by rw [← hW6]; exact (World.putObj_heap_other (by omega)).trans hd2
        have B6 := hid (show Below n0 W0 W6 from by rw [← hW6]; exact below_put hB _ (by omega) (by omega))
        have s6 : Wr.heap.size + 2 ≤ W6.heap.size := by rw [← hW6]; simpa using hsz
        clear hW6 hl2 hd2 hx hr hB hsz
        gi_wp2
        refine ⟨by simp, .inl ⟨_, _, rfl, run_takeDeferred d6, ?_⟩⟩
        exact ⟨_, results_none rfl _ _ _, ⟨_, rfl⟩, below_put B6.out _ (by omega) (by omega), .inr ⟨k, hk, A, q, c, hJx _ _ _ _ j6.out (fun b hb => World.putObj_heap_other (by omega)), ownsRow_putObj r6.out _ d6 rfl⟩⟩
end Go.Proofs.YtannfeiogocpeaaDoor
