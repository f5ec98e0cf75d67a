/-
  Texts put together: NestM Ds12 Dj12 Dd12 De12 Sd12 K12h. No statement is proved here.
-/
import Derived.Test.YtkejcajboneniaaM6
import Derived.Test.YtkejcajboneniaaM2
import Derived.Test.YtkejcajboneniaaM3
import Derived.Deep.RegionHeld3
import Derived.Test.YtkejcajboneniaaM5
import Derived.Test.YtkejcajboneniaaM1
import Derived.BigQuiet
import Derived.Lib.SliceRun
import Derived.Deep.QuietTactic
namespace Go.Proofs.Ytkejcajboneniaa
open Go.RowKit
set_option linter.unusedVariables false
set_option linter.unusedSimpArgs false

/-- The slice of slices is a piece of an own row: its values are P, they read as ls. -/
def Pc (w : World) (B : Nat) (A2 : Option Addr) (m : Nat) (P : List Value) (ls : List (List Int)) : Prop :=
  P.length = m ∧ Rows w B P ls ∧ ((A2 = none ∧ m = 0) ∨ ∃ (g off M C : Nat) (V : List Value), A2 = some ⟨g, off, none⟩ ∧ w.ownsRow B 23 1 (.slice (some ⟨g, 0, none⟩) M C) M V ∧ off + m ≤ M ∧ P = (V.drop off).take m)
section
variable {w w' : World} {B B' n c m k : Nat} {A A2 : Option Addr} {P : List Value} {ls : List (List Int)} {u : Value}
def OnlyInt (w w' : World) : Prop := w.heap.size ≤ w'.heap.size ∧ ∀ (b : Nat) cs t f, w.heap[b]? = some (Obj.cells cs t f) → t ≠ 3 → w'.heap[b]? = some (Obj.cells cs t f)
theorem OnlyInt.refl (w : World) : OnlyInt w w := ⟨Nat.le_refl _, fun _ _ _ _ h _ => h⟩
theorem OnlyInt.trans {w'' : World} (h1 : OnlyInt w w') (h2 : OnlyInt w' w'') : OnlyInt w w'' := ⟨Nat.le_trans h1.1 h2.1, fun b cs t f h hn => h2.2 b cs t f (h1.2 b cs t f h hn) hn⟩
theorem OnlyInt.none (hg : w.grownBy w' none) : OnlyInt w w' := ⟨hg.size, fun b cs t f h hn => (hg.block b (by
  rcases Nat.lt_or_ge b w.heap.size with h1 | h1
  · exact h1
  · rw [Array.getElem?_eq_none h1] at h; cases h) (by simp)).trans h⟩
theorem OnlyInt.row {v : Value} {xs : List Value} (ho : w.ownsRow B 3 1 v n xs) (hg : w.grownBy w' v.ownBlock) : OnlyInt w w' := ⟨hg.size, fun b cs t f h hn => (hg.block b (by
  rcases Nat.lt_or_ge b w.heap.size with h1 | h1
  · exact h1
  · rw [Array.getElem?_eq_none h1] at h; cases h) (by
  rcases ho.2 with ⟨h1, h2⟩ | ⟨g, cap, cur, hv, hb, hg2, _⟩
  · rw [h1]; simp [Value.ownBlock]
  · intro e
    rw [hv] at e
    injection e with e
    subst e
    rw [h] at hg2
    injection hg2 with e2
    injection e2 with e3 e4 e5
    exact hn e4)).trans h⟩
theorem Db.only {b : Nat} {u v : Value} (h : Db w b u v) (ho : OnlyInt w w') : Db w' b u v := ho.2 _ _ _ _ h (by decide)
/-- The blocks from C on are as they were. -/
def Up (C : Nat) (w w' : World) : Prop := ∀ b, C ≤ b → b < w.heap.size → w'.heap[b]? = w.heap[b]?
theorem Up.refl (C : Nat) (w : World) : Up C w w := fun _ _ _ => rfl
theorem Up.trans {C : Nat} {w'' : World} (h1 : Up C w w') (h2 : Up C w' w'') (hs : w.heap.size ≤ w'.heap.size) : Up C w w'' := fun b hb hl => (h2 b hb (by omega)).trans (h1 b hb hl)
theorem Up.grown {C : Nat} {row : Option Nat} (hg : w.grownBy w' row) (hr : ∀ k, row = some k → k < C) : Up C w w' := fun b hb hl => hg.block b hl (fun e => by have := hr b e.symm; omega)
theorem Up.own {C : Nat} {e : TypeId} {v : Value} {xs : List Value} (h : Up C w w') (ho : w.ownsRow B e 1 v n xs) (hC : C ≤ B) : w'.ownsRow B e 1 v n xs := by
  refine ⟨ho.1, ?_⟩
  rcases ho.2 with h2 | ⟨g, cap, cur, h1, h2, h3, h4⟩
  · exact .inl h2
  · refine .inr ⟨g, cap, cur, h1, h2, (h g (by omega) ?_).trans h3, h4⟩
    rcases Nat.lt_or_ge g w.heap.size with h5 | h5
    · exact h5
    · rw [Array.getElem?_eq_none h5] at h3; cases h3
theorem DkY.up {C c2 : Nat} {D : Dk} (h : DkY w B A n c A2 m c2 D) (hU : Up C w w') (hC : C ≤ B) : DkY w' B A n c A2 m c2 D := h.keep (fun _ _ _ ho => hU.own ho hC) (fun _ _ _ ho => hU.own ho hC)
theorem Pc.len (h : Pc w B A2 m P ls) : ls.length = m := by have := h.1; have := h.2.1.1; omega
theorem Pc.at (h : Pc w B A2 m P ls) (hk : k < m) : ∃ g off Ai ni ci l, A2 = some ⟨g, off, none⟩ ∧ w.cell? ⟨g, off + k, none⟩ = some (.slice Ai ni ci) ∧ P[k]? = some (.slice Ai ni ci) ∧ ls[k]? = some l ∧ w.ownsRow B 3 1 (.slice Ai ni ci) ni (ints l) := by
  obtain ⟨_, h0⟩ | ⟨g, off, M, C, V, e, ho, hm, hP⟩ := h.2.2
  · omega
  have hl : ls[k]? = some (ls[k]'(by have := h.len; omega)) := List.getElem?_eq_getElem _
  obtain ⟨Ai, ni, ci, hv, ho2⟩ := h.2.1.at hl
  refine ⟨g, off, Ai, ni, ci, _, e, ?_, hv, hl, ho2⟩
  rw [ho.cellAt (off + k) (by omega), ← hv, hP, List.getElem?_take_of_lt hk, List.getElem?_drop]
theorem Pc.step {Ai : Option Addr} {ni ci : Nat} {xs : List Value} {l2 : List Int} (h : Pc w B A2 m P ls) (hu : P[k]? = some (.slice Ai ni ci)) (hap : Apart P) (ho : w.ownsRow B 3 1 (.slice Ai ni ci) ni xs) (hg : w.grownBy w' (Value.slice Ai ni ci).ownBlock) (hr : Row1 w' B (.slice Ai ni ci) l2) : Pc w' B A2 m P (ls.set k l2) :=
  ⟨h.1, h.2.1.set hu hap hg hr, by
    obtain h0 | ⟨g, off, M, C, V, e, ho2, hm2, hP⟩ := h.2.2
    · exact .inl h0
    exact .inr ⟨g, off, M, C, V, e, ho2.kept hg (own_types' ho ho2), hm2, hP⟩⟩
theorem Pc.kept {xs : List Value} (h : Pc w B A2 m P ls) (ho : w.ownsRow B 3 1 (.slice A n c) n xs) (hap : Apart (.slice A n c :: P)) (hg : w.grownBy w' (Value.slice A n c).ownBlock) : Pc w' B A2 m P ls :=
  ⟨h.1, ⟨h.2.1.1, fun j v l hv hl => by
    obtain ⟨A3, n3, c3, e3, ho3⟩ := h.2.1.2 j v l hv hl
    have := hap (j + 1) 0 v _ (by simpa using hv) rfl (by omega)
    rw [e3] at this
    exact ⟨A3, n3, c3, e3, ho3.kept hg this⟩⟩, by
    obtain h0 | ⟨g, off, M, C, V, e, ho2, hm2, hP⟩ := h.2.2
    · exact .inl h0
    exact .inr ⟨g, off, M, C, V, e, ho2.kept hg (own_types' ho ho2), hm2, hP⟩⟩
theorem Pc.onto (h : Pc w B A2 m P ls) (hg : w.grownBy w' none) : Pc w' B A2 m P ls :=
  ⟨h.1, h.2.1.onto hg, by
    obtain h0 | ⟨g, off, M, C, V, e, ho2, hm2, hP⟩ := h.2.2
    · exact .inl h0
    exact .inr ⟨g, off, M, C, V, e, own_kept_none ho2 hg, hm2, hP⟩⟩
theorem Pc.hi (h : Pc w B A2 m P ls) : ∀ (j : Nat) v, P[j]? = some v → ∀ k, v.ownBlock = some k → k < w.heap.size := fun j v hv => by
  have hl : ls[j]? = some (ls[j]'(by have := (List.getElem?_eq_some_iff.1 hv).1; have := h.1; have := h.len; omega)) := List.getElem?_eq_getElem _
  obtain ⟨Ai, ni, ci, e, ho⟩ := h.2.1.2 j v _ hv hl
  rw [e]
  exact own_hi ho
theorem Pc.on (h : Pc w B A2 m P ls) (hb : Below w.heap.size w w') : Pc w' B A2 m P ls :=
  ⟨h.1, h.2.1.on hb, by
    obtain h0 | ⟨g, off, M, C, V, e, ho2, hm2, hP⟩ := h.2.2
    · exact .inl h0
    exact .inr ⟨g, off, M, C, V, e, own_on ho2 hb, hm2, hP⟩⟩
theorem Apart.tail {u : Value} (h : Apart (u :: P)) : Apart P := fun i j x y hx hy hne => h (i + 1) (j + 1) x y (by simpa using hx) (by simpa using hy) (by omega)
theorem Apart.head {u v : Value} (h : Apart (u :: P)) (hv : P[k]? = some v) : u.ownBlock = none ∨ u.ownBlock ≠ v.ownBlock := h 0 (k + 1) u v rfl (by simpa using hv) (by omega)
theorem DkY.pc {c2 : Nat} {D : Dk} (h : DkY w B A n c A2 m c2 D) : ∃ P, Pc w B A2 m P D.past ∧ Apart (.slice A n c :: P) ∧ (∀ w' B' D', w'.ownsRow B' 3 1 (.slice A n c) n (ints D'.now) → Pc w' B' A2 m P D'.past → DkY w' B' A n c A2 m c2 D') := by
  rcases h.2.2 with ⟨e1, e2, e3⟩ | ⟨g, off, M, C, V, e, ho, hm, hr, ha⟩
  · subst e2
    refine ⟨[], ⟨rfl, by rw [e3]; exact ⟨rfl, fun j v l hv => by simp at hv⟩, by exact .inl ⟨e1, rfl⟩⟩, ?_, fun w' B' D' h1 h2 => ⟨h1, h.2.1, .inl ⟨e1, rfl, ?_⟩⟩⟩
    · exact apart_cons (fun i j x y hx => by simp at hx) (fun v hv => by simp at hv)
    · exact List.eq_nil_of_length_eq_zero h2.len
  · have hV := outer_len ho
    refine ⟨(V.drop off).take m, ⟨by rw [List.length_take, List.length_drop]; omega, hr, .inr ⟨g, off, M, C, V, e, ho, hm, rfl⟩⟩, ha, fun w' B' D' h1 h2 => ⟨h1, h.2.1, ?_⟩⟩
    obtain ⟨h0, _⟩ | ⟨g', off', M', C', V', e', ho', hm', hP'⟩ := h2.2.2
    · rw [e] at h0; cases h0
    · refine .inr ⟨g', off', M', C', V', e', ho', hm', ?_⟩
      rw [← hP']
      exact ⟨h2.2.1, ha⟩
end

set_option maxHeartbeats 3200000 in
theorem markRows_any (A2 : Option Addr) (m c2 B : Nat) (P : List Value) (ls : List (List Int)) (k0 : Int) (AN : Option Addr) (nN cN : Nat) (xs : List Value) (w : World) (HP : Pc w B A2 m P ls) (oN : w.ownsRow B 3 1 (.slice AN nN cN) nN xs) (hap : Apart (.slice AN nN cN :: P)) (hk0 : 0 ≤ k0) (hk1 : k0 + ((ls.map List.length).sum : Int) ≤ 2000000000) (hm : m ≤ 1000000000) (hB : B ≤ w.heap.size) (C : Nat) (hC : ∀ (j : Nat) (v : Value), P[j]? = some v → ∀ k, v.ownBlock = some k → k < C) :
    Calls Try.prog 54 #[.slice A2 m c2, .int .i64 k0] w fun e w' => e = .returned (.int .i64 (k0 + ((ls.map List.length).sum : Int))) ∧ Pc w' B A2 m P (mkL k0 (ls.map List.length)) ∧ w'.ownsRow B 3 1 (.slice AN nN cN) nN xs ∧ Below B w w' ∧ OnlyInt w w' ∧ Up C w w' := by
  have HC := hid hC
  clear hC
  have h2 : ls.length = m := HP.len
  have HA := hid HP
  rw [← partMk_zero k0 ls] at HA
  have HAP := hid hap
  have HL2 := hid h2
  have BB := hid (Below.refl B w)
  have HN := hid oN
  clear HP hap oN
  have hz : (k0 : Int) = k0 + (sumTo (ls.map List.length) 0 : Int) := by simp [sumTo]
  have HZ := hid hz
  clear hz
  go_enter Try.func54, Try.ntmps54
  go_wp2_with fail
  go_loopw [1, 5] (fun x i wr => ∃ k : Nat, x = .int .i64 (k0 + (sumTo (ls.map List.length) k : Int)) ∧ i = .int .i64 k ∧ k ≤ m ∧ Hid (Pc wr B A2 m P (partMk k0 ls k)) ∧ Hid (wr.ownsRow B 3 1 (.slice AN nN cN) nN xs) ∧ Hid (Below B w wr) ∧ w.heap.size ≤ wr.heap.size ∧ Hid (OnlyInt w wr) ∧ Hid (Up C w wr)) (fun _ i _ => m - (intOf i).toNat)
  case atStart => exact ⟨0, by rw [← HZ.out], rfl, Nat.zero_le _, HA, HN, BB, Nat.le_refl _, hid (OnlyInt.refl w), hid (Up.refl C w)⟩
  case round =>
    clear HA BB HZ HN
    obtain ⟨k, rfl, rfl, hk, HA, HN, BB, hsz, HO, HU⟩ := hrel
    by_cases hlt : k < m
    · have hkl : k < ls.length := by omega
      obtain ⟨g, off, Ai, ni, ci, l, rfl, hc1, hv1, hl1, o1⟩ := HA.out.at hlt
      rw [partMk_at hkl] at hl1
      injection hl1 with hl1
      subst hl1
      have hni : (ls[k]).length = ni := by have := o1.1; simpa using this
      have hs1 := sumTo_le (ls.map List.length) (k + 1)
      rw [sumTo_succ (by simpa using hkl)] at hs1
      have hsE := sumTo_succ (lens := ls.map List.length) (i := k) (by simpa using hkl)
      rw [List.getElem_map, hni] at hs1 hsE
      have hset := partMk_set (k0 := k0) hkl
      rw [hni] at hset
      obtain ⟨s0, hs0⟩ : ∃ s0, sumTo (ls.map List.length) k = s0 := ⟨_, rfl⟩
      rw [hs0] at hs1 hsE hset
      rw [hs0]
      obtain ⟨S0, hS0⟩ : ∃ S0, (ls.map List.length).sum = S0 := ⟨_, rfl⟩
      rw [hS0] at hk1 hs1
      have HE := hid hsE
      have HSET := hid hset
      have hki : (k : Int) < (m : Int) := by omega
      clear hs0 hsE hset hni
      have CM := hid (markIntS_any Ai ni ci B (ls[k]) (k0 + (s0 : Int)) wr o1 (by omega) (by omega) (by omega))
      have HO1 := hid o1
      have HHV := hid hv1
      clear hS0 o1 hv1
      go_wp2_with fail
      with_reducible refine Calls.mono CM.out ?_
      rintro r w4 ⟨rfl, o4, g4⟩
      have HA4 := hid (HA.out.step HHV.out HAP.out.tail HO1.out g4 ⟨_, _, _, rfl, o4⟩)
      rw [HSET.out] at HA4
      have HN4 := hid (HN.out.kept g4 (HAP.out.head HHV.out))
      have BB4 := hid (BB.out.grown g4 (by omega) (own_lo HO1.out))
      have hsz4 : w.heap.size ≤ w4.heap.size := Nat.le_trans hsz g4.size
      have HU4 := hid (HU.out.trans (Up.grown g4 (HC.out _ _ HHV.out)) hsz)
      have HO4 := hid (HO.out.trans (OnlyInt.row HO1.out g4))
      clear g4 o4 HO1 HA HN BB hc1 CM HHV HO HU
      go_wp2
      go_roundw
      case rel => exact ⟨k + 1, by rw [HE.out]; simp; omega, by go_num, by omega, HA4, HN4, BB4, hsz4, HO4, HU4⟩
      case measure => simp [intOf]; omega
    · obtain rfl : k = m := by omega
      have hs : sumTo (ls.map List.length) k = (ls.map List.length).sum := by unfold sumTo; rw [List.take_of_length_le (by simp; omega)]
      rw [partMk_all h2] at HA
      rw [hs]
      clear hs
      go_wp2
      go_ret
      exact ⟨rfl, HA.out, HN.out, BB.out, HO.out, HU.out⟩

set_option maxHeartbeats 1600000 in
theorem heldRows_any (A2 : Option Addr) (m c2 B : Nat) (P : List Value) (lens : List Nat) (k0 : Int) (w : World) (HP : Pc w B A2 m P (mkL k0 lens)) (hk0 : 0 ≤ k0) (hk1 : k0 + (lens.sum : Int) ≤ 2000000000) (hm : m ≤ 1000000000) :
    Calls Try.prog 56 #[.slice A2 m c2, .int .i64 k0] w fun e w' => e = .returned (.int .i64 (k0 + (lens.sum : Int))) ∧ w = w' := by
  have h2 : lens.length = m := by have := HP.len; rw [mkL_len] at this; omega
  have HZ := hid (show (k0 : Int) = k0 + (sumTo lens 0 : Int) from by simp [sumTo])
  have HA := hid HP
  clear HP
  go_enter Try.func56, Try.ntmps56
  go_wp2_with fail
  go_loopw [1, 5] (fun x i wr => ∃ k : Nat, x = .int .i64 (k0 + (sumTo lens k : Int)) ∧ i = .int .i64 k ∧ k ≤ m ∧ wr = w) (fun _ i _ => m - (intOf i).toNat)
  case atStart => exact ⟨0, by rw [← HZ.out], rfl, Nat.zero_le _, by first | rfl | trivial⟩
  case round =>
    obtain ⟨k, rfl, rfl, hk, rfl⟩ := hrel
    clear HZ
    by_cases hlt : k < m
    · have hkl : k < lens.length := by omega
      obtain ⟨g, off, Ai, ni, ci, l, rfl, hc1, hv1, hl1, o1⟩ := HA.out.at hlt
      rw [mkL_at hkl] at hl1
      injection hl1 with hl1
      subst hl1
      have hni : lens[k] = ni := by have := o1.1; simpa [marks_len] using this
      have hs1 := sumTo_le lens (k + 1)
      have hsE := sumTo_succ hkl
      rw [hsE] at hs1
      rw [hni] at hs1 hsE o1
      have HE := hid hsE
      obtain ⟨s0, hs0⟩ : ∃ s0, sumTo lens k = s0 := ⟨_, rfl⟩
      rw [hs0] at hs1 HE o1
      rw [hs0]
      obtain ⟨S0, hS0⟩ : ∃ S0, lens.sum = S0 := ⟨_, rfl⟩
      have hk1' := hk1
      rw [hS0] at hk1' hs1
      have hki : (k : Int) < (m : Int) := by omega
      have CM := hid (heldIntS_any Ai ni ci (k0 + (s0 : Int)) wr wr.heap.size (Sl.of_own o1) (by omega) (by omega))
      have hpos : 0 ≤ k0 + (s0 : Int) + (ni : Int) := by omega
      clear hS0 hs0 hsE hni o1 hv1
      go_wp2_with fail
      with_reducible refine Calls.mono CM.out ?_
      rintro r w4 ⟨rfl, rfl⟩
      go_wp2
      go_roundw
      case rel => exact ⟨k + 1, by rw [HE.out]; simp; omega, by go_num, by omega, by first | rfl | trivial⟩
      case measure => simp [intOf]; omega
    · obtain rfl : k = m := by omega
      have hs : sumTo lens k = lens.sum := by unfold sumTo; rw [List.take_of_length_le (by omega)]
      rw [hs]
      clear hs
      go_wp2
      go_ret
      exact ⟨rfl, rfl⟩

/-- A desk marked from 1. -/
def mkD (n : Nat) (lens : List Nat) : Dk := ⟨marks 1 n, mkL (1 + (n : Int)) lens⟩

set_option maxHeartbeats 1600000 in
theorem markDeskP_any (A : Option Addr) (n c : Nat) (A2 : Option Addr) (m c2 B C : Nat) (P : List Value) (D : Dk) (w : World) (hP : Pc w B A2 m P D.past) (ho : w.ownsRow B 3 1 (.slice A n c) n (ints D.now)) (ha : Apart (.slice A n c :: P)) (hcn : ∀ k, (Value.slice A n c).ownBlock = some k → k < C) (hC : ∀ (j : Nat) v, P[j]? = some v → ∀ k, v.ownBlock = some k → k < C) (hk : n + szL D.past ≤ 1000000000) (hm : m ≤ 1000000000) (hB : B ≤ w.heap.size) :
    Calls Try.prog 28 #[dsk A n c A2 m c2, .int .i64 1] w fun e w' => e = .returned (.int .i64 (1 + (n : Int) + (szL D.past : Int))) ∧ Pc w' B A2 m P (mkL (1 + (n : Int)) (D.past.map List.length)) ∧ w'.ownsRow B 3 1 (.slice A n c) n (ints (marks 1 n)) ∧ Below B w w' ∧ OnlyInt w w' ∧ Up C w w' := by
  have gA := grown_alloc w (.cells #[.slice A n c, .slice A2 m c2] 26) none
  have XA := Db.new w (.slice A n c) (.slice A2 m c2)
  have P0 := hP.onto gA
  have o0 := own_kept_none ho gA
  have B0 := (Below.refl B w).alloc hB (.cells #[.slice A n c, .slice A2 m c2] 26)
  have I0 := OnlyInt.none gA
  have U0 : Up C w (w.alloc (.cells #[.slice A n c, .slice A2 m c2] 26)) := Up.grown gA (fun k hk => by cases hk)
  have HC := hid hC
  have HCN := hid hcn
  go_enter Try.func28, Try.ntmps28
  obtain ⟨w0, e0⟩ : ∃ W, w.alloc (.cells #[.slice A n c, .slice A2 m c2] 26) = W := ⟨_, rfl⟩
  have hz0 : w0.heap.size = w.heap.size + 1 := by rw [← e0]; simp
  rw [e0] at XA P0 o0 B0 I0 U0
  have x0 := XA.c0
  have CM := hid (markIntS_any A n c B D.now 1 w0 o0 (by omega) (by omega) (by omega))
  have HX := hid XA
  have HP0 := hid P0
  have HO0 := hid o0
  have HB0 := hid B0
  have HI0 := hid I0
  have HU0 := hid U0
  have HAP := hid ha
  clear XA P0 o0 B0 I0 U0 gA hP ho ha hC hcn
  go_wp2_with fail
  with_reducible refine Calls.mono CM.out ?_
  rintro e w1 ⟨rfl, o1, g1⟩
  have I1 := OnlyInt.row HO0.out g1
  have P1 := HP0.out.kept HO0.out HAP.out g1
  have X1 := HX.out.only I1
  have x1 := X1.c1
  have HB1 := hid (HB0.out.grown g1 (by omega) (own_lo HO0.out))
  have hz1 := g1.size
  have HU1 := hid (HU0.out.trans (Up.grown g1 HCN.out) (by omega))
  have HR := hid (markRows_any A2 m c2 B P D.past (1 + (n : Int)) A n c (ints (marks 1 n)) w1 P1 o1 HAP.out (by omega) (by unfold szL at hk; omega) hm (by omega) C HC.out)
  have HI1 := hid (HI0.out.trans I1)
  clear I1 P1 X1 g1 o1 CM x0 HP0 HO0 HB0 HI0 HX e0 HU0
  go_wp2_with fail
  with_reducible refine Calls.mono HR.out ?_
  rintro e w2 ⟨rfl, p2, o2, b2, i2, u2⟩
  have HB2 := hid (HB1.out.trans b2)
  have HI2 := hid (HI1.out.trans i2)
  have HU2 := hid (HU1.out.trans u2 (by omega))
  have HP2 := hid p2
  have HO2 := hid o2
  clear p2 o2 b2 i2 HR x1 u2
  go_wp2
  go_ret
  exact ⟨rfl, HP2.out, HO2.out, HB2.out, HI2.out, HU2.out⟩

theorem markDesk_any (A : Option Addr) (n c : Nat) (A2 : Option Addr) (m c2 B : Nat) (D : Dk) (w : World) (h : DkY w B A n c A2 m c2 D) (hk : n + szL D.past ≤ 1000000000) (hm : m ≤ 1000000000) (hB : B ≤ w.heap.size) :
    Calls Try.prog 28 #[dsk A n c A2 m c2, .int .i64 1] w fun e w' => e = .returned (.int .i64 (1 + (n : Int) + (szL D.past : Int))) ∧ DkY w' B A n c A2 m c2 (mkD n (D.past.map List.length)) ∧ Below B w w' ∧ OnlyInt w w' := by
  obtain ⟨P, hP, ha, hY⟩ := h.pc
  refine (markDeskP_any A n c A2 m c2 B w.heap.size P D w hP h.1 ha (own_hi h.1) hP.hi hk hm hB).mono ?_
  rintro e w' ⟨h1, h2, h3, h4, h5, h6⟩
  exact ⟨h1, hY w' B (mkD n (D.past.map List.length)) h3 h2, h4, h5⟩

set_option maxHeartbeats 1600000 in
theorem heldDesk_any (A : Option Addr) (n c : Nat) (A2 : Option Addr) (m c2 B : Nat) (lens : List Nat) (w : World) (h : DkY w B A n c A2 m c2 (mkD n lens)) (hk : n + lens.sum ≤ 1000000000) (hm : m ≤ 1000000000) :
    Calls Try.prog 29 #[dsk A n c A2 m c2, .int .i64 1] w fun e w' => e = .returned (.int .i64 (1 + (n : Int) + (lens.sum : Int))) ∧ Below w.heap.size w w' := by
  obtain ⟨P, hP, ha, hY⟩ := h.pc
  have gA := grown_alloc w (.cells #[.slice A n c, .slice A2 m c2] 26) none
  have XA := Db.new w (.slice A n c) (.slice A2 m c2)
  have P0 := hP.onto gA
  have o0 := own_kept_none h.1 gA
  have B0 := below_grown gA
  go_enter Try.func29, Try.ntmps29
  obtain ⟨w0, e0⟩ : ∃ W, w.alloc (.cells #[.slice A n c, .slice A2 m c2] 26) = W := ⟨_, rfl⟩
  have hz0 : w0.heap.size = w.heap.size + 1 := by rw [← e0]; simp
  rw [e0] at XA P0 o0 B0
  have x0 := XA.c0
  have x1 := XA.c1
  have CM := hid (heldIntS_any A n c 1 w0 w0.heap.size (Sl.of_own o0) (by omega) (by omega))
  have CR := hid (heldRows_any A2 m c2 B P lens (1 + (n : Int)) w0 P0 (by omega) (by omega) hm)
  have HB0 := hid B0
  have hp : ¬ 1 + (n : Int) < 0 := by omega
  have hp2 : ¬ 1 + (n : Int) + (lens.sum : Int) < 0 := by omega
  clear XA P0 o0 B0 gA h hP ha hY
  go_wp2_with fail
  with_reducible refine Calls.mono CM.out ?_
  rintro e w1 ⟨rfl, rfl⟩
  clear e0
  go_wp2_with fail
  with_reducible refine Calls.mono CR.out ?_
  rintro e w2 ⟨rfl, rfl⟩
  go_wp2
  go_ret
  exact ⟨rfl, HB0.out⟩
end Go.Proofs.Ytkejcajboneniaa

namespace Go.Proofs.Ytkejcajboneniaa
open Go.RowKit
set_option linter.unusedVariables false
set_option linter.unusedSimpArgs false

/-- The texts that l20Spoil puts in. -/
def spoilT (u : Nat) : List UInt8 := if u = 0 then [] else if u = 1 then [48] else if u = 2 then [32] else if u = 3 then [10] else if u = 4 then [45] else [98, 97, 99, 107]
theorem spoilT_len (u : Nat) : (spoilT u).length ≤ 4 := by
  unfold spoilT
  (repeat' split) <;> decide
def spoilC : Array Value := #[encStr [], encStr [48], encStr [32], encStr [10], encStr [45], encStr [98, 97, 99, 107]]
theorem spoilC_at {u : Nat} (h : u < 6) : spoilC[u]? = some (encStr (spoilT u)) := by
  rcases (show u = 0 ∨ u = 1 ∨ u = 2 ∨ u = 3 ∨ u = 4 ∨ u = 5 by omega) with rfl | rfl | rfl | rfl | rfl | rfl <;> rfl

end Go.Proofs.Ytkejcajboneniaa

namespace Go.Proofs.Ytkejcajboneniaa
open Go.RowKit
set_option linter.unusedVariables false
set_option linter.unusedSimpArgs false

theorem own_shapeD {W : World} {base n : Nat} {v : Value} {l : List (Int × Int)} (h : W.ownsRow base 45 2 v n (ints (flat l))) : ∃ A c, v = .slice A n c := by
  rcases h.2 with ⟨h1, h2⟩ | ⟨g, cap, cur, hv, _⟩
  · subst h2; exact ⟨_, _, h1⟩
  · exact ⟨_, _, hv⟩
set_option maxRecDepth 100000 in
set_option maxHeartbeats 3200000 in
theorem deedsDraw_any (g P : Nat) (A : Option Addr) (n c : Nat) (w : World) (hr : Rd w g P) (hP : P < 10000) (hn : n ≤ 17) :
    Calls Try.prog 65 #[.pointer (some ⟨g, 0, none⟩), .slice A n c] w fun e w' => ∃ A1 n1 c1 l1, e = .returned (.slice A1 n1 c1) ∧ w'.ownsRow w.heap.size 45 2 (.slice A1 n1 c1) n1 (ints (flat l1)) ∧ n1 ≤ 6 ∧ Rd w' g (P + 40) ∧ w.grownBy w' (some g) := by
  obtain ⟨i0, hi, hz0, hz1, hz2⟩ := info_parts info_deed
  have hglt := hr.lt
  have r0 := hr.grown (grown_alloc w (.cells #[] 45) none) (by simp)
  have g0 := grown_alloc w (.cells #[] 45) (some g)
  have o0 : (w.alloc (.cells #[] 45)).ownsRow w.heap.size 45 2 (.slice (some ⟨w.heap.size, 0, none⟩) 0 0) 0 (ints (flat [])) := World.ownsRow_lit w #[] 0 (Nat.le_refl _) (by simp [maxLen]) rfl
  go_enter Try.func65, Try.ntmps65
  go_wp2_with fail
  refine (pick_any g _ 6 _ r0 (by omega) (by omega) (by omega)).mono ?_
  rintro e w1 ⟨K, rfl, hk0, hk1, r1, g1⟩
  obtain ⟨K, rfl⟩ : ∃ k : Nat, K = k := Int.eq_ofNat_of_zero_le hk0
  have o1 := o0.kept g1 (.inr (by simp [Value.ownBlock]; omega))
  have g01 := g0.andThen g1 (by simp)
  clear g0 g1 r0 o0
  go_wp2_with fail
  go_loopw [5, 6] (fun v kk wr => ∃ (A1 : Option Addr) (i c1 : Nat) (l : List (Int × Int)) (j : Nat), v = .slice A1 i c1 ∧ kk = .int .i64 j ∧ i + j ≤ 5 ∧ wr.ownsRow w.heap.size 45 2 (.slice A1 i c1) i (ints (flat l)) ∧ Rd wr g (P + 1 + i * 5) ∧ w.grownBy wr (some g)) (fun _ kk _ => (intOf kk).toNat)
  case atStart => exact ⟨_, 0, 0, [], K, rfl, rfl, by omega, o1, r1.more (by omega), g01⟩
  case round =>
    clear o1 r1 g01
    obtain ⟨A1, i, c1, l, j, rfl, rfl, hij, ho, hrr, hgg⟩ := hrel
    by_cases hj : 0 < j
    · have hji : (0 : Int) < (j : Int) := by omega
      have hv := own_blk2 ho
      have hvg : (Value.slice A1 i c1).ownBlock = none ∨ (Value.slice A1 i c1).ownBlock ≠ some g := by
        rcases hv with h | ⟨k, h, hk⟩
        · exact .inl h
        · exact .inr (by rw [h]; simp; omega)
      go_wp2_with fail
      refine (deedDraw_any g _ A n c _ hrr (by omega) hn).mono ?_
      rintro e w5 ⟨a, rfl, ha, r5, g5⟩
      replace ho := ho.kept g5 hvg
      replace hgg := hgg.andThen g5 (by simp)
      have hz5 := hgg.size
      clear g5 hrr
      go_wp2_with (at_builtin; refine wpList_append_own _ rfl _ _ 53 rfl w.heap.size 45 i0 (deedV (0, 0)) 2 16 Try.underlying53 hi hz0 hz1 hz2 rfl (by decide) (.slice A1 i c1) _ _ rfl (ho.alloc _) ⟨w5.heap.size, 0, none⟩ 1 1 [.int .i64 a.1, .int .i64 a.2] rfl rfl (cells_new _ [.int .i64 a.1, .int .i64 a.2] _) (by simp [Value.oneCell']) (by simp only [maxLen]; omega) (by omega) (by simp; omega) ?_; intro v2 w2 o2 g2 _)
      rw [ints_flat_snoc] at o2
      obtain ⟨g2b, c2, rfl, hbg, hlt2⟩ := own_shape1 o2 (by omega)
      have gN := (hgg.andThen (grown_alloc w5 _ (some g)) (by simp)).andThen g2 (by
        intro k hk
        rcases hv with h | ⟨k', h, hk'⟩
        · rw [h] at hk; cases hk
        · rw [h] at hk; cases hk; exact .inl hk')
      have rN := (r5.grown (grown_alloc w5 _ none) (by simp)).grown g2 (by
        intro k hk
        rcases hv with h | ⟨k', h, hk'⟩
        · rw [h] at hk; cases hk
        · rw [h] at hk; cases hk; omega)
      have O2 := hid o2
      have GN := hid gN
      have RN := hid rN
      clear o2 g2 gN rN ho hgg r5
      go_wp2
      go_roundw
      case rel => exact ⟨_, i + 1, c2, l ++ [a], j - 1, rfl, by go_num, by omega, O2.out, RN.out.more (by omega), GN.out⟩
      case measure => simp [intOf]; omega
    · obtain rfl : j = 0 := by omega
      go_wp2
      go_ret
      exact ⟨A1, i, c1, l, rfl, ho, by omega, hrr.more (by omega), hgg⟩

end Go.Proofs.Ytkejcajboneniaa

namespace Go.Proofs.Ytkejcajboneniaa
open Go.RowKit
set_option linter.unusedVariables false
set_option linter.unusedSimpArgs false

theorem grown_of_below {w w' : World} (h : Below w.heap.size w w') : w.grownBy w' none := ⟨h.os, h.tape, h.output, h.size, fun k hk _ => h.block k hk⟩
theorem DkF.lo {w w' : World} {B n c m c2 g : Nat} {A A2 : Option Addr} {D : Dk} (h : DkF w B A n c A2 m c2 D) (hg : w.grownBy w' (some g)) (hlt : g < B) : DkF w' B A n c A2 m c2 D :=
  h.elim fun vs k => ⟨vs, k.now.kept hg (.inr fun e => by have := own_lo k.now g e; omega), k.past.kept hg (.inr fun e => by have := own_lo k.past g e; omega), k.rows.keep (fun v n xs ho => ho.kept hg (.inr fun e => by have := own_lo ho g e; omega))⟩
theorem grown_put {w w1 : World} {row : Option Nat} {L : Nat} (h : w.grownBy w1 row) (hL : w.heap.size ≤ L) (x y : Value) : w.grownBy ((w1.setCell ⟨L, 0, none⟩ x).setCell ⟨L, 1, none⟩ y) row :=
  (h.andThen (grown_set w1 ⟨L, 0, none⟩ x rfl) (fun k hk => by cases hk; exact .inl hL)).andThen (grown_set _ ⟨L, 1, none⟩ y rfl) (fun k hk => by cases hk; exact .inl hL)
theorem rd_put {w : World} {g P L : Nat} (h : Rd w g P) (hL : g < L) (x y : Value) : Rd ((w.setCell ⟨L, 0, none⟩ x).setCell ⟨L, 1, none⟩ y) g P :=
  (h.grown (grown_set w ⟨L, 0, none⟩ x rfl) (fun k hk => by cases hk; exact hL)).grown (grown_set _ ⟨L, 1, none⟩ y rfl) (fun k hk => by cases hk; exact hL)
theorem cutH {T G : Prop} (h : Hid T → G) (r : T) : G := h (hid r)
theorem DkF.put {w : World} {B n c m c2 b i : Nat} {A A2 : Option Addr} {D : Dk} {u v : Value} (h : DkF w B A n c A2 m c2 D) (hd : Db w b u v) (x : Value) : DkF (w.setCell ⟨b, i, none⟩ x) B A n c A2 m c2 D :=
  h.elim fun vs k => ⟨vs, own_box x k.now (hd.ne_int k.now), own_box x k.past (hd.ne_row k.past), k.rows.box x hd⟩
theorem DkF.lens {w : World} {B n c m c2 : Nat} {A A2 : Option Addr} {D : Dk} (h : DkF w B A n c A2 m c2 D) : n = D.now.length ∧ m = D.past.length :=
  ⟨by have := h.read.now.len; omega, by have := h.read.past.len; omega⟩
theorem do_now (D : Dk) (a : Int × Int) : (deskDo D a).1.now.length ≤ 16 ∧ (deskDo D a).1.past.length ≤ D.past.length + 1 := by
  unfold deskDo
  by_cases h : deskOk D = true
  · rw [if_pos h]
    obtain ⟨h1, h2, h3⟩ := deskOk_iff.1 h
    have hn := (bitsOk_iff.1 h2).2.2
    by_cases hb : undoB D a.1 a.2 = true
    · rw [if_pos hb]
      unfold undoB at hb
      rw [Bool.and_eq_true] at hb
      obtain ⟨q, l, e1, e2, e3⟩ := last_getD (p := D.past) (by simpa using hb.2)
      show (D.past.getLast?.getD []).length ≤ 16 ∧ D.past.dropLast.length ≤ _
      rw [e2, e3]
      exact ⟨(bitsOk_iff.1 (h1 l (by rw [e1]; simp))).2.2, by rw [e1]; simp; omega⟩
    · rw [if_neg hb]
      by_cases hs : stayB D a.1 a.2 = true
      · rw [if_pos hs]
        exact ⟨hn, Nat.le_succ _⟩
      · rw [if_neg hs]
        have hne : (madeL D.now a.1 a.2).isEmpty = false := by
          unfold stayB at hs; rw [Bool.or_eq_true] at hs
          cases hh : (madeL D.now a.1 a.2).isEmpty with
          | false => rfl
          | true => exact absurd (.inl hh) hs
        refine ⟨(bitsOk_iff.1 (made_ok h2 _ _ hne)).2.2, ?_⟩
        show (trimL (D.past ++ [D.now])).length ≤ _
        unfold trimL
        split <;> simp
  · rw [if_neg h]
    simp [noDk]

theorem newOut_len (l : List Int) : (newOut l).now.length ≤ l.length ∧ (newOut l).past = [] := by
  unfold newOut
  by_cases h : bitsOk l = true
  · rw [if_pos h]; exact ⟨Nat.le_refl _, rfl⟩
  · rw [if_neg h]; exact ⟨Nat.zero_le _, rfl⟩

set_option maxRecDepth 100000 in
set_option maxHeartbeats 6400000 in
theorem deskDraw_any (g P : Nat) (M : Int) (w : World) (hr : Rd w g P) (hP : P < 9000) (hM : 1 ≤ M) (hM2 : M ≤ 1000000) :
    Calls Try.prog 42 #[.pointer (some ⟨g, 0, none⟩), .int .i64 M] w fun e w' => ∃ A n c A2 m c2 D, e = .returned (dsk A n c A2 m c2) ∧ DkF w' w.heap.size A n c A2 m c2 D ∧ n ≤ 17 ∧ m ≤ 6 ∧ Rd w' g (P + 100) ∧ w.grownBy w' (some g) := by
  obtain ⟨j0, hj, hjz0, hjz1, hjz2⟩ := info_rows
  have hglt := hr.lt
  have g0 := grown_alloc w (.cells #[.slice none 0 0, .slice none 0 0] 26) (some g)
  have r0 := hr.grown (grown_alloc w (.cells #[.slice none 0 0, .slice none 0 0] 26) none) (by simp)
  have XR := Db.new w (.slice none 0 0) (.slice none 0 0)
  obtain ⟨w0, e0⟩ : ∃ W, w.alloc (.cells #[.slice none 0 0, .slice none 0 0] 26) = W := ⟨_, rfl⟩
  have hz0 : w0.heap.size = w.heap.size + 1 := by rw [← e0]; simp
  go_enter Try.func42, Try.ntmps42
  rw [e0] at g0 r0 XR
  have C1 := hid (bitsz_any g P 0 w0 r0 (by omega) (by omega) (by omega))
  go_wp2_with fail
  clear e0
  with_reducible refine Calls.mono C1.out ?_
  rintro e w1 ⟨A1, n1, c1, l1, rfl, o1, hn1, r1, g1⟩
  have XR1 := XR.on g1 (by simp; omega)
  have G1 := g0.andThen g1 (by simp)
  have hz1 := g1.size
  have hl1 := (Sl.of_own o1).len
  have C2 := hid (specDeskNew_any A1 n1 c1 l1 w1 (Sl.of_own o1))
  have HR1 := hid r1
  have HG1 := hid G1
  have HXR1 := hid XR1
  clear g0 r0 XR C1 o1 r1 g1 XR1 G1
  go_wp2_with fail
  with_reducible refine Calls.mono C2.out ?_
  rintro e w2 ⟨A3, n3, c3, A4, m4, c4, rfl, F2, b2⟩
  obtain ⟨W, eW⟩ : ∃ W, w2.alloc (.cells #[.slice A3 n3 c3, .slice A4 m4 c4] 26) = W := ⟨_, rfl⟩
  have gW := (grown_of_below b2).trans (show w2.grownBy W none by rw [← eW]; exact grown_alloc _ _ _)
  have XO : Db W w2.heap.size (.slice A3 n3 c3) (.slice A4 m4 c4) := by rw [← eW]; exact Db.new _ _ _
  have FW : DkF W w.heap.size A3 n3 c3 A4 m4 c4 (newOut l1) := (F2.onto (show w2.grownBy W none by rw [← eW]; exact grown_alloc _ _ _)).mono (by omega)
  have HRW := HR1.out.grown gW (by simp)
  have HGW := HG1.out.andThen gW (by simp)
  have HXW := HXR1.out.on gW (by simp)
  obtain ⟨o, ho⟩ : ∃ o, w2.heap.size = o := ⟨_, rfl⟩
  have hb2 := b2.size
  have hoB : w.heap.size + 1 ≤ o := by omega
  rw [ho] at XO
  have hnew := newOut_len l1
  have hls := FW.lens
  have HM := hid (show m4 = 0 by rw [hls.2, hnew.2]; rfl)
  have hn3 : n3 ≤ 17 := by rw [hls.1]; have := hnew.1; omega
  clear hls hnew
  have C3 := hid (pick_any g _ 6 W HRW (by omega) (by omega) (by omega))
  have HF := hid FW
  have HG := hid HGW
  have HX := hid HXW
  have HO := hid XO
  clear F2 b2 gW XO FW HRW HGW HXW C2 HR1 HG1 HXR1 hz0 hz1 hb2
  go_wp2_with fail
  clear eW ho
  with_reducible refine Calls.mono C3.out ?_
  rintro e w3 ⟨K, rfl, hK0, hK1, r3, g3⟩
  obtain ⟨K, rfl⟩ : ∃ k : Nat, K = k := Int.eq_ofNat_of_zero_le hK0
  have F3 := hid (HF.out.lo g3 hglt)
  have G3 := hid (HG.out.andThen g3 (by simp))
  have X3 := hid (HX.out.on g3 (by simp; omega))
  have O3 := hid (HO.out.on g3 (by simp; omega))
  have R3 := hid r3
  clear r3 g3 C3 HF HG HX HO
  go_wp2_with fail
  go_loopw [7] (fun kk wr => ∃ (i j : Nat) (A : Option Addr) (n c : Nat) (A2 : Option Addr) (m c2 : Nat) (D : Dk), kk = .int .i64 j ∧ i + j ≤ 5 ∧ m ≤ i ∧ n ≤ 17 ∧ Hid (Db wr o (.slice A n c) (.slice A2 m c2)) ∧ Hid (DkF wr w.heap.size A n c A2 m c2 D) ∧ Hid (Db wr w.heap.size (.slice none 0 0) (.slice none 0 0)) ∧ Hid (Rd wr g (P + 41 + 5 * i)) ∧ Hid (w.grownBy wr (some g))) (fun kk _ => (intOf kk).toNat)
  case atStart => exact ⟨0, K, A3, n3, c3, A4, m4, c4, _, rfl, by omega, by have := HM.out; omega, hn3, O3, F3, X3, hid (R3.out.more (by omega)), G3⟩
  case round =>
    clear F3 G3 X3 O3 R3 HM hn3
    obtain ⟨i, j, A, n, c, A2, m, c2, D, rfl, hij, hmi, hn, HO, HF, HX, HR, HG⟩ := hrel
    have hoz := HO.out.lt
    have hwz := HG.out.size
    by_cases hjp : 0 < j
    · have hji : (0 : Int) < (j : Int) := by omega
      have hgo : some o ≠ some g := by simp; omega
      have hD8 := hid (show D.past.length < 8 by have := HF.out.lens; omega)
      have KX := hid (fun (W' : World) (hW : wr.grownBy W' (some g)) => show W'.cell? ⟨o, 0, none⟩ = some (.slice A n c) ∧ W'.cell? ⟨o, 1, none⟩ = some (.slice A2 m c2) from by
        have h := HO.out.on hW hgo
        exact ⟨h.c0, h.c1⟩)
      have CD := hid (fun (W' : World) (hR : Rd W' g (P + 41 + 5 * i)) => deedDraw_any g _ A n c W' hR (by omega) hn)
      have CO := hid (fun (W' : World) (k N : Int) (hW : wr.grownBy W' (some g)) => specDeskDo_any A n c A2 m c2 D k N W' ((HF.out.lo hW hglt).read))
      have hd1 : wr.grownBy wr.drew (some g) := (World.grownBy.refl wr (some g)).andThen (drewN_gA wr 1) (by simp)
      have hd2 : wr.grownBy (wr.alloc (.cells #[.slice none 0 0, .slice none 0 0] 26)).drew (some g) := (grown_alloc wr (.cells #[.slice none 0 0, .slice none 0 0] 26) (some g)).andThen (drewN_gA _ 1) (by simp)
      have rd1 : Rd wr.drew g (P + 41 + 5 * i) := HR.out.grown (drewN_gA wr 1) (by simp)
      have rd2 : Rd (wr.alloc (.cells #[.slice none 0 0, .slice none 0 0] 26)).drew g (P + 41 + 5 * i) := HR.out.grown ((grown_alloc wr (.cells #[.slice none 0 0, .slice none 0 0] 26) none).trans (drewN_gA _ 1)) (by simp)
      have X1 : Db (wr.alloc (.cells #[.slice none 0 0, .slice none 0 0] 26)).drew wr.heap.size (.slice none 0 0) (.slice none 0 0) := Db.new wr (.slice none 0 0) (.slice none 0 0)
      have hwg : some wr.heap.size ≠ some g := by simp; omega
      have HX1 := hid X1
      have R1 := hid rd1
      have R2 := hid rd2
      obtain ⟨x0, x1⟩ := KX.out wr (World.grownBy.refl _ _)
      clear X1 rd1 rd2
      go_wp2
      rename_i KK hKK
      replace hKK := hid hKK
      apply cutH
      · intro REST
        go_region_held3 (fun w' => w'.cell? ⟨o, 0, none⟩ = some (.slice A n c) ∧ w'.cell? ⟨o, 1, none⟩ = some (.slice A2 m c2))
          (first
            | go_keep
            | assumption
            | exact KX.out _ ‹_›
            | exact kx2 _ _)
          (first
            | (go_at_call 57; (with_reducible refine Calls.mono (CD.out wr.drew R1.out) ?_); rintro e w5 ⟨a, rfl, ha, r5, g5⟩; have G5 : wr.grownBy w5 (some g) := hd1.andThen g5 (by simp); have kx5 := KX.out _ G5; have g5a := grown_alloc w5 (.cells #[.slice none 0 0, .slice none 0 0] 26) none; have G5a : wr.grownBy (w5.alloc (.cells #[.slice none 0 0, .slice none 0 0] 26)) (some g) := G5.andThen g5a (by simp); have kx5a := KX.out _ G5a; have r5a := r5.grown g5a (by simp))
            | (go_at_call 57; (with_reducible refine Calls.mono (CD.out (wr.alloc (.cells #[.slice none 0 0, .slice none 0 0] 26)).drew R2.out) ?_); rintro e w5 ⟨a, rfl, ha, r5, g5⟩; have G5 : wr.grownBy w5 (some g) := hd2.andThen g5 (by simp); have kx5 := KX.out _ G5; have yx5 : Db w5 wr.heap.size (.slice none 0 0) (.slice none 0 0) := HX1.out.on g5 hwg; have hq : wr.heap.size ≤ wr.heap.size := Nat.le_refl _)
            | (go_at_call 32; (with_reducible refine Calls.mono (CO.out w5 a.1 a.2 G5) ?_); rintro e w7 ⟨A3, n3, c3, A4, m4, c4, rfl, F7p, b7⟩; have G7 : wr.grownBy w7 (some g) := G5.andThen (grown_of_below b7) (by simp); have kx7 := KX.out _ G7; have r7 := r5.grown (grown_of_below b7) (by simp); have F7 := (F7p.2 hD8.out).mono (Nat.le_trans hwz G5.size); (try (have yx7 := yx5.below b7 yx5.lt; have yx0 := yx7.c0; have yx1 := yx7.c1; have yf0 := yx7.fz 0; have yf1 := yx7.fz 1; have kx2 := fun x y => KX.out _ (grown_put G7 hq x y))))
            | (go_at_call 32; (with_reducible refine Calls.mono (CO.out (w5.alloc (.cells #[.slice none 0 0, .slice none 0 0] 26)) a.1 a.2 G5a) ?_); rintro e w7 ⟨A3, n3, c3, A4, m4, c4, rfl, F7p, b7⟩; have G7 : wr.grownBy w7 (some g) := G5a.andThen (grown_of_below b7) (by simp); have kx7 := KX.out _ G7; have r7 := r5a.grown (grown_of_below b7) (by simp); have F7 := (F7p.2 hD8.out).mono (Nat.le_trans hwz G5a.size); have hq : wr.heap.size ≤ w5.heap.size := G5.size; have yx7 : Db w7 w5.heap.size (.slice none 0 0) (.slice none 0 0) := (Db.new w5 _ _).below b7 (by simp); have yx0 := yx7.c0; have yx1 := yx7.c1; have yf0 := yx7.fz 0; have yf1 := yx7.fz 1; have kx2 := fun x y => KX.out _ (grown_put G7 hq x y)))
        · have VX := Db.new w7 (.slice A3 n3 c3) (.slice A4 m4 c4)
          have FX := F7.onto (grown_alloc w7 (.cells #[.slice A3 n3 c3, .slice A4 m4 c4] 26) none)
          have GX := G7.andThen (grown_alloc w7 (.cells #[.slice A3 n3 c3, .slice A4 m4 c4] 26) none) (by simp)
          have RX := r7.grown (grown_alloc w7 (.cells #[.slice A3 n3 c3, .slice A4 m4 c4] 26) none) (by simp)
          have hs : o < w7.heap.size := by have := G7.size; omega
          obtain ⟨V, e⟩ : ∃ V, w7.alloc (.cells #[.slice A3 n3 c3, .slice A4 m4 c4] 26) = V := ⟨_, rfl⟩
          rw [e] at VX FX GX RX ⊢
          obtain ⟨s, hqq⟩ : ∃ s, w7.heap.size = s := ⟨_, rfl⟩
          rw [hqq] at VX hs ⊢
          rename_i hh
          clear hh e hqq F7p F7
          revert hs
          revert RX
          revert GX
          revert FX
          revert VX
          revert s
          revert V
          revert c4
          revert m4
          revert A4
          revert c3
          revert n3
          revert A3
          clear ha
          clear r5 g5 G5 kx5 g5a G5a kx5a r5a
          revert a
          exact REST.out
        all_goals exact REST.out a A3 n3 c3 A4 m4 c4 _ _ (yx7.set _ _) (F7.box2 yx7 _ _) (grown_put G7 hq _ _) (rd_put r7 (by omega) _ _) (by omega)
      intro a A3 n3 c3 A4 m4 c4 V s VX FX GX RX hs
      refine hKK.out _ _ ?_
      clear hKK x0 x1
      have hdn := do_now D a
      have hle := FX.lens
      have hlD := HF.out.lens
      obtain ⟨D2, yes, hE⟩ : ∃ D2 yes, deskDo D (a.1, a.2) = (D2, yes) := ⟨_, _, rfl⟩
      rw [show deskDo D a = (D2, yes) from hE] at hdn
      rw [hE] at FX hle ⊢
      have hnm : n3 ≤ 16 ∧ m4 ≤ m + 1 := by
        simp only at hdn hle
        omega
      have hn3 := hnm.1
      have hm4 := hnm.2
      have O := HO.out.on GX hgo
      have XV := HX.out.on GX (by simp; omega)
      have GV := HG.out.andThen GX (by simp)
      have FV := HF.out.lo GX hglt
      have s0 := VX.c0
      have s1 := VX.c1
      have o0 := O.c0
      have o1 := O.c1
      have o2 := O.fz 0
      have o3 := O.fz 1
      have HOV := hid O
      have HXV := hid XV
      have HGV := hid GV
      have HFV := hid FV
      have HF2 := hid FX
      have HRV := hid RX
      clear hE hdn hle hlD hnm VX FX GX RX O XV GV FV KX CD CO hd1 hd2 HX1 R1 R2 HO HX HF HR HG
      cases yes with
      | false =>
        go_wp2
        go_roundw
        case rel => exact ⟨i + 1, j - 1, A, n, c, A2, m, c2, D, by go_num, by omega, by omega, hn, HOV, HFV, HXV, hid (HRV.out.more (by omega)), HGV⟩
        case measure => simp [intOf]; omega
      | true =>
        go_wp2
        go_roundw
        case rel => exact ⟨i + 1, j - 1, A3, n3, c3, A4, m4, c4, D2, by go_num, by omega, by omega, by omega, hid (HOV.out.set _ _), hid (HF2.out.box2 HOV.out _ _), hid ((HXV.out.other (by omega) 0 _).other (by omega) 1 _), hid (rd_put (HRV.out.more (by omega)) (by omega) _ _), hid (grown_put HGV.out (by omega) _ _)⟩
        case measure => simp [intOf]; omega
    · obtain rfl : j = 0 := by omega
      have C8 := hid (odd_any g _ M wr HR.out (by omega) hM hM2)
      have hgo : some o ≠ some g := by simp; omega
      have hRg : some w.heap.size ≠ some g := by simp; omega
      go_wp2_with fail
      with_reducible refine Calls.mono C8.out ?_
      rintro e w8 ⟨b, rfl, r8, g8⟩
      have O8 := hid (HO.out.on g8 hgo)
      have F8 := hid (HF.out.lo g8 hglt)
      have X8 := hid (HX.out.on g8 hRg)
      have R8 := hid r8
      have G8 := hid (HG.out.andThen g8 (by simp))
      clear r8 g8 C8 HO HF HX HR HG hwz hoz
      have END : ∀ (W' : World) (A : Option Addr) (n c : Nat) (A2 : Option Addr) (m c2 : Nat) (D : Dk), Db W' w.heap.size (.slice none 0 0) (.slice none 0 0) → DkF W' w.heap.size A n c A2 m c2 D → Rd W' g (P + 100) → w.grownBy W' (some g) →
          Db ((W'.setCell ⟨w.heap.size, 0, none⟩ (.slice A n c)).setCell ⟨w.heap.size, 1, none⟩ (.slice A2 m c2)) w.heap.size (.slice A n c) (.slice A2 m c2) ∧ DkF ((W'.setCell ⟨w.heap.size, 0, none⟩ (.slice A n c)).setCell ⟨w.heap.size, 1, none⟩ (.slice A2 m c2)) w.heap.size A n c A2 m c2 D ∧ Rd ((W'.setCell ⟨w.heap.size, 0, none⟩ (.slice A n c)).setCell ⟨w.heap.size, 1, none⟩ (.slice A2 m c2)) g (P + 100) ∧ w.grownBy ((W'.setCell ⟨w.heap.size, 0, none⟩ (.slice A n c)).setCell ⟨w.heap.size, 1, none⟩ (.slice A2 m c2)) (some g) := fun W' A n c A2 m c2 D h1 h2 h3 h4 =>
        ⟨h1.set _ _, h2.box2 h1 _ _, rd_put h3 hglt _ _, grown_put h4 (Nat.le_refl _) _ _⟩
      have HEND := hid END
      clear END
      have o0 := O8.out.c0
      have o1 := O8.out.c1
      have o2 := O8.out.fz 0
      have o3 := O8.out.fz 1
      have x0 := X8.out.c0
      have x1 := X8.out.c1
      have x2 := X8.out.fz 0
      have x3 := X8.out.fz 1
      cases b with
      | false =>
        go_wp2
        (try simp only [Exit.inBlock, Exit.then])
        obtain ⟨e1, e2, e3, e4⟩ := HEND.out w8 A n c A2 m c2 D X8.out F8.out (R8.out.more (by omega)) G8.out
        refine bodyPost_ret (results_cell_row rfl _ _ w.heap.size 26 _ (0, 0) _ (by simp [Act.put]) e1 Try.underlying26 rfl size_desk) rfl ?_
        exact ⟨A, n, c, A2, m, c2, D, rfl, e2, hn, by omega, e3, e4⟩
      | true =>
        have C9 := hid (pick_any g _ 3 w8 R8.out (by omega) (by omega) (by omega))
        clear o0 o1 o2 o3 x0 x1 x2 x3
        go_wp2_with fail
        with_reducible refine Calls.mono C9.out ?_
        rintro e w9 ⟨x, rfl, hx0, hx1, r9, g9⟩
        have O9 := hid (O8.out.on g9 hgo)
        have F9 := hid (F8.out.lo g9 hglt)
        have X9 := hid (X8.out.on g9 hRg)
        have R9 := hid (r9.more (show P + 41 + 5 * i + 1 + 1 ≤ P + 100 by omega))
        have G9 := hid (G8.out.andThen g9 (by simp))
        have o0 := O9.out.c0
        have o1 := O9.out.c1
        have o2 := O9.out.fz 0
        have o3 := O9.out.fz 1
        have x0 := X9.out.c0
        have x1 := X9.out.c1
        have x2 := X9.out.fz 0
        have x3 := X9.out.fz 1
        clear r9 g9 C9 O8 F8 X8 R8 G8
        rcases (show x = 0 ∨ x = 1 ∨ x = 2 by omega) with rfl | rfl | rfl
        · have hwz := G9.out.size
          have gE := grown_alloc w9 (.cells #[.int .i64 2] 3) none
          have OL : (w9.alloc (.cells #[.int .i64 2] 3)).ownsRow w.heap.size 3 1 (.slice (some ⟨w9.heap.size, 0, none⟩) 1 1) 1 (ints [2]) := World.ownsRow_lit w9 #[.int .i64 2] 1 hwz (by simp [maxLen]) rfl
          have OE := O9.out.on (row := none) gE (by simp)
          have XE := X9.out.on (row := none) gE (by simp)
          obtain ⟨vs, ON, OP, OR⟩ := F9.out
          have FE : DkF (w9.alloc (.cells #[.int .i64 2] 3)) w.heap.size (some ⟨w9.heap.size, 0, none⟩) 1 1 A2 m c2 ⟨[2], D.past⟩ := ⟨vs, OL, own_kept_none OP gE, OR.onto gE⟩
          have RE := R9.out.grown gE (by simp)
          have GE := G9.out.andThen gE (by simp)
          obtain ⟨e1, e2, e3, e4⟩ := HEND.out ((w9.alloc (.cells #[.int .i64 2] 3)).setCell ⟨o, 0, none⟩ (.slice (some ⟨w9.heap.size, 0, none⟩) 1 1)) (some ⟨w9.heap.size, 0, none⟩) 1 1 A2 m c2 ⟨[2], D.past⟩ (XE.other (by omega) 0 _) (FE.put OE _) (RE.grown (grown_set _ ⟨o, 0, none⟩ _ rfl) (fun k hk => by cases hk; show g < o; omega)) (GE.andThen (grown_set _ ⟨o, 0, none⟩ _ rfl) (fun k hk => by cases hk; left; show w.heap.size ≤ o; omega))
          have k0 := OE.c0
          have k1 := OE.c1
          have k2 := OE.fz 0
          have k3 := OE.fz 1
          have k4 := XE.c0
          have k5 := XE.c1
          have k6 := XE.fz 0
          have k7 := XE.fz 1
          clear OL OE XE ON OP OR FE RE GE gE
          have E1 := hid e1
          have E2 := hid e2
          have E3 := hid e3
          have E4 := hid e4
          clear e1 e2 e3 e4
          go_wp2
          (try simp only [Exit.inBlock, Exit.then])
          refine bodyPost_ret (results_cell_row rfl _ _ w.heap.size 26 _ (0, 0) _ (by simp [Act.put]) E1.out Try.underlying26 rfl size_desk) rfl ?_
          exact ⟨_, 1, 1, A2, m, c2, _, rfl, E2.out, by omega, by omega, E3.out, E4.out⟩
        · have hwz := G9.out.size
          have gE1 := grown_alloc w9 (.cells #[] 3) none
          have gE2 := grown_alloc (w9.alloc (.cells #[] 3)) (.cells #[.slice (some ⟨w9.heap.size, 0, none⟩) 0 0] 23) none
          have gE := gE1.trans gE2
          have OL : (w9.alloc (.cells #[] 3)).ownsRow w.heap.size 3 1 (.slice (some ⟨w9.heap.size, 0, none⟩) 0 0) 0 (ints []) := World.ownsRow_lit w9 #[] 0 hwz (by simp [maxLen]) rfl
          obtain ⟨vs, ON, OP, OR⟩ := F9.out
          have oP2 := own_kept_none OP gE
          have OE := O9.out.on (row := none) gE (by simp)
          have XE := X9.out.on (row := none) gE (by simp)
          have HR := hid (OR.onto gE)
          have HN := hid (own_kept_none ON gE)
          have HL := hid (own_kept_none OL gE2)
          have HRE := hid (R9.out.grown gE (by simp))
          have HGE := hid (G9.out.andThen gE (by simp))
          have HP := hid oP2
          have hblk := oP2.lt
          have hc1 : ∀ (j : Nat) (u : Value), [Value.slice (some ⟨w9.heap.size, 0, none⟩) 0 0][j]? = some u → ((w9.alloc (.cells #[] 3)).alloc (.cells #[.slice (some ⟨w9.heap.size, 0, none⟩) 0 0] 23)).cell? ((⟨w9.heap.size + 1, 0, none⟩ : Addr).add j) = some u := by
            have h := cell_one_new (w9.alloc (.cells #[] 3)) (.slice (some ⟨w9.heap.size, 0, none⟩) 0 0) 23
            rwa [show (w9.alloc (.cells #[] 3)).heap.size = w9.heap.size + 1 by simp] at h
          clear gE1 gE2 gE OL ON OP OR
          go_wp2_with (at_builtin; refine wpList_append_own _ rfl _ _ 24 rfl w.heap.size 23 j0 (.slice none 0 0) 1 24 Try.underlying24 hj hjz0 hjz1 hjz2 rfl (by decide) (.slice A2 m c2) _ _ rfl oP2 ⟨w9.heap.size + 1, 0, none⟩ 1 1 [.slice (some ⟨w9.heap.size, 0, none⟩) 0 0] rfl rfl hc1 (by simp [Value.oneCell']) (by simp only [maxLen]; omega) (by omega) (by simp; omega) ?_; intro v7 w7 o7 g7 _; obtain ⟨g7b, c7, rfl, hg7b, hlt7⟩ := own_shape1 o7 (by omega); have U7 := OE.on g7 (OE.ne_row oP2); have u0 := U7.c0; have u1 := U7.c1; have t0 := U7.fz 0; have t1 := U7.fz 1; have UR7 := XE.on g7 (XE.ne_row oP2); have q0 := UR7.c0; have q1 := UR7.c1; have q2 := UR7.fz 0; have q3 := UR7.fz 1)
          have RX := (HR.out.beside HP.out g7).snoc ⟨_, _, _, rfl, own_beside HL.out HP.out g7⟩
          have FX : DkF w7 w.heap.size A n c (some ⟨g7b, 0, none⟩) (m + 1) c7 ⟨D.now, D.past ++ [[]]⟩ := ⟨_, own_beside HN.out HP.out g7, o7, RX⟩
          have hw1 : w.heap.size ≤ ((w9.alloc (.cells #[] 3)).alloc (.cells #[.slice (some ⟨w9.heap.size, 0, none⟩) 0 0] 23)).heap.size := by simp; omega
          have RE := HRE.out.grown g7 (fun k hk => by have := (hblk k hk).1; omega)
          have GE := HGE.out.andThen g7 (fun k hk => .inl (hblk k hk).1)
          obtain ⟨e1, e2, e3, e4⟩ := HEND.out (w7.setCell ⟨o, 1, none⟩ (.slice (some ⟨g7b, 0, none⟩) (m + 1) c7)) A n c (some ⟨g7b, 0, none⟩) (m + 1) c7 ⟨D.now, D.past ++ [[]]⟩ (UR7.other (by omega) 1 _) (FX.put U7 _) (RE.grown (grown_set _ ⟨o, 1, none⟩ _ rfl) (fun k hk => by cases hk; show g < o; omega)) (GE.andThen (grown_set _ ⟨o, 1, none⟩ _ rfl) (fun k hk => by cases hk; left; show w.heap.size ≤ o; omega))
          (try simp only [Exit.inBlock, Exit.then])
          refine bodyPost_ret (results_cell_row rfl _ _ w.heap.size 26 _ (0, 0) _ (by simp [Act.put]) e1 Try.underlying26 rfl size_desk) rfl ?_
          exact ⟨A, n, c, _, m + 1, c7, _, rfl, e2, hn, by omega, e3, e4⟩
        · obtain ⟨e1, e2, e3, e4⟩ := HEND.out w9 none 0 0 none 0 0 noDk X9.out (DkF.no _ _) R9.out G9.out
          go_wp2
          (try simp only [Exit.inBlock, Exit.then])
          refine bodyPost_ret (results_cell_row rfl _ _ w.heap.size 26 _ (0, 0) _ (by simp [Act.put]) e1 Try.underlying26 rfl size_desk) rfl ?_
          exact ⟨none, 0, 0, none, 0, 0, _, rfl, e2, by omega, by omega, e3, e4⟩
end Go.Proofs.Ytkejcajboneniaa

namespace Go.Proofs.Ytkejcajboneniaa
open Go.RowKit
set_option linter.unusedVariables false
set_option linter.unusedSimpArgs false

section
variable {P : Program} {fn : Func} {p p2 : Tmp} {ty ty2 : TypeId}
theorem results_2 (h : fn.results = #[.cell p ty, .cell p2 ty2]) (tmps : Array Value) (w : World) (g g2 : Nat) (t t2 : TypeId) (cs cs2 : Array Value) (fr fr2 : Nat × Nat) (d d2 : TypeDesc)
    (hp : tmps.getD p undef = .pointer (some ⟨g, 0, none⟩)) (hg : w.heap[g]? = some (.cells cs t fr)) (hp2 : tmps.getD p2 undef = .pointer (some ⟨g2, 0, none⟩)) (hg2 : w.heap[g2]? = some (.cells cs2 t2 fr2))
    (hu : P.underlying ty = some d) (hd : (match d with | .struct _ | .array _ _ => true | _ => false) = true) (hi : (P.info? ty).map (·.size) = some cs.size)
    (hu2 : P.underlying ty2 = some d2) (hd2 : (match d2 with | .struct _ | .array _ _ => true | _ => false) = true) (hi2 : (P.info? ty2).map (·.size) = some cs2.size) :
    (results fn tmps).run P w = .ok (.tuple #[.agg cs, .agg cs2]) w := by
  have hp' : tmps[p]?.getD undef = .pointer (some ⟨g, 0, none⟩) := by simpa using hp
  have hp2' : tmps[p2]?.getD undef = .pointer (some ⟨g2, 0, none⟩) := by simpa using hp2
  simp [results, h, hp', hp2', asAddr, run_loadVar_row w g t ty cs fr d hg hu hd hi, run_loadVar_row w g2 t2 ty2 cs2 fr2 d2 hg2 hu2 hd2 hi2]
end

theorem size_deed : (Try.prog.info? 45).map (·.size) = some 2 := by kernel_rfl
theorem DkF.putD {w : World} {B n c m c2 b i : Nat} {A A2 : Option Addr} {D : Dk} {cs : Array Value} {fr : Nat × Nat} (h : DkF w B A n c A2 m c2 D) (hb : w.heap[b]? = some (.cells cs 45 fr)) (x : Value) : DkF (w.setCell ⟨b, i, none⟩ x) B A n c A2 m c2 D :=
  h.elim fun vs k => ⟨vs, own_box x k.now (own_blk_ne hb k.now (by decide)), own_box x k.past (own_blk_ne hb k.past (by decide)), k.rows.keep (fun v n xs ho => own_box x ho (own_blk_ne hb ho (by decide)))⟩

set_option maxRecDepth 100000 in
set_option maxHeartbeats 1600000 in
theorem drawDeskOk_any (A : Option Addr) (n c : Nat) (w : World) (hs : By w w.heap.size A n) (hc : n ≤ c) :
    Calls Try.prog 11 #[.slice A n c] w fun e w' => ∃ A1 n1 c1 A2 m2 c2 D, e = .returned (dsk A1 n1 c1 A2 m2 c2) ∧ DkF w' w.heap.size A1 n1 c1 A2 m2 c2 D ∧ n1 ≤ 17 ∧ m2 ≤ 6 ∧ Below w.heap.size w w' := by
  obtain ⟨W0, hW0⟩ : ∃ W0, w.alloc (.cells #[.slice none 0 0, .slice none 0 0] 26) = W0 := ⟨_, rfl⟩
  have b0 : Below w.heap.size w W0 := by rw [← hW0]; exact (Below.refl _ _).alloc (Nat.le_refl _) _
  have X0 : Db W0 w.heap.size (.slice none 0 0) (.slice none 0 0) := by rw [← hW0]; exact Db.new w _ _
  have hs0 : w.heap.size < W0.heap.size := X0.lt
  have hsW := hs.on b0
  go_enter Try.func11, Try.ntmps11
  go_wp2_with fail
  refine (open_any A n c _ hsW hc).mono ?_
  rintro e w1 ⟨g, rfl, r1, hg, b1⟩
  have X1 := X0.below b1 hs0
  have hz1 := b1.size
  have C2 := hid (deskDraw_any g 0 2 w1 r1 (by omega) (by omega) (by omega))
  clear r1
  go_wp2_with fail
  with_reducible refine Calls.mono C2.out ?_
  rintro e w2 ⟨A1, n1, c1, A2, m2, c2, D, rfl, F2, hn1, hm2, r2, g2⟩
  have b2 := b1.grown g2 hz1 (by intro k hk; cases hk; exact hg)
  have X2 := X1.on g2 (by simp; omega)
  have x0 := X2.c0
  have x1 := X2.c1
  have x2 := X2.fz 0
  have x3 := X2.fz 1
  have HX := hid X2
  have HF := hid (F2.mono (show w.heap.size ≤ w1.heap.size by omega))
  have HB := hid (b0.trans (b2.mono b0.size))
  clear r2 g2 b2 X2 F2 X0 X1 C2
  go_wp2
  (try simp only [Exit.inBlock, Exit.then])
  refine bodyPost_ret (results_cell_row rfl _ _ w.heap.size 26 _ (0, 0) _ (by simp [Act.put]) (HX.out.set _ _) Try.underlying26 rfl size_desk) rfl ?_
  exact ⟨A1, n1, c1, A2, m2, c2, D, rfl, HF.out.box2 HX.out _ _, hn1, hm2, (HB.out.setCell (p := ⟨w.heap.size, 0, none⟩) (Nat.le_refl _) _).setCell (p := ⟨w.heap.size, 1, none⟩) (Nat.le_refl _) _⟩

set_option maxHeartbeats 1600000 in
theorem drawDeskNew_any (A : Option Addr) (n c : Nat) (w : World) (hs : By w w.heap.size A n) (hc : n ≤ c) :
    Calls Try.prog 18 #[.slice A n c] w fun e w' => ∃ A1 n1 c1 l1, e = .returned (.slice A1 n1 c1) ∧ w'.ownsRow w.heap.size 3 1 (.slice A1 n1 c1) n1 (ints l1) ∧ n1 ≤ 17 ∧ Below w.heap.size w w' := by
  go_enter Try.func18, Try.ntmps18
  go_wp2_with fail
  refine (open_any A n c _ hs hc).mono ?_
  rintro e w1 ⟨g, rfl, r1, hg, b1⟩
  go_wp2_with fail
  refine (bitsz_any g _ 3 _ r1 (by omega) (by omega) (by omega)).mono ?_
  rintro e w2 ⟨A1, n1, c1, l1, rfl, o1, hn1, r2, g2⟩
  have b2 := b1.grown g2 b1.size (by intro k hk; cases hk; exact hg)
  have z1 := b1.size
  clear g2
  go_wp2
  go_ret
  exact ⟨A1, n1, c1, l1, rfl, own_mono o1 z1, hn1, b2⟩

set_option maxRecDepth 100000 in
set_option maxHeartbeats 3200000 in
theorem drawDeskDo_any (A : Option Addr) (n c : Nat) (w : World) (hs : By w w.heap.size A n) (hc : n ≤ c) :
    Calls Try.prog 30 #[.slice A n c] w fun e w' => ∃ A1 n1 c1 A2 m2 c2 D, ∃ a : Int × Int, e = .returned (.tuple #[dsk A1 n1 c1 A2 m2 c2, deed a.1 a.2]) ∧ DkF w' w.heap.size A1 n1 c1 A2 m2 c2 D ∧ n1 ≤ 17 ∧ m2 ≤ 6 ∧ Below w.heap.size w w' := by
  obtain ⟨W0, hW0⟩ : ∃ W0, (w.alloc (.cells #[.slice none 0 0, .slice none 0 0] 26)).alloc (.cells #[.int .i64 0, .int .i64 0] 45) = W0 := ⟨_, rfl⟩
  have gN := grown_alloc (w.alloc (.cells #[.slice none 0 0, .slice none 0 0] 26)) (.cells #[.int .i64 0, .int .i64 0] 45) none
  have b0 : Below w.heap.size w W0 := by rw [← hW0]; exact ((Below.refl _ _).alloc (Nat.le_refl _) _).alloc (by simp) _
  have X0 : Db W0 w.heap.size (.slice none 0 0) (.slice none 0 0) := by rw [← hW0]; exact (Db.new w _ _).on gN (by simp)
  have Y0 : W0.heap[w.heap.size + 1]? = some (.cells #[.int .i64 0, .int .i64 0] 45 (0, 0)) := by
    rw [← hW0]
    have h := heap_alloc_new (w.alloc (.cells #[.slice none 0 0, .slice none 0 0] 26)) (.cells #[.int .i64 0, .int .i64 0] 45)
    rwa [show (w.alloc (.cells #[.slice none 0 0, .slice none 0 0] 26)).heap.size = w.heap.size + 1 by simp] at h
  have hs0 : W0.heap.size = w.heap.size + 2 := by rw [← hW0]; simp
  have hsW := hs.on b0
  go_enter Try.func30, Try.ntmps30
  clear gN
  go_wp2_with fail
  refine (open_any A n c _ hsW hc).mono ?_
  rintro e w1 ⟨g, rfl, r1, hg, b1⟩
  have X1 := X0.below b1 (by omega)
  have Y1 := (b1.block (w.heap.size + 1) (by omega)).trans Y0
  have hz1 := b1.size
  have C2 := hid (deskDraw_any g 0 12 w1 r1 (by omega) (by omega) (by omega))
  have hgl1 := r1.lt
  have HY1 := hid Y1
  clear r1 Y1 Y0
  go_wp2_with fail
  clear hW0
  with_reducible refine Calls.mono C2.out ?_
  rintro e w2 ⟨A1, n1, c1, A2, m2, c2, D, rfl, F2, hn1, hm2, r2, g2⟩
  have b2 := b1.grown g2 hz1 (by intro k hk; cases hk; exact hg)
  have X2 := X1.on g2 (by simp; omega)
  have Y2 := (g2.block (w.heap.size + 1) (by omega) (by simp; omega)).trans HY1.out
  obtain ⟨W, eW⟩ : ∃ W, w2.alloc (.cells #[.slice A1 n1 c1, .slice A2 m2 c2] 26) = W := ⟨_, rfl⟩
  have gW : w2.grownBy W none := by rw [← eW]; exact grown_alloc _ _ _
  have XO : Db W w2.heap.size (.slice A1 n1 c1) (.slice A2 m2 c2) := by rw [← eW]; exact Db.new _ _ _
  have hzW : W.heap.size = w2.heap.size + 1 := by rw [← eW]; simp
  have hz2 := g2.size
  have gl2 := r2.lt
  obtain ⟨o, ho⟩ : ∃ o, w2.heap.size = o := ⟨_, rfl⟩
  rw [ho] at XO hzW hz2 gl2
  have hoz : o < W.heap.size := by omega
  have hgo : some o ≠ some g := by simp; omega
  have hRg : some w.heap.size ≠ some g := by simp; omega
  have hQg : some (w.heap.size + 1) ≠ some g := by simp; omega
  have hne1 : o ≠ w.heap.size := by omega
  have hne2 : o ≠ w.heap.size + 1 := by omega
  have HXO := hid XO
  have HR := hid (r2.grown gW (by simp))
  have HX := hid (X2.on gW (by simp))
  have HY := hid ((gW.block (w.heap.size + 1) (by omega) (by simp)).trans Y2)
  have HF := hid (F2.onto gW)
  have hw1 : w.heap.size ≤ w1.heap.size := by omega
  have HB := hid (b2.trans ((below_grown gW).mono b2.size))
  have HGB := hid hg
  have HB0 := hid b0
  have KX := hid (fun (W' : World) (hW : W.grownBy W' (some g)) => show W'.cell? ⟨o, 0, none⟩ = some (.slice A1 n1 c1) ∧ W'.cell? ⟨o, 1, none⟩ = some (.slice A2 m2 c2) from by
    have h := HXO.out.on hW hgo
    exact ⟨h.c0, h.c1⟩)
  have CD := hid (deedDraw_any g 100 A1 n1 c1 W.drew (HR.out.grown (drewN_gA W 1) (by simp)) (by omega) hn1)
  have hd1 : W.grownBy W.drew (some g) := (World.grownBy.refl W (some g)).andThen (drewN_gA W 1) (by simp)
  have x0 := HXO.out.c0
  have x1 := HXO.out.c1
  have hW2 : w.heap.size + 1 < W.heap.size := by omega
  clear r2 g2 b2 X2 Y2 F2 X0 X1 C2 gW XO HY1 hz1 hz2 hzW hs0 b1 b0 hg gl2
  go_wp2_with fail
  clear eW ho
  go_region_held3 (fun w' => w'.cell? ⟨o, 0, none⟩ = some (.slice A1 n1 c1) ∧ w'.cell? ⟨o, 1, none⟩ = some (.slice A2 m2 c2))
    (first
      | go_keep
      | assumption
      | exact kx2 _ _
      | exact kx3 _ _ _ _)
    (first
      | (go_at_call 57; (with_reducible refine Calls.mono CD.out ?_); rintro e w5 ⟨a, rfl, ha, r5, g5⟩; have G5 : W.grownBy w5 (some g) := hd1.andThen g5 (by simp); have kx5 := KX.out _ G5; have X5 := HX.out.on G5 hRg; have Y5 := (G5.block (w.heap.size + 1) hW2 hQg).trans HY.out; have x5 := X5.c0; have x6 := X5.c1; have x7 := X5.fz 0; have x8 := X5.fz 1; obtain ⟨y5, y6, y7, y8⟩ := pairCells Y5; have XO5 := HXO.out.on G5 hgo; have kx2 := fun x y => And.intro ((XO5.other hne1 0 x).other hne1 1 y).c0 ((XO5.other hne1 0 x).other hne1 1 y).c1; have kx3 := fun x y u v => And.intro ((((XO5.other hne1 0 x).other hne1 1 y).other hne2 0 u).other hne2 1 v).c0 ((((XO5.other hne1 0 x).other hne1 1 y).other hne2 0 u).other hne2 1 v).c1))
  have F6 := (HF.out.lo G5 hgl1).box2 X5 (.slice A1 n1 c1) (.slice A2 m2 c2)
  have Y6 : ((w5.setCell ⟨w.heap.size, 0, none⟩ (.slice A1 n1 c1)).setCell ⟨w.heap.size, 1, none⟩ (.slice A2 m2 c2)).heap[w.heap.size + 1]? = some (.cells #[.int .i64 0, .int .i64 0] 45 (0, 0)) := (heap_setCell_other _ _ _ _ (by simp)).trans ((heap_setCell_other _ _ _ _ (by simp)).trans Y5)
  have F8 := (F6.putD (i := 0) Y6 (.int .i64 a.1)).putD (i := 1) (pairSet0 (x := .int .i64 a.1) Y6) (.int .i64 a.2)
  have X8 := ((X5.set (.slice A1 n1 c1) (.slice A2 m2 c2)).other (g := w.heap.size + 1) (by omega) 0 (.int .i64 a.1)).other (g := w.heap.size + 1) (by omega) 1 (.int .i64 a.2)
  have Y8 := pairSet1 (x := .int .i64 a.2) (pairSet0 (x := .int .i64 a.1) Y6)
  have B5 := HB.out.grown G5 HB.out.size (by intro k hk; cases hk; exact HGB.out)
  have B8 := ((((HB0.out.trans (B5.mono HB0.out.size)).setCell (p := ⟨w.heap.size, 0, none⟩) (Nat.le_refl _) (.slice A1 n1 c1)).setCell (p := ⟨w.heap.size, 1, none⟩) (Nat.le_refl _) (.slice A2 m2 c2)).setCell (p := ⟨w.heap.size + 1, 0, none⟩) (Nat.le_succ _) (.int .i64 a.1)).setCell (p := ⟨w.heap.size + 1, 1, none⟩) (Nat.le_succ _) (.int .i64 a.2)
  have HF8 := hid (F8.mono hw1)
  have HX8 := hid X8
  have HY8 := hid Y8
  have HB8 := hid B8
  clear F6 Y6 F8 X8 Y8 B5 B8 kx2 kx3 kx5
  go_wp2
  (try simp only [Exit.inBlock, Exit.then])
  refine bodyPost_ret (results_2 rfl _ _ w.heap.size (w.heap.size + 1) 26 45 _ _ (0, 0) (0, 0) _ _ (by simp [Act.put]) HX8.out (by simp [Act.put]) HY8.out Try.underlying26 rfl size_desk Try.underlying45 rfl size_deed) rfl ?_
  exact ⟨A1, n1, c1, A2, m2, c2, D, a, rfl, HF8.out, hn1, hm2, HB8.out⟩

theorem own_boxS {w : World} {B n b k sz : Nat} {v : Value} {e t : TypeId} {xs : List Value} {cs : Array Value} {fr : Nat × Nat} (x : Value) (h : w.ownsRow B e sz v n xs) (hb : w.heap[b]? = some (.cells cs t fr)) (hT : t ≠ e) : (w.setCell ⟨b, k, none⟩ x).ownsRow B e sz v n xs := by
  refine ⟨h.1, ?_⟩
  rcases h.2 with h2 | ⟨g, cap, cur, h1, h2, h3, h4⟩
  · exact .inl h2
  · refine .inr ⟨g, cap, cur, h1, h2, (heap_setCell_other _ _ _ _ ?_).trans h3, h4⟩
    rintro rfl
    rw [h3] at hb
    injection hb with e1
    injection e1 with e2 e3 e4
    exact hT e3.symm
theorem flat_zeros (n : Nat) : ints (flat (List.replicate n (0, 0))) = (madeCells (deedV (0, 0)).cells (n * 2)).toList := by
  rw [madeDeeds]
  congr 1
  induction n with
  | zero => rfl
  | succ n ih =>
    rw [List.replicate_succ, show (n + 1) * 2 = n * 2 + 2 from by omega]
    show 0 :: 0 :: flat (List.replicate n (0, 0)) = _
    rw [ih]
    rfl

set_option maxRecDepth 100000 in
set_option maxHeartbeats 3200000 in
theorem drawDeskRun_any (A : Option Addr) (n c : Nat) (w : World) (hs : By w w.heap.size A n) (hc : n ≤ c) :
    Calls Try.prog 35 #[.slice A n c] w fun e w' => ∃ A1 n1 c1 A2 m2 c2 D AL nL cL L, e = .returned (.tuple #[dsk A1 n1 c1 A2 m2 c2, .slice AL nL cL]) ∧ DkF w' w.heap.size A1 n1 c1 A2 m2 c2 D ∧ w'.ownsRow w.heap.size 45 2 (.slice AL nL cL) nL (ints (flat L)) ∧ n1 ≤ 17 ∧ m2 ≤ 6 ∧ nL ≤ 41 ∧ Below w.heap.size w w' := by
  obtain ⟨i0, hi, hz0, hz1, hz2⟩ := info_parts info_deed
  obtain ⟨W0, hW0⟩ : ∃ W0, w.alloc (.cells #[.slice none 0 0, .slice none 0 0] 26) = W0 := ⟨_, rfl⟩
  have b0 : Below w.heap.size w W0 := by rw [← hW0]; exact (Below.refl _ _).alloc (Nat.le_refl _) _
  have X0 : Db W0 w.heap.size (.slice none 0 0) (.slice none 0 0) := by rw [← hW0]; exact Db.new w _ _
  have hs0 : W0.heap.size = w.heap.size + 1 := by rw [← hW0]; simp
  have hsW := hs.on b0
  go_enter Try.func35, Try.ntmps35
  go_wp2_with fail
  refine (open_any A n c _ hsW hc).mono ?_
  rintro e w1 ⟨g, rfl, r1, hg, b1⟩
  have X1 := X0.below b1 (by omega)
  have hz1' := b1.size
  have C2 := hid (deskDraw_any g 0 12 w1 r1 (by omega) (by omega) (by omega))
  have hgl1 := r1.lt
  clear r1
  go_wp2_with fail
  clear hW0
  with_reducible refine Calls.mono C2.out ?_
  rintro e w2 ⟨A1, n1, c1, A2, m2, c2, D, rfl, F2, hn1, hm2, r2, g2⟩
  have b2 := b1.grown g2 hz1' (by intro k hk; cases hk; exact hg)
  have X2 := X1.on g2 (by simp; omega)
  obtain ⟨W, eW⟩ : ∃ W, w2.alloc (.cells #[.slice A1 n1 c1, .slice A2 m2 c2] 26) = W := ⟨_, rfl⟩
  have gW : w2.grownBy W none := by rw [← eW]; exact grown_alloc _ _ _
  have XO : Db W w2.heap.size (.slice A1 n1 c1) (.slice A2 m2 c2) := by rw [← eW]; exact Db.new _ _ _
  have hzW : W.heap.size = w2.heap.size + 1 := by rw [← eW]; simp
  have hz2' := g2.size
  have gl2 := r2.lt
  obtain ⟨o, ho⟩ : ∃ o, w2.heap.size = o := ⟨_, rfl⟩
  rw [ho] at XO hzW hz2' gl2
  have hgo : some o ≠ some g := by simp; omega
  have hRg : some w.heap.size ≠ some g := by simp; omega
  have hne1 : o ≠ w.heap.size := by omega
  have HXO := hid XO
  have HR := hid (r2.grown gW (by simp))
  have HX := hid (X2.on gW (by simp))
  have HF := hid (F2.onto gW)
  have hw1 : w.heap.size ≤ w1.heap.size := by omega
  have hw2 : w.heap.size < W.heap.size := by omega
  have HB := hid (b2.trans ((below_grown gW).mono b2.size))
  have HGB := hid hg
  have HB0 := hid b0
  have C3 := hid (odd_any g 100 30 W HR.out (by omega) (by omega) (by omega))
  clear r2 g2 b2 X2 F2 X0 X1 C2 gW XO hz1' hz2' hzW hs0 b1 b0 hg gl2 HR
  go_wp2_with fail
  clear eW ho
  with_reducible refine Calls.mono C3.out ?_
  rintro e w3 ⟨b, rfl, r3, g3⟩
  have hz3 := g3.size
  have XO3 := HXO.out.on g3 hgo
  have X3 := HX.out.on g3 hRg
  have F3 := HF.out.lo g3 hgl1
  have B3 := HB.out.grown g3 HB.out.size (by intro k hk; cases hk; exact HGB.out)
  have BW := HB0.out.trans (B3.mono HB0.out.size)
  have hwz : w.heap.size ≤ w3.heap.size := BW.size
  have FIN : ∀ (V : World) (AL : Option Addr) (nL cL : Nat) (L : List (Int × Int)), Db V w.heap.size (.slice none 0 0) (.slice none 0 0) → DkF V w1.heap.size A1 n1 c1 A2 m2 c2 D → V.ownsRow w.heap.size 45 2 (.slice AL nL cL) nL (ints (flat L)) → Below w.heap.size w V →
      Db ((V.setCell ⟨w.heap.size, 0, none⟩ (.slice A1 n1 c1)).setCell ⟨w.heap.size, 1, none⟩ (.slice A2 m2 c2)) w.heap.size (.slice A1 n1 c1) (.slice A2 m2 c2) ∧ DkF ((V.setCell ⟨w.heap.size, 0, none⟩ (.slice A1 n1 c1)).setCell ⟨w.heap.size, 1, none⟩ (.slice A2 m2 c2)) w.heap.size A1 n1 c1 A2 m2 c2 D ∧ ((V.setCell ⟨w.heap.size, 0, none⟩ (.slice A1 n1 c1)).setCell ⟨w.heap.size, 1, none⟩ (.slice A2 m2 c2)).ownsRow w.heap.size 45 2 (.slice AL nL cL) nL (ints (flat L)) ∧ Below w.heap.size w ((V.setCell ⟨w.heap.size, 0, none⟩ (.slice A1 n1 c1)).setCell ⟨w.heap.size, 1, none⟩ (.slice A2 m2 c2)) := fun V AL nL cL L h1 h2 h3 h4 =>
    ⟨h1.set _ _, (h2.mono hw1).box2 h1 _ _, own_boxS _ (own_boxS _ h3 h1 (by decide)) (h1.set0 _) (by decide), (h4.setCell (p := ⟨w.heap.size, 0, none⟩) (Nat.le_refl _) _).setCell (p := ⟨w.heap.size, 1, none⟩) (Nat.le_refl _) _⟩
  have HFIN := hid FIN
  have HBG := hid (show w.heap.size ≤ g by have := HGB.out; have := HB0.out.size; omega)
  have HXO3 := hid XO3
  have HX3 := hid X3
  have HF3 := hid F3
  have HBW := hid BW
  have HR3 := hid r3
  have o0 := XO3.c0
  have o1 := XO3.c1
  clear FIN XO3 X3 F3 B3 BW r3 g3 HXO HX HF HB HGB HB0 C3
  cases b with
  | true =>
    have hmk : ∀ W : World, (Instr.makeSlice 53 (.int .i64 41) (.int .i64 41)).run Try.prog W = .ok (.slice (some ⟨W.heap.size, 0, none⟩) 41 41) (W.alloc (.cells (madeCells #[.int .i64 0, .int .i64 0] 82) 45)) := fun W => by
      have h := run_make (P := Try.prog) W 53 45 i0 _ Try.underlying53 hi hz0 .i64 .i64 41 41 (by omega) (by omega) (by rw [hz2]; omega) (by omega)
      rw [hz1] at h
      exact h
    have hlit : ∀ W : World, w.heap.size ≤ W.heap.size → (W.alloc (.cells (madeCells #[.int .i64 0, .int .i64 0] 82) 45)).ownsRow w.heap.size 45 2 (.slice (some ⟨W.heap.size, 0, none⟩) 41 41) 41 (ints (flat (List.replicate 41 (0, 0)))) := fun W hW => by
      have h := World.ownsRow_lit (base := w.heap.size) (size := 2) (e := 45) W (madeCells #[.int .i64 0, .int .i64 0] 82) 41 hW (by simp [maxLen]) (by simp [madeCells])
      rw [flat_zeros 41]; exact h
    have gd := drewN_gA w3 1
    have XD := HX3.out.on gd (by simp)
    have FD := HF3.out.onto gd
    have BD := HBW.out.trans ((below_grown gd).mono hwz)
    -- the make first
    have gm := grown_alloc w3.drew (.cells (madeCells #[.int .i64 0, .int .i64 0] 82) 45) none
    obtain ⟨e1, e2, e3, e4⟩ := HFIN.out _ _ 41 41 _ (XD.on gm (by simp)) (FD.onto gm) (hlit w3.drew hwz) (BD.trans ((below_grown gm).mono BD.size))
    -- the store first
    have XS := XD.set (.slice A1 n1 c1) (.slice A2 m2 c2)
    have FS := (FD.mono hw1).box2 XD (.slice A1 n1 c1) (.slice A2 m2 c2)
    have BS := (BD.setCell (p := ⟨w.heap.size, 0, none⟩) (Nat.le_refl _) (.slice A1 n1 c1)).setCell (p := ⟨w.heap.size, 1, none⟩) (Nat.le_refl _) (.slice A2 m2 c2)
    have gs := grown_alloc ((w3.drew.setCell ⟨w.heap.size, 0, none⟩ (.slice A1 n1 c1)).setCell ⟨w.heap.size, 1, none⟩ (.slice A2 m2 c2)) (.cells (madeCells #[.int .i64 0, .int .i64 0] 82) 45) none
    have E1 := hid e1
    have E2 := hid e2
    have E3 := hid e3
    have E4 := hid e4
    have D1 := hid (XS.on gs (by simp))
    have D2 := hid (FS.onto gs)
    have hD3 := hlit _ BS.size
    rw [show (((w3.drewN 1).setCell ⟨w.heap.size, 0, none⟩ (.slice A1 n1 c1)).setCell ⟨w.heap.size, 1, none⟩ (.slice A2 m2 c2)).heap.size = w3.heap.size by simp <;> rfl] at hD3
    have D3 := hid hD3
    clear hD3
    have D4 := hid (BS.trans ((below_grown gs).mono BS.size))
    have x0 := HX3.out.c0
    have x1 := HX3.out.c1
    have x2 := HX3.out.fz 0
    have x3 := HX3.out.fz 1
    have hx3 := HX3.out.lt
    have ho3 := HXO3.out.lt
    clear e1 e2 e3 e4 gd XD FD BD gm XS FS BS gs hlit
    go_wp2_with fail
    go_region
    go_wp2
    (try simp only [Exit.inBlock, Exit.then])
    refine bodyPost_ret (results_db rfl _ _ w.heap.size 26 _ (0, 0) _ (by simp [Act.put]) D1.out Try.underlying26 rfl size_desk) rfl ?_
    exact ⟨A1, n1, c1, A2, m2, c2, D, _, 41, 41, _, rfl, D2.out, D3.out, hn1, hm2, by omega, D4.out⟩
  | false =>
    have KX := hid (fun (W' : World) (hW : w3.grownBy W' (some g)) => show W'.cell? ⟨o, 0, none⟩ = some (.slice A1 n1 c1) ∧ W'.cell? ⟨o, 1, none⟩ = some (.slice A2 m2 c2) from by
      have h := HXO3.out.on hW hgo
      exact ⟨h.c0, h.c1⟩)
    have CD := hid (deedsDraw_any g _ A1 n1 c1 w3.drew (HR3.out.grown (drewN_gA w3 1) (by simp)) (by omega) hn1)
    have hd1 : w3.grownBy w3.drew (some g) := (World.grownBy.refl w3 (some g)).andThen (drewN_gA w3 1) (by simp)
    have hgg := HBG.out
    go_wp2_with fail
    go_region_held3 (fun w' => w'.cell? ⟨o, 0, none⟩ = some (.slice A1 n1 c1) ∧ w'.cell? ⟨o, 1, none⟩ = some (.slice A2 m2 c2))
      (first
        | go_keep
        | assumption
        | exact kx2 _ _)
      (first
        | (go_at_call 65; (with_reducible refine Calls.mono CD.out ?_); rintro e w5 ⟨AL, nL, cL, L, rfl, oL, hnL, r5, g5⟩; have G5 : w3.grownBy w5 (some g) := hd1.andThen g5 (by simp); have kx5 := KX.out _ G5; have X5 := HX3.out.on G5 hRg; have x5 := X5.c0; have x6 := X5.c1; have x7 := X5.fz 0; have x8 := X5.fz 1; have XO5 := HXO3.out.on G5 hgo; have kx2 := fun x y => And.intro ((XO5.other hne1 0 x).other hne1 1 y).c0 ((XO5.other hne1 0 x).other hne1 1 y).c1))
    obtain ⟨e1, e2, e3, e4⟩ := HFIN.out w5 AL nL cL L X5 (HF3.out.lo G5 hgl1) (own_mono oL hwz) (HBW.out.grown G5 hwz (by intro k hk; cases hk; exact hgg))
    have E1 := hid e1
    have E2 := hid e2
    have E3 := hid e3
    have E4 := hid e4
    clear e1 e2 e3 e4 kx2 kx5 X5 XO5
    go_wp2
    (try simp only [Exit.inBlock, Exit.then])
    refine bodyPost_ret (results_db rfl _ _ w.heap.size 26 _ (0, 0) _ (by simp [Act.put]) E1.out Try.underlying26 rfl size_desk) rfl ?_
    exact ⟨A1, n1, c1, A2, m2, c2, D, AL, nL, cL, L, rfl, E2.out, E3.out, hn1, hm2, by omega, E4.out⟩
end Go.Proofs.Ytkejcajboneniaa

namespace Go.Proofs.Ytkejcajboneniaa
open Go.RowKit
set_option linter.unusedVariables false
set_option linter.unusedSimpArgs false

theorem sameInts_d (A A2 : Option Addr) (n c n2 c2 : Nat) (l l2 : List Int) (w : World) (hs : Sl w w.heap.size A n l) (hs2 : Sl w w.heap.size A2 n2 l2) :
    Calls Try.prog 24 #[.slice A n c, .slice A2 n2 c2] w fun e w' => e = .returned (.bool (decide (l = l2))) ∧ Below w.heap.size w w' :=
  (sameInts_any A A2 n c n2 c2 l l2 w _ _ hs hs2).mono fun e w' ⟨h, m, hm⟩ => ⟨h, hm ▸ below_drewN (Below.refl _ _) m⟩
theorem take_rowD {ls : List (List Int)} {k : Nat} (h : k < ls.length) : ls.take (k + 1) = ls.take k ++ [ls.getD k []] := by
  rw [List.take_succ_eq_append_getElem h, List.getD_eq_getElem?_getD, List.getElem?_eq_getElem h]
  rfl

set_option maxHeartbeats 1600000 in
theorem sameRows_any (A A2 : Option Addr) (m c m2 c2 : Nat) (ls ls2 : List (List Int)) (w : World) (hA : SlS w w.heap.size A m ls) (hB : SlS w w.heap.size A2 m2 ls2) :
    Calls Try.prog 52 #[.slice A m c, .slice A2 m2 c2] w fun e w' => e = .returned (.bool (decide (ls = ls2))) ∧ Below w.heap.size w w' := by
  have h1 := hA.len
  have h2 := hB.len
  have hm := hA.max
  by_cases hne : m2 = m
  · subst hne
    have e1 : ((m2 : Int) != (m2 : Int)) = false := by simp
    have BB := hid (Below.refl w.heap.size w)
    have HA := hid hA
    have HB := hid hB
    have H1 := hid h1
    have H2 := hid h2
    clear hA hB h1 h2
    go_enter Try.func52, Try.ntmps52
    go_wp2_with fail
    go_loopw [5] (fun i wr => ∃ k : Nat, i = .int .i64 k ∧ k ≤ m2 ∧ Hid (ls.take k = ls2.take k) ∧ Hid (Below w.heap.size w wr)) (fun i _ => m2 - (intOf i).toNat)
    case atStart => exact ⟨0, rfl, Nat.zero_le _, hid rfl, BB⟩
    case round =>
      clear BB
      obtain ⟨k, rfl, hk, HT, BB⟩ := hrel
      by_cases hlt : k < m2
      · obtain ⟨b, off, A3, n3, c3, rfl, hb, hc1, o1⟩ := (HA.out.on BB.out).at hlt
        obtain ⟨b2, off2, A4, n4, c4, rfl, hb2, hc2, o2⟩ := (HB.out.on BB.out).at hlt
        have hd : Below wr.heap.size wr wr.drew := (Below.refl _ _).drew
        have CE := hid (sameInts_d A3 A4 n3 c3 n4 c4 _ _ wr.drew (o1.on hd) (o2.on hd))
        have t1 := hid (take_rowD (ls := ls) (k := k) (by rw [H1.out]; exact hlt))
        have t2 := hid (take_rowD (ls := ls2) (k := k) (by rw [H2.out]; exact hlt))
        obtain ⟨r1, hr1⟩ : ∃ r, ls.getD k [] = r := ⟨_, rfl⟩
        obtain ⟨r2, hr2⟩ : ∃ r, ls2.getD k [] = r := ⟨_, rfl⟩
        rw [hr1, hr2] at CE
        rw [hr1] at t1
        rw [hr2] at t2
        have HR1 := hid hr1
        have HR2 := hid hr2
        have KX := hid (fun (W : World) (hW : Below wr.drew.heap.size wr.drew W) => show (W.cell? ⟨b, off + k, none⟩ = some (.slice A3 n3 c3) ∧ W.cell? ⟨b2, off2 + k, none⟩ = some (.slice A4 n4 c4)) from
          ⟨((hd.trans hW).cell (p := ⟨b, off + k, none⟩) hb).trans hc1, ((hd.trans hW).cell (p := ⟨b2, off2 + k, none⟩) hb2).trans hc2⟩)
        have hki : (k : Int) < (m2 : Int) := by omega
        have p7 : (0 : Int) ≤ (k : Int) := by omega
        clear o1 o2 hr1 hr2
        by_cases heq : r1 = r2
        · rw [decide_eq_true heq] at CE
          have HE := hid heq
          clear heq
          go_wp2_with fail
          go_region_held3 (fun w' => w'.cell? ⟨b, off + k, none⟩ = some (.slice A3 n3 c3) ∧ w'.cell? ⟨b2, off2 + k, none⟩ = some (.slice A4 n4 c4))
            (first
              | go_keep
              | assumption)
            (first
              | (go_at_call 24; (with_reducible refine Calls.mono CE.out ?_); rintro r w4 ⟨rfl, st⟩; have kx := KX.out _ st))
          have BB3 := hid (BB.out.trans ((hd.trans st).mono BB.out.size))
          clear st hc1 hc2 BB KX CE kx
          go_wp2
          go_roundw
          case rel => exact ⟨k + 1, by go_num, by omega, hid (by rw [t1.out, t2.out, HT.out, HE.out]), BB3⟩
          case measure => simp [intOf]; omega
        · rw [decide_eq_false heq] at CE
          have HE := hid heq
          clear heq
          go_wp2_with fail
          go_region_held3 (fun w' => w'.cell? ⟨b, off + k, none⟩ = some (.slice A3 n3 c3) ∧ w'.cell? ⟨b2, off2 + k, none⟩ = some (.slice A4 n4 c4))
            (first
              | go_keep
              | assumption)
            (first
              | (go_at_call 24; (with_reducible refine Calls.mono CE.out ?_); rintro r w4 ⟨rfl, st⟩; have kx := KX.out _ st))
          have BB3 := hid (BB.out.trans ((hd.trans st).mono BB.out.size))
          clear st hc1 hc2 BB KX CE kx
          go_wp2
          go_ret
          refine ⟨ret_bool ?_, BB3.out⟩
          symm
          rw [decide_eq_false_iff_not]
          rintro rfl
          exact HE.out (HR1.out.symm.trans HR2.out)
      · obtain rfl : k = m2 := by omega
        go_wp2
        go_ret
        refine ⟨ret_bool ?_, BB.out⟩
        symm
        rw [decide_eq_true_iff]
        have := HT.out
        rwa [List.take_of_length_le (by rw [H1.out]; omega), List.take_of_length_le (by rw [H2.out]; omega)] at this
  · have e1 : ((m : Int) != (m2 : Int)) = true := by simp; omega
    have e2 : ((m : Int) == (m2 : Int)) = false := by simp; omega
    have HF := hid (show decide (ls = ls2) = false by
      rw [decide_eq_false_iff_not]
      rintro rfl
      omega)
    clear hA hB h1 h2 hne
    go_enter Try.func52, Try.ntmps52
    go_wp2
    go_ret
    exact ⟨ret_bool HF.out.symm, Below.refl _ _⟩

def sameB (D E : Dk) : Bool := decide (D.now = E.now) && decide (D.past = E.past)
theorem sameB_refl (D : Dk) : sameB D D = true := by simp [sameB]

set_option maxRecDepth 100000 in
set_option maxHeartbeats 1600000 in
theorem sameDesk_any (A : Option Addr) (n c : Nat) (A2 : Option Addr) (m c2 : Nat) (A3 : Option Addr) (n3 c3 : Nat) (A4 : Option Addr) (m4 c4 : Nat) (D E : Dk) (w : World) (h1 : DkR w w.heap.size A n c A2 m c2 D) (h2 : DkR w w.heap.size A3 n3 c3 A4 m4 c4 E) :
    Calls Try.prog 21 #[dsk A n c A2 m c2, dsk A3 n3 c3 A4 m4 c4] w fun e w' => e = .returned (.bool (sameB D E)) ∧ Below w.heap.size w w' := by
  have z1 : (w.alloc (.cells #[.slice A n c, .slice A2 m c2] 26)).heap.size = w.heap.size + 1 := by simp
  have g1 := grown_alloc (w.alloc (.cells #[.slice A n c, .slice A2 m c2] 26)) (.cells #[.slice A3 n3 c3, .slice A4 m4 c4] 26) none
  have X0 := (Db.new w (.slice A n c) (.slice A2 m c2)).on (row := none) g1 (by simp)
  have X1 := Db.new (w.alloc (.cells #[.slice A n c, .slice A2 m c2] 26)) (.slice A3 n3 c3) (.slice A4 m4 c4)
  rw [z1] at X1
  have B0 := ((Below.refl w.heap.size w).alloc (Nat.le_refl _) (.cells #[.slice A n c, .slice A2 m c2] 26)).alloc (by simp) (.cells #[.slice A3 n3 c3, .slice A4 m4 c4] 26)
  go_enter Try.func21, Try.ntmps21
  obtain ⟨w0, e0⟩ : ∃ W, (w.alloc (.cells #[.slice A n c, .slice A2 m c2] 26)).alloc (.cells #[.slice A3 n3 c3, .slice A4 m4 c4] 26) = W := ⟨_, rfl⟩
  have hz0 : w0.heap.size = w.heap.size + 2 := by rw [← e0]; simp
  rw [e0] at X0 X1 B0
  have x0 := X0.c0
  have x1 := X0.c1
  have y0 := X1.c0
  have y1 := X1.c1
  have CE := hid (sameInts_d A A3 n c n3 c3 D.now E.now w0 (h1.now.on B0) (h2.now.on B0))
  have CR := hid (fun (W : World) (hW : Below w.heap.size w W) => sameRows_any A2 A4 m c2 m4 c4 D.past E.past W (h1.past.on hW) (h2.past.on hW))
  have HX0 := hid X0
  have HX1 := hid X1
  have HB0 := hid B0
  clear X0 X1 B0 g1 z1 h1 h2
  by_cases heq : D.now = E.now
  · rw [decide_eq_true heq] at CE
    have HS := hid (show sameB D E = decide (D.past = E.past) by unfold sameB; rw [decide_eq_true heq]; simp)
    clear heq
    obtain ⟨bp, hbp⟩ : ∃ b, decide (D.past = E.past) = b := ⟨_, rfl⟩
    rw [hbp] at CR HS
    clear hbp
    go_wp2_with fail
    with_reducible refine Calls.mono CE.out ?_
    rintro e w1 ⟨rfl, b1⟩
    have Y0 := HX0.out.below b1 (by omega)
    have Y1 := HX1.out.below b1 (by omega)
    have u1 := Y0.c1
    have v1 := Y1.c1
    have HB1 := hid (HB0.out.trans (b1.mono (by omega)))
    clear b1 x0 x1 y0 y1 e0 Y0 Y1
    go_wp2_with fail
    with_reducible refine Calls.mono (CR.out _ HB1.out) ?_
    rintro e w2 ⟨rfl, b2⟩
    have HB2 := hid (HB1.out.trans (b2.mono HB1.out.size))
    clear b2
    go_wp2
    go_ret
    exact ⟨ret_bool HS.out.symm, HB2.out⟩
  · rw [decide_eq_false heq] at CE
    have HS := hid (show sameB D E = false by unfold sameB; rw [decide_eq_false heq]; simp)
    clear heq
    go_wp2_with fail
    with_reducible refine Calls.mono CE.out ?_
    rintro e w1 ⟨rfl, b1⟩
    have HB1 := hid (HB0.out.trans (b1.mono (by omega)))
    clear b1 x0 x1 y0 y1 e0
    go_wp2
    go_ret
    exact ⟨ret_bool HS.out.symm, HB1.out⟩

set_option maxRecDepth 100000 in
set_option maxHeartbeats 1600000 in
theorem noDesk_any (A : Option Addr) (n c : Nat) (A2 : Option Addr) (m c2 : Nat) (D : Dk) (w : World) (h1 : DkR w w.heap.size A n c A2 m c2 D) :
    Calls Try.prog 22 #[dsk A n c A2 m c2] w fun e w' => e = .returned (.bool (sameB D noDk)) ∧ Below w.heap.size w w' := by
  have X0 := Db.new w (.slice A n c) (.slice A2 m c2)
  have B0 := (Below.refl w.heap.size w).alloc (Nat.le_refl _) (.cells #[.slice A n c, .slice A2 m c2] 26)
  go_enter Try.func22, Try.ntmps22
  obtain ⟨w0, e0⟩ : ∃ W, w.alloc (.cells #[.slice A n c, .slice A2 m c2] 26) = W := ⟨_, rfl⟩
  rw [e0] at X0 B0
  have x0 := X0.c0
  have x1 := X0.c1
  have CE := hid (sameDesk_any A n c A2 m c2 none 0 0 none 0 0 D noDk w0 (h1.on B0) (DkR.no _ _))
  have HB0 := hid B0
  clear X0 B0 h1
  go_wp2_with fail
  clear e0
  with_reducible refine Calls.mono CE.out ?_
  rintro e w1 ⟨rfl, b1⟩
  have HB1 := hid (HB0.out.trans (b1.mono HB0.out.size))
  clear b1
  go_wp2
  go_ret
  exact ⟨rfl, HB1.out⟩
end Go.Proofs.Ytkejcajboneniaa

namespace Go.Proofs.Ytkejcajboneniaa
open Go.RowKit
set_option linter.unusedVariables false
set_option linter.unusedSimpArgs false

set_option maxRecDepth 100000 in
set_option maxHeartbeats 800000 in
/-- A copy of a slice of ints that is not empty. -/
theorem clone_any (A : Option Addr) (n c : Nat) (l : List Int) (w : World) (hs : Sl w w.heap.size A n l) (h1 : 1 ≤ n) (h16 : n ≤ 16) :
    Calls Try.prog 70 #[.slice A n c] w fun e w' => ∃ g c2, e = .returned (.slice (some ⟨g, 0, none⟩) n c2) ∧ w'.ownsRow w.heap.size 3 1 (.slice (some ⟨g, 0, none⟩) n c2) n (ints l) ∧ Below w.heap.size w w' := by
  obtain ⟨i0, hi, hz0, hz1, hz2⟩ := info_parts info_int
  have q22 : ∀ (w : World) (a : Option Addr) (n c n' c' : Nat), (binOp .eql 23 (.slice a n c) (.slice none n' c')).run Try.prog w = .ok (.bool a.isNone) w := fun w a n c n' c' => Lib.run_eql_slice_nil w _ _ a n c n' c' Try.underlying23
  have HL := hid hs.len
  obtain ⟨bl, off, rfl, hbl, -⟩ := hs.2.2 (by omega)
  have hB := (Below.refl w.heap.size w).alloc (Nat.le_refl _) (.cells #[] 3)
  have CL := World.ownsRow_lit (base := w.heap.size) (e := 3) (size := 1) w #[] 0 (Nat.le_refl _) (by simp [maxLen]) rfl
  rw [show (#[] : Array Value).toList = ints [] from rfl] at CL
  have HB := hid hB
  have HC := hid (hs.on hB).cellsAt
  have hbw := hB.size
  clear hB hs
  go_enter Try.func70, Try.ntmps70
  go_wp2_with (at_builtin; refine wpList_append_own _ rfl _ _ 23 rfl w.heap.size 3 i0 (.int .i64 0) 1 8 Try.underlying23 hi hz0 hz1 hz2 rfl (by decide) (.slice (some ⟨w.heap.size, 0, none⟩) 0 0) _ _ rfl CL ⟨bl, off, none⟩ n c (ints l) rfl (by rw [List.length_map, HL.out, Nat.mul_one]) HC.out (ints_one l) (by simp only [maxLen]; omega) (by omega) hbw ?_; intro v2 w3 o3 g3 _; rw [Nat.zero_add, show ints [] ++ ints l = ints l from rfl] at o3; obtain ⟨gA, cA, rfl, hbA, hltA⟩ := own_shape1 o3 (by omega); have O3 := hid o3; have B3 := hid (HB.out.grown g3 hbw (by intro j hj; simp [Value.ownBlock] at hj; omega)); clear o3 g3)
  go_ret
  exact ⟨gA, cA, rfl, O3.out, B3.out⟩

set_option maxRecDepth 100000 in
set_option maxHeartbeats 1600000 in
theorem equalN_any (A A2 : Option Addr) (n c n2 c2 : Nat) (l l2 : List Int) (w : World) (B B2 : Nat) (hs : Sl w B A n l) (hs2 : Sl w B2 A2 n2 l2) :
    Calls Try.prog 74 #[.slice A n c, .slice A2 n2 c2] w fun e w' => e = .returned (.bool (decide (l = l2))) ∧ ∃ m, w' = w.drewN m := by
  have hm := hs.max
  have hm2 := hs2.max
  have hl := hs.len
  have hl2 := hs2.len
  by_cases hne : n = n2
  · subst hne
    have HL := hid hl; clear hl
    have HL2 := hid hl2; clear hl2
    have e1 : ((n : Int) != (n : Int)) = false := by simp
    go_enter Try.func74, Try.ntmps74
    go_wp2
    go_loopw [13] (fun i wr => ∃ k m : Nat, k ≤ n ∧ i = .int .i64 k ∧ wr = w.drewN m ∧ l.take k = l2.take k) (fun i _ => n - (intOf i).toNat)
    case atStart => exact ⟨0, 0, Nat.zero_le _, rfl, rfl, rfl⟩
    case round =>
      obtain ⟨k, m, hk, rfl, rfl, htk⟩ := hrel
      have HT := hid htk; clear htk
      by_cases hlt : k < n
      · obtain ⟨b, off, rfl, _, hc⟩ := hs.2.2 (by omega)
        obtain ⟨b2, off2, rfl, _, hc2⟩ := hs2.2.2 (by omega)
        have hck := hc k hlt
        have hck2 := hc2 k hlt
        clear hc hc2
        have hlti : (k : Int) < (n : Int) := by omega
        have t1 := take_nth (l := l) (k := k) (by rw [HL.out]; exact hlt)
        have t2 := take_nth (l := l2) (k := k) (by rw [HL2.out]; exact hlt)
        have T1 := hid t1; clear t1
        have T2 := hid t2; clear t2
        by_cases heq : nth l k = nth l2 k
        · have HE := hid heq
          have heb : (nth l k != nth l2 k) = false := by simp [heq]
          have heb2 : (nth l k == nth l2 k) = true := by simp [heq]
          clear heq
          go_wp2
          go_quiet (fail)
          go_wp2
          go_roundw
          case rel => exact ⟨k + 1, _, by omega, by go_num, rfl, by rw [T1.out, T2.out, HT.out, HE.out]⟩
          case measure => simp [intOf]; omega
        · have heb : (nth l k != nth l2 k) = true := by simp [heq]
          have heb2 : (nth l k == nth l2 k) = false := by simp [heq]
          have HE := hid heq; clear heq
          go_wp2
          go_quiet (fail)
          go_wp2
          go_ret
          refine ⟨ret_bool ?_, _, World.drewN_drewN _ _ _⟩
          symm
          rw [decide_eq_false_iff_not]
          rintro rfl
          exact HE.out rfl
      · go_wp2
        go_ret
        refine ⟨ret_bool ?_, _, rfl⟩
        symm
        rw [decide_eq_true_iff]
        have := HT.out
        rwa [List.take_of_length_le (by rw [HL.out]; omega), List.take_of_length_le (by rw [HL2.out]; omega)] at this
  · have e1 : ((n : Int) != (n2 : Int)) = true := by simp; omega
    have e2 : ((n : Int) == (n2 : Int)) = false := by simp; omega
    have hfin : decide (l = l2) = false := by
      rw [decide_eq_false_iff_not]
      rintro rfl
      omega
    have HF := hid hfin; clear hfin hl hl2 hne
    go_enter Try.func74, Try.ntmps74
    go_wp2
    go_ret
    exact ⟨ret_bool HF.out.symm, 0, rfl⟩
theorem equal_any (A : Option Addr) (n c : Nat) (l : List Int) (A1 : Option Addr) (n1 c1 : Nat) (m : List Int) (w : World) (hs : Sl w w.heap.size A n l) (hs1 : Sl w w.heap.size A1 n1 m) :
    Calls Try.prog 74 #[.slice A n c, .slice A1 n1 c1] w fun e w' => e = .returned (.bool (decide (l = m))) ∧ Below w.heap.size w w' :=
  (equalN_any A A1 n c n1 c1 l m w _ _ hs hs1).mono fun e w' ⟨h, m, hm⟩ => ⟨h, hm ▸ below_drewN (Below.refl _ _) m⟩

/-- namesPlace: of flip and round. -/
def placed (k : Int) : Bool := decide (k = 3 ∨ k = 4)
set_option maxHeartbeats 800000 in
theorem namesPlace_any (k N : Int) (w : World) :
    Calls Try.prog 71 #[deed k N] w fun e w' => e = .returned (.bool (placed k)) ∧ Below w.heap.size w w' := by
  have hB := (Below.refl w.heap.size w).alloc (Nat.le_refl _) (.cells #[.int .i64 k, .int .i64 N] 45)
  by_cases h3 : k = 3
  · subst h3
    go_enter Try.func71, Try.ntmps71
    go_wp2
    go_ret
    exact ⟨ret_bool (by decide), hB⟩
  · by_cases h4 : k = 4
    · subst h4
      go_enter Try.func71, Try.ntmps71
      go_wp2
      go_ret
      exact ⟨ret_bool (by decide), hB⟩
    · have HF := hid (show placed k = false from by unfold placed; simp [h3, h4])
      have h3' : (k == 3) = false := by simpa using h3
      have h4' : (k == 4) = false := by simpa using h4
      go_enter Try.func71, Try.ntmps71
      go_wp2
      go_ret
      exact ⟨ret_bool HF.out.symm, hB⟩

set_option maxHeartbeats 800000 in
theorem flippedAt_any (A : Option Addr) (n c : Nat) (l : List Int) (F : Nat) (w : World) (hs : Sl w w.heap.size A n l) (hF : F < n) (h16 : n ≤ 16) (hb : ∀ x ∈ l, x = 0 ∨ x = 1) :
    Calls Try.prog 85 #[.slice A n c, .int .i64 F] w fun e w' => ∃ A2 c2, e = .returned (.slice A2 n c2) ∧ w'.ownsRow w.heap.size 3 1 (.slice A2 n c2) n (ints (flipL l F)) ∧ Below w.heap.size w w' := by
  have HL := hid hs.len
  have CC := hid (clone_any A n c l w hs (by omega) h16)
  have HB := hid (bit_nth hb F)
  clear hs hb
  have p0 : (0 : Int) ≤ (F : Int) := by omega
  have p1 : (F : Int) < (n : Int) := by omega
  obtain ⟨x, hx⟩ : ∃ x, nth l F = x := ⟨_, rfl⟩
  rw [hx] at HB
  have HX := hid hx
  have hxx := HB.out
  have wx : IntKind.i64.wrap (1 - x) = 1 - x := IntWalk.i64_in _ (by omega)
  clear hx hxx
  go_enter Try.func85, Try.ntmps85
  go_wp2_with fail
  with_reducible refine Calls.mono CC.out ?_
  rintro e w1 ⟨g, c2, rfl, o1, b1⟩
  have hlt := own_hi o1 g rfl
  have hc := o1.cellAt F (by omega)
  have hf := o1.frozenAt F
  obtain ⟨o2, g2⟩ := o1.stored F (.int .i64 (1 - x))
  have hg := o1.lt g rfl
  rw [show (ints l)[F]? = some (.int .i64 x) from by rw [← HX.out]; simp [ints, nth, List.getD, List.getElem?_eq_getElem (show F < l.length by rw [HL.out]; exact hF)]] at hc
  have HO := hid (show (w1.setCell ⟨g, F, none⟩ (.int .i64 (1 - x))).ownsRow w.heap.size 3 1 (.slice (some ⟨g, 0, none⟩) n c2) n (ints (flipL l F)) from by
    unfold flipL
    rw [HX.out, show ints (l.set F (1 - x)) = (ints l).set F (.int .i64 (1 - x)) from by simp [ints, List.map_set]]
    exact o2)
  have HB1 := hid (b1.grown g2 b1.size (by intro j hj; simp [Value.ownBlock] at hj; omega))
  clear o1 o2 g2 b1
  go_wp2
  go_ret
  exact ⟨_, _, rfl, HO.out, HB1.out⟩
end Go.Proofs.Ytkejcajboneniaa
