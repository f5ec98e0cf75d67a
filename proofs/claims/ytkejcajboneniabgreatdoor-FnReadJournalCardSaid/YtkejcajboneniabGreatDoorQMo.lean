/-
  Texts put together: S12s T12v T12z S12j. No statement is proved here.
-/
import Derived.Test.YtkejcajboneniabGreatDoorQMg
import Derived.Test.YtkejcajboneniabGreatDoorQMf
import Derived.Test.YtkejcajboneniabGreatDoorQMk
import Derived.Laws.AppendOwnNone
import Derived.Deep.RegionHeld3
import Derived.Test.YtkejcajboneniabGreatDoorQMd
import Derived.Test.YtkejcajboneniabGreatDoorQMa
set_option linter.unusedVariables false
set_option linter.unusedSimpArgs false
namespace Go.Proofs.YtkejcajboneniabGreatDoor
open Go.RowKit

def wFire9 : List UInt8 := [102, 105, 114, 101, 32, 57]
theorem deed_none {s : List UInt8} (h : ∀ q : Fin 100, flipB ++ num2 q.val ≠ s ∧ roundB ++ num2 q.val ≠ s) (h5 : sumsB ≠ s ∧ carsB ≠ s ∧ votesB ≠ s ∧ freeB ≠ s ∧ backB ≠ s) : readOut s = none := by
  cases hr : readOut s with
  | none => rfl
  | some a =>
    obtain ⟨he, hne⟩ := read_text hr
    exfalso
    obtain ⟨a1, a2, a3, a4, a5⟩ := h5
    have hd : deedB a.1 a.2 = s := he
    rcases deedB_form a.1 a.2 with ⟨q, hq, _, _, e⟩ | ⟨q, hq, _, _, e⟩ | ⟨_, ⟨_, e⟩ | ⟨_, e⟩ | ⟨_, e⟩ | ⟨_, e⟩ | ⟨_, e⟩⟩ | e
    · exact (h ⟨q, hq⟩).1 (e.symm.trans hd)
    · exact (h ⟨q, hq⟩).2 (e.symm.trans hd)
    · exact a1 (e.symm.trans hd)
    · exact a2 (e.symm.trans hd)
    · exact a3 (e.symm.trans hd)
    · exact a4 (e.symm.trans hd)
    · exact a5 (e.symm.trans hd)
    · exact hne (hd.symm.trans e)
set_option maxRecDepth 100000 in
theorem read_fire9 : readOut wFire9 = none := deed_none (by decide) (by decide)
set_option maxRecDepth 100000 in
theorem read_row : readOut wRow = none := deed_none (by decide) (by decide)
theorem num23 : numB 23 = [50, 51] := by rw [numB_two (by decide)]; decide
set_option maxRecDepth 100000 in
theorem fire_nine : fireOut 9 = 23 := by decide
set_option maxRecDepth 100000 in
theorem line_fire {D : Dk} (h : deskOk D = true) : lineOut D wFire9 = (D, [50, 51]) := by
  unfold lineOut
  rw [if_pos h, read_fire9]
  have h1 : askOut D.now wFire9 = askW wFire9 := by
    unfold askOut
    rw [if_neg (by decide), if_neg (by decide), if_neg (by decide), if_neg (by decide), if_neg (by decide), if_neg (by decide), if_neg (by decide)]
  have h2 : askW wFire9 = askN wFire 9 := by
    unfold askW
    rw [if_pos (by decide), show (cutB wFire9 32).getD 0 [] = wFire by decide, show digitsOut ((cutB wFire9 32).getD 1 []) = 9 by decide]
  have h3 : askN wFire 9 = [50, 51] := by
    unfold askN
    rw [if_neg (by decide), if_neg (by decide), if_neg (by decide), if_pos rfl, fire_nine, if_pos (by decide)]
    exact num23
  rw [h1, h2, h3]
theorem line_row {D : Dk} (h : deskOk D = true) : lineOut D wRow = (D, rowTextOut D.now) := by
  unfold lineOut
  rw [if_pos h, read_row]
  show (D, askOut D.now wRow) = _
  unfold askOut
  rw [if_pos rfl]
theorem numB_ne (n : Nat) : numB n ≠ [] := by
  by_cases h : n < 10
  · rw [numB_lt h]; simp
  · rw [numB_ge h]; simp
theorem rowsOut_ne (l : List Int) : rowsOut l ≠ [] := by
  unfold rowsOut
  split
  · decide
  · rename_i h
    obtain ⟨k, hk⟩ : ∃ k, l.length = k + 1 := ⟨l.length - 1, by omega⟩
    rw [hk]
    unfold listB
    intro e
    exact numB_ne _ (List.append_eq_nil_iff.1 e).2
theorem askN_ne (u : List UInt8) (n : Int) : askN u n ≠ [] := by
  unfold askN
  split
  · decide
  split
  · exact rowsOut_ne _
  split
  · exact rowsOut_ne _
  split
  · split
    · exact numB_ne _
    · decide
  · decide
theorem line_ne {D : Dk} (h : deskOk D = true) (s : List UInt8) : (lineOut D s).2 ≠ [] := by
  unfold lineOut
  rw [if_pos h]
  split
  · unfold doneB
    show (if _ then wOk else wNot) ≠ []
    split <;> decide
  · show askOut D.now s ≠ []
    have hb := (deskOk_iff.1 h).2.1
    unfold askOut
    split
    · unfold rowTextOut
      rw [if_pos hb]
      intro e
      have h1 := congrArg List.length e
      rw [rowB_len] at h1
      have h2 := (bitsOk_iff.1 hb).2.1
      simp only [List.length_nil] at h1
      omega
    split
    · exact numB_ne _
    split
    · exact numB_ne _
    split
    · exact numB_ne _
    split
    · exact numB_ne _
    split
    · exact numB_ne _
    split
    · exact rowsOut_ne _
    unfold askW
    split
    · exact askN_ne _ _
    · decide
theorem say_ne {D : Dk} (h : deskOk D = true) (ls : List (List UInt8)) : ∀ s ∈ (sayL D ls).2, s ≠ [] := by
  suffices H : ∀ (ls : List (List UInt8)) (t : Dk × List (List UInt8)), deskOk t.1 = true → (∀ s ∈ t.2, s ≠ []) → ∀ s ∈ (ls.foldl sayF t).2, s ≠ [] from H ls (D, []) h (fun s hs => by simp at hs)
  intro ls
  induction ls with
  | nil => intro t _ ht; exact ht
  | cons s ls ih =>
    intro t hk ht
    rw [List.foldl_cons]
    refine ih _ (line_ok hk s) (fun x hx => ?_)
    rcases List.mem_append.1 hx with hx | hx
    · exact ht x hx
    · simp at hx; subst hx; exact line_ne hk s
/-- Two parts of the lines, one after the other. -/
theorem say_parts {D : Dk} {ls : List (List UInt8)} {k : Nat} (h : sayOk D ls = true) : (sayOut (sayOut D (ls.take k)).1 (ls.drop k)).1 = (sayOut D ls).1 ∧ (sayOut D (ls.take k)).2 ++ (sayOut (sayOut D (ls.take k)).1 (ls.drop k)).2 = (sayOut D ls).2 ∧ deskOk (sayOut D ls).1 = true ∧ (sayOut D ls).2.length = ls.length ∧ (∀ s ∈ (sayOut D ls).2, s ≠ []) ∧ deskOk D = true ∧ ls.length ≤ 40 := by
  have h' := h
  unfold sayOk at h'
  rw [Bool.and_eq_true] at h'
  have hl : ls.length ≤ 40 := by simpa using h'.2
  have h1 : sayOk D (ls.take k) = true := by unfold sayOk; rw [h'.1]; simp; omega
  have e1 : sayOut D (ls.take k) = sayL D (ls.take k) := by unfold sayOut; rw [if_pos h1]
  have hok := say_ok h'.1 (ls.take k)
  have h2 : sayOk (sayL D (ls.take k)).1 (ls.drop k) = true := by unfold sayOk; rw [hok]; simp; omega
  have e2 : sayOut (sayL D (ls.take k)).1 (ls.drop k) = sayL (sayL D (ls.take k)).1 (ls.drop k) := by unfold sayOut; rw [if_pos h2]
  have e3 : sayOut D ls = sayL D ls := by unfold sayOut; rw [if_pos h]
  have ha := say_append D (ls.take k) (ls.drop k)
  rw [List.take_append_drop] at ha
  have hlen := say_len D ls
  have hne := say_ne h'.1 ls
  have hoks := say_ok h'.1 ls
  rw [e1, e2, e3]
  refine ⟨by rw [ha], by rw [ha], hoks, hlen, hne, h'.1, hl⟩
theorem say_none {D : Dk} {ls : List (List UInt8)} (h : sayOk D ls = false) : sayOut D ls = (noDk, []) := by unfold sayOut; rw [if_neg (by rw [h]; simp)]
end Go.Proofs.YtkejcajboneniabGreatDoor
namespace Go.Proofs.YtkejcajboneniabGreatDoor
open Go.RowKit

theorem strs_append (a b : List (List UInt8)) : strs a ++ strs b = strs (a ++ b) := by simp [strs]
theorem strs_one (l : List (List UInt8)) : ∀ u ∈ strs l, u.oneCell' = true := fun u hu => by
  obtain ⟨s, _, rfl⟩ := List.mem_map.1 hu
  rfl
theorem append_strs {P : Program} {w : World} {ops : Array Oper} {rest : List Oper} {o : Oper} {a : Act} {Q : Exit → Act → World → Prop} (hgd : Region.wanted o (yielded ops a.tmps) = true) (s x : Operand) (t : TypeId)
    (ho : o.op = .call { callee := .builtin .append, args := #[s, x], argTypes := #[t, t] })
    (base : Nat) (e : TypeId) (i : TypeInfo) (ht : P.underlying t = some (.slice e)) (hi : P.info? e = some i) (hz : i.zero = some (encStr [])) (hsize : i.size = 1) (hby : i.bytes = 16)
    (v : Value) (n : Nat) (ls : List (List UInt8)) (hs : a.eval s = v) (hown : w.ownsRow base e 1 v n (strs ls))
    (A : Option Addr) (m c B2 : Nat) (ls2 : List (List UInt8)) (hx : a.eval x = .slice A m c) (ho2 : w.ownsRow B2 e 1 (.slice A m c) m (strs ls2)) (hn : n + m ≤ 1000000) (hbase : base ≤ w.heap.size)
    (h : ∀ v' w', w'.ownsRow base e 1 v' (n + m) (strs (ls ++ ls2)) → w.grownBy w' v.ownBlock → wpList P ops Q rest (a.put o.dst v') w') : wpList P ops Q (o :: rest) a w := by
  have hl2 : ls2.length = m := by have := ho2.1; simpa [strs] using this
  refine wpList_step fun K hK => ?_
  rw [if_pos hgd]
  replace h := fun v' w' h1 h2 => hK _ _ (h v' w' h1 h2)
  clear hK
  rcases ho2.2 with ⟨h1, h2⟩ | ⟨g, cap, cur, hv, hb, hg, hnc, hcm, _⟩
  · injection h1 with e1 e2 e3
    subst e1; subst e2; subst e3
    obtain rfl := List.eq_nil_of_length_eq_zero hl2
    have hrun := run_append_owned_none (P := P) (w := w) base t o.type e i 1 ht hi v n _ hown
    have hfin := h v w (by simpa using hown) (World.grownBy.refl _ _)
    unfold Oper.wp
    simp [execOp, ho, resolve, invoke, builtin, hs, hx, hrun, Result.andThen]
    exact hfin
  · injection hv with e1 e2 e3
    subst e1; subst e3
    refine wp_append_own w s x t ho base e i (encStr []) 1 16 ht hi hz hsize hby rfl (by decide) v n _ hs hown ⟨g, 0, none⟩ m c (strs ls2) hx (by simp [strs, hl2]) (fun j u hj => ?_) (strs_one _) (by simp only [maxLen]; omega) (by omega) hbase (fun v' w' h1 h2 _ => h v' w' (by rw [← strs_append]; exact h1) h2)
    have hjl : j < m := by have := (List.getElem?_eq_some_iff.1 hj).1; simpa [strs, hl2] using this
    rw [show (⟨g, 0, none⟩ : Addr).add j = ⟨g, j, none⟩ by unfold Addr.add; by_cases h0 : j = 0 <;> simp [h0]]
    rw [ho2.cellAt j (by omega)]
    exact hj

set_option maxHeartbeats 1600000 in
/-- laws.sameTexts of two slices that read alike. -/
theorem sameTexts_any (A A2 : Option Addr) (n c n2 c2 : Nat) (l : List (List UInt8)) (w : World) (hs : SlT w w.heap.size A n l) (hs2 : SlT w w.heap.size A2 n2 l) :
    Calls Tryz.prog 32 #[.slice A n c, .slice A2 n2 c2] w fun e w' => e = .returned (.bool true) ∧ Below w.heap.size w w' := by
  obtain rfl : n2 = n := by rw [← hs2.len, hs.len]
  have hm := hs.max
  have hnn : ((n2 : Int) != (n2 : Int)) = false := by simp
  have BB := hid (Below.refl w.heap.size w)
  have HA := hid hs
  have HB := hid hs2
  clear hs hs2
  go_enter Tryz.func32, Tryz.ntmps32
  go_wp2_with fail
  go_loopw [5] (fun i wr => ∃ k : Nat, i = .int .i64 k ∧ k ≤ n2 ∧ Hid (Below w.heap.size w wr)) (fun i _ => n2 - (intOf i).toNat)
  case atStart => exact ⟨0, rfl, Nat.zero_le _, BB⟩
  case round =>
    clear BB
    obtain ⟨k, rfl, hk, BB⟩ := hrel
    by_cases hlt : k < n2
    · obtain ⟨b, off, rfl, hb, hc1⟩ := (HA.out.on BB.out).at hlt
      obtain ⟨b2, off2, rfl, hb2, hc2⟩ := (HB.out.on BB.out).at hlt
      have hki : (k : Int) < (n2 : Int) := by omega
      have p7 : (0 : Int) ≤ (k : Int) := by omega
      obtain ⟨s, hs⟩ : ∃ s, l.getD k [] = s := ⟨_, rfl⟩
      rw [hs] at hc1 hc2
      have hss : (s != s) = false := by simp
      have hsq : (s == s) = true := by simp
      clear hs
      go_wp2
      go_quiet (fail)
      have BB3 := fun q => hid (below_drewN BB.out q)
      go_wp2
      go_roundw
      case rel => exact ⟨k + 1, by go_num, by omega, BB3 _⟩
      case measure => simp [intOf]; omega
    · obtain rfl : k = n2 := by omega
      go_wp2
      go_ret
      exact ⟨rfl, BB.out⟩
end Go.Proofs.YtkejcajboneniabGreatDoor
namespace Go.Proofs.YtkejcajboneniabGreatDoor
open Go.RowKit

/-- All bytes of a list of texts. -/
def szT (ls : List (List UInt8)) : Nat := (ls.map List.length).sum
theorem szT_cons (s : List UInt8) (ls : List (List UInt8)) : szT (s :: ls) = s.length + szT ls := by simp [szT]
theorem szT_mem {ls : List (List UInt8)} {s : List UInt8} (h : s ∈ ls) : s.length ≤ szT ls := by
  induction ls with
  | nil => cases h
  | cons a ls ih =>
    rw [szT_cons]
    rcases List.mem_cons.1 h with rfl | h
    · omega
    · have := ih h; omega
theorem szT_take {ls : List (List UInt8)} {k : Nat} (h : k < ls.length) : szT (ls.take (k + 1)) = szT (ls.take k) + (ls.getD k []).length := by
  rw [take_text h]
  simp [szT]
theorem szT_all {ls : List (List UInt8)} {n : Nat} (h : ls.length = n) : szT (ls.take n) = szT ls := by rw [List.take_of_length_le (by omega)]

set_option maxRecDepth 100000 in
set_option maxHeartbeats 1600000 in
/-- laws.szStringS: what is left, or less than 0. -/
theorem szStringS_any (A : Option Addr) (n c : Nat) (ls : List (List UInt8)) (x : Int) (w : World) (hs : SlT w w.heap.size A n ls) (hm : ∀ s ∈ ls, s.length ≤ 9223372036854775807) (h0 : 0 ≤ x) (h1 : x ≤ 1048576) :
    Calls Tryz.prog 34 #[.slice A n c, .int .i64 x] w fun e w' => (∃ r : Int, e = .returned (.int .i64 r) ∧ (r < 0 ∨ (0 ≤ r ∧ r = x - n - szT ls))) ∧ w = w' := by
  have hn := hs.max
  have HL := hid hs.len
  have HM := hid hm
  have HS := hid hs
  clear hm hs
  have w1 : IntKind.i64.wrap (x - n) = x - n := IntWalk.i64_in _ (by omega)
  by_cases h : x - n < 0
  · go_enter Tryz.func34, Tryz.ntmps34
    go_wp2
    go_ret
    exact ⟨⟨_, rfl, .inl (by omega)⟩, rfl⟩
  · go_enter Tryz.func34, Tryz.ntmps34
    go_wp2
    go_loop [1, 5] (fun r i => ∃ (k : Nat) (y : Int), r = .int .i64 y ∧ i = .int .i64 k ∧ k ≤ n ∧ 0 ≤ y ∧ y ≤ 1048576 ∧ Hid (y = x - n - szT (ls.take k))) (fun _ i => n - (intOf i).toNat)
    case atStart => exact ⟨0, _, rfl, rfl, Nat.zero_le _, by omega, by omega, hid (by simp [szT])⟩
    case round =>
      obtain ⟨k, y, rfl, rfl, hk, hy0, hy1, HY⟩ := hrel
      by_cases hlt : k < n
      · obtain ⟨b, off, rfl, _, hc⟩ := HS.out.at hlt
        have HT := hid (szT_take (ls := ls) (k := k) (by rw [HL.out]; exact hlt))
        have hsm := HM.out (ls.getD k []) (by rw [List.getD_eq_getElem?_getD, List.getElem?_eq_getElem (by rw [HL.out]; exact hlt)]; exact List.getElem_mem _)
        obtain ⟨s, hs⟩ : ∃ s, ls.getD k [] = s := ⟨_, rfl⟩
        rw [hs] at hc hsm HT
        have w2 : IntKind.i64.wrap (y - s.length) = y - s.length := IntWalk.i64_in _ (by omega)
        have hki : (k : Int) < (n : Int) := by omega
        have hk0 : (0 : Int) ≤ (k : Int) := by omega
        clear hs w1
        by_cases hneg : y - (s.length : Int) < 0
        · go_wp2
          go_ret
          exact ⟨⟨_, rfl, .inl (by omega)⟩, rfl⟩
        · go_wp2
          go_round
          case rel => exact ⟨k + 1, _, rfl, by go_num, by omega, by omega, by omega, hid (by have h2 := HY.out; have h3 := HT.out; omega)⟩
          case measure => simp [intOf]; omega
      · obtain rfl : k = n := by omega
        have HF := hid (show y = x - k - szT ls from by rw [← szT_all HL.out]; exact HY.out)
        go_wp2
        go_ret
        exact ⟨⟨_, rfl, .inr ⟨hy0, HF.out⟩⟩, rfl⟩

theorem madeTexts (n : Nat) : (madeCells (encStr []).cells (n * 1)).toList = strs (List.replicate n []) := by
  simp only [madeCells, encStr, Value.cells, strs, List.map_replicate]
  apply List.ext_getElem?
  intro j
  by_cases h : j < n
  · simp [h, Nat.mod_one]
  · simp [show n ≤ j from by omega]
def filledT (l : List (List UInt8)) (k n : Nat) : List (List UInt8) := l.take k ++ List.replicate (n - k) []
theorem filledT_zero (l : List (List UInt8)) (n : Nat) : filledT l 0 n = List.replicate n [] := by simp [filledT]
theorem filledT_all {l : List (List UInt8)} {n : Nat} (h : l.length = n) : filledT l n n = l := by simp [filledT, List.take_of_length_le (Nat.le_of_eq h)]
theorem filledT_step {l : List (List UInt8)} {k n : Nat} (h : l.length = n) (hk : k < n) : (filledT l k n).set k (l.getD k []) = filledT l (k + 1) n := by
  unfold filledT
  rw [List.set_append_right _ _ (by simp; omega), take_text (by omega)]
  have : n - k = (n - (k + 1)) + 1 := by omega
  rw [this, List.replicate_succ]
  simp [Nat.min_eq_left (show k ≤ l.length by omega)]
theorem strs_set (l : List (List UInt8)) (k : Nat) (x : List UInt8) : (strs l).set k (encStr x) = strs (l.set k x) := by simp [strs, List.map_set]
theorem own_text {w : World} {base g n c j : Nat} {e : TypeId} {l : List (List UInt8)} (h : w.ownsRow base e 1 (.slice (some ⟨g, 0, none⟩) n c) n (strs l)) (hl : l.length = n) (hj : j < n) :
    w.cell? ⟨g, j, none⟩ = some (encStr (l.getD j [])) := by
  rw [h.cellAt j (by omega)]
  simp [strs, List.getD, show j < l.length from by omega]

set_option maxRecDepth 100000 in
set_option maxHeartbeats 1600000 in
/-- laws.toStringS: a copy in new memory. -/
theorem toStringS_any (A : Option Addr) (n c : Nat) (l : List (List UInt8)) (w : World) (hs : SlT w w.heap.size A n l) (hn : n ≤ 2000000) :
    Calls Tryz.prog 35 #[.slice A n c] w fun e w' => ∃ g, e = .returned (.slice (some ⟨g, 0, none⟩) n n) ∧ w'.ownsRow w.heap.size 9 1 (.slice (some ⟨g, 0, none⟩) n n) n (strs l) ∧ Below w.heap.size w w' := by
  obtain ⟨i0, hi, hz0, hz1, hz2⟩ := info_parts info_str
  have HL := hid hs.len
  go_enter Tryz.func35, Tryz.ntmps35
  go_wp2_with (refine wpList_make_full _ rfl (.tmp 6) (.tmp 6) 53 rfl w.heap.size 9 i0 _ 1 Tryz.underlying53 hi hz0 hz1 .i64 .i64 n n n rfl rfl rfl rfl (by rw [hz2]; omega) (by simp only [maxLen]; omega) (Nat.le_refl _) ?_; intro w1 hown1 hg1)
  rw [madeTexts, ← filledT_zero l n] at hown1
  have hbw : Below w.heap.size w w1 := (Below.refl _ _).grown hg1 (Nat.le_refl _) (by simp)
  have hlw : w.heap.size < w1.heap.size := (hown1.lt _ rfl).2
  clear hg1 hi hz0 hz1 hz2
  go_loopw [4] (fun i wr => ∃ k : Nat, k ≤ n ∧ i = .int .i64 k ∧ w.heap.size < wr.heap.size ∧ wr.ownsRow w.heap.size 9 1 (.slice (some ⟨w.heap.size, 0, none⟩) n n) n (strs (filledT l k n)) ∧ Below w.heap.size w wr) (fun i _ => n - (intOf i).toNat)
  case atStart => exact ⟨0, Nat.zero_le _, rfl, hlw, hown1, hbw⟩
  case round =>
    obtain ⟨k, hk, rfl, hlr, hown, hb⟩ := hrel
    clear hown1 hbw hlw
    by_cases hlt : k < n
    · obtain ⟨b, off, rfl, hbl, hc⟩ := (hs.below hb).at hlt
      have hcell := own_text hown (by unfold filledT; simp; rw [HL.out]; omega) hlt
      have hfz := hown.frozenAt k
      obtain ⟨hst, _⟩ := hown.stored k (encStr (l.getD k []))
      rw [strs_set, filledT_step HL.out hlt] at hst
      obtain ⟨s, hs1⟩ : ∃ s, l.getD k [] = s := ⟨_, rfl⟩
      rw [hs1] at hc hst
      have HS := hid hst
      have HB := hid (hb.setCell (p := ⟨w.heap.size, k, none⟩) (Nat.le_refl _) (encStr s))
      have hki : (k : Int) < (n : Int) := by omega
      have hk0 : (0 : Int) ≤ (k : Int) := by omega
      clear hst hown hb hs1
      go_wp2
      go_roundw
      case rel => exact ⟨k + 1, by omega, by go_num, by simp; omega, HS.out, HB.out⟩
      case measure => simp [intOf]; omega
    · obtain rfl : k = n := by omega
      rw [filledT_all HL.out] at hown
      have HO := hid hown
      clear hown
      go_wp2
      go_ret
      exact ⟨_, rfl, HO.out, hb⟩

set_option maxHeartbeats 1600000 in
/-- laws.eqStringS of two slices that read alike. -/
theorem eqStringS_any (A A2 : Option Addr) (n c n2 c2 : Nat) (l : List (List UInt8)) (w : World) (hs : SlT w w.heap.size A n l) (hs2 : SlT w w.heap.size A2 n2 l) :
    Calls Tryz.prog 36 #[.slice A n c, .slice A2 n2 c2] w fun e w' => e = .returned (.bool true) ∧ Below w.heap.size w w' := by
  obtain rfl : n2 = n := by rw [← hs2.len, hs.len]
  have hm := hs.max
  have hnn : ((n2 : Int) != (n2 : Int)) = false := by simp
  have BB := hid (Below.refl w.heap.size w)
  have HA := hid hs
  have HB := hid hs2
  clear hs hs2
  go_enter Tryz.func36, Tryz.ntmps36
  go_wp2_with fail
  go_loopw [5] (fun i wr => ∃ k : Nat, i = .int .i64 k ∧ k ≤ n2 ∧ Hid (Below w.heap.size w wr)) (fun i _ => n2 - (intOf i).toNat)
  case atStart => exact ⟨0, rfl, Nat.zero_le _, BB⟩
  case round =>
    clear BB
    obtain ⟨k, rfl, hk, BB⟩ := hrel
    by_cases hlt : k < n2
    · obtain ⟨b, off, rfl, hb, hc1⟩ := (HA.out.on BB.out).at hlt
      obtain ⟨b2, off2, rfl, hb2, hc2⟩ := (HB.out.on BB.out).at hlt
      have hki : (k : Int) < (n2 : Int) := by omega
      have p7 : (0 : Int) ≤ (k : Int) := by omega
      obtain ⟨s, hs⟩ : ∃ s, l.getD k [] = s := ⟨_, rfl⟩
      rw [hs] at hc1 hc2
      have hss : (s != s) = false := by simp
      have hsq : (s == s) = true := by simp
      clear hs
      go_wp2
      go_quiet (fail)
      have BB3 := fun q => hid (below_drewN BB.out q)
      go_wp2
      go_roundw
      case rel => exact ⟨k + 1, by go_num, by omega, BB3 _⟩
      case measure => simp [intOf]; omega
    · obtain rfl : k = n2 := by omega
      go_wp2
      go_ret
      exact ⟨rfl, BB.out⟩

/-- The digits of a number, none for 0. -/
def numP (n : Nat) : List UInt8 := if n = 0 then [] else numB n
theorem numP_step {n : Nat} (h : 0 < n) : numP n = numP (n / 10) ++ [digB (n % 10)] := by
  unfold numP
  rw [if_neg (by omega)]
  by_cases h10 : n < 10
  · rw [if_pos (by omega), numB_lt h10, Nat.mod_eq_of_lt h10]; rfl
  · rw [if_neg (by omega), numB_ge h10]
theorem numP_len (n : Nat) : (numP n).length ≤ n + 1 := by
  unfold numP
  split
  · simp
  · exact numB_len n
/-- laws.markText of a number from 1 on. -/
def markT (n : Nat) : List UInt8 := 109 :: numP n

set_option maxRecDepth 100000 in
set_option maxHeartbeats 1600000 in
theorem markText_any (K : Nat) (h1 : 1 ≤ K) (hK : K ≤ 1000000000) (w : World) :
    Calls Tryz.prog 90 #[.int .i64 K] w fun e w' => e = .returned (encStr (markT K)) ∧ Below w.heap.size w w' := by
  have hK0 : decide ((K : Int) ≤ 0) = false := by simp; omega
  have BB := hid (Below.refl w.heap.size w)
  go_enter Tryz.func90, Tryz.ntmps90
  go_wp2
  go_loopw [0, 3] (fun k s wr => ∃ (j : Nat) (L : List UInt8), k = .int .i64 j ∧ s = .string ⟨L.toArray⟩ ∧ j ≤ K ∧ Hid (numP j ++ L = numP K) ∧ Hid (Below w.heap.size w wr)) (fun k _ _ => (intOf k).toNat)
  case atStart => exact ⟨K, [], rfl, rfl, Nat.le_refl _, hid (by simp), BB⟩
  case round =>
    clear BB
    obtain ⟨j, L, rfl, rfl, hj, HN, BB⟩ := hrel
    have hL : L.length ≤ K + 1 := by
      have h2 := congrArg List.length HN.out
      rw [List.length_append] at h2
      have := numP_len K
      omega
    by_cases hlt : 0 < j
    · have hr10 : j % 10 < 10 := Nat.mod_lt _ (by omega)
      have HS := hid (show numP (j / 10) ++ (digB (j % 10) :: L) = numP K from by rw [← HN.out, numP_step hlt, List.append_assoc]; rfl)
      have hcv := fun W => conv_digit W (j % 10) hr10
      have hct := fun W => cat_any [digB (j % 10)] L (by simp; omega) W
      obtain ⟨q, hq⟩ : ∃ q, j / 10 = q := ⟨_, rfl⟩
      obtain ⟨r, hr⟩ : ∃ r, j % 10 = r := ⟨_, rfl⟩
      have m1 : (j : Int).tdiv 10 = (q : Int) := by rw [Int.tdiv_eq_ediv_of_nonneg (by omega), ← hq]; omega
      have m2 : (j : Int).tmod 10 = (r : Int) := by rw [Int.tmod_eq_emod_of_nonneg (by omega), ← hr]; omega
      have hqj : q < j := by omega
      rw [hr] at hcv hct hr10 HS
      rw [hq] at HS
      have w1 : IntKind.i64.wrap (q : Int) = (q : Int) := IntWalk.i64_in _ (by omega)
      have w2 : IntKind.i64.wrap (r : Int) = (r : Int) := IntWalk.i64_in _ (by omega)
      have w3 : IntKind.i64.wrap (48 + (r : Int)) = 48 + (r : Int) := IntWalk.i64_in _ (by omega)
      have w8 : IntKind.u8.wrap (48 + (r : Int)) = 48 + (r : Int) := IntWalk.u8_in _ (by omega)
      have hj0 : (0 : Int) < (j : Int) := by omega
      clear hq hr
      go_wp2
      go_roundw
      case rel => exact ⟨q, digB r :: L, rfl, by simp, by omega, HS, hid (BB.out.alloc BB.out.size _)⟩
      case measure => simp [intOf]; omega
    · obtain rfl : j = 0 := by omega
      have HF := hid (show L = numP K from HN.out)
      have hct := fun W => cat_any [109] L (by simp; omega) W
      go_wp2
      go_ret
      exact ⟨by show _ = Ending.returned (encStr (109 :: numP K)); rw [← HF.out]; rfl, BB.out⟩

def markTs (k n : Nat) : List (List UInt8) := (List.range n).map fun (j : Nat) => markT (k + j)
theorem markTs_len (k n : Nat) : (markTs k n).length = n := by simp [markTs]
theorem markTs_at (k : Nat) {n j : Nat} (h : j < n) : (markTs k n).getD j [] = markT (k + j) := by simp [markTs, List.getD, h]
def markedT (l : List (List UInt8)) (k i : Nat) : List (List UInt8) := markTs k i ++ l.drop i
theorem markedT_zero (l : List (List UInt8)) (k : Nat) : markedT l k 0 = l := by simp [markedT, markTs]
theorem markedT_len {l : List (List UInt8)} {k i n : Nat} (h : l.length = n) (hi : i ≤ n) : (markedT l k i).length = n := by simp [markedT, markTs]; omega
theorem markedT_all {l : List (List UInt8)} {k n : Nat} (h : l.length = n) : markedT l k n = markTs k n := by simp [markedT, List.drop_of_length_le (Nat.le_of_eq h)]
theorem markedT_step {l : List (List UInt8)} {k i n : Nat} (h : l.length = n) (hi : i < n) : (markedT l k i).set i (markT (k + i)) = markedT l k (i + 1) := by
  unfold markedT markTs
  rw [List.set_append_right _ _ (by simp), List.range_succ, List.map_append, List.append_assoc]
  congr 1
  simp only [List.length_map, List.length_range, Nat.sub_self]
  rw [show l.drop i = l[i]'(by omega) :: l.drop (i + 1) from List.drop_eq_getElem_cons (by omega)]
  rfl

set_option maxRecDepth 100000 in
set_option maxHeartbeats 1600000 in
/-- laws.markStringS: writes the marks k, k+1 .. into a row of texts that the call owns. -/
theorem markStringS_any (A : Option Addr) (n c base : Nat) (l : List (List UInt8)) (k0 : Nat) (w : World) (ho : w.ownsRow base 9 1 (.slice A n c) n (strs l)) (hk0 : 1 ≤ k0) (hk1 : k0 + n ≤ 1000000000) (hb : base ≤ w.heap.size) :
    Calls Tryz.prog 37 #[.slice A n c, .int .i64 k0] w fun e w' => e = .returned (.int .i64 ((k0 + n : Nat) : Int)) ∧ w'.ownsRow base 9 1 (.slice A n c) n (strs (markTs k0 n)) ∧ w.grownBy w' (Value.slice A n c).ownBlock := by
  have HL := hid (show l.length = n from by have := ho.1; simpa [strs] using this)
  go_enter Tryz.func37, Tryz.ntmps37
  go_wp2
  go_loopw [1, 5] (fun x i wr => ∃ k : Nat, k ≤ n ∧ i = .int .i64 k ∧ x = .int .i64 ((k0 + k : Nat) : Int) ∧ wr.ownsRow base 9 1 (.slice A n c) n (strs (markedT l k0 k)) ∧ w.grownBy wr (Value.slice A n c).ownBlock) (fun _ i _ => n - (intOf i).toNat)
  case atStart => exact ⟨0, Nat.zero_le _, rfl, by simp, by rw [markedT_zero]; exact ho, World.grownBy.refl _ _⟩
  case round =>
    obtain ⟨k, hk, rfl, rfl, hown, hg⟩ := hrel
    by_cases hlt : k < n
    · have hown2 := hown
      rcases hown2.2 with ⟨h1, h2⟩ | ⟨g, cap, cur, hv, hbg, hgg, hnc, hcm, hsz, ht⟩
      · omega
      · injection hv with h1 h2 h3
        subst h1
        subst h3
        clear hown2 hgg ht hsz h2
        have CM := hid (markText_any (k0 + k) (by omega) (by omega) wr)
        have HS := hid (markedT_step (k := k0) HL.out hlt)
        have HML := hid (markedT_len (k := k0) HL.out hk)
        obtain ⟨K, hK⟩ : ∃ K, k0 + k = K := ⟨_, rfl⟩
        rw [hK] at CM HS ⊢
        have w1 : IntKind.i64.wrap ((K : Int) + 1) = (K : Int) + 1 := IntWalk.i64_in _ (by omega)
        have hki : (k : Int) < (n : Int) := by omega
        have p7 : (0 : Int) ≤ (k : Int) := by omega
        have HO := hid hown
        have HG := hid hg
        clear hown hg ho
        go_wp2_with fail
        with_reducible refine Calls.mono CM.out ?_
        rintro e w5 ⟨rfl, b5⟩
        have o5 := own_on HO.out b5
        have hcell := own_text o5 HML.out hlt
        have hfz := o5.frozenAt k
        obtain ⟨hst1, hst2⟩ := o5.stored k (encStr (markT K))
        rw [strs_set, HS.out] at hst1
        have HS1 := hid hst1
        have HG5 := hid ((HG.out.trans (row := (Value.slice (some ⟨g, 0, none⟩) n c).ownBlock) ⟨b5.os, b5.tape, b5.output, b5.size, fun i hi _ => b5.block i hi⟩).trans hst2)
        clear hst1 hst2 o5 b5 HO HG
        go_wp2
        go_roundw
        case rel => exact ⟨k + 1, by omega, by go_num, by congr 1; omega, HS1.out, HG5.out⟩
        case measure => simp [intOf]; omega
    · obtain rfl : k = n := by omega
      rw [markedT_all HL.out] at hown
      have HO := hid hown; clear hown ho
      have HG := hid hg; clear hg
      go_wp2
      go_ret
      exact ⟨rfl, HO.out, HG.out⟩

set_option maxRecDepth 100000 in
set_option maxHeartbeats 1600000 in
/-- laws.heldStringS: whether the marks are still there. -/
theorem heldStringS_any (A : Option Addr) (n c base : Nat) (k0 : Nat) (w : World) (ho : w.ownsRow base 9 1 (.slice A n c) n (strs (markTs k0 n))) (hk0 : 1 ≤ k0) (hk1 : k0 + n ≤ 1000000000) :
    Calls Tryz.prog 38 #[.slice A n c, .int .i64 k0] w fun e w' => e = .returned (.int .i64 ((k0 + n : Nat) : Int)) ∧ Below w.heap.size w w' := by
  have BB := hid (Below.refl w.heap.size w)
  have HO := hid ho
  go_enter Tryz.func38, Tryz.ntmps38
  go_wp2
  go_loopw [1, 5] (fun x i wr => ∃ k : Nat, k ≤ n ∧ i = .int .i64 k ∧ x = .int .i64 ((k0 + k : Nat) : Int) ∧ Hid (Below w.heap.size w wr)) (fun _ i _ => n - (intOf i).toNat)
  case atStart => exact ⟨0, Nat.zero_le _, rfl, by simp, BB⟩
  case round =>
    clear BB
    obtain ⟨k, hk, rfl, rfl, BB⟩ := hrel
    by_cases hlt : k < n
    · obtain ⟨g, cap, hv, _, _⟩ := own_shape1 ho (by omega)
      injection hv with h1 h2 h3
      subst h1
      clear h2 h3 ho
      have hcell := fun W (hW : Below w.heap.size w W) => own_text (own_on HO.out hW) (markTs_len _ _) hlt
      rw [markTs_at _ hlt] at hcell
      have CM := hid (fun W => markText_any (k0 + k) (by omega) (by omega) W)
      obtain ⟨K, hK⟩ : ∃ K, k0 + k = K := ⟨_, rfl⟩
      rw [hK] at CM hcell ⊢
      have HC := hid hcell
      obtain ⟨s, hs⟩ : ∃ s, markT K = s := ⟨_, rfl⟩
      rw [hs] at CM HC
      have hc0 := HC.out _ BB.out
      have hss : (s != s) = false := by simp
      have hsq : (s == s) = true := by simp
      have w1 : IntKind.i64.wrap ((K : Int) + 1) = (K : Int) + 1 := IntWalk.i64_in _ (by omega)
      have hki : (k : Int) < (n : Int) := by omega
      have p7 : (0 : Int) ≤ (k : Int) := by omega
      clear hs hcell
      go_wp2
      go_region_held3 (fun w' => w'.cell? ⟨g, k, none⟩ = some (encStr s))
        (first
          | go_keep
          | assumption)
        (first
          | (go_at_call 90; (with_reducible refine Calls.mono (CM.out _) ?_); rintro e w5 ⟨rfl, b5⟩; have hB5 : Below w.heap.size w w5 := BB.out.drew.trans (b5.mono (show w.heap.size ≤ wr.heap.size from BB.out.size)); have hc5 := HC.out _ hB5))
      all_goals
        have HB5 := hid hB5
        go_wp2
        go_roundw
        case rel => exact ⟨k + 1, by omega, by go_num, by congr 1; omega, HB5⟩
        case measure => simp [intOf]; omega
    · obtain rfl : k = n := by omega
      go_wp2
      go_ret
      exact ⟨rfl, BB.out⟩

end Go.Proofs.YtkejcajboneniabGreatDoor
namespace Go.Proofs.YtkejcajboneniabGreatDoor
open Go.RowKit

theorem bat_take {s : List UInt8} {m k : Nat} (h : k < m) : bat (s.take m) k = bat s k := by simp [bat, List.getD, List.getElem?_take, h]
theorem sub_take {s : List UInt8} {m k : Nat} (f : Nat) (h : k ≤ m) : sub (s.take m) f k = sub s f k := by
  unfold sub
  rw [List.take_take, Nat.min_eq_left h]
/-- What is read of the first k bytes does not depend on what stands behind. -/
theorem jgo_take {s : List UInt8} {m : Nat} : ∀ k, k ≤ m → jgo (s.take m) k = jgo s k
  | 0, _ => rfl
  | k + 1, h => by
    have ih := jgo_take (s := s) (m := m) k (by omega)
    rw [jgo, jgo, ih, bat_take (s := s) (m := m) (k := k) (by omega), sub_take (s := s) (m := m) (k := k) _ (by omega)]
theorem jgo_more (s : List UInt8) (k : Nat) : ∀ d, ∃ t, (jgo s (k + d)).1 = (jgo s k).1 ++ t
  | 0 => ⟨[], by simp⟩
  | d + 1 => by
    obtain ⟨t, ht⟩ := jgo_more s k d
    rw [← Nat.add_assoc, jgo]
    split
    · exact ⟨t, ht⟩
    split
    · split
      · exact ⟨t, ht⟩
      · rename_i a _
        exact ⟨t ++ [a], by show (jgo s (k + d)).1 ++ [a] = _; rw [ht, List.append_assoc]⟩
    · exact ⟨t, ht⟩
/-- Of a beginning of the text the first of the deeds are read. -/
theorem cut_reads {s : List UInt8} {k : Nat} (hk : k ≤ s.length) : (jOut (s.take k)).1.length ≤ (jOut s).1.length ∧ (jOut s).1.take (jOut (s.take k)).1.length = (jOut (s.take k)).1 ∧ (jOut (s.take k)).2 ≤ k := by
  have e : jOut (s.take k) = ((jgo s k).1, (jgo s k).2.1) := by
    unfold jOut
    rw [show (s.take k).length = k by rw [List.length_take]; omega, jgo_take k (Nat.le_refl _)]
  obtain ⟨t, ht⟩ := jgo_more s k (s.length - k)
  rw [show k + (s.length - k) = s.length by omega] at ht
  rw [e]
  show (jgo s k).1.length ≤ (jgo s s.length).1.length ∧ (jgo s s.length).1.take (jgo s k).1.length = (jgo s k).1 ∧ (jgo s k).2.1 ≤ k
  rw [ht]
  exact ⟨by simp, by simp, jgo_from s k⟩
/-- The deeds' texts are what has been read. -/
theorem jgo_text (s : List UInt8) : ∀ k, k ≤ s.length → linesB (jgo s k).1 = s.take (jgo s k).2.1 ∧ (jgo s k).1.all hasText = true
  | 0, _ => ⟨by simp [jgo, linesB], by simp [jgo]⟩
  | k + 1, h => by
    obtain ⟨h1, h2⟩ := jgo_text s k (by omega)
    have hf := jgo_from s k
    rw [jgo]
    split
    · exact ⟨h1, h2⟩
    split
    · rename_i hb
      split
      · exact ⟨h1, h2⟩
      · rename_i a hr
        obtain ⟨he, hne⟩ := read_text hr
        show linesB ((jgo s k).1 ++ [a]) = s.take (k + 1) ∧ ((jgo s k).1 ++ [a]).all hasText = true
        refine ⟨?_, ?_⟩
        · rw [linesB_append, h1]
          have e1 : linesB [a] = sub s (jgo s k).2.1 k ++ [10] := by simp [linesB, he]
          have e2 : s.take (k + 1) = s.take k ++ [10] := by
            rw [List.take_succ_eq_append_getElem (by omega), bat_lt (by omega), hb]
          rw [e1, e2, ← List.append_assoc]
          congr 1
          unfold sub
          have e3 : s.take (jgo s k).2.1 = (s.take k).take (jgo s k).2.1 := by rw [List.take_take, Nat.min_eq_left hf]
          rw [e3, List.take_append_drop]
        · rw [List.all_append, h2]
          simp only [List.all_cons, List.all_nil, Bool.and_true, Bool.true_and]
          unfold hasText
          rw [he]
          simpa using hne
    · exact ⟨h1, h2⟩
theorem journal_read (s : List UInt8) : journalOut (jOut s).1 = s.take (jOut s).2 ∧ (jOut s).2 ≤ s.length ∧ (jOut s).1.all hasText = true := by
  obtain ⟨h1, h2⟩ := jgo_text s s.length (Nat.le_refl _)
  refine ⟨?_, jgo_from s _, h2⟩
  unfold journalOut
  rw [if_pos (show (jOut s).1.all hasText = true from h2)]
  exact h1
theorem do_stays {D : Dk} (h : deskOk D = true) (a : Int × Int) (hd : (deskDo D a).2 = false) : (deskDo D a).1 = D := by
  unfold deskDo at hd ⊢
  rw [if_pos h] at hd ⊢
  by_cases hu : undoB D a.1 a.2 = true
  · rw [if_pos hu] at hd; cases hd
  · rw [if_neg hu] at hd ⊢
    by_cases hs : stayB D a.1 a.2 = true
    · rw [if_pos hs]
    · rw [if_neg hs] at hd; cases hd
/-- A line that is a deed's text does what the deed does. -/
theorem line_deed {D : Dk} (h : deskOk D = true) {a : Int × Int} (ha : hasText a = true) (m : Nat) : (lineOut D (deedP a)).1 = (runF (D, m) a).1 ∧ ((lineOut D (deedP a)).2 = wOk ∨ (lineOut D (deedP a)).2 = wNot) := by
  have hr : readOut (deedP a) = some a := read_deed a (by simpa [hasText] using ha)
  unfold lineOut
  rw [if_pos h, hr]
  show (deskDo D a).1 = _ ∧ (doneB (deskDo D a).2 = wOk ∨ doneB (deskDo D a).2 = wNot)
  unfold runF
  by_cases hd : (deskDo D a).2 = true
  · rw [if_pos hd]
    exact ⟨rfl, .inl (by unfold doneB; rw [if_pos hd])⟩
  · rw [if_neg hd]
    exact ⟨do_stays h a (by simpa using hd), .inr (by unfold doneB; rw [if_neg hd])⟩
end Go.Proofs.YtkejcajboneniabGreatDoor
