/-
  Texts put together: S12y Wm K12v. No statement is proved here.
-/
import Derived.Test.YtkejcajboneniabGreatDoorQMg
import Derived.Test.YtkejcajboneniabGreatDoorQMt
import Derived.Test.YtkejcajboneniabGreatDoorQMd
import Derived.Test.YtkejcajboneniabGreatDoorQMa
import Derived.Maps.OwnSet
import Derived.StringKeys
import Derived.Sort.EncStr
import Derived.Test.YtkejcajboneniabGreatDoorQMw
import Derived.Test.YtkejcajboneniabGreatDoorQMx
import Derived.Test.YtkejcajboneniabGreatDoorQMh
import Derived.Test.YtkejcajboneniabGreatDoorQMy
set_option linter.unusedVariables false
set_option linter.unusedSimpArgs false
namespace Go.Proofs.YtkejcajboneniabGreatDoor
open Go.RowKit

/-! numbers -/
theorem num_all : ∀ n : Nat, (numB n).all isDig = true ∧ valB (numB n) = n := by
  intro n
  induction n using Nat.strongRecOn with
  | _ n ih =>
    by_cases h : n < 10
    · rw [numB_lt h]
      have e := digit_nat h
      constructor
      · simp [isDig, e]; omega
      · simp [valB, stepD, e]
    · obtain ⟨h1, h2⟩ := ih (n / 10) (by omega)
      have e := digit_nat (show n % 10 < 10 by omega)
      rw [numB_ge h]
      constructor
      · rw [List.all_append, h1]; simp [isDig, e]; omega
      · rw [valB_snoc, h2, e]; omega
theorem num_short : ∀ (k n : Nat), n < 10 ^ (k + 1) → (numB n).length ≤ k + 1
  | 0, n, h => by rw [numB_lt (by simpa using h)]; simp
  | k + 1, n, h => by
    by_cases h10 : n < 10
    · rw [numB_lt h10]; simp
    · have ih := num_short k (n / 10) (by rw [Nat.pow_succ] at h; omega)
      rw [numB_ge h10, List.length_append]
      simp; omega
theorem num_lead : ∀ n : Nat, 10 ≤ n → (numB n).head? ≠ some 48 := by
  intro n
  induction n using Nat.strongRecOn with
  | _ n ih =>
    intro h
    rw [numB_ge (by omega)]
    by_cases h2 : n / 10 < 10
    · rw [numB_lt h2]
      intro e
      have e1 : digB (n / 10) = 48 := by simpa using e
      have e2 := digit_nat h2
      rw [e1] at e2
      have : (48 : UInt8).toNat = 48 := rfl
      omega
    · have hi := ih (n / 10) (by omega) (by omega)
      obtain ⟨c, r, e, _, _⟩ := num_head (n / 10)
      rw [e] at hi ⊢
      simpa using hi
theorem digits_of_num {q : Nat} (hq : q ≤ 999999) : digitsOut (numB q) = (q : Int) := by
  have hl := num_short 5 q (by omega)
  obtain ⟨c, r, e, _, _⟩ := num_head q
  have h1 : 1 ≤ (numB q).length := by rw [e]; simp
  have hd : (numB q).length = 1 ∨ (numB q).head? ≠ some 48 := by
    by_cases h10 : q < 10
    · left; rw [numB_lt h10]; rfl
    · right; exact num_lead q (by omega)
  unfold digitsOut
  rw [if_pos ⟨within_iff.2 (by omega), hd, (num_all q).1⟩, (num_all q).2]
theorem val_pos : ∀ (s : List UInt8), s ≠ [] → s.all isDig = true → s.head? ≠ some 48 → 1 ≤ valB s := by
  intro s hne hall hh
  cases s with
  | nil => exact absurd rfl hne
  | cons b l =>
    have hb : isDig b = true := by simp at hall; exact hall.1
    have hb48 : b ≠ 48 := by simpa using hh
    have hbn : 49 ≤ b.toNat := by
      simp only [isDig, decide_eq_true_eq] at hb
      have : b.toNat ≠ 48 := fun h => hb48 (UInt8.toNat_inj.1 h)
      omega
    have mono : ∀ (l : List UInt8) (n : Nat), 1 ≤ n → 1 ≤ l.foldl stepD n := by
      intro l
      induction l with
      | nil => intro n h; exact h
      | cons c l ih => intro n h; rw [List.foldl_cons]; exact ih _ (by unfold stepD; omega)
    show 1 ≤ (b :: l).foldl stepD 0
    rw [List.foldl_cons]
    exact mono l _ (by unfold stepD; omega)
theorem num_of_val : ∀ (k : Nat) (s : List UInt8), s.length = k → s ≠ [] → s.all isDig = true → (s.length = 1 ∨ s.head? ≠ some 48) → numB (valB s) = s := by
  intro k
  induction k with
  | zero => intro s h hne; exact absurd (List.eq_nil_of_length_eq_zero h) hne
  | succ k ih =>
    intro s hl hne hall hh
    obtain ⟨t, b, rfl⟩ : ∃ t b, s = t ++ [b] := by
      rcases List.eq_nil_or_concat s with h | ⟨t, b, h⟩
      · exact absurd h hne
      · exact ⟨t, b, by rw [h]; simp⟩
    rw [List.all_append, Bool.and_eq_true] at hall
    have hb : isDig b = true := by simpa using hall.2
    simp only [isDig, decide_eq_true_eq] at hb
    have hdig : digB (b.toNat - 48) = b := by
      apply UInt8.toNat_inj.1
      rw [digit_nat (by omega)]
      omega
    rw [valB_snoc]
    by_cases ht : t = []
    · subst ht
      rw [show valB [] = 0 from rfl, numB_lt (by omega), show 10 * 0 + (b.toNat - 48) = b.toNat - 48 by omega, hdig]
      rfl
    · have hlen : 1 ≤ t.length := List.length_pos_iff.2 ht
      have hht : t.head? ≠ some 48 := by
        rcases hh with h | h
        · simp at h; exact absurd h ht
        · cases t with
          | nil => exact absurd rfl ht
          | cons c r => simpa using h
      have hp := val_pos t ht hall.1 hht
      have hi := ih t (by simp at hl; omega) ht hall.1 (.inr hht)
      rw [numB_ge (by omega), show (10 * valB t + (b.toNat - 48)) / 10 = valB t by omega, show (10 * valB t + (b.toNat - 48)) % 10 = b.toNat - 48 by omega, hi, hdig]
/-- numberOf of up to six digits is l1Digits. -/
theorem num_digits (s : List UInt8) : numOut s 999999 = if digitsOut s < 0 then (0, false) else (digitsOut s, true) := by
  by_cases h : digitsOut s < 0
  · rw [if_pos h]
    apply numOut_no
    cases h2 : (numOut s 999999).2 with
    | false => rfl
    | true =>
      exfalso
      obtain ⟨v, hv⟩ : ∃ v, (numOut s 999999).1 = v := ⟨_, rfl⟩
      obtain ⟨q, e1, e2, e3⟩ := numOut_iff (s := s) (most := 999999) (v := v) (by rw [← hv, ← h2])
      have := digits_of_num e2
      rw [e3] at this
      omega
  · rw [if_neg h]
    have hc : within (s.length : Int) 1 6 = true ∧ (s.length = 1 ∨ s.head? ≠ some 48) ∧ s.all isDig = true := by
      unfold digitsOut at h
      split at h
      · assumption
      · omega
    have hv : digitsOut s = (valB s : Int) := by unfold digitsOut; rw [if_pos hc]
    have hw := within_iff.1 hc.1
    have hn := num_of_val s.length s rfl (by intro e; rw [e] at hw; simp at hw) hc.2.2 hc.2.1
    have hlt := valB_lt6 s hc.2.2 (by omega)
    have := numOut_yes (q := valB s) (most := 999999) (by omega) (by omega)
    rw [hn] at this
    rw [this, hv]

/-! lines -/
theorem cut_none {s : List UInt8} {p : UInt8} : ∀ k, (∀ j, j < k → bat s j ≠ p) → cutD s p k = [] ∧ cutF s p k = 0
  | 0, _ => ⟨rfl, rfl⟩
  | k + 1, h => by
    obtain ⟨h1, h2⟩ := cut_none k (fun j hj => h j (by omega))
    have hk := h k (by omega)
    unfold cutD cutF
    rw [if_neg hk, if_neg hk]
    exact ⟨h1, h2⟩
theorem cut_still {s : List UInt8} {p : UInt8} {k f : Nat} {L : List (List UInt8)} (h1 : cutD s p k = L) (h2 : cutF s p k = f) : ∀ d, (∀ j, j < d → bat s (k + j) ≠ p) → cutD s p (k + d) = L ∧ cutF s p (k + d) = f
  | 0, _ => ⟨h1, h2⟩
  | d + 1, h => by
    obtain ⟨e1, e2⟩ := cut_still h1 h2 d (fun j hj => h j (by omega))
    have hk := h d (by omega)
    rw [← Nat.add_assoc]
    unfold cutD cutF
    rw [if_neg hk, if_neg hk]
    exact ⟨e1, e2⟩
theorem cutD_mono (s : List UInt8) (p : UInt8) (k : Nat) : ∀ d, (cutD s p k).length ≤ (cutD s p (k + d)).length
  | 0 => Nat.le_refl _
  | d + 1 => by
    have ih := cutD_mono s p k d
    rw [← Nat.add_assoc]
    rw [show cutD s p (k + d + 1) = if bat s (k + d) = p then cutD s p (k + d) ++ [sub s (cutF s p (k + d)) (k + d)] else cutD s p (k + d) from rfl]
    split
    · rw [List.length_append]; omega
    · exact ih
/-- A line that is no deed, and no word alone, as the program cuts it. -/
theorem askW_cut (s : List UInt8) : askW s = if (cutW s 32).2.2 = true then askN (cutW s 32).1 (digitsOut (cutW s 32).2.1) else wWhat := by
  by_cases h0 : Lib.indexByte s 32 < 0
  · have hc : cutW s 32 = (s, [], false) := by unfold cutW; rw [if_neg (by omega)]
    obtain ⟨h1, h2⟩ := cut_none s.length (ib_no s 32 h0)
    rw [hc, if_neg (by simp)]
    unfold askW cutB
    rw [h1]
    rfl
  · obtain ⟨i, hi⟩ : ∃ i : Nat, Lib.indexByte s 32 = i := Int.eq_ofNat_of_zero_le (by omega)
    have hc : cutW s 32 = (s.take i, s.drop (i + 1), true) := by unfold cutW; rw [if_pos (by omega), hi]; rfl
    obtain ⟨hil, hib, hbefore⟩ := ib_yes s 32 i hi
    obtain ⟨h1, h2⟩ := cut_none i hbefore
    have e1 : cutD s 32 (i + 1) = [s.take i] := by
      rw [show cutD s 32 (i + 1) = if bat s i = 32 then cutD s 32 i ++ [sub s (cutF s 32 i) i] else cutD s 32 i from rfl, if_pos hib, h1, h2]
      rfl
    have e2 : cutF s 32 (i + 1) = i + 1 := by
      rw [show cutF s 32 (i + 1) = if bat s i = 32 then i + 1 else cutF s 32 i from rfl, if_pos hib]
    rw [hc]
    simp only [if_true]
    by_cases hsp : ∀ j, j < s.length - (i + 1) → bat s (i + 1 + j) ≠ 32
    · obtain ⟨g1, g2⟩ := cut_still e1 e2 (s.length - (i + 1)) hsp
      rw [show i + 1 + (s.length - (i + 1)) = s.length by omega] at g1 g2
      have hB : cutB s 32 = [s.take i, s.drop (i + 1)] := by
        unfold cutB
        rw [g1, g2]
        simp [sub]
      unfold askW
      rw [hB]
      rfl
    · have hex : ∃ j, j < s.length - (i + 1) ∧ bat s (i + 1 + j) = 32 := by
        apply Classical.byContradiction
        intro hn
        exact hsp (fun j hj he => hn ⟨j, hj, he⟩)
      obtain ⟨j, hj, hb⟩ := hex
      have hD : digitsOut (s.drop (i + 1)) = -1 := by
        unfold digitsOut
        rw [if_neg]
        rintro ⟨_, _, hall⟩
        rw [List.all_eq_true] at hall
        have hm := hall (bat (s.drop (i + 1)) j) (by
          have hjl : j < (s.drop (i + 1)).length := by rw [List.length_drop]; omega
          rw [← bat_lt hjl]; exact List.getElem_mem _)
        rw [bat_drop, hb] at hm
        exact absurd hm (by decide)
      have hl3 : (cutB s 32).length ≠ 2 := by
        unfold cutB
        rw [List.length_append]
        have m1 := cutD_mono s 32 (i + 1) j
        have m2 : (cutD s 32 (i + 1 + j + 1)).length = (cutD s 32 (i + 1 + j)).length + 1 := by
          rw [show cutD s 32 (i + 1 + j + 1) = if bat s (i + 1 + j) = 32 then cutD s 32 (i + 1 + j) ++ [sub s (cutF s 32 (i + 1 + j)) (i + 1 + j)] else cutD s 32 (i + 1 + j) from rfl, if_pos hb]
          simp
        have m3 := cutD_mono s 32 (i + 1 + j + 1) (s.length - (i + 1 + j + 1))
        rw [show i + 1 + j + 1 + (s.length - (i + 1 + j + 1)) = s.length by omega] at m3
        rw [e1] at m1
        simp at m1 ⊢
        omega
      unfold askW
      rw [if_neg hl3, hD]
      unfold askN
      rw [if_pos (by omega)]
/-- Lists of numbers, with commas. -/
theorem join_snoc (sep : List UInt8) (b : List UInt8) : ∀ a : List (List UInt8), a ≠ [] → Lib.join (a ++ [b]) sep = Lib.join a sep ++ sep ++ b
  | [], h => absurd rfl h
  | [x], _ => by simp [Lib.join, List.intercalate]
  | x :: y :: r, _ => by
    have ih := join_snoc sep b (y :: r) (by simp)
    have e : ∀ z : List (List UInt8), z ≠ [] → Lib.join (x :: z) sep = x ++ (sep ++ Lib.join z sep) := by
      intro z hz
      cases z with
      | nil => exact absurd rfl hz
      | cons u v => simp [Lib.join, List.intercalate]
    rw [List.cons_append, e _ (by simp), ih, e _ (by simp)]
    simp
theorem list_join (l : List Int) : ∀ k, k ≤ l.length → listB l k = joinB (l.take k) [44]
  | 0, _ => rfl
  | k + 1, hk => by
    have ih := list_join l k (by omega)
    unfold listB
    have ht : l.take (k + 1) = l.take k ++ [nth l k] := by
      rw [List.take_succ_eq_append_getElem (by omega)]
      simp [nth, List.getD, List.getElem?_eq_getElem (show k < l.length by omega)]
    rw [ht, ih]
    unfold joinB numT
    rw [List.map_append, List.map_cons, List.map_nil]
    by_cases h0 : k = 0
    · subst h0
      rw [if_pos rfl]
      simp [Lib.join, List.intercalate]
    · rw [if_neg h0, join_snoc [44] _ _ (by
        intro e
        have h1 := congrArg List.length e
        rw [List.length_map, List.length_take, List.length_nil] at h1
        omega)]
theorem rows_join (l : List Int) : rowsOut l = if l.length = 0 then wNone else joinB l [44] := by
  unfold rowsOut
  split
  · rfl
  · rw [list_join l l.length (Nat.le_refl _), List.take_length]
theorem firm_some {row : List Int} (h : bitsOk row = true) : (firmOut row).length ≠ 0 := by
  obtain ⟨hb, h1, h2⟩ := bitsOk_iff.1 h
  have hv : votesOk row = true := votesOk_iff.2 ⟨⟨h1, by omega⟩, hb⟩
  unfold firmOut firmTo
  rw [if_pos hv, List.length_map]
  intro he
  have hz := List.eq_nil_of_length_eq_zero he
  have : (0 : Nat) ∈ (List.range row.length).filter (firmAt row) := by
    rw [List.mem_filter]
    exact ⟨by simp; omega, by unfold firmAt; simp⟩
  rw [hz] at this
  cases this
end Go.Proofs.YtkejcajboneniabGreatDoor
namespace Go.Proofs.YtkejcajboneniabGreatDoor
open Go.RowKit Go.Maps

/-- How an element that is a function (nothing captured) reads: by its number. -/
def funElem : Value → Option (DataW Unit × List MemPlace)
  | .func (.func n) fr bd => if fr.size = 0 ∧ bd.size = 0 then some (.lit (.int .i64 n), []) else none
  | .nilFunc => some (.nil, [])
  | _ => none
theorem funElem_mk (n : Nat) : funElem (.func (.func n) #[] #[]) = some (.lit (.int .i64 n), []) := by simp [funElem]
theorem funElem_nil : funElem .nilFunc = some (.nil, []) := rfl
theorem funElem_inv {v : Value} {n : Int} {ps : List MemPlace} (h : funElem v = some (.lit (.int .i64 n), ps)) : ∃ k : Nat, n = k ∧ v = .func (.func k) #[] #[] := by
  unfold funElem at h
  split at h
  · split at h
    · rename_i k fr bd hs
      injection h with h
      injection h with h1 h2
      injection h1 with h1
      injection h1 with h0 h1
      exact ⟨k, h1.symm, by rw [Array.eq_empty_of_size_eq_zero hs.1, Array.eq_empty_of_size_eq_zero hs.2]⟩
    · cases h
  · cases h
  · cases h
/-- The words and what they lead to, the last one laid first. -/
def wordsD : List (List UInt8 × Int) → DataW Unit
  | [] => .map []
  | p :: t => (wordsD t).put (.string p.1) (.lit (.int .i64 p.2))
def wordAt : List (List UInt8 × Int) → List UInt8 → Option Int
  | [], _ => none
  | p :: t, s => if s = p.1 then some p.2 else wordAt t s
theorem wordsD_is : ∀ t, IsMap (wordsD t)
  | [] => isMap_empty
  | p :: t => (wordsD_is t).put _ _
theorem str_lit_ne {a b : List UInt8} (h : a ≠ b) : Lit.string a ≠ Lit.string b := fun e => h (by injection e)
theorem words_has (s : List UInt8) : ∀ t, Maps.has (wordsD t) (.string s) = (wordAt t s).isSome
  | [] => rfl
  | p :: t => by
    rw [wordsD, wordAt]
    by_cases h : s = p.1
    · rw [if_pos h, h, has_put_same (wordsD_is t) (show WideAt.IsKeyLit (.string p.1) from trivial)]; rfl
    · rw [if_neg h, has_put_other (str_lit_ne h), words_has s t]
theorem words_at (s : List UInt8) (z : DataW Unit) : ∀ t, (wordsD t).atKey (.string s) z = match wordAt t s with | some n => .lit (.int .i64 n) | none => z
  | [] => rfl
  | p :: t => by
    rw [wordsD, wordAt]
    by_cases h : s = p.1
    · rw [if_pos h, h, atKey_put_same (wordsD_is t) (show WideAt.IsKeyLit (.string p.1) from trivial)]
    · rw [if_neg h, atKey_put_other (str_lit_ne h), words_at s z t]
end Go.Proofs.YtkejcajboneniabGreatDoor
namespace Go.Proofs.YtkejcajboneniabGreatDoor
open Go.RowKit Go.Maps

set_option maxRecDepth 100000 in
set_option maxHeartbeats 1600000 in
theorem mOnes_any (A : Option Addr) (n c : Nat) (A2 : Option Addr) (m c2 : Nat) (D : Dk) (w : World) (hs : Sl w w.heap.size A n D.now) (hok : bitsOk D.now = true) (hT : TabsP w) :
    Calls Tryz.prog 141 #[dsk A n c A2 m c2] w fun e w' => e = .returned (encStr (numB (onesOut D.now).toNat)) ∧ Below w.heap.size w w' := by
  have B0 := (Below.refl w.heap.size w).alloc (Nat.le_refl _) (.cells #[.slice A n c, .slice A2 m c2] 31)
  have X0 := Db.new w (.slice A n c) (.slice A2 m c2)
  obtain ⟨w0, e0⟩ : ∃ W, w.alloc (.cells #[.slice A n c, .slice A2 m c2] 31) = W := ⟨_, rfl⟩
  rw [e0] at B0 X0
  have c0 := X0.c0
  have HS := hid (hs.on B0)
  have HB0 := hid B0
  have hsm := (asks_small hok).1
  obtain ⟨q, hq⟩ : ∃ q : Nat, onesOut D.now = q := Int.eq_ofNat_of_zero_le hsm.1
  have CF := hid (implOnesOf_any A n c D.now w0 HS.out)
  have HQ := hid (show (onesOut D.now).toNat = q from by rw [hq, Int.toNat_natCast])
  rw [hq] at CF hsm
  have CI := hid (fun (W : World) (hW : Below w.heap.size w W) => itoa_any q W (by omega) (hT.below hW).p)
  clear hs B0 X0 hq
  go_enter Tryz.func141, Tryz.ntmps141
  go_wp2_with fail
  with_reducible refine Calls.mono CF.out ?_
  rintro e w1 ⟨rfl, b1⟩
  have HB1 := hid (below_tr HB0.out b1)
  clear b1
  go_wp2_with fail
  with_reducible refine Calls.mono (CI.out _ HB1.out) ?_
  rintro e w2 ⟨rfl, b2⟩
  have HB2 := hid (below_tr HB1.out b2)
  clear b2
  go_wp2
  go_ret
  exact ⟨by rw [HQ.out]; rfl, HB2.out⟩

set_option maxRecDepth 100000 in
set_option maxHeartbeats 1600000 in
theorem mFlow_any (A : Option Addr) (n c : Nat) (A2 : Option Addr) (m c2 : Nat) (D : Dk) (w : World) (hs : Sl w w.heap.size A n D.now) (hok : bitsOk D.now = true) (hT : TabsP w) :
    Calls Tryz.prog 142 #[dsk A n c A2 m c2] w fun e w' => e = .returned (encStr (numB (flowOut D.now).toNat)) ∧ Below w.heap.size w w' := by
  have B0 := (Below.refl w.heap.size w).alloc (Nat.le_refl _) (.cells #[.slice A n c, .slice A2 m c2] 31)
  have X0 := Db.new w (.slice A n c) (.slice A2 m c2)
  obtain ⟨w0, e0⟩ : ∃ W, w.alloc (.cells #[.slice A n c, .slice A2 m c2] 31) = W := ⟨_, rfl⟩
  rw [e0] at B0 X0
  have c0 := X0.c0
  have HS := hid (hs.on B0)
  have HB0 := hid B0
  have hsm := (asks_small hok).2.1
  obtain ⟨q, hq⟩ : ∃ q : Nat, flowOut D.now = q := Int.eq_ofNat_of_zero_le hsm.1
  have CF := hid (implFlowOf_any A n c D.now w0 HS.out)
  have HQ := hid (show (flowOut D.now).toNat = q from by rw [hq, Int.toNat_natCast])
  rw [hq] at CF hsm
  have CI := hid (fun (W : World) (hW : Below w.heap.size w W) => itoa_any q W (by omega) (hT.below hW).p)
  clear hs B0 X0 hq
  go_enter Tryz.func142, Tryz.ntmps142
  go_wp2_with fail
  with_reducible refine Calls.mono CF.out ?_
  rintro e w1 ⟨rfl, b1⟩
  have HB1 := hid (below_tr HB0.out b1)
  clear b1
  go_wp2_with fail
  with_reducible refine Calls.mono (CI.out _ HB1.out) ?_
  rintro e w2 ⟨rfl, b2⟩
  have HB2 := hid (below_tr HB1.out b2)
  clear b2
  go_wp2
  go_ret
  exact ⟨by rw [HQ.out]; rfl, HB2.out⟩

set_option maxRecDepth 100000 in
set_option maxHeartbeats 1600000 in
theorem mEnd_any (A : Option Addr) (n c : Nat) (A2 : Option Addr) (m c2 : Nat) (D : Dk) (w : World) (hs : Sl w w.heap.size A n D.now) (hok : bitsOk D.now = true) (hT : TabsP w) :
    Calls Tryz.prog 143 #[dsk A n c A2 m c2] w fun e w' => e = .returned (encStr (numB (endOut D.now).toNat)) ∧ Below w.heap.size w w' := by
  have B0 := (Below.refl w.heap.size w).alloc (Nat.le_refl _) (.cells #[.slice A n c, .slice A2 m c2] 31)
  have X0 := Db.new w (.slice A n c) (.slice A2 m c2)
  obtain ⟨w0, e0⟩ : ∃ W, w.alloc (.cells #[.slice A n c, .slice A2 m c2] 31) = W := ⟨_, rfl⟩
  rw [e0] at B0 X0
  have c0 := X0.c0
  have HS := hid (hs.on B0)
  have HB0 := hid B0
  have hsm := (asks_small hok).2.2.1
  obtain ⟨q, hq⟩ : ∃ q : Nat, endOut D.now = q := Int.eq_ofNat_of_zero_le hsm.1
  have CF := hid (implEndFlow_any A n c D.now w0 HS.out)
  have HQ := hid (show (endOut D.now).toNat = q from by rw [hq, Int.toNat_natCast])
  rw [hq] at CF hsm
  have CI := hid (fun (W : World) (hW : Below w.heap.size w W) => itoa_any q W (by omega) (hT.below hW).p)
  clear hs B0 X0 hq
  go_enter Tryz.func143, Tryz.ntmps143
  go_wp2_with fail
  with_reducible refine Calls.mono CF.out ?_
  rintro e w1 ⟨rfl, b1⟩
  have HB1 := hid (below_tr HB0.out b1)
  clear b1
  go_wp2_with fail
  with_reducible refine Calls.mono (CI.out _ HB1.out) ?_
  rintro e w2 ⟨rfl, b2⟩
  have HB2 := hid (below_tr HB1.out b2)
  clear b2
  go_wp2
  go_ret
  exact ⟨by rw [HQ.out]; rfl, HB2.out⟩

set_option maxRecDepth 100000 in
set_option maxHeartbeats 1600000 in
theorem mFlowing_any (A : Option Addr) (n c : Nat) (A2 : Option Addr) (m c2 : Nat) (D : Dk) (w : World) (hs : Sl w w.heap.size A n D.now) (hok : bitsOk D.now = true) (hT : TabsP w) :
    Calls Tryz.prog 144 #[dsk A n c A2 m c2] w fun e w' => e = .returned (encStr (numB (flowingOut D.now).toNat)) ∧ Below w.heap.size w w' := by
  have B0 := (Below.refl w.heap.size w).alloc (Nat.le_refl _) (.cells #[.slice A n c, .slice A2 m c2] 31)
  have X0 := Db.new w (.slice A n c) (.slice A2 m c2)
  obtain ⟨w0, e0⟩ : ∃ W, w.alloc (.cells #[.slice A n c, .slice A2 m c2] 31) = W := ⟨_, rfl⟩
  rw [e0] at B0 X0
  have c0 := X0.c0
  have HS := hid (hs.on B0)
  have HB0 := hid B0
  have hsm := (asks_small hok).2.2.2.1
  obtain ⟨q, hq⟩ : ∃ q : Nat, flowingOut D.now = q := Int.eq_ofNat_of_zero_le hsm.1
  have CF := hid (implFlowingAfter_any A n c D.now w0 HS.out)
  have HQ := hid (show (flowingOut D.now).toNat = q from by rw [hq, Int.toNat_natCast])
  rw [hq] at CF hsm
  have CI := hid (fun (W : World) (hW : Below w.heap.size w W) => itoa_any q W (by omega) (hT.below hW).p)
  clear hs B0 X0 hq
  go_enter Tryz.func144, Tryz.ntmps144
  go_wp2_with fail
  with_reducible refine Calls.mono CF.out ?_
  rintro e w1 ⟨rfl, b1⟩
  have HB1 := hid (below_tr HB0.out b1)
  clear b1
  go_wp2_with fail
  with_reducible refine Calls.mono (CI.out _ HB1.out) ?_
  rintro e w2 ⟨rfl, b2⟩
  have HB2 := hid (below_tr HB1.out b2)
  clear b2
  go_wp2
  go_ret
  exact ⟨by rw [HQ.out]; rfl, HB2.out⟩

set_option maxRecDepth 100000 in
set_option maxHeartbeats 1600000 in
theorem mSettled_any (A : Option Addr) (n c : Nat) (A2 : Option Addr) (m c2 : Nat) (D : Dk) (w : World) (hs : Sl w w.heap.size A n D.now) (hok : bitsOk D.now = true) (hT : TabsP w) :
    Calls Tryz.prog 145 #[dsk A n c A2 m c2] w fun e w' => e = .returned (encStr (numB (settleC D.now).toNat)) ∧ Below w.heap.size w w' := by
  have B0 := (Below.refl w.heap.size w).alloc (Nat.le_refl _) (.cells #[.slice A n c, .slice A2 m c2] 31)
  have X0 := Db.new w (.slice A n c) (.slice A2 m c2)
  obtain ⟨w0, e0⟩ : ∃ W, w.alloc (.cells #[.slice A n c, .slice A2 m c2] 31) = W := ⟨_, rfl⟩
  rw [e0] at B0 X0
  have c0 := X0.c0
  have HS := hid (hs.on B0)
  have HB0 := hid B0
  have hsm := (asks_small hok).2.2.2.2.1
  obtain ⟨q, hq⟩ : ∃ q : Nat, settleC D.now = q := Int.eq_ofNat_of_zero_le hsm.1
  have CF := hid (implSettledAfter_any A n c D.now w0 HS.out)
  have HQ := hid (show (settleC D.now).toNat = q from by rw [hq, Int.toNat_natCast])
  rw [hq] at CF hsm
  have CI := hid (fun (W : World) (hW : Below w.heap.size w W) => itoa_any q W (by omega) (hT.below hW).p)
  clear hs B0 X0 hq
  go_enter Tryz.func145, Tryz.ntmps145
  go_wp2_with fail
  with_reducible refine Calls.mono CF.out ?_
  rintro e w1 ⟨rfl, b1⟩
  have HB1 := hid (below_tr HB0.out b1)
  clear b1
  go_wp2_with fail
  with_reducible refine Calls.mono (CI.out _ HB1.out) ?_
  rintro e w2 ⟨rfl, b2⟩
  have HB2 := hid (below_tr HB1.out b2)
  clear b2
  go_wp2
  go_ret
  exact ⟨by rw [HQ.out]; rfl, HB2.out⟩

set_option maxHeartbeats 1600000 in
theorem mRow_any (A : Option Addr) (n c : Nat) (A2 : Option Addr) (m c2 : Nat) (D : Dk) (w : World) (hs : Sl w w.heap.size A n D.now) (hT : TabsP w) :
    Calls Tryz.prog 140 #[dsk A n c A2 m c2] w fun e w' => e = .returned (encStr (rowTextOut D.now)) ∧ Below w.heap.size w w' := by
  have B0 := (Below.refl w.heap.size w).alloc (Nat.le_refl _) (.cells #[.slice A n c, .slice A2 m c2] 31)
  have X0 := Db.new w (.slice A n c) (.slice A2 m c2)
  obtain ⟨w0, e0⟩ : ∃ W, w.alloc (.cells #[.slice A n c, .slice A2 m c2] 31) = W := ⟨_, rfl⟩
  rw [e0] at B0 X0
  have c0 := X0.c0
  have HB0 := hid B0
  have CF := hid (implRowText_any A n c D.now w0 (hs.on B0) (hT.below B0))
  clear hs B0 X0
  go_enter Tryz.func140, Tryz.ntmps140
  go_wp2_with fail
  with_reducible refine Calls.mono CF.out ?_
  rintro e w1 ⟨rfl, b1⟩
  have HB1 := hid (below_tr HB0.out b1)
  clear b1
  go_wp2
  go_ret
  exact ⟨rfl, HB1.out⟩

set_option maxHeartbeats 1600000 in
theorem mFirm_any (A : Option Addr) (n c : Nat) (A2 : Option Addr) (m c2 : Nat) (D : Dk) (w : World) (hs : Sl w w.heap.size A n D.now) (hok : bitsOk D.now = true) (hT : TabsL w) :
    Calls Tryz.prog 146 #[dsk A n c A2 m c2] w fun e w' => e = .returned (encStr (rowsOut (firmOut D.now))) ∧ Below w.heap.size w w' := by
  have B0 := (Below.refl w.heap.size w).alloc (Nat.le_refl _) (.cells #[.slice A n c, .slice A2 m c2] 31)
  have X0 := Db.new w (.slice A n c) (.slice A2 m c2)
  obtain ⟨w0, e0⟩ : ∃ W, w.alloc (.cells #[.slice A n c, .slice A2 m c2] 31) = W := ⟨_, rfl⟩
  rw [e0] at B0 X0
  have c0 := X0.c0
  have HB0 := hid B0
  have CF := hid (implFirmOf_any A n c D.now w0 (hs.on B0) (hT.below B0).z)
  have HV := hid (show rowsOut (firmOut D.now) = joinB (firmOut D.now) [44] from by rw [rows_join, if_neg (firm_some hok)])
  have HS := hid (firm_small D.now)
  have HTT := hid (fun (W : World) (hW : Below w.heap.size w W) => hT.below hW)
  clear hs B0 X0
  go_enter Tryz.func146, Tryz.ntmps146
  go_wp2_with fail
  with_reducible refine Calls.mono CF.out ?_
  rintro e w1 ⟨A5, m5, c5, rfl, o5, hm5, b1⟩
  have HB1 := hid (below_tr HB0.out b1)
  have CJ := hid (joined_any A5 m5 c5 (firmOut D.now) [44] w1 (Sl.of_own o5) (fun x hx => by have := HS.out x hx; omega) (by omega) (by simp) (HTT.out _ HB1.out).P)
  clear b1 o5
  go_wp2_with fail
  with_reducible refine Calls.mono CJ.out ?_
  rintro e w2 ⟨rfl, b2⟩
  have HB2 := hid (below_tr HB1.out b2)
  clear b2
  go_wp2
  go_ret
  exact ⟨by rw [HV.out]; rfl, HB2.out⟩

theorem fireOut_leP (n : Int) : fireOut n ≤ 1000 := by
  unfold fireOut
  split
  · have := (fires_take_bd (n := n) (roundsOut n).length).2
    rw [List.take_length] at this
    omega
  · omega
/-- What is told of a fire, as a list. -/
def fireL (n : Int) : List Int := if 0 ≤ fireOut n then [fireOut n] else []
set_option maxHeartbeats 1600000 in
theorem firesOf_any (n : Int) (w : World) (hw : (Lit.int .i64 n).wf = true) (hT : TabsL w) :
    Calls Tryz.prog 149 #[.int .i64 n] w fun e w' => ∃ A2 m c2, e = .returned (.slice A2 m c2) ∧ w'.ownsRow w.heap.size 3 1 (.slice A2 m c2) m (ints (fireL n)) ∧ m ≤ 6 ∧ Below w.heap.size w w' := by
  have CF := hid (implFireAt_any n w hw hT.t)
  by_cases h0 : 0 ≤ fireOut n
  · have HV := hid (show fireL n = [fireOut n] from by unfold fireL; rw [if_pos h0])
    obtain ⟨v, hv⟩ : ∃ v, fireOut n = v := ⟨_, rfl⟩
    rw [hv] at CF HV h0
    have hneg : ¬ (v < 0) := by omega
    clear hv
    go_enter Tryz.func149, Tryz.ntmps149
    go_wp2_with fail
    with_reducible refine Calls.mono CF.out ?_
    rintro e w1 ⟨rfl, b1⟩
    have HO := hid (World.ownsRow_lit (base := w.heap.size) (e := 3) (size := 1) w1 #[.int .i64 v] 1 b1.size (by simp [maxLen]) rfl)
    have HB := hid (b1.alloc b1.size (.cells #[.int .i64 v] 3))
    clear b1
    go_wp2
    go_ret
    exact ⟨_, 1, 1, rfl, by rw [HV.out]; exact HO.out, by omega, HB.out⟩
  · have HV := hid (show fireL n = [] from by unfold fireL; rw [if_neg h0])
    obtain ⟨v, hv⟩ : ∃ v, fireOut n = v := ⟨_, rfl⟩
    rw [hv] at CF h0
    have hneg : v < 0 := by omega
    clear hv
    go_enter Tryz.func149, Tryz.ntmps149
    go_wp2_with fail
    with_reducible refine Calls.mono CF.out ?_
    rintro e w1 ⟨rfl, b1⟩
    go_wp2
    go_ret
    exact ⟨_, 0, 0, rfl, by rw [HV.out]; exact World.ownsRow_nil _ _ _ _, by omega, b1⟩

theorem keyedS : Keyed Tryz.prog 9 := string_keyed Tryz.underlying9
theorem keyS {s : List UInt8} (h : s.length ≤ maxLen) : keyOf Tryz.prog 9 (encStr s) = some (.string s) := by
  have := WideMaps.keyOf_string_mk (P := Tryz.prog) (k := 9) Tryz.underlying9 (s := ⟨s.toArray⟩) (by simpa [ByteArray.size] using h)
  simpa using this
/-- The words that ringQuestions knows, the last one first. -/
def askRingL : List (List UInt8 × Int) := [([102, 105, 114, 109], 146), ([115, 101, 116, 116, 108, 101, 100], 145), ([102, 108, 111, 119, 105, 110, 103], 144), ([101, 110, 100], 143), ([102, 108, 111, 119], 142), ([111, 110, 101, 115], 141), ([114, 111, 119], 140)]
set_option maxRecDepth 100000 in
set_option maxHeartbeats 1600000 in
theorem ringQuestions_any (w : World) :
    Calls Tryz.prog 116 #[] w fun e w' => e = .returned (.map (some w.heap.size)) ∧ w'.ownsMap Tryz.prog 9 funElem w.heap.size 7 (wordsD askRingL) ∧ Below w.heap.size w w' := by
  have M0 := World.ownsMap_made (H := Unit) w Tryz.prog 9 funElem
  have hmm := @run_makeMap Tryz.prog
  obtain ⟨w1, r1, M1, g1⟩ := M0.update keyedS Tryz.underlying126 (by decide) (keyS (s := [114, 111, 119]) (by decide)) (funElem_mk 140)
  have HM0 := hid M0
  clear M0
  obtain ⟨w2, r2, M2, g2⟩ := M1.update keyedS Tryz.underlying126 (by decide) (keyS (s := [111, 110, 101, 115]) (by decide)) (funElem_mk 141)
  have HM1 := hid M1
  clear M1
  obtain ⟨w3, r3, M3, g3⟩ := M2.update keyedS Tryz.underlying126 (by decide) (keyS (s := [102, 108, 111, 119]) (by decide)) (funElem_mk 142)
  have HM2 := hid M2
  clear M2
  obtain ⟨w4, r4, M4, g4⟩ := M3.update keyedS Tryz.underlying126 (by decide) (keyS (s := [101, 110, 100]) (by decide)) (funElem_mk 143)
  have HM3 := hid M3
  clear M3
  obtain ⟨w5, r5, M5, g5⟩ := M4.update keyedS Tryz.underlying126 (by decide) (keyS (s := [102, 108, 111, 119, 105, 110, 103]) (by decide)) (funElem_mk 144)
  have HM4 := hid M4
  clear M4
  obtain ⟨w6, r6, M6, g6⟩ := M5.update keyedS Tryz.underlying126 (by decide) (keyS (s := [115, 101, 116, 116, 108, 101, 100]) (by decide)) (funElem_mk 145)
  have HM5 := hid M5
  clear M5
  obtain ⟨w7, r7, M7, g7⟩ := M6.update keyedS Tryz.underlying126 (by decide) (keyS (s := [102, 105, 114, 109]) (by decide)) (funElem_mk 146)
  have HM6 := hid M6
  clear M6
  have HM7 := hid M7
  have hb0 : Below w.heap.size w (w.alloc (.map #[] 0)) := (Below.refl _ _).alloc (Nat.le_refl _) _
  have hb1 := hid (Below.grown hb0 g1 hb0.size (by intro k hk; cases hk; exact Nat.le_refl _))
  clear g1
  clear hb0
  have hb2 := hid (Below.grown hb1.out g2 hb1.out.size (by intro k hk; cases hk; exact Nat.le_refl _))
  clear g2
  have hb3 := hid (Below.grown hb2.out g3 hb2.out.size (by intro k hk; cases hk; exact Nat.le_refl _))
  clear g3
  have hb4 := hid (Below.grown hb3.out g4 hb3.out.size (by intro k hk; cases hk; exact Nat.le_refl _))
  clear g4
  have hb5 := hid (Below.grown hb4.out g5 hb4.out.size (by intro k hk; cases hk; exact Nat.le_refl _))
  clear g5
  have hb6 := hid (Below.grown hb5.out g6 hb5.out.size (by intro k hk; cases hk; exact Nat.le_refl _))
  clear g6
  have hb7 := hid (Below.grown hb6.out g7 hb6.out.size (by intro k hk; cases hk; exact Nat.le_refl _))
  clear g7
  clear M7
  go_enter Tryz.func116, Tryz.ntmps116
  go_wp2
  go_ret
  exact ⟨rfl, HM7.out, hb7.out⟩
/-- The words that numberQuestions knows, the last one first. -/
def askNumL : List (List UInt8 × Int) := [([102, 105, 114, 101], 149), ([114, 111, 117, 110, 100, 115], 148), ([109, 105, 100, 100, 108, 101, 115], 147)]
set_option maxRecDepth 100000 in
set_option maxHeartbeats 1600000 in
theorem numberQuestions_any (w : World) :
    Calls Tryz.prog 117 #[] w fun e w' => e = .returned (.map (some w.heap.size)) ∧ w'.ownsMap Tryz.prog 9 funElem w.heap.size 3 (wordsD askNumL) ∧ Below w.heap.size w w' := by
  have M0 := World.ownsMap_made (H := Unit) w Tryz.prog 9 funElem
  have hmm := @run_makeMap Tryz.prog
  obtain ⟨w1, r1, M1, g1⟩ := M0.update keyedS Tryz.underlying129 (by decide) (keyS (s := [109, 105, 100, 100, 108, 101, 115]) (by decide)) (funElem_mk 147)
  have HM0 := hid M0
  clear M0
  obtain ⟨w2, r2, M2, g2⟩ := M1.update keyedS Tryz.underlying129 (by decide) (keyS (s := [114, 111, 117, 110, 100, 115]) (by decide)) (funElem_mk 148)
  have HM1 := hid M1
  clear M1
  obtain ⟨w3, r3, M3, g3⟩ := M2.update keyedS Tryz.underlying129 (by decide) (keyS (s := [102, 105, 114, 101]) (by decide)) (funElem_mk 149)
  have HM2 := hid M2
  clear M2
  have HM3 := hid M3
  have hb0 : Below w.heap.size w (w.alloc (.map #[] 0)) := (Below.refl _ _).alloc (Nat.le_refl _) _
  have hb1 := hid (Below.grown hb0 g1 hb0.size (by intro k hk; cases hk; exact Nat.le_refl _))
  clear g1
  clear hb0
  have hb2 := hid (Below.grown hb1.out g2 hb1.out.size (by intro k hk; cases hk; exact Nat.le_refl _))
  clear g2
  have hb3 := hid (Below.grown hb2.out g3 hb2.out.size (by intro k hk; cases hk; exact Nat.le_refl _))
  clear g3
  clear M3
  go_enter Tryz.func117, Tryz.ntmps117
  go_wp2
  go_ret
  exact ⟨rfl, HM3.out, hb3.out⟩
theorem ringLook (W : World) (b : Nat) (M : W.ownsMap Tryz.prog 9 funElem b 7 (wordsD askRingL)) (s : List UInt8) (hs : s.length ≤ 10000000) :
    ∃ v, (Instr.lookup 126 (.map (some b)) (encStr s) true).run Tryz.prog W = .ok (.tuple #[v, .bool (wordAt askRingL s).isSome]) W ∧ ∀ n, wordAt askRingL s = some n → ∃ k : Nat, n = k ∧ v = .func (.func k) #[] #[] := by
  obtain ⟨v, ps, hr, hv⟩ := M.look_ok keyedS Tryz.underlying126 (z := .nilFunc) (Tryz.zeroValue124 W) funElem_nil (keyS (s := s) (by simp only [maxLen]; omega))
  rw [words_has] at hr
  rw [words_at] at hv
  refine ⟨v, hr, fun n hn => ?_⟩
  rw [hn] at hv
  exact funElem_inv hv
theorem numLook (W : World) (b : Nat) (M : W.ownsMap Tryz.prog 9 funElem b 3 (wordsD askNumL)) (s : List UInt8) (hs : s.length ≤ 10000000) :
    ∃ v, (Instr.lookup 129 (.map (some b)) (encStr s) true).run Tryz.prog W = .ok (.tuple #[v, .bool (wordAt askNumL s).isSome]) W ∧ ∀ n, wordAt askNumL s = some n → ∃ k : Nat, n = k ∧ v = .func (.func k) #[] #[] := by
  obtain ⟨v, ps, hr, hv⟩ := M.look_ok keyedS Tryz.underlying129 (z := .nilFunc) (Tryz.zeroValue99 W) funElem_nil (keyS (s := s) (by simp only [maxLen]; omega))
  rw [words_has] at hr
  rw [words_at] at hv
  refine ⟨v, hr, fun n hn => ?_⟩
  rw [hn] at hv
  exact funElem_inv hv
end Go.Proofs.YtkejcajboneniabGreatDoor
