/-
  Texts put together: S11b S12 C11. No statement is proved here.
-/
import Derived.Test.YtkejcajboneniabGreatDoorQS11
import Derived.Test.YtkejcajboneniabGreatDoorQMb
import Derived.Lib.MinMax
set_option linter.unusedVariables false
set_option linter.unusedSimpArgs false
namespace Go.Proofs.YtkejcajboneniabGreatDoor
open Go.RowKit

def drivenOut (l : List Int) : List Int := if bitsOk l = true then driveL l else []
def drivenAft (l : List Int) (s : Int) : List Int := if (bitsOk l && within s 0 60) = true then driveI s.toNat l else []
def flowOut (l : List Int) : Int := if bitsOk l = true then (flowN l : Int) else -1
def endOut (l : List Int) : Int := if bitsOk l = true then (endN l : Int) else -1
def freeOut (l : List Int) : List Int := if bitsOk l = true then freeL l else []
/-- The least number of steps after which the flow is that of the end. -/
def flowK (l : List Int) : Nat := ((List.range (l.length + 1)).find? fun k => decide (flowN (driveI k l) = endN l)).getD 0
def flowingOut (l : List Int) : Int := if bitsOk l = true then (flowK l : Int) else -1
theorem nth_drive {l : List Int} {k : Nat} (h : k < l.length) : nth (driveL l) k = if nth l k = 1 then nth l ((k + 1) % l.length) else nth l ((k + l.length - 1) % l.length) := nth_ringL h
theorem drive_take {l : List Int} {k : Nat} (h : k < l.length) : (driveL l).take (k + 1) = (driveL l).take k ++ [nth (driveL l) k] := take_nth (by rw [driveL_len]; exact h)
theorem nth_flow {l : List Int} {k : Nat} (h : k < l.length) : nth (flowL l) k = if nth l k = 1 ∧ nth l ((k + 1) % l.length) = 0 then 1 else 0 := nth_ringL h
theorem flow_take {l : List Int} {k : Nat} (h : k < l.length) : ones ((flowL l).take (k + 1)) = ones ((flowL l).take k) + (if nth l k = 1 ∧ nth l ((k + 1) % l.length) = 0 then 1 else 0) := by
  rw [ones_take (by rw [show (flowL l).length = l.length from ringL_len _ l]; exact h), nth_flow h]
  split <;> simp
theorem flowK_spec {l : List Int} (h : bitsOk l = true) : flowN (driveI (flowK l) l) = endN l ∧ (∀ j, j < flowK l → flowN (driveI j l) ≠ endN l) ∧ 2 * flowK l ≤ l.length := by
  have hh := flow_half h
  have h1 := (bitsOk_iff.1 h).2
  cases hf : (List.range (l.length + 1)).find? (fun k => decide (flowN (driveI k l) = endN l)) with
  | none =>
    rw [List.find?_eq_none] at hf
    exact absurd (decide_eq_true hh) (hf (l.length / 2) (by rw [List.mem_range]; omega))
  | some k =>
    have hk : flowK l = k := by unfold flowK; rw [hf]; rfl
    rw [List.find?_eq_some_iff_getElem] at hf
    obtain ⟨g1, i, hi, g2, g3⟩ := hf
    have e : i = k := by simpa using g2
    subst e
    rw [hk]
    have hmin : ∀ j, j < i → flowN (driveI j l) ≠ endN l := fun j hj => by
      have := g3 j hj
      simpa using this
    refine ⟨by simpa using g1, hmin, ?_⟩
    rcases Nat.lt_or_ge (l.length / 2) i with h2 | h2
    · exact absurd hh (hmin _ h2)
    · omega
theorem flowK_at {l : List Int} (h : bitsOk l = true) {k : Nat} (h1 : flowN (driveI k l) = endN l) (h2 : ∀ j, j < k → flowN (driveI j l) ≠ endN l) : flowK l = k := by
  obtain ⟨g1, g2, _⟩ := flowK_spec h
  rcases Nat.lt_trichotomy (flowK l) k with h3 | h3 | h3
  · exact absurd g1 (h2 _ h3)
  · exact h3
  · exact absurd h1 (g2 _ h3)
theorem freeL_ok {l : List Int} (h : bitsOk l = true) : bitsOk (freeL l) = true := by
  obtain ⟨h1, h2⟩ := bitsOk_iff.1 h
  exact bitsOk_iff.2 ⟨freeL_bits h1, by rw [freeL_len]; exact h2⟩
theorem free_take {l : List Int} {k : Nat} (h : k < l.length) : (freeL l).take (k + 1) = (freeL l).take k ++ [1 - nth l (l.length - 1 - k)] := by
  rw [take_nth (by rw [freeL_len]; exact h), nth_free h]
end Go.Proofs.YtkejcajboneniabGreatDoor
namespace Go.Proofs.YtkejcajboneniabGreatDoor
open Go.RowKit

/-- A desk: its ring, and those of before. -/
structure Dk where
  now : List Int
  past : List (List Int)
def noDk : Dk := ⟨[], []⟩
def deskOk (D : Dk) : Bool := D.past.all bitsOk && (bitsOk D.now && decide (D.past.length ≤ 8))
theorem deskOk_iff {D : Dk} : deskOk D = true ↔ (∀ l ∈ D.past, bitsOk l = true) ∧ bitsOk D.now = true ∧ D.past.length ≤ 8 := by
  simp [deskOk]
def flipL (l : List Int) (k : Nat) : List Int := l.set k (1 - nth l k)
def roundL (l : List Int) (k : Nat) : List Int := l.drop k ++ l.take k
/-- What a deed makes of a ring. -/
def madeL (l : List Int) (k n : Int) : List Int :=
  if k = 0 ∧ n = 0 then sumOut l
  else if k = 1 ∧ n = 0 then drivenOut l
  else if k = 2 ∧ n = 0 then votedOut l
  else if k = 3 ∧ within n 0 ((l.length : Int) - 1) = true then flipL l n.toNat
  else if k = 4 ∧ within n 0 ((l.length : Int) - 1) = true then roundL l n.toNat
  else if k = 5 ∧ n = 0 then freeOut l
  else []
def trimL (p : List (List Int)) : List (List Int) := if 8 < p.length then p.drop 1 else p
def undoB (D : Dk) (k n : Int) : Bool := decide (k = 6 ∧ n = 0) && !D.past.isEmpty
def stayB (D : Dk) (k n : Int) : Bool := (madeL D.now k n).isEmpty || decide (madeL D.now k n = D.now)
/-- What DeskDo gives. -/
def deskDo (D : Dk) (a : Int × Int) : Dk × Bool :=
  if deskOk D = true then
    if undoB D a.1 a.2 = true then (⟨D.past.getLast?.getD [], D.past.dropLast⟩, true)
    else if stayB D a.1 a.2 = true then (D, false)
    else (⟨madeL D.now a.1 a.2, trimL (D.past ++ [D.now])⟩, true)
  else (noDk, false)

theorem made_ok {l : List Int} (h : bitsOk l = true) (k n : Int) (hne : (madeL l k n).isEmpty = false) : bitsOk (madeL l k n) = true := by
  obtain ⟨hb, h1, h2⟩ := bitsOk_iff.1 h
  unfold madeL at hne ⊢
  split
  · unfold sumOut; rw [if_pos h]; exact sumL_ok h
  · split
    · unfold drivenOut; rw [if_pos h]; exact driveL_ok h
    · split
      · have hv : votesOk l = true := votesOk_iff.2 ⟨⟨h1, by omega⟩, hb⟩
        unfold votedOut; rw [if_pos hv]
        exact bitsOk_iff.2 ⟨vote_bits hb, by rw [voteL_len]; exact h1, by rw [voteL_len]; exact h2⟩
      · split
        · rename_i h3
          refine bitsOk_iff.2 ⟨fun x hx => ?_, by simp [flipL]; exact h1, by simp [flipL]; exact h2⟩
          rcases List.mem_or_eq_of_mem_set hx with hx | rfl
          · exact hb x hx
          · rcases bit_nth hb n.toNat with e | e <;> rw [e] <;> simp
        · split
          · refine bitsOk_iff.2 ⟨fun x hx => ?_, by simp [roundL]; omega, by simp [roundL]; omega⟩
            rcases List.mem_append.1 hx with hx | hx
            · exact hb x (List.mem_of_mem_drop hx)
            · exact hb x (List.mem_of_mem_take hx)
          · split
            · unfold freeOut; rw [if_pos h]; exact freeL_ok h
            · rename_i q1 q2 q3 q4 q5 q6
              rw [if_neg q1, if_neg q2, if_neg q3, if_neg q4, if_neg q5, if_neg q6] at hne
              cases hne
theorem last_getD {p : List (List Int)} (h : p.isEmpty = false) : ∃ q l, p = q ++ [l] ∧ p.getLast?.getD [] = l ∧ p.dropLast = q := by
  rcases List.eq_nil_or_concat p with rfl | ⟨q, l, rfl⟩
  · cases h
  · exact ⟨q, l, by simp, by simp, by simp⟩
theorem trim_ok {p : List (List Int)} (h : ∀ l ∈ p, bitsOk l = true) (h9 : p.length ≤ 9) : (∀ l ∈ trimL p, bitsOk l = true) ∧ (trimL p).length ≤ 8 := by
  unfold trimL
  split
  · exact ⟨fun l hl => h l (List.mem_of_mem_drop hl), by simp; omega⟩
  · exact ⟨h, by omega⟩
theorem do_ok {D : Dk} (h : deskOk D = true) (a : Int × Int) : deskOk (deskDo D a).1 = true := by
  obtain ⟨h1, h2, h3⟩ := deskOk_iff.1 h
  unfold deskDo
  rw [if_pos h]
  by_cases hb : undoB D a.1 a.2 = true
  · rw [if_pos hb]
    unfold undoB at hb
    rw [Bool.and_eq_true] at hb
    obtain ⟨q, l, e1, e2, e3⟩ := last_getD (p := D.past) (by simpa using hb.2)
    refine deskOk_iff.2 ⟨?_, ?_, ?_⟩
    · show ∀ l ∈ D.past.dropLast, _
      rw [e3]; intro x hx; exact h1 x (by rw [e1]; simp [hx])
    · show bitsOk (D.past.getLast?.getD []) = true
      rw [e2]; exact h1 l (by rw [e1]; simp)
    · show D.past.dropLast.length ≤ 8
      rw [List.length_dropLast]; omega
  · rw [if_neg hb]
    by_cases hs : stayB D a.1 a.2 = true
    · rw [if_pos hs]; exact h
    · rw [if_neg hs]
      have hne : (madeL D.now a.1 a.2).isEmpty = false := by
        unfold stayB at hs; rw [Bool.or_eq_true] at hs
        cases hh : (madeL D.now a.1 a.2).isEmpty with
        | false => rfl
        | true => exact absurd (.inl hh) hs
      have ht := trim_ok (p := D.past ++ [D.now]) (fun l hl => by
        rcases List.mem_append.1 hl with hl | hl
        · exact h1 l hl
        · simp at hl; subst hl; exact h2) (by simp; omega)
      exact deskOk_iff.2 ⟨ht.1, made_ok h2 _ _ hne, ht.2⟩
/-- What a run of deeds gives. -/
def runF (s : Dk × Nat) (a : Int × Int) : Dk × Nat := if (deskDo s.1 a).2 = true then ((deskDo s.1 a).1, s.2 + 1) else s
def runL (D : Dk) (l : List (Int × Int)) : Dk × Nat := l.foldl runF (D, 0)
theorem run_snoc (D : Dk) (l : List (Int × Int)) (a : Int × Int) : runL D (l ++ [a]) = runF (runL D l) a := by unfold runL; rw [List.foldl_append]; rfl
theorem run_ok {D : Dk} (h : deskOk D = true) (l : List (Int × Int)) : deskOk (runL D l).1 = true := by
  suffices H : ∀ (l : List (Int × Int)) (s : Dk × Nat), deskOk s.1 = true → deskOk (l.foldl runF s).1 = true from H l _ h
  intro l
  induction l with
  | nil => intro s hs; exact hs
  | cons a l ih =>
    intro s hs
    rw [List.foldl_cons]
    refine ih _ ?_
    unfold runF
    split
    · exact do_ok hs a
    · exact hs
/-- What DeskRun gives. -/
def runOk (D : Dk) (l : List (Int × Int)) : Bool := deskOk D && decide (l.length ≤ 40)
def runOut (D : Dk) (l : List (Int × Int)) : Dk × Nat := if runOk D l = true then runL D l else (noDk, 0)
end Go.Proofs.YtkejcajboneniabGreatDoor
namespace Go.Proofs.YtkejcajboneniabGreatDoor
open Go.RowKit

set_option maxRecDepth 100000 in
set_option maxHeartbeats 3200000 in
theorem l11Drive_any (A : Option Addr) (n c : Nat) (l : List Int) (w : World) (hs : Sl w w.heap.size A n l) (h1 : 1 ≤ n) (hn : n ≤ 16) (hb : ∀ x ∈ l, x = 0 ∨ x = 1) :
    Calls Tryz.prog 109 #[.slice A n c] w fun e w' => ∃ A2 c2, e = .returned (.slice A2 n c2) ∧ w'.ownsRow w.heap.size 3 1 (.slice A2 n c2) n (ints (driveL l)) ∧ Below w.heap.size w w' := by
  obtain ⟨i0, hi, hz0, hz1, hz2⟩ := info_parts info_int
  have ho0 : (w.alloc (.cells #[] 3)).ownsRow w.heap.size 3 1 (.slice (some ⟨w.heap.size, 0, none⟩) 0 0) 0 (ints []) := World.ownsRow_lit w #[] 0 (Nat.le_refl _) (by simp [maxLen]) rfl
  have hb0 : Below w.heap.size w (w.alloc (.cells #[] 3)) := (Below.refl _ _).alloc (Nat.le_refl _) _
  have HL := hid hs.len
  go_enter Tryz.func109, Tryz.ntmps109
  go_wp2
  go_loopw [3, 5] (fun v i wr => ∃ (A1 : Option Addr) (c1 k : Nat), v = .slice A1 k c1 ∧ i = .int .i64 k ∧ k ≤ n ∧ wr.ownsRow w.heap.size 3 1 (.slice A1 k c1) k (ints ((driveL l).take k)) ∧ Hid (Below w.heap.size w wr)) (fun _ i _ => n - (intOf i).toNat)
  case atStart => exact ⟨_, _, 0, rfl, rfl, Nat.zero_le _, ho0, hid hb0⟩
  case round =>
    clear ho0 hb0
    obtain ⟨A1, c1, k, rfl, rfl, hk, ho, HB⟩ := hrel
    by_cases hlt : k < n
    · obtain ⟨b, off, rfl, hbS, hc⟩ := (hs.below HB.out).2.2 (by omega)
      obtain ⟨p, hp⟩ : ∃ p, (k + 1) % n = p := ⟨_, rfl⟩
      obtain ⟨q, hq⟩ : ∃ q, (k + n - 1) % n = q := ⟨_, rfl⟩
      have hpn : p < n := by rw [← hp]; exact Nat.mod_lt _ (by omega)
      have hqn : q < n := by rw [← hq]; exact Nat.mod_lt _ (by omega)
      have m1 : ((k : Int) + 1).tmod (n : Int) = (p : Int) := by rw [Int.tmod_eq_emod_of_nonneg (by omega), ← hp]; norm_cast
      have m2 : ((k : Int) + (n : Int) - 1).tmod (n : Int) = (q : Int) := by rw [Int.tmod_eq_emod_of_nonneg (by omega), ← hq, show (k : Int) + (n : Int) - 1 = ((k + n - 1 : Nat) : Int) from by omega]; norm_cast
      have x0 := hc p hpn
      have x1 := hc q hqn
      have x2 := hc k hlt
      have HT := hid (drive_take (l := l) (k := k) (by rw [HL.out]; exact hlt))
      have hv := nth_drive (l := l) (k := k) (by rw [HL.out]; exact hlt)
      rw [HL.out, hp, hq] at hv
      obtain ⟨x, hx⟩ : ∃ x, nth l p = x := ⟨_, rfl⟩
      obtain ⟨y, hy⟩ : ∃ y, nth l q = y := ⟨_, rfl⟩
      obtain ⟨z, hz⟩ : ∃ z, nth l k = z := ⟨_, rfl⟩
      rw [hx] at x0 hv
      rw [hy] at x1 hv
      rw [hz] at x2 hv
      clear hx hy hz hc hp hq
      have hlti : (k : Int) < (n : Int) := by omega
      have w1 : IntKind.i64.wrap ((k : Int) + 1) = (k : Int) + 1 := IntWalk.i64_in _ (by omega)
      have w2 : IntKind.i64.wrap ((k : Int) + (n : Int)) = (k : Int) + (n : Int) := IntWalk.i64_in _ (by omega)
      have w3 : IntKind.i64.wrap ((k : Int) + (n : Int) - 1) = (k : Int) + (n : Int) - 1 := IntWalk.i64_in _ (by omega)
      have p3 : (p : Int) < (n : Int) := by omega
      have p4 : (q : Int) < (n : Int) := by omega
      have p5 : (0 : Int) ≤ (p : Int) := by omega
      have p6 : (0 : Int) ≤ (q : Int) := by omega
      have p7 : (0 : Int) ≤ (k : Int) := by omega
      have hn0 : ¬ (n : Int) = 0 := by omega
      have hn00 : ¬ n = 0 := by omega
      have hzz := HB.out.size
      have hv1 := own_blk ho
      by_cases hz1' : z = 1
      · have hze : (z == 1) = true := by simpa using hz1'
        rw [if_pos hz1'] at hv
        have HV := hid hv
        clear hv hz1'
        go_wp2_with (at_builtin; refine wpList_append_own _ rfl _ _ 28 rfl w.heap.size 3 i0 (.int .i64 0) 1 8 Tryz.underlying28 hi hz0 hz1 hz2 rfl (by decide) (.slice A1 k c1) _ _ rfl (ho.alloc _) ⟨wr.heap.size, 0, none⟩ 1 1 [.int .i64 x] rfl rfl (cell_one_new wr _ _) (by simp [Value.oneCell']) (by simp only [maxLen]; omega) (by omega) (by simp; omega) ?_; intro v2 w2 hown2 hgrow2 _)
        obtain ⟨A2, c2, rfl, o2, b2⟩ := pushedB HB.out (Nat.le_refl _) (by omega) hv1 hown2 hgrow2
        rw [← HV.out, ← HT.out] at o2
        have O2 := hid o2
        have B2 := hid b2
        clear hown2 hgrow2 ho o2 b2 HB
        go_wp2
        go_roundw
        case rel => exact ⟨A2, c2, k + 1, rfl, by go_num, by omega, O2.out, B2⟩
        case measure => simp [intOf]; omega
      · have hze : (z == 1) = false := by simpa using hz1'
        rw [if_neg hz1'] at hv
        have HV := hid hv
        clear hv
        go_wp2_with (at_builtin; refine wpList_append_own _ rfl _ _ 28 rfl w.heap.size 3 i0 (.int .i64 0) 1 8 Tryz.underlying28 hi hz0 hz1 hz2 rfl (by decide) (.slice A1 k c1) _ _ rfl (ho.alloc _) ⟨wr.heap.size, 0, none⟩ 1 1 [.int .i64 y] rfl rfl (cell_one_new wr _ _) (by simp [Value.oneCell']) (by simp only [maxLen]; omega) (by omega) (by simp; omega) ?_; intro v2 w2 hown2 hgrow2 _)
        obtain ⟨A2, c2, rfl, o2, b2⟩ := pushedB HB.out (Nat.le_refl _) (by omega) hv1 hown2 hgrow2
        rw [← HV.out, ← HT.out] at o2
        have O2 := hid o2
        have B2 := hid b2
        clear hown2 hgrow2 ho o2 b2 HB
        go_wp2
        go_roundw
        case rel => exact ⟨A2, c2, k + 1, rfl, by go_num, by omega, O2.out, B2⟩
        case measure => simp [intOf]; omega
    · obtain rfl : k = n := by omega
      rw [List.take_of_length_le (by rw [driveL_len, HL.out]; omega)] at ho
      have HO := hid ho
      clear ho
      go_wp2
      go_ret
      exact ⟨A1, c1, rfl, HO.out, HB.out⟩

set_option maxRecDepth 100000 in
set_option maxHeartbeats 1600000 in
theorem specDrivenOf_any (A : Option Addr) (n c : Nat) (l : List Int) (w : World) (hs : Sl w w.heap.size A n l) :
    Calls Tryz.prog 128 #[.slice A n c] w fun e w' => ∃ A2 m c2, e = .returned (.slice A2 m c2) ∧ w'.ownsRow w.heap.size 3 1 (.slice A2 m c2) m (ints (drivenOut l)) ∧ m ≤ 16 ∧ Below w.heap.size w w' := by
  have HL := hid hs.len
  have CK := hid (specBitsOk_any A n c l w w.heap.size hs)
  cases hok : bitsOk l with
  | false =>
    have HV := hid (show drivenOut l = [] from by unfold drivenOut; rw [hok]; rfl)
    rw [hok] at CK
    clear hok
    go_enter Tryz.func128, Tryz.ntmps128
    go_wp2_with fail
    with_reducible refine Calls.mono CK.out ?_
    rintro e w' ⟨rfl, rfl⟩
    go_wp2
    go_ret
    exact ⟨_, 0, _, rfl, by rw [HV.out]; exact World.ownsRow_lit w #[] 0 (Nat.le_refl _) (by simp [maxLen]) rfl, by omega, (Below.refl _ _).alloc (Nat.le_refl _) _⟩
  | true =>
    obtain ⟨hb, h1, h2⟩ := bitsOk_iff.1 hok
    have HV := hid (show drivenOut l = driveL l from by unfold drivenOut; rw [if_pos hok])
    rw [HL.out] at h1 h2
    have CV := hid (l11Drive_any A n c l w hs h1 h2 hb)
    rw [hok] at CK
    clear hok
    go_enter Tryz.func128, Tryz.ntmps128
    go_wp2_with fail
    with_reducible refine Calls.mono CK.out ?_
    rintro e w' ⟨rfl, rfl⟩
    go_wp2_with fail
    with_reducible refine Calls.mono CV.out ?_
    rintro e w2 ⟨A2, c2, rfl, o2, b2⟩
    go_wp2
    go_ret
    exact ⟨A2, n, c2, rfl, by rw [HV.out]; exact o2, h2, b2⟩

set_option maxRecDepth 100000 in
set_option maxHeartbeats 3200000 in
theorem specFlowOf_any (A : Option Addr) (n c : Nat) (l : List Int) (w : World) (B : Nat) (hs : Sl w B A n l) :
    Calls Tryz.prog 67 #[.slice A n c] w fun e w' => e = .returned (.int .i64 (flowOut l)) ∧ w = w' := by
  have HL := hid hs.len
  have CK := hid (specBitsOk_any A n c l w B hs)
  cases hok : bitsOk l with
  | false =>
    have HV := hid (show flowOut l = -1 from by unfold flowOut; rw [hok]; rfl)
    rw [hok] at CK
    clear hok
    go_enter Tryz.func67, Tryz.ntmps67
    go_wp2_with fail
    with_reducible refine Calls.mono CK.out ?_
    rintro e w' ⟨rfl, rfl⟩
    go_wp2
    go_ret
    exact ⟨ret_int HV.out.symm, rfl⟩
  | true =>
    obtain ⟨hb, h1, h2⟩ := bitsOk_iff.1 hok
    have HV := hid (show flowOut l = ones (flowL l) from by unfold flowOut; rw [if_pos hok]; rfl)
    rw [HL.out] at h1 h2
    obtain ⟨b, off, rfl, hbl, hc⟩ := hs.2.2 (by omega)
    have HC := hid hc
    rw [hok] at CK
    clear hok hs hc hb
    go_enter Tryz.func67, Tryz.ntmps67
    go_wp2_with fail
    with_reducible refine Calls.mono CK.out ?_
    rintro e w' ⟨rfl, rfl⟩
    go_wp2
    go_loop [3, 4] (fun v i => ∃ k m : Nat, v = .int .i64 m ∧ i = .int .i64 k ∧ k ≤ n ∧ m ≤ k ∧ Hid (m = ones ((flowL l).take k))) (fun _ i => n - (intOf i).toNat)
    case atStart => exact ⟨0, 0, rfl, rfl, Nat.zero_le _, Nat.le_refl _, hid rfl⟩
    case round =>
      obtain ⟨k, m, rfl, rfl, hk, hm, HM⟩ := hrel
      by_cases hlt : k < n
      · obtain ⟨p, hp⟩ : ∃ p, (k + 1) % n = p := ⟨_, rfl⟩
        have hpn : p < n := by rw [← hp]; exact Nat.mod_lt _ (by omega)
        have m1 : ((k : Int) + 1).tmod (n : Int) = (p : Int) := by rw [Int.tmod_eq_emod_of_nonneg (by omega), ← hp]; norm_cast
        have x0 := HC.out p hpn
        have x2 := HC.out k hlt
        have hv := flow_take (l := l) (k := k) (by rw [HL.out]; exact hlt)
        rw [HL.out, hp, ← HM.out] at hv
        obtain ⟨x, hx⟩ : ∃ x, nth l p = x := ⟨_, rfl⟩
        obtain ⟨z, hz⟩ : ∃ z, nth l k = z := ⟨_, rfl⟩
        rw [hx] at x0 hv
        rw [hz] at x2 hv
        clear hx hz hp
        have hlti : (k : Int) < (n : Int) := by omega
        have w1 : IntKind.i64.wrap ((k : Int) + 1) = (k : Int) + 1 := IntWalk.i64_in _ (by omega)
        have wm : IntKind.i64.wrap ((m : Int) + 1) = (m : Int) + 1 := IntWalk.i64_in _ (by omega)
        have p3 : (p : Int) < (n : Int) := by omega
        have p5 : (0 : Int) ≤ (p : Int) := by omega
        have p7 : (0 : Int) ≤ (k : Int) := by omega
        have hn0 : ¬ (n : Int) = 0 := by omega
        have hn00 : ¬ n = 0 := by omega
        by_cases hz1 : z = 1
        · have hze : (z == 1) = true := by simpa using hz1
          by_cases hx0 : x = 0
          · have hxe : (x == 0) = true := by simpa using hx0
            rw [if_pos ⟨hz1, hx0⟩] at hv
            have HV2 := hid hv.symm
            clear hv hz1 hx0
            go_wp2
            go_round
            case rel => exact ⟨k + 1, m + 1, by go_num, by go_num, by omega, by omega, HV2⟩
            case measure => simp [intOf]; omega
          · have hxe : (x == 0) = false := by simpa using hx0
            rw [if_neg (fun h => hx0 h.2)] at hv
            have HV2 := hid hv.symm
            clear hv hz1
            go_wp2
            go_round
            case rel => exact ⟨k + 1, m, rfl, by go_num, by omega, by omega, HV2⟩
            case measure => simp [intOf]; omega
        · have hze : (z == 1) = false := by simpa using hz1
          rw [if_neg (fun h => hz1 h.1)] at hv
          have HV2 := hid hv.symm
          clear hv
          go_wp2
          go_round
          case rel => exact ⟨k + 1, m, rfl, by go_num, by omega, by omega, HV2⟩
          case measure => simp [intOf]; omega
      · obtain rfl : k = n := by omega
        have HT := hid (show flowOut l = (m : Int) from by
          rw [HV.out, HM.out, List.take_of_length_le (by rw [show (flowL l).length = l.length from ringL_len _ l, HL.out]; omega)])
        go_wp2
        go_ret
        exact ⟨ret_int HT.out.symm, rfl⟩

set_option maxHeartbeats 1600000 in
theorem specEndFlow_any (A : Option Addr) (n c : Nat) (l : List Int) (w : World) (B : Nat) (hs : Sl w B A n l) :
    Calls Tryz.prog 68 #[.slice A n c] w fun e w' => e = .returned (.int .i64 (endOut l)) ∧ w = w' := by
  have HL := hid hs.len
  have CK := hid (specBitsOk_any A n c l w B hs)
  have CO := hid (specOnesOf_any A n c l w B hs)
  cases hok : bitsOk l with
  | false =>
    have HV := hid (show endOut l = -1 from by unfold endOut; rw [hok]; rfl)
    rw [hok] at CK
    clear hok
    go_enter Tryz.func68, Tryz.ntmps68
    go_wp2_with fail
    with_reducible refine Calls.mono CK.out ?_
    rintro e w' ⟨rfl, rfl⟩
    go_wp2
    go_ret
    exact ⟨ret_int HV.out.symm, rfl⟩
  | true =>
    obtain ⟨hb, h1, h2⟩ := bitsOk_iff.1 hok
    have hle := ones_le l
    have hv : endOut l = ((min (ones l) (l.length - ones l) : Nat) : Int) := by unfold endOut; rw [if_pos hok]; rfl
    rw [show onesOut l = (ones l : Int) from by unfold onesOut; rw [if_pos hok]] at CO
    rw [HL.out] at h1 h2 hle hv
    obtain ⟨q, hq⟩ : ∃ q, ones l = q := ⟨_, rfl⟩
    rw [hq] at hv hle CO
    have HV := hid hv
    have w1 : IntKind.i64.wrap ((n : Int) - (q : Int)) = (n : Int) - (q : Int) := IntWalk.i64_in _ (by omega)
    have hmn : min (q : Int) ((n : Int) - (q : Int)) = ((min q (n - q) : Nat) : Int) := by omega
    rw [hok] at CK
    clear hok hs hb hv hq
    go_enter Tryz.func68, Tryz.ntmps68
    go_wp2_with fail
    with_reducible refine Calls.mono CK.out ?_
    rintro e w' ⟨rfl, rfl⟩
    go_wp2_with (go_at_call 66; with_reducible refine Calls.mono CO.out ?_; rintro e w' ⟨rfl, rfl⟩)
    go_ret
    exact ⟨ret_int (by rw [HV.out]), rfl⟩

set_option maxRecDepth 100000 in
set_option maxHeartbeats 3200000 in
theorem specFreeAs_any (A : Option Addr) (n c : Nat) (l : List Int) (w : World) (hs : Sl w w.heap.size A n l) :
    Calls Tryz.prog 130 #[.slice A n c] w fun e w' => ∃ A2 m c2, e = .returned (.slice A2 m c2) ∧ w'.ownsRow w.heap.size 3 1 (.slice A2 m c2) m (ints (freeOut l)) ∧ m ≤ 16 ∧ Below w.heap.size w w' := by
  obtain ⟨i0, hi, hz0, hz1, hz2⟩ := info_parts info_int
  have ho0 : (w.alloc (.cells #[] 3)).ownsRow w.heap.size 3 1 (.slice (some ⟨w.heap.size, 0, none⟩) 0 0) 0 (ints []) := World.ownsRow_lit w #[] 0 (Nat.le_refl _) (by simp [maxLen]) rfl
  have hb0 : Below w.heap.size w (w.alloc (.cells #[] 3)) := (Below.refl _ _).alloc (Nat.le_refl _) _
  have HL := hid hs.len
  have hm := hs.max
  have CK := hid (fun (W : World) (hW : Below w.heap.size w W) => specBitsOk_any A n c l W _ (hs.below hW))
  cases hok : bitsOk l with
  | false =>
    have HV := hid (show freeOut l = [] from by unfold freeOut; rw [hok]; rfl)
    have HO := hid ho0
    have HB := hid hb0
    rw [hok] at CK
    clear hok ho0
    by_cases hn0 : 0 < n
    · have d1 : (0 : Int) ≤ (n : Int) - 1 := by omega
      go_enter Tryz.func130, Tryz.ntmps130
      go_wp2
      go_loop [3, 4] (fun v i => v = .slice (some ⟨w.heap.size, 0, none⟩) 0 0 ∧ i = .int .i64 ((n : Int) - 1)) (fun _ _ => 0)
      case atStart => exact ⟨rfl, rfl⟩
      case round =>
        obtain ⟨rfl, rfl⟩ := hrel
        go_wp2_with (go_at_call 50; with_reducible refine Calls.mono (CK.out _ hb0) ?_; rintro e w' ⟨rfl, rfl⟩)
        go_ret
        exact ⟨_, 0, _, rfl, by rw [HV.out]; exact HO.out, by omega, HB.out⟩
    · obtain rfl : n = 0 := by omega
      go_enter Tryz.func130, Tryz.ntmps130
      go_wp2
      go_loop [3, 4] (fun v i => v = .slice (some ⟨w.heap.size, 0, none⟩) 0 0 ∧ i = .int .i64 (-1)) (fun _ _ => 0)
      case atStart => exact ⟨rfl, rfl⟩
      case round =>
        obtain ⟨rfl, rfl⟩ := hrel
        go_wp2
        go_ret
        exact ⟨_, 0, _, rfl, by rw [HV.out]; exact HO.out, by omega, HB.out⟩
  | true =>
    obtain ⟨hb, h1, h2⟩ := bitsOk_iff.1 hok
    have HV := hid (show freeOut l = freeL l from by unfold freeOut; rw [if_pos hok])
    have HX := hid (fun k => bit_nth hb k)
    rw [HL.out] at h1 h2
    rw [hok] at CK
    obtain ⟨b, off, rfl, hbS, hc⟩ := hs.2.2 (by omega)
    have HC := hid hc
    clear hok hb hc hs
    go_enter Tryz.func130, Tryz.ntmps130
    go_wp2
    go_loopw [3, 4] (fun v i wr => ∃ (A1 : Option Addr) (c1 k j : Nat), v = .slice A1 k c1 ∧ i = .int .i64 ((j : Int) - 1) ∧ k + j = n ∧ wr.ownsRow w.heap.size 3 1 (.slice A1 k c1) k (ints ((freeL l).take k)) ∧ Hid (Below w.heap.size w wr)) (fun _ i _ => (intOf i + 1).toNat)
    case atStart => exact ⟨_, _, 0, n, rfl, rfl, by omega, ho0, hid hb0⟩
    case round =>
      clear ho0 hb0
      obtain ⟨A1, c1, k, j, rfl, rfl, hkj, ho, HB⟩ := hrel
      by_cases hj : 0 < j
      · obtain ⟨j, rfl⟩ : ∃ j', j = j' + 1 := ⟨j - 1, by omega⟩
        have x0 := (HB.out.cell (p := ⟨b, off + j, none⟩) hbS).trans (HC.out j (by omega))
        have b0 := HX.out j
        have HT := hid (free_take (l := l) (k := k) (by rw [HL.out]; omega))
        have hjk : n - 1 - k = j := by omega
        rw [HL.out, hjk] at HT
        obtain ⟨x, hx⟩ : ∃ x, nth l j = x := ⟨_, rfl⟩
        rw [hx] at x0 b0 HT
        have ej : ((j + 1 : Nat) : Int) - 1 = (j : Int) := by omega
        rw [ej]
        have hzz := HB.out.size
        have hv1 := own_blk ho
        have hlti : (j : Int) < (n : Int) := by omega
        have hj0 : (0 : Int) ≤ (j : Int) := by omega
        have w1 : IntKind.i64.wrap (1 - x) = 1 - x := IntWalk.i64_in _ (by omega)
        clear hx ej hjk
        go_wp2_with (first | (go_at_call 50; with_reducible refine Calls.mono (CK.out _ HB.out) ?_; rintro e w' ⟨rfl, rfl⟩) | (at_builtin; refine wpList_append_own _ rfl _ _ 28 rfl w.heap.size 3 i0 (.int .i64 0) 1 8 Tryz.underlying28 hi hz0 hz1 hz2 rfl (by decide) (.slice A1 k c1) _ _ rfl (ho.alloc _) ⟨wr.heap.size, 0, none⟩ 1 1 [.int .i64 (1 - x)] rfl rfl (cell_one_new wr _ _) (by simp [Value.oneCell']) (by simp only [maxLen]; omega) (by omega) (by simp; omega) ?_; intro v2 w2 hown2 hgrow2 _))
        obtain ⟨A2, c2, rfl, o2, b2⟩ := pushedB HB.out (Nat.le_refl _) (by omega) hv1 hown2 hgrow2
        rw [← HT.out] at o2
        have O2 := hid o2
        have B2 := hid b2
        clear hown2 hgrow2 ho o2 b2 HB
        go_wp2
        go_roundw
        case rel => exact ⟨A2, c2, k + 1, j, rfl, by go_num, by omega, O2.out, B2⟩
        case measure => simp [intOf]
      · obtain rfl : j = 0 := by omega
        obtain rfl : k = n := by omega
        rw [List.take_of_length_le (by rw [freeL_len, HL.out]; omega), ← HV.out] at ho
        have HO := hid ho
        clear ho
        go_wp2
        go_ret
        exact ⟨A1, k, c1, rfl, HO.out, h2, HB.out⟩

set_option maxRecDepth 100000 in
set_option maxHeartbeats 3200000 in
theorem specFlowingAfter_any (A : Option Addr) (n c : Nat) (l : List Int) (w : World) (hs : Sl w w.heap.size A n l) :
    Calls Tryz.prog 69 #[.slice A n c] w fun e w' => e = .returned (.int .i64 (flowingOut l)) ∧ Below w.heap.size w w' := by
  obtain ⟨i0, hi, hz0, hz1, hz2⟩ := info_parts info_int
  have HL := hid hs.len
  have CK := hid (specBitsOk_any A n c l w w.heap.size hs)
  cases hok : bitsOk l with
  | false =>
    have HV := hid (show flowingOut l = -1 from by unfold flowingOut; rw [hok]; rfl)
    rw [hok] at CK
    clear hok
    go_enter Tryz.func69, Tryz.ntmps69
    go_wp2_with fail
    with_reducible refine Calls.mono CK.out ?_
    rintro e w' ⟨rfl, rfl⟩
    go_wp2
    go_ret
    exact ⟨ret_int HV.out.symm, Below.refl _ _⟩
  | true =>
    obtain ⟨hb, h1, h2⟩ := bitsOk_iff.1 hok
    have hfk := flowK_spec hok
    have HFK := hid hfk.1
    have HMN := hid hfk.2.1
    have hF := hfk.2.2
    rw [HL.out] at h1 h2 hF
    have HV := hid (show flowingOut l = (flowK l : Int) from by unfold flowingOut; rw [if_pos hok])
    rw [hok] at CK
    have HBI := hid (fun k => (bitsOk_iff.1 (driveI_ok hok k)).1)
    have HFO := hid (fun k => show flowOut (driveI k l) = (flowN (driveI k l) : Int) from by unfold flowOut; rw [if_pos (driveI_ok hok k)])
    have HEO := hid (show endOut l = (endN l : Int) from by unfold endOut; rw [if_pos hok])
    have CE := hid (fun (W : World) (hW : Below w.heap.size w W) => specEndFlow_any A n c l W _ (hs.below hW))
    rw [HEO.out] at CE
    have ho0 : (w.alloc (.cells #[] 3)).ownsRow w.heap.size 3 1 (.slice (some ⟨w.heap.size, 0, none⟩) 0 0) 0 (ints []) := World.ownsRow_lit w #[] 0 (Nat.le_refl _) (by simp [maxLen]) rfl
    have hb0 : Below w.heap.size w (w.alloc (.cells #[] 3)) := (Below.refl _ _).alloc (Nat.le_refl _) _
    have hs1 := hs.on hb0
    obtain ⟨bl, off, rfl, hbl, hc⟩ := hs.2.2 (by omega)
    clear hok hb hc hfk
    go_enter Tryz.func69, Tryz.ntmps69
    go_wp2_with fail
    with_reducible refine Calls.mono CK.out ?_
    rintro e w' ⟨rfl, rfl⟩
    go_wp2_with (at_builtin; refine wpList_append_own _ rfl _ _ 28 rfl w.heap.size 3 i0 (.int .i64 0) 1 8 Tryz.underlying28 hi hz0 hz1 hz2 rfl (by decide) (.slice (some ⟨w.heap.size, 0, none⟩) 0 0) _ _ rfl ho0 ⟨bl, off, none⟩ n c (ints l) rfl (by rw [List.length_map, HL.out, Nat.mul_one]) hs1.cellsAt (ints_one l) (by simp only [maxLen]; omega) (by omega) hb0.size ?_; intro v2 w2 o2 g2 _; rw [Nat.zero_add] at o2; obtain ⟨g, c2, rfl, hbg, hlt2⟩ := own_shape1 o2 (by omega))
    have hb1 := hid (hb0.grown g2 hb0.size (by intro j hj; simp [Value.ownBlock] at hj; omega))
    rw [show ints [] ++ ints l = ints (driveI 0 l) from rfl] at o2
    clear hb0 hs1 ho0 g2 hs CK
    go_loopw [3, 4] (fun v i wr => ∃ (A1 : Option Addr) (c1 k : Nat), v = .slice A1 n c1 ∧ i = .int .i64 k ∧ k ≤ flowK l ∧ wr.ownsRow w.heap.size 3 1 (.slice A1 n c1) n (ints (driveI k l)) ∧ Hid (Below w.heap.size w wr)) (fun _ i _ => flowK l - (intOf i).toNat)
    case atStart => exact ⟨_, _, 0, rfl, rfl, Nat.zero_le _, o2, hb1⟩
    case round =>
      clear o2 hb1
      obtain ⟨A1, c1, k, rfl, rfl, hk, o2, HB⟩ := hrel
      have CF := hid (specFlowOf_any A1 n c1 (driveI k l) wr _ (Sl.of_own o2))
      rw [HFO.out] at CF
      by_cases hke : k = flowK l
      · have hfe := HFK.out
        rw [← hke] at hfe
        rw [hfe] at CF
        have hee : ((endN l : Int) == (endN l : Int)) = true := by simp
        have HV2 := hid (show flowingOut l = (k : Int) from by rw [HV.out, hke])
        clear hke hfe
        go_wp2_with (first | (go_at_call 67; with_reducible refine Calls.mono CF.out ?_; rintro e w' ⟨rfl, rfl⟩) | (go_at_call 68; with_reducible refine Calls.mono (CE.out _ HB.out) ?_; rintro e w' ⟨rfl, rfl⟩))
        go_ret
        exact ⟨ret_int HV2.out.symm, HB.out⟩
      · have hne := HMN.out k (by omega)
        obtain ⟨p, hp⟩ : ∃ p, flowN (driveI k l) = p := ⟨_, rfl⟩
        rw [hp] at CF hne
        have hee : ((p : Int) == (endN l : Int)) = false := by simp; omega
        have hee2 : ¬ (p : Int) = (endN l : Int) := by omega
        have CV := hid (l11Drive_any A1 n c1 (driveI k l) wr (Sl.of_own o2) h1 h2 (HBI.out k))
        rw [← driveI_last] at CV
        clear hp hne
        go_wp2_with (first | (go_at_call 67; with_reducible refine Calls.mono CF.out ?_; rintro e w' ⟨rfl, rfl⟩) | (go_at_call 68; with_reducible refine Calls.mono (CE.out _ HB.out) ?_; rintro e w' ⟨rfl, rfl⟩))
        with_reducible refine Calls.mono CV.out ?_
        rintro e w3 ⟨A3, c3, rfl, o3, b3⟩
        have O3 := hid (own_mono o3 HB.out.size)
        replace HB := hid (HB.out.trans (b3.mono HB.out.size))
        clear o3 b3 o2
        go_wp2
        go_roundw
        case rel => exact ⟨A3, c3, k + 1, rfl, by go_num, by omega, O3.out, HB⟩
        case measure => simp [intOf]; omega
end Go.Proofs.YtkejcajboneniabGreatDoor
