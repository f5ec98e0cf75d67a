/-
  Walks of the program's numberOf and joined, and of strings.Cut at a separator of one byte. No statement is proved here.
-/
import Derived.Test.YtkejcajboneniabDoorNum
import Derived.Test.YtkejcajboneniabDoorTabL
import Derived.Test.YtkejcajboneniabDoorT12e
import Derived.Test.YtkejcajboneniabDoorShelf
import Derived.Lib.AtoiErrMem
import Derived.Lib.Join
import Derived.BigQuiet
import Derived.Deep.QuietTactic
namespace Go.Proofs.YtkejcajboneniabDoor
open Go.RowKit
set_option linter.unusedVariables false
set_option linter.unusedSimpArgs false

theorem atoi_ok_any (s : List UInt8) (v : Int) (w : World) (hs : s.length ≤ 281474976710000) (h : Lib.atoiAll s = .ok v) :
    Calls Tryd.prog 49 #[encStr s] w fun e w' => e = .returned (.tuple #[.int .i64 v, .nilIface]) ∧ Below w.heap.size w w' := by
  refine (sh_strconv_Atoi_ok ⟨s.toArray⟩ (by show s.toArray.size ≤ _; simp; omega) v (by simpa using h) w).mono ?_
  rintro e w' ⟨rfl, rfl | ⟨t, rfl⟩⟩
  · exact ⟨rfl, Below.refl _ _⟩
  · exact ⟨rfl, Lib.bytesWorld_below _ _ _⟩
theorem atoi_no_any (s : List UInt8) (w : World) (hs : s.length ≤ 281474976710000) (hT : TabsL w) (h : ∀ v, Lib.atoiAll s ≠ .ok v) :
    Calls Tryd.prog 49 #[encStr s] w fun e w' => (∃ v t p, e = .returned (.tuple #[.int .i64 v, .iface t p])) ∧ Below w.heap.size w w' := by
  cases hk : Lib.atoiAll s with
  | ok v => exact absurd hk (h v)
  | «syntax» =>
    obtain ⟨tp, p, hv⟩ := hT.s
    refine (sh_strconv_Atoi_syntax_var ⟨s.toArray⟩ (by show s.toArray.size ≤ _; simp; omega) (by simpa using hk) tp p w hv).mono ?_
    rintro e w' ⟨N, rfl, _, _, hb⟩
    exact ⟨⟨_, _, _, rfl⟩, hb⟩
  | range =>
    obtain ⟨tp, p, hv⟩ := hT.r
    refine (sh_strconv_Atoi_range_var ⟨s.toArray⟩ (by show s.toArray.size ≤ _; simp; omega) (by simpa using hk) tp p w hv).mono ?_
    rintro e w' ⟨N, rfl, _, _, hb⟩
    exact ⟨⟨_, _, _, rfl⟩, hb⟩

set_option maxRecDepth 100000 in
set_option maxHeartbeats 1600000 in
theorem numberOf_any (s : List UInt8) (most : Nat) (w : World) (hs : s.length ≤ 281474976710000) (hm : most < 1000000000000) (hT : TabsL w) :
    Calls Tryd.prog 42 #[encStr s, .int .i64 most] w fun e w' => e = .returned (.tuple #[.int .i64 (numOut s most).1, .bool (numOut s most).2]) ∧ Below w.heap.size w w' := by
  by_cases hk : ∃ v, Lib.atoiAll s = .ok v
  · obtain ⟨v, hv⟩ := hk
    have CA := hid (atoi_ok_any s v w hs hv)
    by_cases hneg : v < 0
    · have HV := hid (show numOut s most = (0, false) from by unfold numOut; rw [hv]; simp only; rw [if_neg (by omega)])
      clear hv
      go_enter Tryd.func42, Tryd.ntmps42
      go_wp2_with fail
      with_reducible refine Calls.mono CA.out ?_
      rintro e w1 ⟨rfl, b1⟩
      go_wp2
      go_ret2
      exact ⟨by rw [HV.out]; rfl, b1⟩
    · obtain ⟨q, rfl⟩ : ∃ q : Nat, v = q := Int.eq_ofNat_of_zero_le (by omega)
      have hneg' : ¬ ((q : Int) < 0) := by omega
      by_cases hbig : (most : Int) < (q : Int)
      · have HV := hid (show numOut s most = (0, false) from by unfold numOut; rw [hv]; simp only; rw [if_neg (by omega)])
        clear hv
        go_enter Tryd.func42, Tryd.ntmps42
        go_wp2_with fail
        with_reducible refine Calls.mono CA.out ?_
        rintro e w1 ⟨rfl, b1⟩
        go_wp2
        go_ret2
        exact ⟨by rw [HV.out]; rfl, b1⟩
      · have CI := hid (fun (W : World) (hW : Below w.heap.size w W) => itoa_any q W (by omega) (hT.below hW).p)
        cases heq : (numB q == s) with
        | true =>
          have HV := hid (show numOut s most = ((q : Int), true) from by unfold numOut; rw [hv]; simp only; rw [if_pos ⟨by omega, by omega, by rw [Int.toNat_natCast]; simpa using heq⟩])
          clear hv
          have hq : numB q = s := by simpa using heq
          subst hq
          clear heq
          go_enter Tryd.func42, Tryd.ntmps42
          go_wp2_with fail
          with_reducible refine Calls.mono CA.out ?_
          rintro e w1 ⟨rfl, b1⟩
          go_wp2_with fail
          with_reducible refine Calls.mono (CI.out _ b1) ?_
          rintro e w2 ⟨rfl, b2⟩
          go_wp2
          go_ret2
          exact ⟨by rw [HV.out]; rfl, below_tr b1 b2⟩
        | false =>
          have HV := hid (show numOut s most = (0, false) from by unfold numOut; rw [hv]; simp only; rw [if_neg (by rintro ⟨_, _, h⟩; rw [Int.toNat_natCast] at h; simp [h] at heq)])
          clear hv
          have hne : numB q ≠ s := by simpa using heq
          have hne2 : ¬ ((⟨(numB q).toArray⟩ : ByteArray) = ⟨s.toArray⟩) := by
            intro h
            injection h with h
            exact hne (by simpa using h)
          go_enter Tryd.func42, Tryd.ntmps42
          go_wp2_with fail
          with_reducible refine Calls.mono CA.out ?_
          rintro e w1 ⟨rfl, b1⟩
          go_wp2_with fail
          with_reducible refine Calls.mono (CI.out _ b1) ?_
          rintro e w2 ⟨rfl, b2⟩
          go_wp2
          go_ret2
          exact ⟨by rw [HV.out]; rfl, below_tr b1 b2⟩
  · have CA := hid (atoi_no_any s w hs hT (fun v hv => hk ⟨v, hv⟩))
    have HV := hid (show numOut s most = (0, false) from by
      unfold numOut
      split
      · rename_i v hv; exact absurd ⟨v, hv⟩ hk
      · rfl)
    clear hk
    go_enter Tryd.func42, Tryd.ntmps42
    go_wp2_with fail
    with_reducible refine Calls.mono CA.out ?_
    rintro e w1 ⟨⟨v, t, p, rfl⟩, b1⟩
    go_wp2
    go_ret2
    exact ⟨by rw [HV.out]; rfl, b1⟩

/-- What strings.Cut gives at a separator of one byte. -/
def cutW (s : List UInt8) (c : UInt8) : List UInt8 × List UInt8 × Bool :=
  if 0 ≤ Lib.indexByte s c then (s.take (Lib.indexByte s c).toNat, s.drop ((Lib.indexByte s c).toNat + 1), true) else (s, [], false)
theorem index_lt : ∀ (s : List UInt8) (c : UInt8), Lib.indexByte s c < s.length
  | [], c => by simp [Lib.indexByte]
  | b :: l, c => by
    have := index_lt l c
    simp only [Lib.indexByte]
    split
    · simp
    · split
      · simp; omega
      · simp; omega
theorem index_any (s : List UInt8) (c : UInt8) (w : World) :
    Calls Tryd.prog 48 #[encStr s, encStr [c]] w fun e w' => e = .returned (.int .i64 (Lib.indexByte s c)) ∧ w = w' := by
  refine (sh_stringslite_Index_one ⟨s.toArray⟩ c w).mono ?_
  rintro e w' ⟨rfl, rfl⟩
  exact ⟨by simp, rfl⟩

set_option maxRecDepth 100000 in
set_option maxHeartbeats 1600000 in
theorem cutLite_any (s : List UInt8) (c : UInt8) (w : World) (hs : s.length ≤ 281474976710000) :
    Calls Tryd.prog 41 #[encStr s, encStr [c]] w fun e w' => e = .returned (.tuple #[encStr (cutW s c).1, encStr (cutW s c).2.1, .bool (cutW s c).2.2]) ∧ Below w.heap.size w w' := by
  have CI := hid (index_any s c w)
  have hlt := index_lt s c
  have hge := Lib.indexByte_ge s c
  have hsz : (⟨s.toArray⟩ : ByteArray).size = s.length := by show s.toArray.size = _; simp
  by_cases h0 : 0 ≤ Lib.indexByte s c
  · obtain ⟨i, hi⟩ : ∃ i : Nat, Lib.indexByte s c = i := Int.eq_ofNat_of_zero_le h0
    have HV := hid (show cutW s c = (s.take i, s.drop (i + 1), true) from by unfold cutW; rw [if_pos h0, hi]; rfl)
    rw [hi] at CI hlt
    have hil : i < s.length := by omega
    have q0 : (0 : Int) ≤ (i : Int) := by omega
    have q1 : (i : Int) ≤ (s.length : Int) := by omega
    have q2 : (i : Int) + 1 ≤ (s.length : Int) := by omega
    have q3 : (0 : Int) ≤ (i : Int) + 1 := by omega
    have wi : IntKind.i64.wrap ((i : Int) + 1) = (i : Int) + 1 := IntWalk.i64_in _ (by omega)
    clear hi h0 hge
    go_enter Tryd.func41, Tryd.ntmps41
    go_wp2_with fail
    with_reducible refine Calls.mono CI.out ?_
    rintro e w1 ⟨rfl, rfl⟩
    go_wp2
    go_quiet (fail)
    go_wp2
    go_ret3
    refine ⟨?_, below_drewN (Below.refl _ _) _⟩
    rw [HV.out]
    simp only [extract_sub]
    rw [show sub s 0 i = s.take i from rfl, show sub s (i + 1) s.length = s.drop (i + 1) from by simp [sub]]
    rfl
  · have HV := hid (show cutW s c = (s, [], false) from by unfold cutW; rw [if_neg h0])
    have hm1 : Lib.indexByte s c = -1 := by omega
    rw [hm1] at CI
    clear h0 hge hlt hm1
    go_enter Tryd.func41, Tryd.ntmps41
    go_wp2_with fail
    with_reducible refine Calls.mono CI.out ?_
    rintro e w1 ⟨rfl, rfl⟩
    go_wp2
    go_ret3
    exact ⟨by rw [HV.out]; rfl, Below.refl _ _⟩

set_option maxHeartbeats 800000 in
theorem strCut_any (s : List UInt8) (c : UInt8) (w : World) (hs : s.length ≤ 281474976710000) :
    Calls Tryd.prog 26 #[encStr s, encStr [c]] w fun e w' => e = .returned (.tuple #[encStr (cutW s c).1, encStr (cutW s c).2.1, .bool (cutW s c).2.2]) ∧ Below w.heap.size w w' := by
  have CI := hid (cutLite_any s c w hs)
  go_enter Tryd.func26, Tryd.ntmps26
  go_wp2_with fail
  with_reducible refine Calls.mono CI.out ?_
  rintro e w1 ⟨rfl, b1⟩
  go_wp2
  go_ret3
  exact ⟨rfl, b1⟩

/-- The digits of numbers that are not negative, each for itself; and with a text between each two. -/
def numT (l : List Int) : List (List UInt8) := l.map fun x => numB x.toNat
def joinB (l : List Int) (sep : List UInt8) : List UInt8 := Lib.join (numT l) sep
theorem join_len (sep : List UInt8) (K : Nat) : ∀ xs : List (List UInt8), (∀ x ∈ xs, x.length ≤ K) → (Lib.join xs sep).length ≤ xs.length * (K + sep.length)
  | [], _ => by simp [Lib.join]
  | [x], h => by
    have := h x (by simp)
    simp [Lib.join, List.intercalate]
    omega
  | x :: y :: r, h => by
    have h1 := h x (by simp)
    have h2 := join_len sep K (y :: r) (fun z hz => h z (by simp [hz]))
    have e : Lib.join (x :: y :: r) sep = x ++ (sep ++ Lib.join (y :: r) sep) := by
      simp [Lib.join, List.intercalate]
    rw [e, List.length_append, List.length_append]
    have e2 : (x :: y :: r).length * (K + sep.length) = (y :: r).length * (K + sep.length) + (K + sep.length) := by
      rw [List.length_cons, Nat.add_mul, Nat.one_mul]
    rw [e2]
    omega

end Go.Proofs.YtkejcajboneniabDoor
