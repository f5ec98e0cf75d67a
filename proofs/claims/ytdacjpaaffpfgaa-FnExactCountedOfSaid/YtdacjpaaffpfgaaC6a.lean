/-
  The walk of the model's ToldBy. No statement is proved here.
-/
import Derived.Test.YtdacjpaaffpfgaaC6
namespace Go.Proofs.Ytdacjpaaffpfgaa
open Go.RowKit
set_option linter.unusedVariables false
set_option linter.unusedSimpArgs false

/-- What ToldBy tells. -/
def toldC (D C : List Int) : Int := if ctrOk D C = true then toldL (D.zip C) else -1
theorem pow_le8 {k : Nat} (h : k ≤ 8) : (1 : Int) ≤ 2 ^ k ∧ (2 : Int) ^ k ≤ 256 := by
  rcases (show k = 0 ∨ k = 1 ∨ k = 2 ∨ k = 3 ∨ k = 4 ∨ k = 5 ∨ k = 6 ∨ k = 7 ∨ k = 8 by omega) with rfl | rfl | rfl | rfl | rfl | rfl | rfl | rfl | rfl <;> decide
theorem bit_pow {x : Int} {k : Nat} (hx : x = 0 ∨ x = 1) (h : k ≤ 8) : 0 ≤ x * 2 ^ k ∧ x * 2 ^ k ≤ 256 := by
  have := pow_le8 h
  rcases hx with rfl | rfl <;> simp <;> omega

set_option maxRecDepth 100000 in
set_option maxHeartbeats 3200000 in
theorem specToldBy_any (A : Option Addr) (n c : Nat) (A2 : Option Addr) (n2 c2 : Nat) (D C : List Int) (w : World) (h1 : Sl w w.heap.size A n D) (h2 : Sl w w.heap.size A2 n2 C) :
    Calls Try.prog 28 #[ctr A n c A2 n2 c2] w fun e w' => e = .returned (.int .i64 (toldC D C)) ∧ w.grownBy w' none := by
  have HD := hid h1.len
  have HC := hid h2.len
  have hg0 := grown_alloc w (.cells #[.slice A n c, .slice A2 n2 c2] 25) none
  have c0 : (w.alloc (.cells #[.slice A n c, .slice A2 n2 c2] 25)).cell? ⟨w.heap.size, 0, none⟩ = some (.slice A n c) := by simp
  have c1 : (w.alloc (.cells #[.slice A n c, .slice A2 n2 c2] 25)).cell? ⟨w.heap.size, 1, none⟩ = some (.slice A2 n2 c2) := by simp
  replace h1 := h1.on (below_grown hg0)
  replace h2 := h2.on (below_grown hg0)
  have CK := hid (specCounterOk_any A n c A2 n2 c2 D C _ h1 h2)
  cases hok : ctrOk D C with
  | false =>
    have HV := hid (show toldC D C = -1 from by unfold toldC; rw [hok]; rfl)
    rw [hok] at CK
    clear hok
    go_enter Try.func28, Try.ntmps28
    go_wp2_with fail
    with_reducible refine Calls.mono CK.out ?_
    rintro e w1 ⟨rfl, g1⟩
    have HG := hid (hg0.trans g1)
    clear g1 hg0 c0 c1 h1 h2
    go_wp2
    go_ret
    exact ⟨ret_int HV.out.symm, HG.out⟩
  | true =>
    obtain ⟨hn, hnn, hol⟩ := ctrOk_iff.1 hok
    rw [HD.out] at hn
    rw [HD.out, HC.out] at hnn
    subst hnn
    have HV := hid (show toldC D C = toldL (D.zip C) from by unfold toldC; rw [hok]; rfl)
    rw [hok] at CK
    have HZ := hid (show (D.zip C).length = n2 from by rw [List.length_zip, HD.out, HC.out]; omega)
    have HA := hid (fun (k : Nat) (hk : k < (D.zip C).length) => show (D.zip C)[k] = (nth D k, nth C k) from by
      rw [List.getElem_zip, nth_lt (by rw [HD.out]; have := HZ.out; omega), nth_lt (by rw [HC.out]; have := HZ.out; omega)])
    have HO := hid hol
    clear hok hol
    go_enter Try.func28, Try.ntmps28
    go_wp2_with fail
    with_reducible refine Calls.mono CK.out ?_
    rintro e w1 ⟨rfl, g1⟩
    replace h1 := h1.on (below_grown g1)
    replace h2 := h2.on (below_grown g1)
    replace c0 := g1.cell c0 (by simp)
    replace c1 := g1.cell c1 (by simp)
    have HG := hid (hg0.trans g1)
    clear g1 hg0 CK
    obtain ⟨b1, o1, rfl, _, hc1⟩ := h1.2.2 (by omega)
    obtain ⟨b2, o2, rfl, _, hc2⟩ := h2.2.2 (by omega)
    have H1 := hid hc1
    have H2 := hid hc2
    clear hc1 hc2 h1 h2
    go_wp2_with fail
    go_loopw [3, 4] (fun t i wr => ∃ k m : Nat, t = .int .i64 (toldL ((D.zip C).take k)) ∧ i = .int .i64 k ∧ k ≤ n2 ∧ wr = w1.drewN m) (fun _ i _ => n2 - (intOf i).toNat)
    case atStart => exact ⟨0, 0, rfl, rfl, Nat.zero_le _, rfl⟩
    case round =>
      obtain ⟨k, m, rfl, rfl, hk, rfl⟩ := hrel
      by_cases hlt : k < n2
      · have hx := H1.out k hlt
        have hy := H2.out k hlt
        have hkz : k < (D.zip C).length := by rw [HZ.out]; exact hlt
        have ht : (D.zip C).take (k + 1) = (D.zip C).take k ++ [(nth D k, nth C k)] := by rw [List.take_succ_eq_append_getElem hkz, HA.out k hkz]
        have hp : okP (nth D k, nth C k) := by rw [← HA.out k hkz]; exact HO.out _ (List.getElem_mem _)
        have hb := told_bd (l := (D.zip C).take k) (fun p hp => HO.out p (List.mem_of_mem_take hp))
        have hl : ((D.zip C).take k).length = k := by rw [List.length_take]; omega
        have hs := told_snoc ((D.zip C).take k) (nth D k) (nth C k)
        rw [← ht, hl] at hs
        rw [hl] at hb
        obtain ⟨x, hxe⟩ : ∃ x, nth D k = x := ⟨_, rfl⟩
        obtain ⟨y, hye⟩ : ∃ y, nth C k = y := ⟨_, rfl⟩
        rw [hxe] at hx hs hp
        rw [hye] at hy hs hp
        simp only [okP] at hp
        have x1 := bit_pow hp.1 (show k ≤ 8 by omega)
        have y1 := bit_pow hp.2.1 (show k + 1 ≤ 8 by omega)
        have hpk := pow_le8 (show k ≤ 8 by omega)
        obtain ⟨X, hX⟩ : ∃ X, x * 2 ^ k = X := ⟨_, rfl⟩
        obtain ⟨Y, hY⟩ : ∃ Y, y * 2 ^ (k + 1) = Y := ⟨_, rfl⟩
        obtain ⟨T, hT⟩ : ∃ T, toldL ((D.zip C).take k) = T := ⟨_, rfl⟩
        rw [hX] at x1 hs
        rw [hY] at y1 hs
        rw [hT] at hb hs ⊢
        have HS := hid hs
        have e1 : IntKind.i64.wrap ((k : Int) + 1) = (k : Int) + 1 := IntWalk.i64_in _ (by omega)
        have e2 : IntKind.i64.wrap X = X := IntWalk.i64_in _ (by omega)
        have e3 : IntKind.i64.wrap Y = Y := IntWalk.i64_in _ (by omega)
        have e4 : IntKind.i64.wrap (T + X) = T + X := IntWalk.i64_in _ (by omega)
        have e5 : IntKind.i64.wrap (T + X + Y) = T + X + Y := IntWalk.i64_in _ (by omega)
        have e6 : ((k : Int) + 1).toNat = k + 1 := by omega
        have e7 : (0 : Int) ≤ (k : Int) + 1 := by omega
        have e8 : (k : Int) + 1 ≤ 64 := by omega
        have e9 : (k : Int) ≤ 64 := by omega
        have q1 : (k : Int) < (n2 : Int) := by omega
        clear hs ht hl hkz hxe hye hT hp hb hpk
        go_wp2
        go_quiet (fail)
        go_wp2
        go_roundw
        case rel => exact ⟨k + 1, _, by rw [HS.out]; go_num, by go_num, by omega, rfl⟩
        case measure => simp [intOf]; omega
      · obtain rfl : k = n2 := by omega
        have HT := hid (show (D.zip C).take k = D.zip C from List.take_of_length_le (by rw [HZ.out]; omega))
        rw [HT.out]
        go_wp2
        go_ret
        exact ⟨ret_int HV.out.symm, HG.out.trans (drewN_grown _ _)⟩
end Go.Proofs.Ytdacjpaaffpfgaa
