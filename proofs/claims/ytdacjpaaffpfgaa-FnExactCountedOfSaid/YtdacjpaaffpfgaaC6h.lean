/-
  Walks of the program's hasBoth, CounterOk, newCounter, CounterOf, a tick (Counter.ticked), TickOf. No statement is proved here.
-/
import Derived.Test.YtdacjpaaffpfgaaC6r
import Derived.Test.YtdacjpaaffpfgaaSb
namespace Go.Proofs.Ytdacjpaaffpfgaa
open Go.RowKit
set_option linter.unusedVariables false
set_option linter.unusedSimpArgs false

theorem grown_refl (w : World) : w.grownBy w none := ⟨rfl, rfl, rfl, Nat.le_refl _, fun _ _ _ => rfl⟩
def bothB (p : Int × Int) : Bool := (p.1 != 0) && (p.2 != 0)
theorem okB_parts : ∀ (D C : List Int), C.length = D.length → (D.zip C).all okB = (allIn D 0 1 && (allIn C 0 1 && !(D.zip C).any bothB))
  | [], [], _ => by simp [allIn]
  | x :: D, y :: C, h => by
    have ih := okB_parts D C (by simpa using h)
    simp only [List.zip_cons_cons, List.all_cons, List.any_cons, ih, allIn, okB, bothB, within]
    by_cases hx : 0 ≤ x ∧ x ≤ 1 <;> by_cases hy : 0 ≤ y ∧ y ≤ 1
    · have : (!decide (x + y = 2)) = !((x != 0) && (y != 0)) := by
        rcases (show x = 0 ∨ x = 1 by omega) with rfl | rfl <;> rcases (show y = 0 ∨ y = 1 by omega) with rfl | rfl <;> decide
      simp only [hx, hy, and_self, decide_true, Bool.true_and, this, Bool.not_or]
      cases (!((x != 0) && (y != 0))) <;> simp
    · simp [hx, hy]
    · simp [hx, hy]
    · simp [hx, hy]
theorem any_take_snoc {α : Type} (p : α → Bool) (l : List α) {k : Nat} (h : k < l.length) : (l.take (k + 1)).any p = ((l.take k).any p || p l[k]) := by
  rw [List.take_succ_eq_append_getElem h, List.any_append]; simp
theorem any_take_true {α : Type} {p : α → Bool} {l : List α} {k : Nat} (h : (l.take k).any p = true) : l.any p = true := by
  rw [List.any_eq_true] at h ⊢
  obtain ⟨x, hx, hp⟩ := h
  exact ⟨x, List.mem_of_mem_take hx, hp⟩

set_option maxRecDepth 100000 in
set_option maxHeartbeats 1600000 in
theorem hasBoth_any (A : Option Addr) (n c : Nat) (A2 : Option Addr) (c2 : Nat) (D C : List Int) (w : World) (h1 : Sl w w.heap.size A n D) (h2 : Sl w w.heap.size A2 n C) (hn : 1 ≤ n) :
    Calls Try.prog 47 #[ctr A n c A2 n c2] w fun e w' => e = .returned (.bool ((D.zip C).any bothB)) ∧ w.grownBy w' none := by
  have hm1 := h1.max
  have HD := hid h1.len
  have HC := hid h2.len
  have hg0 := grown_alloc w (.cells #[.slice A n c, .slice A2 n c2] 25) none
  have c0 : (w.alloc (.cells #[.slice A n c, .slice A2 n c2] 25)).cell? ⟨w.heap.size, 0, none⟩ = some (.slice A n c) := by simp
  have c1 : (w.alloc (.cells #[.slice A n c, .slice A2 n c2] 25)).cell? ⟨w.heap.size, 1, none⟩ = some (.slice A2 n c2) := by simp
  replace h1 := h1.on (below_grown hg0)
  replace h2 := h2.on (below_grown hg0)
  have HZ := hid (show (D.zip C).length = n from by rw [List.length_zip, HD.out, HC.out]; omega)
  have HA := hid (fun (k : Nat) (hk : k < (D.zip C).length) => show (D.zip C)[k] = (nth D k, nth C k) from by
    rw [List.getElem_zip, nth_lt (by rw [HD.out]; have := HZ.out; omega), nth_lt (by rw [HC.out]; have := HZ.out; omega)])
  obtain ⟨b1, o1, rfl, _, hc1⟩ := h1.2.2 (by omega)
  obtain ⟨b2, o2, rfl, _, hc2⟩ := h2.2.2 (by omega)
  have H1 := hid hc1
  have H2 := hid hc2
  have HG := hid hg0
  clear hc1 hc2 h1 h2 hg0
  go_enter Try.func47, Try.ntmps47
  go_wp2_with fail
  obtain ⟨w0, e0⟩ : ∃ W, w.alloc (.cells #[.slice (some ⟨b1, o1, none⟩) n c, .slice (some ⟨b2, o2, none⟩) n c2] 25) = W := ⟨_, rfl⟩
  rw [e0] at HG c0 c1 H1 H2 ⊢
  clear e0
  go_loop [8] (fun i => ∃ k : Nat, i = .int .i64 k ∧ k ≤ n ∧ Hid (((D.zip C).take k).any bothB = false)) (fun i => n - (intOf i).toNat)
  case atStart => exact ⟨0, rfl, Nat.zero_le _, hid rfl⟩
  case round =>
    obtain ⟨k, rfl, hk, HP⟩ := hrel
    by_cases hlt : k < n
    · have hx := H1.out k hlt
      have hy := H2.out k hlt
      have hs := any_take_snoc bothB (D.zip C) (k := k) (by rw [HZ.out]; exact hlt)
      rw [HA.out k (by rw [HZ.out]; exact hlt), HP.out, Bool.false_or] at hs
      obtain ⟨x, hxe⟩ : ∃ x, nth D k = x := ⟨_, rfl⟩
      obtain ⟨y, hye⟩ : ∃ y, nth C k = y := ⟨_, rfl⟩
      rw [hxe] at hx hs
      rw [hye] at hy hs
      clear hxe hye
      have q1 : (k : Int) < (n : Int) := by omega
      by_cases hx0 : x = 0
      · have HN := hid (show ((D.zip C).take (k + 1)).any bothB = false from by rw [hs]; simp [bothB, hx0])
        have q2 : (x != 0) = false := by simpa using hx0
        clear hs hx0
        go_wp2
        go_round
        case rel => exact ⟨k + 1, by go_num, by omega, HN⟩
        case measure => simp [intOf]; omega
      · have q2 : (x != 0) = true := by simpa using hx0
        by_cases hy0 : y = 0
        · have HN := hid (show ((D.zip C).take (k + 1)).any bothB = false from by rw [hs]; simp [bothB, hy0])
          have q3 : (y != 0) = false := by simpa using hy0
          clear hs hx0 hy0
          go_wp2
          go_round
          case rel => exact ⟨k + 1, by go_num, by omega, HN⟩
          case measure => simp [intOf]; omega
        · have HF := hid (show (D.zip C).any bothB = true from any_take_true (k := k + 1) (by rw [hs]; simp [bothB, hx0, hy0]))
          have q3 : (y != 0) = true := by simpa using hy0
          clear hs hx0 hy0
          go_wp2
          go_ret
          exact ⟨ret_bool HF.out.symm, HG.out⟩
    · obtain rfl : k = n := by omega
      have HT := hid (show (D.zip C).any bothB = false from by have := HP.out; rwa [List.take_of_length_le (by rw [HZ.out]; omega)] at this)
      go_wp2
      go_ret
      exact ⟨ret_bool HT.out.symm, HG.out⟩

theorem digitsOk_any (s : Int) (w : World) :
    Calls Try.prog 45 #[.int .i64 s] w fun e w' => e = .returned (.bool (within s 1 8)) ∧ w = w' := by
  by_cases h1 : 1 ≤ s
  · go_enter Try.func45, Try.ntmps45
    go_wp2
    go_ret
    exact ⟨ret_bool (by simp [within, h1]), rfl⟩
  · have h1' : decide (1 ≤ s) = false := by simpa using h1
    go_enter Try.func45, Try.ntmps45
    go_wp2
    go_ret
    exact ⟨ret_bool (by simp [within]; omega), rfl⟩

set_option maxRecDepth 100000 in
set_option maxHeartbeats 1600000 in
theorem counterI_any (A : Option Addr) (n c : Nat) (A2 : Option Addr) (n2 c2 : Nat) (D C : List Int) (w : World) (h1 : Sl w w.heap.size A n D) (h2 : Sl w w.heap.size A2 n2 C) :
    Calls Try.prog 16 #[ctr A n c A2 n2 c2] w fun e w' => e = .returned (.bool (ctrOk D C)) ∧ w.grownBy w' none := by
  have hm1 := h1.max
  have hm2 := h2.max
  have HD := hid h1.len
  have HC := hid h2.len
  have hg0 := grown_alloc w (.cells #[.slice A n c, .slice A2 n2 c2] 25) none
  have c0 : (w.alloc (.cells #[.slice A n c, .slice A2 n2 c2] 25)).cell? ⟨w.heap.size, 0, none⟩ = some (.slice A n c) := by simp
  have c1 : (w.alloc (.cells #[.slice A n c, .slice A2 n2 c2] 25)).cell? ⟨w.heap.size, 1, none⟩ = some (.slice A2 n2 c2) := by simp
  have s1 := h1.below (below_grown hg0)
  have s2 := h2.below (below_grown hg0)
  replace h1 := h1.on (below_grown hg0)
  replace h2 := h2.on (below_grown hg0)
  by_cases hn : within (n : Int) 1 8 = true
  · have hn8 := within_iff.1 hn
    by_cases hnn : n2 = n
    · subst hnn
      have HV := hid (show ctrOk D C = (allIn D 0 1 && (allIn C 0 1 && !(D.zip C).any bothB)) from by
        unfold ctrOk; rw [HD.out, HC.out, hn, okB_parts D C (by rw [HC.out, HD.out])]; simp)
      have HH := hid (hasBoth_any A n2 c A2 c2 D C _ h1 h2 (by omega))
      have WD := hid (allWithin_any A n2 c D 0 1 _ _ s1)
      have WC := hid (allWithin_any A2 n2 c2 C 0 1 _ _ s2)
      have HG := hid hg0
      have e1 : ((n2 : Int) != (n2 : Int)) = false := by simp
      clear h1 h2 s1 s2 hg0 HD HC
      obtain ⟨u, hu⟩ : ∃ u, allIn D 0 1 = u := ⟨_, rfl⟩
      obtain ⟨v, hv⟩ : ∃ v, allIn C 0 1 = v := ⟨_, rfl⟩
      obtain ⟨z, hz⟩ : ∃ z, (D.zip C).any bothB = z := ⟨_, rfl⟩
      rw [hu] at HV WD
      rw [hv] at HV WC
      rw [hz] at HV HH
      clear hu hv hz
      cases u
      · go_enter Try.func16, Try.ntmps16
        go_wp2_with (first
          | (go_at_call 45; refine (digitsOk_any _ _).mono ?_; rintro e w' ⟨rfl, rfl⟩)
          | (go_at_call 46; with_reducible refine Calls.mono WD.out ?_; rintro e w' ⟨rfl, rfl⟩))
        go_ret
        exact ⟨ret_bool (by rw [HV.out]; rfl), HG.out⟩
      cases v
      · go_enter Try.func16, Try.ntmps16
        go_wp2_with (first
          | (go_at_call 45; refine (digitsOk_any _ _).mono ?_; rintro e w' ⟨rfl, rfl⟩)
          | (go_at_call 46; with_reducible refine Calls.mono WD.out ?_; rintro e w' ⟨rfl, rfl⟩)
          | (go_at_call 46; with_reducible refine Calls.mono WC.out ?_; rintro e w' ⟨rfl, rfl⟩))
        go_ret
        exact ⟨ret_bool (by rw [HV.out]; rfl), HG.out⟩
      · go_enter Try.func16, Try.ntmps16
        go_wp2_with (first
          | (go_at_call 45; refine (digitsOk_any _ _).mono ?_; rintro e w' ⟨rfl, rfl⟩)
          | (go_at_call 46; with_reducible refine Calls.mono WD.out ?_; rintro e w' ⟨rfl, rfl⟩)
          | (go_at_call 46; with_reducible refine Calls.mono WC.out ?_; rintro e w' ⟨rfl, rfl⟩)
          | (go_at_call 47; with_reducible refine Calls.mono HH.out ?_; rintro e w' ⟨rfl, gh⟩))
        go_ret
        exact ⟨ret_bool (by rw [HV.out]; rfl), HG.out.trans gh⟩
    · have HV := hid (show ctrOk D C = false from by unfold ctrOk; rw [HD.out, HC.out]; simp [hnn])
      have e1 : ((n2 : Int) != (n : Int)) = true := by simp; omega
      go_enter Try.func16, Try.ntmps16
      go_wp2_with (go_at_call 45; refine (digitsOk_any _ _).mono ?_; rintro e w' ⟨rfl, rfl⟩)
      go_ret
      exact ⟨ret_bool HV.out.symm, hg0⟩
  · have hn' : within (n : Int) 1 8 = false := by simpa using hn
    have HV := hid (show ctrOk D C = false from by unfold ctrOk; rw [HD.out, hn']; rfl)
    go_enter Try.func16, Try.ntmps16
    go_wp2_with (go_at_call 45; refine (digitsOk_any _ _).mono ?_; rintro e w' ⟨rfl, rfl⟩)
    go_ret
    exact ⟨ret_bool HV.out.symm, hg0⟩

theorem implCounterOk_any (A : Option Addr) (n c : Nat) (A2 : Option Addr) (n2 c2 : Nat) (D C : List Int) (w : World) (h1 : Sl w w.heap.size A n D) (h2 : Sl w w.heap.size A2 n2 C) :
    Calls Try.prog 16 #[ctr A n c A2 n2 c2] w fun e w' => e = .returned (.bool (ctrOk D C)) ∧ Below w.heap.size w w' :=
  (counterI_any A n c A2 n2 c2 D C w h1 h2).mono fun _ _ h => ⟨h.1, below_grown h.2⟩
end Go.Proofs.Ytdacjpaaffpfgaa
