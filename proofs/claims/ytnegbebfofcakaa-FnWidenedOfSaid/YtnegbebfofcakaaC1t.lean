/-
  Walks of chapter 1's TurnedRule, of the program and of the model, and of the rule table. No statement is proved here.
-/
import Derived.Test.YtnegbebfofcakaaC1b
import Derived.Test.YtnegbebfofcakaaDr1
namespace Go.Proofs.Ytnegbebfofcakaa
open Go.RowKit
set_option linter.unusedVariables false
set_option linter.unusedSimpArgs false

/-- The rule with left and right exchanged. -/
def turnedL (l : List Int) (S : Nat) : List Int := (List.range (S * S * S)).map fun k => nth l ((k % S) * S * S + (k / S % S) * S + k / S / S)
theorem turnedL_len (l : List Int) (S : Nat) : (turnedL l S).length = S * S * S := by simp [turnedL]
theorem nth_turnedL {l : List Int} {S k : Nat} (h : k < S * S * S) : nth (turnedL l S) k = nth l ((k % S) * S * S + (k / S % S) * S + k / S / S) := by
  simp [turnedL, nth, List.getD, h]
theorem place3 {S a b c : Nat} (h1 : 1 ≤ S) (h4 : S ≤ 4) (ha : a < S) (hb : b < S) (hc : c < S) :
    (a * S + b) * S + c < S * S * S ∧ ((a * S + b) * S + c) % S = c ∧ ((a * S + b) * S + c) / S % S = b ∧ ((a * S + b) * S + c) / S / S = a ∧
      c * S * S + b * S + a = (c * S + b) * S + a := by
  have : S = 1 ∨ S = 2 ∨ S = 3 ∨ S = 4 := by omega
  rcases this with rfl | rfl | rfl | rfl <;> omega
theorem nth_turnedL3 {l : List Int} {S a b c : Nat} (h1 : 1 ≤ S) (h4 : S ≤ 4) (ha : a < S) (hb : b < S) (hc : c < S) : nth (turnedL l S) ((a * S + b) * S + c) = nth l ((c * S + b) * S + a) := by
  obtain ⟨p1, p2, p3, p4, p5⟩ := place3 h1 h4 ha hb hc
  rw [nth_turnedL p1, p2, p3, p4, p5]

set_option maxHeartbeats 800000 in
/-- A rule table tells the state at its place. -/
theorem tells_any (A : Option Addr) (n c : Nat) (l : List Int) (s a b d : Int) (k B : Nat) (w : World) (hs : Sl w B A n l) (hB : B ≤ w.heap.size)
    (hk : (a * s + b) * s + d = (k : Int)) (hkn : k < n) (m1 : 0 ≤ a * s) (m2 : a * s ≤ 1000) (m3 : 0 ≤ (a * s + b) * s) (m4 : (a * s + b) * s ≤ 1000) (b1 : 0 ≤ b) (b2 : b ≤ 1000) (d1 : 0 ≤ d) (d2 : d ≤ 1000) :
    Calls Try.prog 46 #[.agg #[.slice A n c, .int .i64 s], .int .i64 a, .int .i64 b, .int .i64 d] w fun e w' => e = .returned (.int .i64 (nth l k)) ∧ w.grownBy w' none := by
  have hm := hs.max
  obtain ⟨bl, off, rfl, hbl, hc⟩ := hs.2.2 (by omega)
  have hck := hc k hkn
  have hck2 : (w.alloc (.cells #[.slice (some ⟨bl, off, none⟩) n c, .int .i64 s] 53)).cell? ⟨bl, off + k, none⟩ = some (.int .i64 (nth l k)) := (World.cell?_alloc_lt w _ _ (by simp; omega)).trans hck
  have hlt : (k : Int) < (n : Int) := by omega
  clear hc
  go_enter Try.func46, Try.ntmps46
  go_wp2
  go_ret
  exact ⟨rfl, grown_alloc _ _ _⟩

theorem prod_bounds {S a b c : Nat} (h4 : S ≤ 4) (ha : a < S) (hb : b < S) (hc : c < S) :
    0 ≤ (a : Int) * (S : Int) ∧ (a : Int) * (S : Int) ≤ 1000 ∧ 0 ≤ ((a : Int) * (S : Int) + b) * (S : Int) ∧ ((a : Int) * (S : Int) + b) * (S : Int) ≤ 1000 ∧
      ((a : Int) * (S : Int) + b) * (S : Int) + c = (((a * S + b) * S + c : Nat) : Int) ∧ a ≤ 1000 ∧ b ≤ 1000 ∧ c ≤ 1000 := by
  have : S = 1 ∨ S = 2 ∨ S = 3 ∨ S = 4 := by omega
  rcases this with rfl | rfl | rfl | rfl <;> omega

theorem own_blk {w : World} {B n : Nat} {A : Option Addr} {c : Nat} {e : TypeId} {xs : List Value} (h : w.ownsRow B e 1 (.slice A n c) n xs) :
    (Value.slice A n c).ownBlock = none ∨ ∃ k, (Value.slice A n c).ownBlock = some k ∧ B ≤ k := by
  rcases hb : (Value.slice A n c).ownBlock with _ | k
  · exact .inl rfl
  · exact .inr ⟨k, rfl, (h.lt k hb).1⟩

/-- One element more, the new cell in a block of its own: all in one. -/
theorem own_kept_none {w w' : World} {B n : Nat} {v : Value} {e : TypeId} {xs : List Value} (h : w.ownsRow B e 1 v n xs) (hg : w.grownBy w' none) : w'.ownsRow B e 1 v n xs := by
  refine h.kept hg ?_
  rcases v.ownBlock with _ | k
  · exact .inl rfl
  · exact .inr (by simp)

/-- 'pushedB' over whatever bound. -/
theorem pushedC {w w1 w2 : World} {B i : Nat} {l : List Int} {x : Int} {v v2 : Value} (hg : Below B w w1) (hB1 : B ≤ w1.heap.size)
    (hv : v.ownBlock = none ∨ ∃ k, v.ownBlock = some k ∧ B ≤ k)
    (h2 : w2.ownsRow B 3 1 v2 (i + 1) (ints l ++ [.int .i64 x])) (hg2 : (w1.alloc (.cells #[.int .i64 x] 3)).grownBy w2 v.ownBlock) :
    ∃ A c, v2 = .slice A (i + 1) c ∧ w2.ownsRow B 3 1 (.slice A (i + 1) c) (i + 1) (ints (l ++ [x])) ∧ Below B w w2 := by
  obtain ⟨g2, c2, rfl, _, _⟩ := own_shape h2
  refine ⟨_, _, rfl, by simpa [ints] using h2, (hg.alloc hB1 _).grown hg2 (by simp; omega) ?_⟩
  intro k hk
  rcases hv with hv | ⟨k', hv, hk'⟩
  · rw [hv] at hk; cases hk
  · rw [hv] at hk; cases hk; omega

set_option maxHeartbeats 3200000 in
theorem turnedRule_yes (A : Option Addr) (n c : Nat) (l : List Int) (S : Nat) (w : World) (hs : Sl w w.heap.size A n l) (hok : ruleOk l S = true) :
    Calls Try.prog 24 #[.slice A n c, .int .i64 S] w fun e w' => ∃ A2 c2, e = .returned (.slice A2 n c2) ∧ w'.ownsRow w.heap.size 3 1 (.slice A2 n c2) n (ints (turnedL l S)) ∧ Below w.heap.size w w' := by
  obtain ⟨i0, hi, hz0, hz1, hz2⟩ := info_parts info_int
  have hok2 := hok
  simp only [ruleOk, Bool.and_eq_true, decide_eq_true_eq, within] at hok2
  obtain ⟨⟨h1, h4⟩, hN, _, _⟩ := hok2
  have h1 : 1 ≤ S := by omega
  have h4 : S ≤ 4 := by omega
  have hn : n = S * S * S := by
    have e1 := hs.len
    have : ((S * S * S : Nat) : Int) = (S : Int) * S * S := by simp
    omega
  have hn64 : n ≤ 64 := by
    have : S = 1 ∨ S = 2 ∨ S = 3 ∨ S = 4 := by omega
    rw [hn]
    rcases this with rfl | rfl | rfl | rfl <;> decide
  have HN := hid hn; clear hn hN
  go_enter Try.func24, Try.ntmps24
  go_wp2_with fail
  refine (ruleOk_any _ _ _ l _ _ _ hs).mono ?_
  rintro e w' ⟨rfl, rfl⟩
  go_wp2_with (refine wpList_make_own _ rfl (.const (.int .i64 0)) (.tmp 18) 23 rfl (w.heap.size + 1) 3 i0 _ 1 Try.underlying23 hi hz0 hz1 .i64 .i64 n n rfl rfl rfl (by rw [hz2]; omega) (by simp only [maxLen]; omega) (by simp) ?_; intro w1 hown1 hg1)
  have hsz : w.heap.size + 1 ≤ w1.heap.size := by have := hg1.size; simpa using this
  have hbox : w1.heap[w.heap.size]? = some (.cells #[.slice A n c, .int .i64 S] 53 (0, 0)) := (hg1.block _ (by simp) (by simp)).trans (heap_alloc_new w _)
  have hbw : Below w.heap.size w w1 := ((Below.refl _ _).alloc (Nat.le_refl _) _).grown hg1 (by simp) (by simp)
  have hs1 := hs.on hbw
  clear hg1
  have hown1' : w1.ownsRow (w.heap.size + 1) 3 1 (.slice (some ⟨w.heap.size + 1, 0, none⟩) 0 n) 0 (ints ((turnedL l S).take 0)) := by simpa using hown1
  clear hown1
  go_loopw [6, 21] (fun v i wr => ∃ (A2 : Option Addr) (c2 k a : Nat), v = .slice A2 k c2 ∧ i = .int .i64 a ∧ a ≤ S ∧ k = a * S * S ∧ wr.ownsRow (w.heap.size + 1) 3 1 (.slice A2 k c2) k (ints ((turnedL l S).take k)) ∧ Below (w.heap.size + 1) w1 wr) (fun _ i _ => S - (intOf i).toNat)
  case atStart => exact ⟨_, _, 0, 0, by simp, rfl, Nat.zero_le _, by simp, hown1', Below.refl _ _⟩
  case round =>
    obtain ⟨A2, c2, k, a, rfl, rfl, ha, hk, hown, hb⟩ := hrel
    have HK := hid hk; clear hk
    clear hown1'
    obtain ⟨wo, rfl⟩ : ∃ wo : World, wo = wr := ⟨_, rfl⟩
    by_cases hlt : a < S
    · go_wp2
      go_loopw [6, 25] (fun v i wr => ∃ (A3 : Option Addr) (c3 k b : Nat), v = .slice A3 k c3 ∧ i = .int .i64 b ∧ b ≤ S ∧ k = (a * S + b) * S ∧ wr.ownsRow (w.heap.size + 1) 3 1 (.slice A3 k c3) k (ints ((turnedL l S).take k)) ∧ Below (w.heap.size + 1) w1 wr) (fun _ i _ => S - (intOf i).toNat)
      case atStart => exact ⟨A2, c2, k, 0, rfl, rfl, Nat.zero_le _, by rw [HK.out]; simp, hown, hb⟩
      case round =>
        obtain ⟨A3, c3, k3, b, rfl, rfl, hbS, hk3, hown3, hb3⟩ := hrel
        have HK3 := hid hk3; clear hk3
        clear hown hb
        obtain ⟨wo3, rfl⟩ : ∃ wo : World, wo = wr := ⟨_, rfl⟩
        by_cases hlb : b < S
        · go_wp2
          go_loopw [6, 29] (fun v i wr => ∃ (A4 : Option Addr) (c4 k d : Nat), v = .slice A4 k c4 ∧ i = .int .i64 d ∧ d ≤ S ∧ k = (a * S + b) * S + d ∧ wr.ownsRow (w.heap.size + 1) 3 1 (.slice A4 k c4) k (ints ((turnedL l S).take k)) ∧ Below (w.heap.size + 1) w1 wr) (fun _ i _ => S - (intOf i).toNat)
          case atStart => exact ⟨A3, c3, k3, 0, rfl, rfl, Nat.zero_le _, by rw [HK3.out]; simp, hown3, hb3⟩
          case round =>
            obtain ⟨A4, c4, k4, d, rfl, rfl, hdS, hk4, hown4, hb4⟩ := hrel
            have HK4 := hid hk4; clear hk4
            clear hown3 hb3
            by_cases hld : d < S
            · obtain ⟨p1, _⟩ := place3 h1 h4 hlt hlb hld
              obtain ⟨q1, _⟩ := place3 h1 h4 hld hlb hlt
              obtain ⟨m1, m2, m3, m4, m5, m6, m7, m8⟩ := prod_bounds h4 hld hlb hlt
              have hl4 : wr.heap.size ≥ w1.heap.size := hb4.size
              have hs4 : Sl wr wr.heap.size A n l := hs.on (hbw.trans (hb4.mono (by omega)))
              have hc0 : wr.cell? ⟨w.heap.size, 0, none⟩ = some (.slice A n c) := cell_of_row wr _ 0 _ _ _ ((hb4.block _ (by omega)).trans hbox)
              have hc1 : wr.cell? ⟨w.heap.size, 1, none⟩ = some (.int .i64 S) := cell_of_row wr _ 1 _ _ _ ((hb4.block _ (by omega)).trans hbox)
              have hv := own_blk hown4
              have hkn : (d * S + b) * S + a < n := by rw [HN.out]; exact q1
              have hkk : k4 + 1 ≤ 64 := by rw [HK4.out]; rw [HN.out] at hn64; omega
              go_wp2_with fail
              refine (tells_any A n c l S d b a _ _ _ hs4 (Nat.le_refl _) m5 hkn m1 m2 m3 m4 (by omega) (by omega) (by omega) (by omega)).mono ?_
              rintro e w5 ⟨rfl, hg5⟩
              have hown5 := own_kept_none hown4 hg5
              have hb5 := hb4.grown hg5 (by omega) (by simp)
              have hsz5 := hg5.size
              clear hg5 hown4 hb4 hc0 hc1
              obtain ⟨x, hx⟩ : ∃ x, nth l ((d * S + b) * S + a) = x := ⟨_, rfl⟩
              rw [hx]
              have HX := hid hx; clear hx
              go_wp2_with (at_builtin; refine wpList_append_own _ rfl (.tmp 32) (.tmp 38) 23 rfl (w.heap.size + 1) 3 i0 (.int .i64 0) 1 8 Try.underlying23 hi hz0 hz1 hz2 rfl (by decide) (.slice A4 k4 c4) _ _ rfl (hown5.alloc _) ⟨w5.heap.size, 0, none⟩ 1 1 [.int .i64 x] rfl rfl (cell_one_new _ _ _) (by simp [Value.oneCell']) (by simp only [maxLen]; omega) (by omega) (by simp; omega) ?_; intro v6 w6 hown6 hgrow6 _)
              obtain ⟨A7, c7, rfl, hown7, hb7⟩ := pushedC hb5 (by omega) hv hown6 hgrow6
              have e7 : (turnedL l S).take k4 ++ [x] = (turnedL l S).take (k4 + 1) := by
                rw [take_nth (by rw [turnedL_len]; rw [HK4.out]; exact p1), HK4.out, nth_turnedL3 h1 h4 hlt hlb hld, HX.out]
              rw [e7] at hown7
              have HO := hid hown7
              clear e7 hown7 hown6 hgrow6 hown5 hb5 hv
              go_wp2
              go_roundw
              case rel => exact ⟨A7, c7, k4 + 1, d + 1, rfl, by go_num, by omega, by rw [HK4.out]; omega, HO.out, hb7⟩
              case measure => simp [intOf]; omega
            · obtain rfl : d = S := by omega
              go_wp2
              go_roundw
              case rel => exact ⟨A4, c4, k4, b + 1, rfl, by go_num, by omega, by rw [HK4.out]; simp only [Nat.add_mul, Nat.one_mul]; omega, hown4, hb4⟩
              case measure => simp [intOf]; omega
        · obtain rfl : b = S := by omega
          go_wp2
          go_roundw
          case rel => exact ⟨A3, c3, k3, a + 1, rfl, by go_num, by omega, by rw [HK3.out]; simp only [Nat.add_mul, Nat.one_mul], hown3, hb3⟩
          case measure => simp [intOf]; omega
    · obtain rfl : a = S := by omega
      have ek : k = n := by rw [HK.out, HN.out]
      subst ek
      rw [List.take_of_length_le (by rw [turnedL_len, HN.out]; exact Nat.le_refl _)] at hown
      have HO := hid hown; clear hown
      go_wp2
      go_ret
      exact ⟨A2, c2, rfl, own_mono HO.out (by omega), hbw.trans (hb.mono (by omega))⟩

def turnedOut (l : List Int) (s : Int) : List Int := if ruleOk l s = true then turnedL l s.toNat else []

theorem ruleOk_nat {l : List Int} {s : Int} (h : ruleOk l s = true) : ∃ S : Nat, s = S ∧ 1 ≤ S ∧ S ≤ 4 ∧ l.length = S * S * S ∧ l.length ≤ 64 := by
  simp only [ruleOk, Bool.and_eq_true, decide_eq_true_eq, within] at h
  obtain ⟨⟨h1, h4⟩, hN, _, _⟩ := h
  obtain ⟨S, rfl⟩ := Int.eq_ofNat_of_zero_le (show 0 ≤ s by omega)
  have e : l.length = S * S * S := by
    have : ((S * S * S : Nat) : Int) = (S : Int) * S * S := by simp
    omega
  refine ⟨S, rfl, by omega, by omega, e, ?_⟩
  have : S = 1 ∨ S = 2 ∨ S = 3 ∨ S = 4 := by omega
  rw [e]
  rcases this with rfl | rfl | rfl | rfl <;> decide

set_option maxHeartbeats 800000 in
theorem turnedRule_any (A : Option Addr) (n c : Nat) (l : List Int) (s : Int) (w : World) (hs : Sl w w.heap.size A n l) :
    Calls Try.prog 24 #[.slice A n c, .int .i64 s] w fun e w' => ∃ A2 m c2, e = .returned (.slice A2 m c2) ∧ w'.ownsRow w.heap.size 3 1 (.slice A2 m c2) m (ints (turnedOut l s)) ∧ m ≤ 64 ∧ Below w.heap.size w w' := by
  by_cases hok : ruleOk l s = true
  · obtain ⟨S, rfl, h1, h4, hn, hn2⟩ := ruleOk_nat hok
    refine (turnedRule_yes A n c l S w hs hok).mono ?_
    rintro e w' ⟨A2, c2, rfl, ho, hb⟩
    exact ⟨A2, n, c2, rfl, by rw [turnedOut, if_pos hok]; exact ho, by rw [← hs.len]; exact hn2, hb⟩
  · have hno : ruleOk l s = false := by simpa using hok
    have ht : turnedOut l s = [] := by rw [turnedOut, if_neg hok]
    have HT := hid ht; clear ht hok
    go_enter Try.func24, Try.ntmps24
    go_wp2_with (go_at_call 22; refine (ruleOk_any _ _ _ l _ _ _ hs).mono ?_; rintro e w' ⟨rfl, rfl⟩)
    go_ret
    exact ⟨none, 0, 0, rfl, by rw [HT.out]; exact World.ownsRow_nil _ _ _ _, by omega, Below.refl _ _⟩

/-- The model's places: k is parted into three by S. -/
theorem parts3 {S k : Nat} (h1 : 1 ≤ S) (h4 : S ≤ 4) (hk : k < S * S * S) :
    ∃ r q m t i : Nat, k % S = r ∧ k / S = q ∧ q % S = m ∧ q / S = t ∧ r * S * S + m * S + t = i ∧ i < S * S * S ∧ r ≤ 3 ∧ q ≤ 63 ∧ m ≤ 3 ∧ t ≤ 3 ∧ r * S ≤ 16 ∧ r * S * S ≤ 64 ∧ m * S ≤ 16 := by
  refine ⟨_, _, _, _, _, rfl, rfl, rfl, rfl, rfl, ?_⟩
  have : S = 1 ∨ S = 2 ∨ S = 3 ∨ S = 4 := by omega
  rcases this with rfl | rfl | rfl | rfl <;> omega

set_option maxHeartbeats 1600000 in
theorem specTurnedRule_any (A : Option Addr) (n c : Nat) (l : List Int) (s : Int) (w : World) (hs : Sl w w.heap.size A n l) :
    Calls Try.prog 38 #[.slice A n c, .int .i64 s] w fun e w' => ∃ A2 m c2, e = .returned (.slice A2 m c2) ∧ w'.ownsRow w.heap.size 3 1 (.slice A2 m c2) m (ints (turnedOut l s)) ∧ m ≤ 64 ∧ Below w.heap.size w w' := by
  obtain ⟨i0, hi, hz0, hz1, hz2⟩ := info_parts info_int
  have ho0 : (w.alloc (.cells #[] 3)).ownsRow w.heap.size 3 1 (.slice (some ⟨w.heap.size, 0, none⟩) 0 0) 0 (ints []) := World.ownsRow_lit w #[] 0 (Nat.le_refl _) (by simp [maxLen]) rfl
  have hb0 : Below w.heap.size w (w.alloc (.cells #[] 3)) := (Below.refl _ _).alloc (Nat.le_refl _) _
  have hm := hs.max
  by_cases hok : ruleOk l s = true
  · obtain ⟨S, rfl, h1, h4, hn, hn2⟩ := ruleOk_nat hok
    rw [hs.len] at hn hn2
    have ht : turnedOut l S = turnedL l S := by rw [turnedOut, if_pos hok]; rfl
    have HT := hid ht; clear ht
    have HN := hid hn; clear hn
    go_enter Try.func38, Try.ntmps38
    go_wp2
    go_loopw [5, 6] (fun v i wr => ∃ (A2 : Option Addr) (c2 k : Nat), v = .slice A2 k c2 ∧ i = .int .i64 k ∧ k ≤ n ∧ wr.ownsRow w.heap.size 3 1 (.slice A2 k c2) k (ints ((turnedL l S).take k)) ∧ Below w.heap.size w wr) (fun _ i _ => n - (intOf i).toNat)
    case atStart => exact ⟨_, _, 0, rfl, rfl, Nat.zero_le _, ho0, hb0⟩
    case round =>
      obtain ⟨A2, c2, k, rfl, rfl, hk, hown, hb⟩ := hrel
      clear ho0 hb0
      by_cases hlt : k < n
      · obtain ⟨r, q, m, t, i, e1, e2, e3, e4, e5, hi1, hr, hq, hmm, htt, z1, z2, z3⟩ := parts3 h1 h4 (by rw [← HN.out]; exact hlt)
        have hx : nth (turnedL l S) k = nth l i := by rw [nth_turnedL (by rw [← HN.out]; exact hlt), e1, e2, e3, e4, e5]
        have hin : i < n := by rw [HN.out]; exact hi1
        have hin2 : (i : Int) < (n : Int) := by omega
        have ht := take_nth (l := turnedL l S) (k := k) (by rw [turnedL_len, ← HN.out]; exact hlt)
        rw [hx] at ht
        have HT2 := hid ht; clear ht hx
        have hs4 := hs.on hb
        obtain ⟨bl, off, rfl, hbl, hc⟩ := hs4.2.2 (by omega)
        have hci := hc i hin
        have hv := own_blk hown
        have f1 : (k : Int) % (S : Int) = (r : Int) := by rw [← e1]; rfl
        have f2 : (k : Int) / (S : Int) = (q : Int) := by rw [← e2]; rfl
        have f3 : (q : Int) % (S : Int) = (m : Int) := by rw [← e3]; rfl
        have f4 : (q : Int) / (S : Int) = (t : Int) := by rw [← e4]; rfl
        have y1 : (r : Int) * (S : Int) ≤ 16 := by exact_mod_cast z1
        have y2 : (r : Int) * (S : Int) * (S : Int) ≤ 64 := by exact_mod_cast z2
        have y3 : (m : Int) * (S : Int) ≤ 16 := by exact_mod_cast z3
        have x1 : 0 ≤ (r : Int) * (S : Int) := by exact_mod_cast Nat.zero_le _
        have x2 : 0 ≤ (r : Int) * (S : Int) * (S : Int) := by exact_mod_cast Nat.zero_le _
        have x3 : 0 ≤ (m : Int) * (S : Int) := by exact_mod_cast Nat.zero_le _
        have f5 : (r : Int) * (S : Int) * (S : Int) + (m : Int) * (S : Int) + (t : Int) = (i : Int) := by rw [← e5]; simp
        obtain ⟨x, hx⟩ : ∃ x, nth l i = x := ⟨_, rfl⟩
        rw [hx] at hci
        have HX := hid hx; clear hx
        clear e1 e2 e3 e4 e5 hc z1 z2 z3
        go_wp2_with (first | (go_at_call 23; refine (specRuleOk_any _ _ _ l _ _ _ hs4).mono ?_; rintro e w' ⟨rfl, rfl⟩) | (at_builtin; refine wpList_append_own _ rfl (.tmp 35) (.tmp 50) 23 rfl w.heap.size 3 i0 (.int .i64 0) 1 8 Try.underlying23 hi hz0 hz1 hz2 rfl (by decide) (.slice A2 k c2) _ _ rfl (hown.alloc _) ⟨wr.heap.size, 0, none⟩ 1 1 [.int .i64 x] rfl rfl (cell_one_new _ _ _) (by simp [Value.oneCell']) (by simp only [maxLen]; omega) (by omega) (by have := hb.size; simp; omega) ?_; intro v6 w6 hown6 hgrow6 _))
        obtain ⟨A7, c7, rfl, hown7, hb7⟩ := pushedC hb hb.size hv hown6 hgrow6
        have e7 : (turnedL l S).take k ++ [x] = (turnedL l S).take (k + 1) := by rw [HT2.out, HX.out]
        rw [e7] at hown7
        have HO := hid hown7
        clear e7 hown7 hown6 hgrow6 hown hb hv f1 f2 f3 f4 f5
        go_wp2
        go_roundw
        case rel => exact ⟨A7, c7, k + 1, rfl, by go_num, by omega, HO.out, hb7⟩
        case measure => simp [intOf]; omega
      · obtain rfl : k = n := by omega
        rw [List.take_of_length_le (by rw [turnedL_len, HN.out]; exact Nat.le_refl _)] at hown
        have HO := hid hown; clear hown
        go_wp2
        go_ret
        exact ⟨A2, k, c2, rfl, by rw [HT.out]; exact HO.out, hn2, hb⟩
  · have hno : ruleOk l s = false := by simpa using hok
    have ht : turnedOut l s = [] := by rw [turnedOut, if_neg hok]
    have HT := hid ht; clear ht hok
    have hs4 := hs.on hb0
    go_enter Try.func38, Try.ntmps38
    go_wp2
    refine wp_loop_rounds 1 ?_
    rw [rounds_succ]
    by_cases hn0 : 0 < n
    · go_wp2_with (go_at_call 23; refine (specRuleOk_any _ _ _ l _ _ _ hs4).mono ?_; rintro e w' ⟨rfl, rfl⟩)
      go_ret
      exact ⟨_, 0, 0, rfl, by rw [HT.out]; exact ho0, by omega, hb0⟩
    · obtain rfl : n = 0 := by omega
      go_wp2
      go_ret
      exact ⟨_, 0, 0, rfl, by rw [HT.out]; exact ho0, by omega, hb0⟩
end Go.Proofs.Ytnegbebfofcakaa
