/-
  The walk of the model's TickOf. No statement is proved here.
-/
import Derived.Test.YtdacjpaaffpfgaaC6
import Derived.Test.YtdacjpaaffpfgaaC6c
import Derived.Maps.AppendAt
import Derived.OwnWalk
namespace Go.Proofs.Ytdacjpaaffpfgaa
open Go.RowKit
set_option linter.unusedVariables false
set_option linter.unusedSimpArgs false

def tickD (D C : List Int) (t : Bool) : List Int := if ctrOk D C = true then (tickL (bitI t) (D.zip C)).map Prod.fst else []
def tickC (D C : List Int) (t : Bool) : List Int := if ctrOk D C = true then (tickL (bitI t) (D.zip C)).map Prod.snd else []

theorem push_d {wr w6 : World} {b : Nat} {A3 A4 : Option Addr} {k c3 k4 c4 : Nat} {Dl Cl : List Int} {u : Int} {v6 : Value} (HR : Ctr wr (b + 1) A3 k c3 A4 k4 c4 Dl Cl) (hsz : b + 1 ≤ wr.heap.size)
    (o6 : w6.ownsRow (b + 1) 3 1 v6 (k + 1) (ints Dl ++ [.int .i64 u])) (g6 : (wr.alloc (.cells #[.int .i64 u] 3)).grownBy w6 (Value.slice A3 k c3).ownBlock)
    (al : v6.ownBlock = (Value.slice A3 k c3).ownBlock ∨ v6.ownBlock = some (wr.alloc (.cells #[.int .i64 u] 3)).heap.size) :
    ∃ A5 c5, v6 = .slice A5 (k + 1) c5 ∧ Ctr w6 (b + 1) A5 (k + 1) c5 A4 k4 c4 (Dl ++ [u]) Cl ∧ Below (b + 1) wr w6 ∧ b + 1 ≤ w6.heap.size := by
  obtain ⟨g2, c5, rfl, _, _⟩ := own_shape o6
  have L : Below (b + 1) wr w6 := ((Below.refl (b + 1) wr).alloc hsz _).grown g6 (by simp; omega) (fun j hj => (HR.d.lt j hj).1)
  have hne : ∀ j, (Value.slice A4 k4 c4).ownBlock = some j → some j ≠ (Value.slice A3 k c3).ownBlock := fun j hj h => HR.ap j h.symm hj
  refine ⟨_, _, rfl, ⟨by simpa [ints] using o6, ?_, ?_⟩, L, Nat.le_trans hsz L.size⟩
  · refine (own_kept_none HR.e (grown_alloc wr _ none)).kept g6 ?_
    rcases h : (Value.slice A4 k4 c4).ownBlock with _ | j
    · exact .inl rfl
    · exact .inr (hne j h)
  · intro j hj h4
    rcases al with h | h
    · exact HR.ap j (by rw [← h]; exact hj) h4
    · have h1 := (HR.e.lt j h4).2
      rw [hj] at h
      simp at h
      omega
theorem push_e {wr w6 : World} {b : Nat} {A3 A4 : Option Addr} {k c3 k4 c4 : Nat} {Dl Cl : List Int} {u : Int} {v6 : Value} (HR : Ctr wr (b + 1) A3 k c3 A4 k4 c4 Dl Cl) (hsz : b + 1 ≤ wr.heap.size)
    (o6 : w6.ownsRow (b + 1) 3 1 v6 (k4 + 1) (ints Cl ++ [.int .i64 u])) (g6 : (wr.alloc (.cells #[.int .i64 u] 3)).grownBy w6 (Value.slice A4 k4 c4).ownBlock)
    (al : v6.ownBlock = (Value.slice A4 k4 c4).ownBlock ∨ v6.ownBlock = some (wr.alloc (.cells #[.int .i64 u] 3)).heap.size) :
    ∃ A5 c5, v6 = .slice A5 (k4 + 1) c5 ∧ Ctr w6 (b + 1) A3 k c3 A5 (k4 + 1) c5 Dl (Cl ++ [u]) ∧ Below (b + 1) wr w6 ∧ b + 1 ≤ w6.heap.size := by
  obtain ⟨g2, c5, rfl, _, _⟩ := own_shape o6
  have L : Below (b + 1) wr w6 := ((Below.refl (b + 1) wr).alloc hsz _).grown g6 (by simp; omega) (fun j hj => (HR.e.lt j hj).1)
  refine ⟨_, _, rfl, ⟨?_, by simpa [ints] using o6, ?_⟩, L, Nat.le_trans hsz L.size⟩
  · refine (own_kept_none HR.d (grown_alloc wr _ none)).kept g6 ?_
    rcases h : (Value.slice A3 k c3).ownBlock with _ | j
    · exact .inl rfl
    · exact .inr (fun e => HR.ap j h e.symm)
  · intro j hj h4
    rcases al with h | h
    · exact HR.ap j hj (by rw [← h]; exact h4)
    · have h1 := (HR.d.lt j hj).2
      rw [h4] at h
      simp at h
      omega
theorem Ctr.put {w : World} {b i : Nat} {A A2 : Option Addr} {n c n2 c2 : Nat} {D C : List Int} (h : Ctr w (b + 1) A n c A2 n2 c2 D C) (x : Value) : Ctr (w.setCell ⟨b, i, Option.none⟩ x) (b + 1) A n c A2 n2 c2 D C :=
  ⟨own_put x h.d (fun k hk => by have := (h.d.lt k hk).1; omega), own_put x h.e (fun k hk => by have := (h.e.lt k hk).1; omega), h.ap⟩

set_option maxRecDepth 100000 in
set_option maxHeartbeats 6400000 in
theorem specTickOf_any (A : Option Addr) (n c : Nat) (A2 : Option Addr) (n2 c2 : Nat) (D C : List Int) (t : Bool) (w : World) (h1 : Sl w w.heap.size A n D) (h2 : Sl w w.heap.size A2 n2 C) :
    Calls Try.prog 26 #[ctr A n c A2 n2 c2, .bool t] w fun e w' => ∃ A3 n3 c3 A4 n4 c4, e = .returned (.tuple #[ctr A3 n3 c3 A4 n4 c4, .bool (ctrOk D C)]) ∧ Ctr w' w.heap.size A3 n3 c3 A4 n4 c4 (tickD D C t) (tickC D C t) ∧ Below w.heap.size w w' := by
  obtain ⟨i0, hi, hz0, hz1, hz2⟩ := info_parts info_int
  have HD := hid h1.len
  have HC := hid h2.len
  have X0 := (Bk.new w (.slice A n c) (.slice A2 n2 c2)).on (row := none) (grown_alloc _ (.cells #[.slice none 0 0, .slice none 0 0] 25) none) (by simp)
  have hz : (w.alloc (.cells #[.slice A n c, .slice A2 n2 c2] 25)).heap.size = w.heap.size + 1 := by simp
  have X1 := Bk.new (w.alloc (.cells #[.slice A n c, .slice A2 n2 c2] 25)) (.slice none 0 0) (.slice none 0 0)
  rw [hz] at X1
  have B0 := ((Below.refl w.heap.size w).alloc (Nat.le_refl _) (.cells #[.slice A n c, .slice A2 n2 c2] 25)).alloc (by simp) (.cells #[.slice none 0 0, .slice none 0 0] 25)
  have CK := hid (specCounterOk_any A n c A2 n2 c2 D C _ (h1.on B0) (h2.on B0))
  have k0 := X0.c0
  have k1 := X0.c1
  cases hok : ctrOk D C with
  | false =>
    have HV := hid (show tickD D C t = [] ∧ tickC D C t = [] from by unfold tickD tickC; rw [hok]; exact ⟨rfl, rfl⟩)
    rw [hok] at CK
    clear hok
    go_enter Try.func26, Try.ntmps26
    go_wp2_with fail
    with_reducible refine Calls.mono CK.out ?_
    rintro e w1 ⟨rfl, g1⟩
    have Y1 := X1.on g1 (by simp)
    have f0 := Y1.fz 0
    have f1 := Y1.fz 1
    have k2 := Y1.c0
    have k3 := Y1.c1
    have HB := hid (B0.trans ((below_grown g1).mono B0.size))
    have HY := hid Y1
    clear g1 B0 X0 X1 k0 k1 Y1
    go_wp2
    (try simp only [Exit.inBlock, Exit.then])
    refine bodyPost_ret (results_k1 rfl _ _ (w.heap.size + 1) 25 _ (0, 0) _ (by simp [Act.put]) (HY.out.set (.slice none 0 0) (.slice none 0 0)) Try.underlying25 rfl size_ctr) rfl ?_
    exact ⟨_, 0, 0, _, 0, 0, rfl, by rw [HV.out.1, HV.out.2]; exact Ctr.none _ _, HB.out.trans ((below_put2 w1 (w.heap.size + 1) _ _).mono (by omega))⟩
  | true =>
    obtain ⟨hn, hnn, hol⟩ := ctrOk_iff.1 hok
    rw [HD.out] at hn
    rw [HD.out, HC.out] at hnn
    subst hnn
    have HV := hid (show tickD D C t = (tickL (bitI t) (D.zip C)).map Prod.fst ∧ tickC D C t = (tickL (bitI t) (D.zip C)).map Prod.snd from by unfold tickD tickC; rw [hok]; exact ⟨rfl, rfl⟩)
    rw [hok] at CK
    have HZ := hid (show (D.zip C).length = n2 from by rw [List.length_zip, HD.out, HC.out]; omega)
    have HA := hid (fun (k : Nat) (hk : k < (D.zip C).length) => show (D.zip C)[k] = (nth D k, nth C k) from by
      rw [List.getElem_zip, nth_lt (by rw [HD.out]; have := HZ.out; omega), nth_lt (by rw [HC.out]; have := HZ.out; omega)])
    have HO := hid hol
    have HT := hid (bitI_01 t)
    clear hok hol
    obtain ⟨b1, o1, rfl, hl1, hc1⟩ := h1.2.2 (by omega)
    obtain ⟨b2, o2, rfl, hl2, hc2⟩ := h2.2.2 (by omega)
    have H1 := hid hc1
    have H2 := hid hc2
    clear hc1 hc2 h1 h2
    go_enter Try.func26, Try.ntmps26
    go_wp2_with fail
    with_reducible refine Calls.mono CK.out ?_
    rintro e w1 ⟨rfl, g1⟩
    have hz1' := g1.size
    obtain ⟨b, hb⟩ : ∃ b, w1.heap.size = b := ⟨_, rfl⟩
    have hbb : w.heap.size + 2 ≤ b := by rw [← hb]; have := g1.size; simp at this; omega
    have Y0 := hid ((X0.on g1 (by simp)).on (row := none) (grown_alloc w1 (.cells #[.slice none 0 0, .slice none 0 0] 25) none) (by simp))
    have Y1 := hid ((X1.on g1 (by simp)).on (row := none) (grown_alloc w1 (.cells #[.slice none 0 0, .slice none 0 0] 25) none) (by simp))
    have Y2 : Hid (Bk (w1.alloc (.cells #[.slice none 0 0, .slice none 0 0] 25)) b (.slice none 0 0) (.slice none 0 0)) := hid (by rw [← hb]; exact Bk.new w1 _ _)
    have HB := hid ((B0.trans ((below_grown g1).mono B0.size)).alloc (by have := B0.size; omega) (.cells #[.slice none 0 0, .slice none 0 0] 25))
    have HR := hid (Ctr.none (w1.alloc (.cells #[.slice none 0 0, .slice none 0 0] 25)) (b + 1))
    have hsz : b + 1 ≤ (w1.alloc (.cells #[.slice none 0 0, .slice none 0 0] 25)).heap.size := by simp [hb]
    clear g1 B0 X0 X1 k0 k1 CK hz1'
    obtain ⟨s, hs⟩ : ∃ s, bitI t = s := ⟨_, rfl⟩
    rw [hs] at HV HT
    have hs2 := hid (show (.int .i64 s : Value) = .int .i64 (if t then 1 else 0) from by rw [← hs]; cases t <;> rfl)
    cases t <;>
    · go_wp2_with fail
      obtain ⟨w2, e2⟩ : ∃ W, w1.alloc (.cells #[.slice none 0 0, .slice none 0 0] 25) = W := ⟨_, rfl⟩
      rw [e2] at Y0 Y1 Y2 HB HR hsz ⊢
      clear e2 hb
      go_loopw [7, 8] (fun i kk wr => ∃ (A3 : Option Addr) (c3 : Nat) (A4 : Option Addr) (c4 k : Nat), i = .int .i64 (lastL s ((D.zip C).take k)) ∧ kk = .int .i64 k ∧ k ≤ n2 ∧ Hid (Bk wr w.heap.size (.slice (some ⟨b1, o1, none⟩) n2 c) (.slice (some ⟨b2, o2, none⟩) n2 c2)) ∧ Hid (Bk wr (w.heap.size + 1) (.slice none 0 0) (.slice none 0 0)) ∧ Hid (Bk wr b (.slice A3 k c3) (.slice A4 k c4)) ∧ Hid (Ctr wr (b + 1) A3 k c3 A4 k c4 ((tickL s ((D.zip C).take k)).map Prod.fst) ((tickL s ((D.zip C).take k)).map Prod.snd)) ∧ b + 1 ≤ wr.heap.size ∧ Hid (Below w.heap.size w wr)) (fun _ kk _ => n2 - (intOf kk).toNat)
      case atStart => exact ⟨none, 0, none, 0, 0, by rw [List.take_zero]; exact hs2.out.symm, rfl, Nat.zero_le _, Y0, Y1, Y2, by simpa [tickL] using HR, hsz, HB⟩
      case round =>
        clear Y0 Y1 Y2 HB HR hsz hs2
        obtain ⟨A3, c3, A4, c4, k, rfl, rfl, hk, Y0, Y1, Y2, HR, hsz, HB⟩ := hrel
        by_cases hlt : k < n2
        · have hx := (HB.out.cell (p := ⟨b1, o1 + k, none⟩) hl1).trans (H1.out k hlt)
          have hy := (HB.out.cell (p := ⟨b2, o2 + k, none⟩) hl2).trans (H2.out k hlt)
          have hkz : k < (D.zip C).length := by rw [HZ.out]; exact hlt
          have ht : (D.zip C).take (k + 1) = (D.zip C).take k ++ [(nth D k, nth C k)] := by rw [List.take_succ_eq_append_getElem hkz, HA.out k hkz]
          have hp : okP (nth D k, nth C k) := by rw [← HA.out k hkz]; exact HO.out _ (List.getElem_mem _)
          have hlb := last_bit (i := s) (l := (D.zip C).take k) (fun p hp => HO.out p (List.mem_of_mem_take hp)) HT.out
          have hts := tick_snoc s ((D.zip C).take k) (nth D k) (nth C k)
          have hls := last_snoc s ((D.zip C).take k) (nth D k) (nth C k)
          rw [← ht] at hts hls
          obtain ⟨x, hxe⟩ : ∃ x, nth D k = x := ⟨_, rfl⟩
          obtain ⟨y, hye⟩ : ∃ y, nth C k = y := ⟨_, rfl⟩
          obtain ⟨q, hqe⟩ : ∃ q, lastL s ((D.zip C).take k) = q := ⟨_, rfl⟩
          obtain ⟨T, hTe⟩ : ∃ T, tickL s ((D.zip C).take k) = T := ⟨_, rfl⟩
          rw [hxe] at hx hp hts
          rw [hye] at hy hp hls
          rw [hqe] at hlb hts ⊢
          rw [hTe] at hts HR
          have HTS := hid hts
          have HLS := hid hls
          simp only [okP] at hp
          have m1 : (x + q).tmod 2 = (x + q) % 2 := Int.tmod_eq_emod_of_nonneg (by omega)
          have m2 : (x + q).tdiv 2 = (x + q) / 2 := Int.tdiv_eq_ediv_of_nonneg (by omega)
          obtain ⟨u, hu⟩ : ∃ u, (x + q) % 2 = u := ⟨_, rfl⟩
          obtain ⟨v, hv⟩ : ∃ v, (x + q) / 2 = v := ⟨_, rfl⟩
          have u0 : 0 ≤ u ∧ u ≤ 1 := by omega
          have v0 : 0 ≤ v ∧ v ≤ 1 := by omega
          rw [hu] at m1
          rw [hv] at m2
          rw [hu, hv] at HTS
          have q1 : (k : Int) < (n2 : Int) := by omega
          have a0 := Y0.out.c0
          have a1 := Y0.out.c1
          have d0 := Y2.out.c0
          have d1 := Y2.out.c1
          have ff0 := Y2.out.fz 0
          have ff1 := Y2.out.fz 1
          clear hts hls ht hkz hxe hye hqe hTe
          have hbw := HB.out.size
          go_wp2_with (first
            | (at_builtin; refine wpList_append_own_at _ rfl (.tmp 31) (.tmp 34) 23 rfl (b + 1) 3 i0 (.int .i64 0) 1 8 Try.underlying23 hi hz0 hz1 hz2 rfl (by decide) (.slice A3 k c3) _ _ rfl (HR.out.d.alloc _) ⟨wr.heap.size, 0, none⟩ 1 1 [.int .i64 u] rfl rfl (cell_one_new _ _ _) (by simp [Value.oneCell']) (by simp only [maxLen]; omega) (by omega) (by simp; omega) ?_; intro v6 w6 o6 g6 _ al6; obtain ⟨A5, c5, rfl, R6, L6, z6⟩ := push_d HR.out hsz o6 g6 al6; obtain ⟨w7, e7⟩ : ∃ W, w6.setCell ⟨b, 0, none⟩ (.slice A5 (k + 1) c5) = W := ⟨_, rfl⟩; have Y26 := Y2.out.below L6 (by omega); have s60 := Y26.fz 0; have t60 := Y26.c0; have R7 : Ctr w7 (b + 1) A5 (k + 1) c5 A4 k c4 _ _ := (by rw [← e7]; exact R6.put _); have Y27 : Bk w7 b (.slice A5 (k + 1) c5) (.slice A4 k c4) := (by rw [← e7]; exact Y26.set0 _); have L7 : Below b wr w7 := (by rw [← e7]; exact (L6.mono (by omega)).trans (below_put _ _ _ _)); have z7 : b + 1 ≤ w7.heap.size := (by rw [← e7]; simpa [World.setCell] using z6); have s70 := Y27.fz 1; have t70 := Y27.c1; clear o6 g6 al6 R6)
            | (at_builtin; refine wpList_append_own_at _ rfl (.tmp 38) (.tmp 41) 23 rfl (b + 1) 3 i0 (.int .i64 0) 1 8 Try.underlying23 hi hz0 hz1 hz2 rfl (by decide) (.slice A4 k c4) _ _ rfl (R7.e.alloc _) ⟨w7.heap.size, 0, none⟩ 1 1 [.int .i64 v] rfl rfl (cell_one_new _ _ _) (by simp [Value.oneCell']) (by simp only [maxLen]; omega) (by omega) (by simp; omega) ?_; intro v8 w8 o8 g8 _ al8; obtain ⟨A6, c6, rfl, R8, L8, z8⟩ := push_e R7 z7 o8 g8 al8; obtain ⟨w9, e9⟩ : ∃ W, w8.setCell ⟨b, 1, none⟩ (.slice A6 (k + 1) c6) = W := ⟨_, rfl⟩; have Y28 := Y27.below L8 (by omega); have s80 := Y28.fz 1; have t80 := Y28.c1; have R9 : Ctr w9 (b + 1) A5 (k + 1) c5 A6 (k + 1) c6 _ _ := (by rw [← e9]; exact R8.put _); have Y29 : Bk w9 b (.slice A5 (k + 1) c5) (.slice A6 (k + 1) c6) := (by rw [← e9]; exact Y28.set1 _); have L9 : Below b w7 w9 := (by rw [← e9]; exact (L8.mono (by omega)).trans (below_put _ _ _ _)); have z9 : b + 1 ≤ w9.heap.size := (by rw [← e9]; simpa [World.setCell] using z8); have K0 := (Y0.out.below L7 (by omega)).below L9 (by omega); have K1 := (Y1.out.below L7 (by omega)).below L9 (by omega); have a19 := K0.c1; have hy9 := ((L7.trans L9).cell (p := ⟨b2, o2 + k, none⟩) (show b2 < b by omega)).trans hy; clear o8 g8 al8 R8))
          have P0 := hid K0
          have P1 := hid K1
          have P2 := hid Y29
          have PR := hid R9
          have PB := hid (HB.out.trans ((L7.trans L9).mono (by omega)))
          rw [show T.map Prod.fst ++ [u] = (T ++ [(u, v)]).map Prod.fst from by simp, show T.map Prod.snd ++ [v] = (T ++ [(u, v)]).map Prod.snd from by simp, ← HTS.out] at PR
          go_roundw
          case rel => exact ⟨A5, c5, A6, c6, k + 1, by rw [HLS.out], by go_num, by omega, P0, P1, P2, PR, z9, PB⟩
          case measure => simp [intOf]; omega
        · obtain rfl : k = n2 := by omega
          have hta : (D.zip C).take k = D.zip C := List.take_of_length_le (by rw [HZ.out]; omega)
          rw [hta] at HR
          rw [← HV.out.1, ← HV.out.2] at HR
          have a0 := Y0.out.c0
          have d0 := Y2.out.c0
          have d1 := Y2.out.c1
          have p0 := Y1.out.c0
          have p1 := Y1.out.c1
          have ff0 := Y1.out.fz 0
          have ff1 := Y1.out.fz 1
          go_wp2
          (try simp only [Exit.inBlock, Exit.then])
          refine bodyPost_ret (results_k1 rfl _ _ (w.heap.size + 1) 25 _ (0, 0) _ (by simp [Act.put]) (Y1.out.set (.slice A3 k c3) (.slice A4 k c4)) Try.underlying25 rfl size_ctr) rfl ?_
          exact ⟨_, k, _, _, k, _, rfl, ((HR.out.putAt (by omega) _).putAt (by omega) _).mono (by omega), HB.out.trans ((below_put2 wr (w.heap.size + 1) _ _).mono (by omega))⟩
end Go.Proofs.Ytdacjpaaffpfgaa
