/-
  Walks of the program's newCounter, CounterOf, a tick (Counter.ticked), TickOf. No statement is proved here.
-/
import Derived.Test.YtdacjpaaffpfgaaC6h
import Derived.Laws.Rows
namespace Go.Proofs.Ytdacjpaaffpfgaa
open Go.RowKit
set_option linter.unusedVariables false
set_option linter.unusedSimpArgs false

set_option maxRecDepth 100000 in
set_option maxHeartbeats 1600000 in
theorem newCtr_any (N : Nat) (w : World) (h8 : N ≤ 8) :
    Calls Try.prog 51 #[.int .i64 N] w fun e w' => ∃ A c A2 c2, e = .returned (ctr A N c A2 N c2) ∧ Ctr w' w.heap.size A N c A2 N c2 (List.replicate N 0) (List.replicate N 0) ∧ Below w.heap.size w w' := by
  have X0 := Bk.new w (.slice none 0 0) (.slice none 0 0)
  have hz0 : (w.alloc (.cells #[.slice none 0 0, .slice none 0 0] 25)).heap.size = w.heap.size + 1 := by simp
  have f0 := X0.fz 0
  have f1 := X0.fz 1
  have k0 := X0.c0
  have k1 := X0.c1
  have hmk := fun W => run_make_row' (P := Try.prog) 23 3 (.int .i64 0) 8 Try.underlying23 info_int rfl .i64 .i64 N (by omega) (by omega) W
  have KA := ((Bk.new w (.slice (some ⟨w.heap.size + 1, 0, none⟩) N N) (.slice (some ⟨w.heap.size + 1 + 1, 0, none⟩) N N)).on (row := none) (grown_alloc _ (.cells (madeCells #[.int .i64 0] N) 3) none) (by simp)).on (row := none) (grown_alloc _ (.cells (madeCells #[.int .i64 0] N) 3) none) (by simp)
  have KB := ((Bk.new w (.slice (some ⟨w.heap.size + 1 + 1, 0, none⟩) N N) (.slice (some ⟨w.heap.size + 1, 0, none⟩) N N)).on (row := none) (grown_alloc _ (.cells (madeCells #[.int .i64 0] N) 3) none) (by simp)).on (row := none) (grown_alloc _ (.cells (madeCells #[.int .i64 0] N) 3) none) (by simp)
  go_enter Try.func51, Try.ntmps51
  go_wp2_with fail
  go_region
  all_goals
    go_wp2
    (try simp only [Exit.inBlock, Exit.then])
    first
      | (refine bodyPost_ret (results_cell_row rfl _ _ w.heap.size 25 _ (0, 0) _ (by simp [Act.put]) KA Try.underlying25 rfl size_ctr) rfl ?_
         refine ⟨_, N, _, N, rfl, ⟨?_, ?_, ?_⟩, ?_⟩
         · exact own_zeros (two_new _ _ _ (by simp)).1 (by omega) (by omega)
         · exact own_zeros (two_new _ _ _ (by simp)).2 (by omega) (by omega)
         · intro k hk; simp [Value.ownBlock] at hk ⊢; omega
         · exact ((((Below.refl w.heap.size w).alloc (Nat.le_refl _) _).alloc (by simp) _).alloc (by simp; omega) _).drew)
      | (refine bodyPost_ret (results_cell_row rfl _ _ w.heap.size 25 _ (0, 0) _ (by simp [Act.put]) KB Try.underlying25 rfl size_ctr) rfl ?_
         refine ⟨_, N, _, N, rfl, ⟨?_, ?_, ?_⟩, ?_⟩
         · exact own_zeros (two_new _ _ _ (by simp)).2 (by omega) (by omega)
         · exact own_zeros (two_new _ _ _ (by simp)).1 (by omega) (by omega)
         · intro k hk; simp [Value.ownBlock] at hk ⊢; omega
         · exact ((((Below.refl w.heap.size w).alloc (Nat.le_refl _) _).alloc (by simp) _).alloc (by simp; omega) _).drew)

set_option maxRecDepth 100000 in
set_option maxHeartbeats 1600000 in
theorem implCounterOf_any (n : Int) (w : World) (hw : (Lit.int .i64 n).wf = true) :
    Calls Try.prog 20 #[.int .i64 n] w fun e w' => ∃ A n1 c A2 n2 c2, e = .returned (.tuple #[ctr A n1 c A2 n2 c2, .bool (within n 1 8)]) ∧ Ctr w' w.heap.size A n1 c A2 n2 c2 (zerosOut n) (zerosOut n) ∧ Below w.heap.size w w' := by
  have X0 := Bk.new w (.slice none 0 0) (.slice none 0 0)
  have B0 := (Below.refl w.heap.size w).alloc (Nat.le_refl _) (.cells #[.slice none 0 0, .slice none 0 0] 25)
  have hz0 : (w.alloc (.cells #[.slice none 0 0, .slice none 0 0] 25)).heap.size = w.heap.size + 1 := by simp
  have f0 := X0.fz 0
  have f1 := X0.fz 1
  have k0 := X0.c0
  have k1 := X0.c1
  by_cases hn : within n 1 8 = true
  · have hb := within_iff.1 hn
    obtain ⟨N, rfl⟩ : ∃ N : Nat, n = N := Int.eq_ofNat_of_zero_le (by omega)
    have HZ := hid (show zerosOut (N : Int) = List.replicate N 0 from by unfold zerosOut; rw [if_pos hn, Int.toNat_natCast])
    have CN := hid (newCtr_any N (w.alloc (.cells #[.slice none 0 0, .slice none 0 0] 25)) (by omega))
    have HX := hid X0
    have HB := hid B0
    have HN := hid hn
    clear X0 B0 f0 f1 k0 k1
    go_enter Try.func20, Try.ntmps20
    go_wp2_with (first
      | (go_at_call 45; refine (digitsOk_any _ _).mono ?_; rintro e w' ⟨rfl, rfl⟩)
      | (go_at_call 51; with_reducible refine Calls.mono CN.out ?_; rintro e w1 ⟨A, c, A2, c2, rfl, R, B1⟩; have Y := HX.out.below B1 (by simp); have g0 := Y.fz 0; have g1 := Y.fz 1; have j0 := Y.c0; have j1 := Y.c1))
    (try simp only [Exit.inBlock, Exit.then])
    refine bodyPost_ret (results_k1 rfl _ _ w.heap.size 25 _ (0, 0) _ (by simp [Act.put]) (Y.set _ _) Try.underlying25 rfl size_ctr) rfl ?_
    exact ⟨_, N, _, _, N, _, by rw [HN.out]; rfl, by rw [HZ.out]; exact ((R.putAt (by omega) _).putAt (by omega) _).mono (by omega), HB.out.trans ((B1.mono (by omega)).trans (below_put2 _ _ _ _))⟩
  · have hn' : within n 1 8 = false := by simpa using hn
    have HZ := hid (show zerosOut n = [] from by unfold zerosOut; rw [if_neg hn])
    go_enter Try.func20, Try.ntmps20
    go_wp2_with (go_at_call 45; refine (digitsOk_any _ _).mono ?_; rintro e w' ⟨rfl, rfl⟩)
    (try simp only [Exit.inBlock, Exit.then])
    refine bodyPost_ret (results_k1 rfl _ _ w.heap.size 25 _ (0, 0) _ (by simp [Act.put]) X0 Try.underlying25 rfl size_ctr) rfl ?_
    exact ⟨_, 0, 0, _, 0, 0, by rw [hn']; rfl, by rw [HZ.out]; exact Ctr.none _ _, B0⟩

/-- The machines of a counter in the midst of a tick: the first k are ticked, the others 0. -/
def midT (s : Int) (l : Cnt) (k : Nat) : Cnt := tickL s (l.take k) ++ List.replicate (l.length - k) (0, 0)
theorem midT_zero (s : Int) (l : Cnt) : midT s l 0 = List.replicate l.length (0, 0) := by simp [midT, tickL]
theorem midT_all {s : Int} {l : Cnt} {k : Nat} (h : l.length = k) : midT s l k = tickL s l := by subst h; simp [midT]
theorem midT_len {s : Int} {l : Cnt} {k : Nat} (h : k ≤ l.length) : (midT s l k).length = l.length := by
  simp only [midT, List.length_append, tickL_len, List.length_take, List.length_replicate]; omega
theorem midT_set {s : Int} {l : Cnt} {k : Nat} (h : k < l.length) :
    (midT s l k).set k (((l[k]).1 + lastL s (l.take k)) % 2, ((l[k]).1 + lastL s (l.take k)) / 2) = midT s l (k + 1) := by
  have hm : l.length - k = (l.length - (k + 1)) + 1 := by omega
  have hlen : (tickL s (l.take k)).length = k := by rw [tickL_len, List.length_take]; omega
  have ht : l.take (k + 1) = l.take k ++ [((l[k]).1, (l[k]).2)] := by rw [List.take_succ_eq_append_getElem h]
  unfold midT
  rw [ht, tick_snoc, hm, List.replicate_succ, List.set_append_right _ _ (by omega), hlen, Nat.sub_self, List.set_cons_zero, List.append_assoc]
  rfl
theorem map_fst_set (l : Cnt) (k : Nat) (p : Int × Int) : (l.set k p).map Prod.fst = (l.map Prod.fst).set k p.1 := by rw [List.map_set]
theorem map_snd_set (l : Cnt) (k : Nat) (p : Int × Int) : (l.set k p).map Prod.snd = (l.map Prod.snd).set k p.2 := by rw [List.map_set]
section
variable {w : World} {B g n c n2 c2 : Nat} {A A2 : Option Addr} {D C : List Int}
theorem Ctr.put_d (h : Ctr w B (some ⟨g, 0, Option.none⟩) n c A2 n2 c2 D C) (k : Nat) (u : Int) : Ctr (w.setCell ⟨g, k, Option.none⟩ (.int .i64 u)) B (some ⟨g, 0, Option.none⟩) n c A2 n2 c2 (D.set k u) C := by
  obtain ⟨p1, p2⟩ := h.d.stored k (.int .i64 u)
  rw [ints_set] at p1
  exact ⟨p1, own_put _ h.e (fun j hj e => h.ap g rfl (by rw [hj, e])), h.ap⟩
theorem Ctr.put_e (h : Ctr w B A n c (some ⟨g, 0, Option.none⟩) n2 c2 D C) (k : Nat) (u : Int) : Ctr (w.setCell ⟨g, k, Option.none⟩ (.int .i64 u)) B A n c (some ⟨g, 0, Option.none⟩) n2 c2 D (C.set k u) := by
  obtain ⟨p1, p2⟩ := h.e.stored k (.int .i64 u)
  rw [ints_set] at p1
  exact ⟨own_put _ h.d (fun j hj e => h.ap j hj (by rw [e]; rfl)), p1, h.ap⟩
theorem Bk.put {b : Nat} {x y : Value} (h : Bk w b x y) (hne : b ≠ g) (i : Nat) (v : Value) : Bk (w.setCell ⟨g, i, Option.none⟩ v) b x y := (heap_setCell_other w ⟨g, i, Option.none⟩ b v hne).trans h
theorem Bk.drew {b : Nat} {x y : Value} (h : Bk w b x y) : Bk w.drew b x y := h
theorem Ctr.drewN (h : Ctr w B A n c A2 n2 c2 D C) (m : Nat) : Ctr (w.drewN m) B A n c A2 n2 c2 D C := h.on (below_drewN (Below.refl _ _) m)
end

set_option maxRecDepth 100000 in
set_option maxHeartbeats 3200000 in
theorem ticked_any (A : Option Addr) (n c : Nat) (A2 : Option Addr) (c2 : Nat) (D C : List Int) (t : Bool) (w : World) (h1 : Sl w w.heap.size A n D) (h2 : Sl w w.heap.size A2 n C) (hn : 1 ≤ n) (h8 : n ≤ 8) (hol : okL (D.zip C)) :
    Calls Try.prog 55 #[ctr A n c A2 n c2, .bool t] w fun e w' => ∃ A3 c3 A4 c4, e = .returned (ctr A3 n c3 A4 n c4) ∧ Ctr w' w.heap.size A3 n c3 A4 n c4 ((tickL (bitI t) (D.zip C)).map Prod.fst) ((tickL (bitI t) (D.zip C)).map Prod.snd) ∧ Below w.heap.size w w' := by
  have HD := hid h1.len
  have HC := hid h2.len
  have X0 := (Bk.new w (.slice A n c) (.slice A2 n c2)).on (row := none) (grown_alloc _ (.cells #[.slice none 0 0, .slice none 0 0] 25) none) (by simp)
  have hz : (w.alloc (.cells #[.slice A n c, .slice A2 n c2] 25)).heap.size = w.heap.size + 1 := by simp
  have X1 := Bk.new (w.alloc (.cells #[.slice A n c, .slice A2 n c2] 25)) (.slice none 0 0) (.slice none 0 0)
  rw [hz] at X1
  have B0 := ((Below.refl w.heap.size w).alloc (Nat.le_refl _) (.cells #[.slice A n c, .slice A2 n c2] 25)).alloc (by simp) (.cells #[.slice none 0 0, .slice none 0 0] 25)
  have hz1 : ((w.alloc (.cells #[.slice A n c, .slice A2 n c2] 25)).alloc (.cells #[.slice none 0 0, .slice none 0 0] 25)).heap.size = w.heap.size + 2 := by simp
  have CN := hid (newCtr_any n ((w.alloc (.cells #[.slice A n c, .slice A2 n c2] 25)).alloc (.cells #[.slice none 0 0, .slice none 0 0] 25)) h8)
  have k0 := X0.c0
  have k1 := X0.c1
  have HZ := hid (show (D.zip C).length = n from by rw [List.length_zip, HD.out, HC.out]; omega)
  have HA := hid (fun (k : Nat) (hk : k < (D.zip C).length) => show (D.zip C)[k] = (nth D k, nth C k) from by
    rw [List.getElem_zip, nth_lt (by rw [HD.out]; have := HZ.out; omega), nth_lt (by rw [HC.out]; have := HZ.out; omega)])
  have HO := hid hol
  have HT := hid (bitI_01 t)
  obtain ⟨b1, o1, rfl, hl1, hc1⟩ := h1.2.2 (by omega)
  obtain ⟨b2, o2, rfl, hl2, hc2⟩ := h2.2.2 (by omega)
  have H1 := hid hc1
  have H2 := hid hc2
  have HX0 := hid X0
  have HX1 := hid X1
  have HB0 := hid B0
  have HZ1 := hid hz1
  clear hc1 hc2 h1 h2 hol X0 X1 B0 hz1 hz
  obtain ⟨s, hs⟩ : ∃ s, bitI t = s := ⟨_, rfl⟩
  rw [hs] at HT ⊢
  have hs2 := hid (show (.int .i64 s : Value) = .int .i64 (if t then 1 else 0) from by rw [← hs]; cases t <;> rfl)
  clear hs
  go_enter Try.func55, Try.ntmps55
  go_wp2_with fail
  with_reducible refine Calls.mono CN.out ?_
  rintro e w1 ⟨A3, c3, A4, c4, rfl, R1, B1⟩
  obtain ⟨b, hb⟩ : ∃ b, w1.heap.size = b := ⟨_, rfl⟩
  have hbb : w.heap.size + 2 ≤ b := by rw [← hb, ← HZ1.out]; exact B1.size
  obtain ⟨g3, e3, he3, hg3, hl3⟩ := own_shape1 R1.d (by omega)
  injection he3 with ha3 hn3 hc3
  subst ha3
  subst hc3
  clear hn3
  obtain ⟨g4, e4, he4, hg4, hl4⟩ := own_shape1 R1.e (by omega)
  injection he4 with ha4 hn4 hc4
  subst ha4
  subst hc4
  clear hn4
  rw [hb] at hl3 hl4
  rw [HZ1.out] at hg3 hg4
  have hg34 : g3 ≠ g4 := fun e => R1.ap g3 rfl (by rw [e]; rfl)
  have Y0 := hid ((HX0.out.below B1 (by rw [HZ1.out]; omega)).on (row := none) (grown_alloc w1 (.cells #[.slice (some ⟨g3, 0, none⟩) n c3, .slice (some ⟨g4, 0, none⟩) n c4] 25) none) (by simp))
  have Y1 := hid ((HX1.out.below B1 (by rw [HZ1.out]; omega)).on (row := none) (grown_alloc w1 (.cells #[.slice (some ⟨g3, 0, none⟩) n c3, .slice (some ⟨g4, 0, none⟩) n c4] 25) none) (by simp))
  have Y2 : Hid (Bk (w1.alloc (.cells #[.slice (some ⟨g3, 0, none⟩) n c3, .slice (some ⟨g4, 0, none⟩) n c4] 25)) b (.slice (some ⟨g3, 0, none⟩) n c3) (.slice (some ⟨g4, 0, none⟩) n c4)) := hid (by rw [← hb]; exact Bk.new w1 _ _)
  have HB := hid ((HB0.out.trans (B1.mono (by rw [HZ1.out]; omega))).alloc (by omega) (.cells #[.slice (some ⟨g3, 0, none⟩) n c3, .slice (some ⟨g4, 0, none⟩) n c4] 25))
  have HR := hid ((R1.on ((Below.refl w1.heap.size w1).alloc (Nat.le_refl _) (.cells #[.slice (some ⟨g3, 0, none⟩) n c3, .slice (some ⟨g4, 0, none⟩) n c4] 25))).mono (show w.heap.size + 2 ≤ _ by rw [HZ1.out]; exact Nat.le_refl _))
  have k0 := Y0.out.c0
  have k1 := Y0.out.c1
  clear HX0 HX1 HB0 HZ1 B1 R1 CN
  cases t <;>
  · go_wp2_with fail
    obtain ⟨w2, e2⟩ : ∃ W, w1.alloc (.cells #[.slice (some ⟨g3, 0, none⟩) n c3, .slice (some ⟨g4, 0, none⟩) n c4] 25) = W := ⟨_, rfl⟩
    rw [e2] at Y0 Y1 Y2 HB HR ⊢
    clear e2 hb k0 k1
    go_loopw [6, 18] (fun i kk wr => ∃ (k : Nat), i = .int .i64 (lastL s ((D.zip C).take k)) ∧ kk = .int .i64 k ∧ k ≤ n ∧ Hid (Bk wr w.heap.size (.slice (some ⟨b1, o1, none⟩) n c) (.slice (some ⟨b2, o2, none⟩) n c2)) ∧ Hid (Bk wr (w.heap.size + 1) (.slice none 0 0) (.slice none 0 0)) ∧ Hid (Bk wr b (.slice (some ⟨g3, 0, none⟩) n c3) (.slice (some ⟨g4, 0, none⟩) n c4)) ∧ Hid (Ctr wr (w.heap.size + 2) (some ⟨g3, 0, none⟩) n c3 (some ⟨g4, 0, none⟩) n c4 ((midT s (D.zip C) k).map Prod.fst) ((midT s (D.zip C) k).map Prod.snd)) ∧ Hid (Below w.heap.size w wr)) (fun _ kk _ => n - (intOf kk).toNat)
    case atStart => exact ⟨0, by rw [List.take_zero]; exact hs2.out.symm, rfl, Nat.zero_le _, Y0, Y1, Y2, by rw [midT_zero, HZ.out]; simpa using HR, HB⟩
    case round =>
      clear Y0 Y1 Y2 HB HR hs2
      obtain ⟨k, rfl, rfl, hk, Y0, Y1, Y2, HR, HB⟩ := hrel
      by_cases hlt : k < n
      · have hx := (HB.out.cell (p := ⟨b1, o1 + k, none⟩) hl1).trans (H1.out k hlt)
        have hy := (HB.out.cell (p := ⟨b2, o2 + k, none⟩) hl2).trans (H2.out k hlt)
        have hkz : k < (D.zip C).length := by rw [HZ.out]; exact hlt
        have ht : (D.zip C).take (k + 1) = (D.zip C).take k ++ [(nth D k, nth C k)] := by rw [List.take_succ_eq_append_getElem hkz, HA.out k hkz]
        have hp : okP (nth D k, nth C k) := by rw [← HA.out k hkz]; exact HO.out _ (List.getElem_mem _)
        have hlb := last_bit (i := s) (l := (D.zip C).take k) (fun p hp => HO.out p (List.mem_of_mem_take hp)) HT.out
        have hms := midT_set (s := s) hkz
        rw [HA.out k hkz] at hms
        have hls := last_snoc s ((D.zip C).take k) (nth D k) (nth C k)
        rw [← ht] at hls
        have hml : (midT s (D.zip C) k).length = n := by rw [midT_len (by omega), HZ.out]
        obtain ⟨x, hxe⟩ : ∃ x, nth D k = x := ⟨_, rfl⟩
        obtain ⟨y, hye⟩ : ∃ y, nth C k = y := ⟨_, rfl⟩
        obtain ⟨q, hqe⟩ : ∃ q, lastL s ((D.zip C).take k) = q := ⟨_, rfl⟩
        rw [hxe] at hx hp hms
        rw [hye] at hy hp hls hms
        rw [hqe] at hlb hms ⊢
        have HLS := hid hls
        simp only [okP] at hp
        have m1 : (x + q).tmod 2 = (x + q) % 2 := Int.tmod_eq_emod_of_nonneg (by omega)
        have m2 : (x + q).tdiv 2 = (x + q) / 2 := Int.tdiv_eq_ediv_of_nonneg (by omega)
        obtain ⟨u, hu⟩ : ∃ u, (x + q) % 2 = u := ⟨_, rfl⟩
        obtain ⟨v, hv⟩ : ∃ v, (x + q) / 2 = v := ⟨_, rfl⟩
        have u0 : 0 ≤ u ∧ u ≤ 1 := by omega
        have v0 : 0 ≤ v ∧ v ≤ 1 := by omega
        rw [hu] at m1
        rw [hv] at m2
        rw [hu, hv] at hms
        have HMF := hid ((map_fst_set (midT s (D.zip C) k) k (u, v)).symm.trans (congrArg _ hms))
        have HMS := hid ((map_snd_set (midT s (D.zip C) k) k (u, v)).symm.trans (congrArg _ hms))
        have q1 : (k : Int) < (n : Int) := by omega
        have a0 := Y0.out.c0
        have a1 := Y0.out.c1
        have d0 := Y2.out.c0
        have d1 := Y2.out.c1
        have hf1 := HR.out.d.frozenAt k
        have hf2 := HR.out.e.frozenAt k
        have hv1 := own_cell HR.out.d (by rw [List.length_map]; exact hml) hlt
        have hv2 := own_cell HR.out.e (by rw [List.length_map]; exact hml) hlt
        have hbw := HB.out.size
        have PR := hid ((((HR.out.put_d k u).put_e k v).on (Below.drew (Below.refl _ _))))
        rw [show ((midT s (D.zip C) k).map Prod.fst).set k u = _ from HMF.out, show ((midT s (D.zip C) k).map Prod.snd).set k v = _ from HMS.out] at PR
        have P0 := hid (((Y0.out.put (g := g3) (by omega) k (.int .i64 u)).put (g := g4) (by omega) k (.int .i64 v)).drew)
        have P1 := hid (((Y1.out.put (g := g3) (by omega) k (.int .i64 u)).put (g := g4) (by omega) k (.int .i64 v)).drew)
        have P2 := hid (((Y2.out.put (g := g3) (by omega) k (.int .i64 u)).put (g := g4) (by omega) k (.int .i64 v)).drew)
        have PB := hid (((HB.out.setCell (p := ⟨g3, k, none⟩) (show w.heap.size ≤ g3 by omega) (.int .i64 u)).setCell (p := ⟨g4, k, none⟩) (show w.heap.size ≤ g4 by omega) (.int .i64 v)).drew)
        clear hls hms ht hkz hxe hye hqe hml
        go_wp2_with fail
        go_region
        go_wp2_with fail
        go_roundw
        case rel => exact ⟨k + 1, by rw [HLS.out], by go_num, by omega, P0, P1, P2, PR, PB⟩
        case measure => simp [intOf]; omega
      · obtain rfl : k = n := by omega
        rw [midT_all HZ.out] at HR
        have d0 := Y2.out.c0
        have d1 := Y2.out.c1
        have p0 := Y1.out.c0
        have p1 := Y1.out.c1
        have ff0 := Y1.out.fz 0
        have ff1 := Y1.out.fz 1
        go_wp2_with fail
        (try simp only [Exit.inBlock, Exit.then])
        refine bodyPost_ret (results_cell_row rfl _ _ (w.heap.size + 1) 25 _ (0, 0) _ (by simp [Act.put]) (Y1.out.set _ _) Try.underlying25 rfl size_ctr) rfl ?_
        exact ⟨_, _, _, _, rfl, ((HR.out.putAt (by omega) _).putAt (by omega) _).mono (by omega), HB.out.trans ((below_put2 wr (w.heap.size + 1) _ _).mono (by omega))⟩

set_option maxRecDepth 100000 in
set_option maxHeartbeats 3200000 in
theorem implTickOf_any (A : Option Addr) (n c : Nat) (A2 : Option Addr) (n2 c2 : Nat) (D C : List Int) (t : Bool) (w : World) (h1 : Sl w w.heap.size A n D) (h2 : Sl w w.heap.size A2 n2 C) :
    Calls Try.prog 25 #[ctr A n c A2 n2 c2, .bool t] w fun e w' => ∃ A3 n3 c3 A4 n4 c4, e = .returned (.tuple #[ctr A3 n3 c3 A4 n4 c4, .bool (ctrOk D C)]) ∧ Ctr w' w.heap.size A3 n3 c3 A4 n4 c4 (tickD D C t) (tickC D C t) ∧ Below w.heap.size w w' := by
  have HD := hid h1.len
  have HC := hid h2.len
  have X0 := (Bk.new w (.slice A n c) (.slice A2 n2 c2)).on (row := none) (grown_alloc _ (.cells #[.slice none 0 0, .slice none 0 0] 25) none) (by simp)
  have hz : (w.alloc (.cells #[.slice A n c, .slice A2 n2 c2] 25)).heap.size = w.heap.size + 1 := by simp
  have X1 := Bk.new (w.alloc (.cells #[.slice A n c, .slice A2 n2 c2] 25)) (.slice none 0 0) (.slice none 0 0)
  rw [hz] at X1
  have B0 := ((Below.refl w.heap.size w).alloc (Nat.le_refl _) (.cells #[.slice A n c, .slice A2 n2 c2] 25)).alloc (by simp) (.cells #[.slice none 0 0, .slice none 0 0] 25)
  have hz1 : ((w.alloc (.cells #[.slice A n c, .slice A2 n2 c2] 25)).alloc (.cells #[.slice none 0 0, .slice none 0 0] 25)).heap.size = w.heap.size + 2 := by simp
  have CK := hid (counterI_any A n c A2 n2 c2 D C _ (h1.on B0) (h2.on B0))
  have k0 := X0.c0
  have k1 := X0.c1
  cases hok : ctrOk D C with
  | false =>
    have HV := hid (show tickD D C t = [] ∧ tickC D C t = [] from by unfold tickD tickC; rw [hok]; exact ⟨rfl, rfl⟩)
    rw [hok] at CK
    clear hok
    go_enter Try.func25, Try.ntmps25
    go_wp2_with fail
    with_reducible refine Calls.mono CK.out ?_
    rintro e w1 ⟨rfl, g1⟩
    have Y1 := X1.on g1 (by simp)
    have f0 := Y1.fz 0
    have f1 := Y1.fz 1
    have k2 := Y1.c0
    have k3 := Y1.c1
    have HB := hid (B0.trans ((below_grown g1).mono B0.size))
    have HY := hid Y1
    clear g1 B0 X0 X1 k0 k1 Y1
    go_wp2_with fail
    (try simp only [Exit.inBlock, Exit.then])
    refine bodyPost_ret (results_k1 rfl _ _ (w.heap.size + 1) 25 _ (0, 0) _ (by simp [Act.put]) (HY.out.set (.slice none 0 0) (.slice none 0 0)) Try.underlying25 rfl size_ctr) rfl ?_
    exact ⟨_, 0, 0, _, 0, 0, rfl, by rw [HV.out.1, HV.out.2]; exact Ctr.none _ _, HB.out.trans ((below_put2 w1 (w.heap.size + 1) _ _).mono (by omega))⟩
  | true =>
    obtain ⟨hn, hnn, hol⟩ := ctrOk_iff.1 hok
    rw [HD.out] at hn
    rw [HD.out, HC.out] at hnn
    subst hnn
    have HV := hid (show tickD D C t = (tickL (bitI t) (D.zip C)).map Prod.fst ∧ tickC D C t = (tickL (bitI t) (D.zip C)).map Prod.snd from by unfold tickD tickC; rw [hok]; exact ⟨rfl, rfl⟩)
    rw [hok] at CK
    have S1 := hid (h1.on B0)
    have S2 := hid (h2.on B0)
    have HO := hid hol
    have HX0 := hid X0
    have HX1 := hid X1
    have HB0 := hid B0
    have HZ1 := hid hz1
    clear hok hol h1 h2 X0 X1 B0 hz hz1
    go_enter Try.func25, Try.ntmps25
    go_wp2_with fail
    with_reducible refine Calls.mono CK.out ?_
    rintro e w1 ⟨rfl, g1⟩
    have Y0 := HX0.out.on g1 (by simp)
    have j0 := Y0.c0
    have j1 := Y0.c1
    have hz1 := g1.size
    rw [HZ1.out] at hz1
    have TK := hid (ticked_any A n2 c A2 c2 D C t w1 (S1.out.on (below_grown g1)) (S2.out.on (below_grown g1)) hn.1 hn.2 HO.out)
    have HX := hid (HX1.out.on g1 (by simp))
    have HB := hid (HB0.out.trans ((below_grown g1).mono HB0.out.size))
    clear g1 k0 k1 HX0 HX1 HB0 HZ1 CK Y0 S1 S2
    go_wp2_with fail
    with_reducible refine Calls.mono TK.out ?_
    rintro e w2 ⟨A3, c3, A4, c4, rfl, R, B2⟩
    have Y1 := HX.out.below B2 (by omega)
    have f0 := Y1.fz 0
    have f1 := Y1.fz 1
    have k2 := Y1.c0
    have k3 := Y1.c1
    have HY := hid Y1
    clear Y1
    go_wp2_with fail
    (try simp only [Exit.inBlock, Exit.then])
    refine bodyPost_ret (results_k1 rfl _ _ (w.heap.size + 1) 25 _ (0, 0) _ (by simp [Act.put]) (HY.out.set _ _) Try.underlying25 rfl size_ctr) rfl ?_
    exact ⟨_, n2, _, _, n2, _, rfl, by rw [HV.out.1, HV.out.2]; exact ((R.putAt (by omega) _).putAt (by omega) _).mono (by omega), HB.out.trans ((B2.mono (by omega)).trans ((below_put2 w2 (w.heap.size + 1) _ _).mono (by omega)))⟩
end Go.Proofs.Ytdacjpaaffpfgaa
