/-
  The walk of the program's SentAt. No statement is proved here.
-/
import Derived.Test.YtegmkacapldnoaaC9u
namespace Go.Proofs.Ytegmkacapldnoaa
open Go.RowKit
set_option linter.unusedVariables false
set_option linter.unusedSimpArgs false

/-- Numbers laid at the places of messages. -/
def putL (L : List Int) (ms : List (Int × Int)) : List Int := ms.foldl (fun L m => L.set m.1.toNat m.2) L
theorem putL_snoc (L : List Int) (ms : List (Int × Int)) (m : Int × Int) : putL L (ms ++ [m]) = (putL L ms).set m.1.toNat m.2 := by simp [putL]
theorem putL_len : ∀ (ms : List (Int × Int)) (L : List Int), (putL L ms).length = L.length
  | [], _ => rfl
  | m :: ms, L => by
    have h := putL_len ms (L.set m.1.toNat m.2)
    rw [List.length_set] at h
    exact h
theorem nth_set_same {L : List Int} {p : Nat} {v : Int} (h : p < L.length) : nth (L.set p v) p = v := by simp [nth, List.getD, h]
theorem nth_set_ne {L : List Int} {p k : Nat} {v : Int} (h : p ≠ k) : nth (L.set p v) k = nth L k := by simp [nth, List.getD, List.getElem?_set, h]
theorem putL_other : ∀ (ms : List (Int × Int)) (L : List Int) (k : Nat), (∀ m ∈ ms, m.1.toNat ≠ k) → nth (putL L ms) k = nth L k
  | [], _, _, _ => rfl
  | m :: ms, L, k, h => by
    have h1 := putL_other ms (L.set m.1.toNat m.2) k fun x hx => h x (List.mem_cons_of_mem _ hx)
    rw [nth_set_ne (h m List.mem_cons_self)] at h1
    exact h1
theorem putL_at {T : List Int} : ∀ (ms : List (Int × Int)) (L : List Int), (∀ m ∈ ms, m.1.toNat < L.length ∧ nth T m.1.toNat = m.2) → ∀ m ∈ ms, nth (putL L ms) m.1.toNat = nth T m.1.toNat
  | [], _, _, m, hm => by cases hm
  | x :: ms, L, h, m, hm => by
    have ih := putL_at (T := T) ms (L.set x.1.toNat x.2) fun y hy => by rw [List.length_set]; exact h y (List.mem_cons_of_mem _ hy)
    by_cases hx : ∃ y ∈ ms, y.1.toNat = m.1.toNat
    · obtain ⟨y, hy, he⟩ := hx
      have h1 := ih y hy
      rw [he] at h1
      exact h1
    · have hn : ∀ y ∈ ms, y.1.toNat ≠ m.1.toNat := fun y hy e => hx ⟨y, hy, e⟩
      rcases List.mem_cons.1 hm with rfl | hm2
      · have h1 := putL_other ms (L.set m.1.toNat m.2) m.1.toNat hn
        rw [nth_set_same (h m List.mem_cons_self).1] at h1
        exact h1.trans (h m List.mem_cons_self).2.symm
      · exact absurd rfl (hn m hm2)
theorem list_ext9 {a b : List Int} (hl : a.length = b.length) (h : ∀ k, k < a.length → nth a k = nth b k) : a = b := by
  apply List.ext_getElem hl
  intro k h1 h2
  have := h k h1
  rwa [nth_lt h1, nth_lt h2] at this
theorem place_of {n S k : Nat} (hk : k < n) : ∃ j, j < n ∧ (j + S) % n = k := by
  have hr := Nat.mod_lt S (show 0 < n by omega)
  refine ⟨(k + n - S % n) % n, Nat.mod_lt _ (by omega), ?_⟩
  have hd := Nat.div_add_mod S n
  rw [Nat.mod_add_mod, show k + n - S % n + S = k + n + n * (S / n) by omega, Nat.add_mul_mod_self_left, Nat.add_mod_right, Nat.mod_eq_of_lt hk]
/-- The messages of a step, laid at their places, are what is sent in it. -/
theorem put_sent {l : List Int} (hp : posL l) (h0 : 0 < l.length) (S : Nat) : putL (List.replicate l.length 0) (msgs l S) = sentL l S := by
  refine list_ext9 (by rw [putL_len, sentL_len, List.length_replicate]) fun k hk => ?_
  rw [putL_len, List.length_replicate] at hk
  have hall : ∀ m ∈ msgs l S, m.1.toNat < (List.replicate l.length (0 : Int)).length ∧ nth (sentL l S) m.1.toNat = m.2 := by
    intro m hm
    unfold msgs at hm
    obtain ⟨j, hj, rfl⟩ := List.mem_map.1 hm
    rw [List.mem_filter] at hj
    have hs := hj.2
    refine ⟨?_, ?_⟩
    · rw [List.length_replicate]
      show (((((j + S) % l.length : Nat) : Int))).toNat < l.length
      rw [Int.toNat_natCast]
      exact Nat.mod_lt _ h0
    · show nth (sentL l S) (((((j + S) % l.length : Nat) : Int))).toNat = rf l j
      rw [Int.toNat_natCast, sent_form hp h0, if_pos hs]
  obtain ⟨j, hj, hjk⟩ := place_of (S := S) hk
  cases hs : surv l j S with
  | true =>
    have hm : msgAt l S j ∈ msgs l S := by
      unfold msgs
      exact List.mem_map.2 ⟨j, List.mem_filter.2 ⟨List.mem_range.2 hj, hs⟩, rfl⟩
    have h1 := putL_at (T := sentL l S) _ _ hall _ hm
    have h2 : (msgAt l S j).1.toNat = k := by
      show (((((j + S) % l.length : Nat) : Int))).toNat = k
      rw [Int.toNat_natCast, hjk]
    rwa [h2] at h1
  | false =>
    have hT : nth (sentL l S) k = 0 := by rw [← hjk, sent_form hp h0, hs]; rfl
    rw [hT]
    by_cases hx : ∃ m ∈ msgs l S, m.1.toNat = k
    · obtain ⟨m, hm, he⟩ := hx
      have h1 := putL_at (T := sentL l S) _ _ hall _ hm
      rwa [he, hT] at h1
    · rw [putL_other _ _ _ fun m hm e => hx ⟨m, hm, e⟩]
      simp [nth, List.getD, List.getElem?_replicate]
      split <;> rfl
/-- What is laid when k steps have been met. -/
def midS (l : List Int) (S k : Nat) : List Int := if k ≤ S then List.replicate l.length 0 else sentL l S
theorem midS_step {l : List Int} {S k : Nat} (h : k ≠ S) : midS l S (k + 1) = midS l S k := by
  unfold midS
  by_cases h1 : k ≤ S
  · rw [if_pos h1, if_pos (by omega)]
  · rw [if_neg h1, if_neg (by omega)]
theorem midS_end {l : List Int} (hp : posL l) (h0 : 0 < l.length) (S : Nat) : midS l S l.length = sentL l S := by
  unfold midS
  by_cases h1 : l.length ≤ S
  · rw [if_pos h1]
    have h := put_sent hp h0 S
    rw [msgs_none h0 h1] at h
    exact h
  · rw [if_neg h1]
theorem midS_len (l : List Int) (S k : Nat) : (midS l S k).length = l.length := by
  unfold midS
  split
  · simp
  · exact sentL_len l S

theorem wpListIn_make_full9 {F : Fence} {n : Nat} {P : Program} (w : World) {ops : Array Oper} {rest : List Oper} {o : Oper} {a : Act} {Q : Exit → Act → World → Prop}
    (hg : o.guard = none) (l c : Operand) (t : TypeId) (hop : o.op = Op.makeSlice t l c)
    (base : Nat) (e : TypeId) (i : TypeInfo) (z : Value) (size : Nat) (h1 : P.underlying t = some (.slice e)) (h2 : P.info? e = some i) (h3 : i.zero = some z) (h4 : i.size = size)
    (kl kc : IntKind) (L C : Int) (m : Nat) (hl : a.eval l = .int kl L) (hc : a.eval c = .int kc C) (hL : L = (m : Int)) (hC : C = (m : Int)) (b2 : i.bytes * m ≤ 281474976710656) (b3 : m ≤ maxLen) (b4 : base ≤ w.heap.size)
    (hK : ∀ w', w'.ownsRow base e size (.slice (some ⟨w.heap.size, 0, none⟩) m m) m (madeCells z.cells (m * size)).toList → w.grownBy w' none → wpListIn F n P ops Q rest (a.put o.dst (.slice (some ⟨w.heap.size, 0, none⟩) m m)) w') :
    wpListIn F n P ops Q (o :: rest) a w := by
  refine wpListIn_plain hg fun K hK' => ?_
  obtain ⟨w', hrun, r1, r2⟩ := run_make_full (P := P) w base t e i z size h1 h2 h3 h4 kl kc m b2 b3 b4
  subst hL
  subst hC
  unfold Oper.wpIn
  refine ⟨?_, ?_⟩
  · simp [Oper.about, hop]
  · rw [Oper.semAt_plain F _ _ (by rw [hop]; intro c hc'; cases hc')]
    simp [execOp, hop, hl, hc, hrun, Result.andThen]
    exact hK' _ _ (hK w' r1 r2)

attribute [local go_sem] Oper.semAt_some

set_option maxRecDepth 100000 in
set_option maxHeartbeats 3200000 in
theorem sent_yes (A : Option Addr) (n c : Nat) (l : List Int) (S : Nat) (w : World) (hs : Sl w w.heap.size A n l) (hc : n ≤ c) (hcm : c ≤ maxLen) (h1 : ringOk l = true) (hS : S ≤ 12) :
    Calls Try.prog 20 #[.slice A n c, .int .i64 S] w fun e w' => ∃ A2 c2, e = .returned (.slice A2 n c2) ∧ w'.ownsRow w.heap.size 3 1 (.slice A2 n c2) n (ints (sentL l S)) ∧ Below w.heap.size w w' := by
  obtain ⟨i0, hi, hz0, hz1, hz2⟩ := info_parts info_int
  have HLL := hid hs.len
  have hrk := ringOk_iff.1 h1
  rw [HLL.out] at hrk
  obtain ⟨_, _, hn1, hn12⟩ := hrk
  have HPO := hid (ring_pos h1)
  have HS := hid hs
  obtain ⟨WR, hWR⟩ : ∃ WR : World, w.alloc (.cells #[.int .i64 S] 3) = WR := ⟨_, rfl⟩
  have hzR : WR.heap.size = w.heap.size + 1 := by rw [← hWR]; simp
  have hbR : Below w.heap.size w WR := by rw [← hWR]; exact (Below.refl _ w).alloc (Nat.le_refl _) _
  have y0 : Boxed WR w.heap.size 3 (.int .i64 S) := by rw [← hWR]; exact Boxed.new w _ _
  have y0c := y0.cell
  have CK := hid (ringI_any A n c l WR _ (hs.on hbR) hc hcm)
  rw [h1] at CK
  refine (callsIn_wide (n := 5)).1 ?_
  have hwd : Fence.wide.depth.isSome = false := rfl
  have hwr : Fence.wide.round = none := rfl
  have hf1 : Fence.wide.fn 16 := trivial
  have hf3 : Fence.wide.fn 47 := trivial
  have hS0 : ¬ (S : Int) < 0 := by omega
  have hS1 : ¬ (12 : Int) < (S : Int) := by omega
  refine callsIn_of_wp_marks Try.func20 rfl trivial ?_ rfl
  simp only [Try.ntmps20, List.size_toArray, List.length_cons, List.length_nil, Nat.reduceAdd, Nat.reduceSub, Array.replicate_succ, Array.replicate_zero, List.push_toArray, List.append_toArray, List.nil_append, List.cons_append]
  gi_wp2_with (first
    | (gi_at_call 16; refine (callsIn_wide.2 CK.out).mono ?_; rintro e w' ⟨rfl, rfl⟩)
    | (gi_at_make; refine wpListIn_make_full9 _ rfl _ _ 23 rfl w.heap.size 3 i0 (.int .i64 0) 1 Try.underlying23 hi hz0 hz1 .i64 .i64 n n n rfl rfl rfl rfl (by rw [hz2]; omega) (by simp only [maxLen]; omega) (by omega) ?_; intro w2 o2 g2)
    | (gi_at_call 47; refine (callsIn_wide.2 (messageRoundsF_any _ _ _ _)).mono ?_; rintro e w' ⟨rfl, rfl⟩))
  rw [madeInts, hzR] at o2
  have hzG : w.heap.size + 1 < w2.heap.size := (o2.lt _ rfl).2
  have hb2 : Below w.heap.size w w2 := hbR.trans ((below_grown g2).mono (by omega))
  have y2 := y0.kept g2 (by simp)
  obtain ⟨z, hz⟩ : ∃ z, w2.heap.size = z := ⟨_, rfl⟩
  rw [hz] at hzG ⊢
  obtain ⟨W0, hW0⟩ : ∃ W0 : World, (w2.alloc (.cells #[.slice (some ⟨w.heap.size + 1, 0, none⟩) n n] 23)).alloc (.cells #[.slice A n c] 23) = W0 := ⟨_, rfl⟩
  rw [hW0]
  have hsz : z + 2 ≤ W0.heap.size := by rw [← hW0, ← hz]; simp
  have hb0 : Below w.heap.size w W0 := by rw [← hW0]; exact (hb2.alloc (by omega) _).alloc (by simp; omega) _
  have x0 : Boxed W0 w.heap.size 3 (.int .i64 S) := by rw [← hW0]; exact (y2.alloc _).alloc _
  have x1 : Boxed W0 z 23 (.slice (some ⟨w.heap.size + 1, 0, none⟩) n n) := by rw [← hW0, ← hz]; exact (Boxed.new w2 _ _).alloc _
  have x2 : Boxed W0 (z + 1) 23 (.slice A n c) := by
    rw [← hW0, ← hz]
    have h1 := Boxed.new (w2.alloc (.cells #[.slice (some ⟨w.heap.size + 1, 0, none⟩) n n] 23)) 23 (.slice A n c)
    rw [World.size_alloc] at h1
    exact h1
  have r0 : W0.ownsRow w.heap.size 3 1 (.slice (some ⟨w.heap.size + 1, 0, none⟩) n n) n (ints (midS l S 0)) := by
    rw [show midS l S 0 = List.replicate n 0 from by unfold midS; rw [if_pos (Nat.zero_le _), HLL.out], ← hW0]
    exact (o2.alloc _).alloc _
  clear hW0 o2 g2 y2 hb2 y0c y0 CK hbR hWR
  have eg : ∀ args w, (callFunc 55 args).run Try.prog w = .ok (.enter 55 args) w := enters_of Try.func55 (by kernel_rfl) rfl
  refine range_bareX (n := 5) rfl eg ?_
  intro rc W1 hs1 hb1 hl1 hd1 hY
  have hbW := hb0.trans (hb1.mono (by omega))
  have g01 : W0.grownBy W1 none := ⟨hb1.os, hb1.tape, hb1.output, hb1.size, fun k hk _ => hb1.block k hk⟩
  have x21 : Boxed W1 (z + 1) 23 (.slice A n c) := x2.kept g01 (by simp)
  refine (rounds9_in (5 - 1) (W0.heap.size + 1) (z + 1) A n c l
    (fun k W => W.heap[W0.heap.size + 1]? = some (.loop (rc .ready none)) ∧ W.heap[W0.heap.size]? = some (.deferred (some [])) ∧
      Boxed W w.heap.size 3 (.int .i64 S) ∧ Boxed W z 23 (.slice (some ⟨w.heap.size + 1, 0, none⟩) n n) ∧ Boxed W (z + 1) 23 (.slice A n c) ∧
      W.ownsRow w.heap.size 3 1 (.slice (some ⟨w.heap.size + 1, 0, none⟩) n n) n (ints (midS l S k)) ∧ W1.heap.size ≤ W.heap.size ∧ Below w.heap.size w W) (fun _ => False) W1
    HLL.out h1 (hs.on hbW |>.more (by omega)) x21.cell (by omega) ?still ?below ?yields
    ⟨hl1, hd1, x0.kept g01 (by simp), x1.kept g01 (by simp), x21, own_kept_none r0 g01, Nat.le_refl _, hbW⟩).mono ?behind
  case still =>
    rintro k W ⟨_, _, _, _, g4, _, g5, g6⟩
    exact ⟨HS.out.on g6, g4.cell, g5⟩
  case below =>
    rintro k W W' ⟨g1, g2, v0, v1, v2, r, g5, g6⟩ hb
    exact ⟨(hb.block _ (Array.getElem?_eq_some_iff.1 g1).1).trans g1, (hb.block _ (Array.getElem?_eq_some_iff.1 g2).1).trans g2, (hb.block _ v0.lt).trans v0, (hb.block _ v1.lt).trans v1, (hb.block _ v2.lt).trans v2, own_on r hb, Nat.le_trans g5 hb.size, g6.trans (hb.mono g6.size)⟩
  case yields =>
    rintro k q c3 A3 W ⟨hl, hd, v0, v1, v2, r, hz, hb⟩ hkn hq0 ho
    refine hY #[.int .i64 k, .slice A3 q c3] W _ rfl hl ⟨?a1, ?w1, ?assign, ?ready, ?body⟩
    case assign =>
      intro K hK
      gi_wp2
      exact hK
    case ready => exact hl
    have hsW : w.heap.size ≤ W.heap.size := hb.size
    have hlW : W0.heap.size + 1 < W.heap.size := (Array.getElem?_eq_some_iff.1 hl).1
    obtain ⟨Wb, hWb⟩ : ∃ Wb, W.putObj (W0.heap.size + 1) (.loop (rc .busy none)) = Wb := ⟨_, rfl⟩
    rw [hWb]
    have lb : Wb.heap[W0.heap.size + 1]? = some (.loop (rc .busy none)) := by rw [← hWb]; exact World.putObj_heap_same hlW
    have db : Wb.heap[W0.heap.size]? = some (.deferred (some [])) := by rw [← hWb]; exact (World.putObj_heap_other (by omega)).trans hd
    have b0 : Boxed Wb w.heap.size 3 (.int .i64 S) := by rw [← hWb]; exact boxed_putX v0 _ (by omega)
    have b1 : Boxed Wb z 23 (.slice (some ⟨w.heap.size + 1, 0, none⟩) n n) := by rw [← hWb]; exact boxed_putX v1 _ (by omega)
    have b2 : Boxed Wb (z + 1) 23 (.slice A n c) := by rw [← hWb]; exact boxed_putX v2 _ (by omega)
    have rb : Wb.ownsRow w.heap.size 3 1 (.slice (some ⟨w.heap.size + 1, 0, none⟩) n n) n (ints (midS l S k)) := by rw [← hWb]; exact ownsRow_putObj r _ hl rfl
    have bb : Below w.heap.size w Wb := by rw [← hWb]; exact below_putX hb _ (by omega) hsW
    have zb : W1.heap.size ≤ Wb.heap.size := by rw [← hWb]; simpa using hz
    have ob : Wb.ownsRow W1.heap.size 49 2 (.slice A3 q c3) q (ints (flat (msgs l k))) := by rw [← hWb]; exact ownsRow_putObj ho _ hl rfl
    have hql := own_len2 ob
    have hq12 : q ≤ 12 := by have := msgs_len_le l k; rw [hql, HLL.out] at this; omega
    have HS1 := hid hs1
    have LB := hid lb
    have DB := hid db
    have B0 := hid b0
    have B1 := hid b1
    have B2 := hid b2
    have RB := hid rb
    have BB := hid bb
    have ZB := hid zb
    have OB := hid ob
    have c0 := b0.cell
    clear hl hd v0 v1 v2 r hz hb hWb ho lb db b0 b1 b2 rb bb zb ob hs1 hs hlW hsW x21 g01 x0 x1 x2 r0
    by_cases hkS : k = S
    · subst hkS
      have hRL : midS l k k = List.replicate n 0 := by unfold midS; rw [if_pos (Nat.le_refl _), HLL.out]
      have HFIN := hid (show putL (List.replicate n 0) ((msgs l k).take q) = midS l k (k + 1) from by
        rw [List.take_of_length_le (by rw [hql]; exact Nat.le_refl _)]
        unfold midS
        rw [if_neg (by omega), ← put_sent HPO.out (by rw [HLL.out]; omega) k, HLL.out])
      have HR0 := hid (show Wb.ownsRow w.heap.size 3 1 (.slice (some ⟨w.heap.size + 1, 0, none⟩) n n) n (ints (putL (List.replicate n 0) ((msgs l k).take 0))) from by have h := RB.out; rwa [hRL] at h)
      have HQ := hid hql
      have HMG := hid (fun j (hj : j < q) => msgs_get (l := l) (s := k) (k := j) (by rw [hql]; exact hj))
      have hW1s : W0.heap.size ≤ W1.heap.size := hb1.size
      clear hRL hql RB
      gi_wp2
      gi_loopw [33] (fun i wr => ∃ j : Nat, i = .int .i64 j ∧ j ≤ q ∧ Hid (Wb.grownBy wr (some (w.heap.size + 1))) ∧ Hid (wr.ownsRow w.heap.size 3 1 (.slice (some ⟨w.heap.size + 1, 0, none⟩) n n) n (ints (putL (List.replicate n 0) ((msgs l k).take j))))) (fun i _ => q - (intOf i).toNat)
      case atStart => exact ⟨0, rfl, Nat.zero_le _, hid ⟨rfl, rfl, rfl, Nat.le_refl _, fun _ _ _ => rfl⟩, HR0⟩
      case round =>
        clear HR0
        obtain ⟨j, rfl, hj, HG, HO⟩ := hrel
        have ob := OB.out.kept HG.out (by
          rcases hbk : (Value.slice A3 q c3).ownBlock with _ | i
          · exact .inl rfl
          · right; have := (OB.out.lt i hbk).1; simp; omega)
        by_cases hlt : j < q
        · have hlti : (j : Int) < (q : Int) := by omega
          obtain ⟨b, off, rfl, hbl, hcs⟩ := (SlD.of_own ob).2.2 (by omega)
          have hc0 := hcs (j * 2) (by omega)
          have hc1 := hcs (j * 2 + 1) (by omega)
          rw [nth_flat0] at hc0
          rw [nth_flat1, ← Nat.add_assoc] at hc1
          clear hcs ob
          obtain ⟨jj, hjj, _, hmx⟩ := HMG.out j hlt
          obtain ⟨p, hp⟩ : ∃ p, (jj + k) % l.length = p := ⟨_, rfl⟩
          have hpn : p < n := by rw [← hp, HLL.out]; exact Nat.mod_lt _ (by omega)
          obtain ⟨x, hx⟩ : ∃ x, rf l jj = x := ⟨_, rfl⟩
          have hmx2 : (msgs l k).getD j (0, 0) = ((p : Int), x) := by rw [hmx, ← hp, ← hx]; rfl
          have HT := hid (show (msgs l k).take (j + 1) = (msgs l k).take j ++ [((p : Int), x)] from by
            rw [List.take_succ_eq_append_getElem (by rw [HQ.out]; exact hlt), ← hmx2]
            simp [List.getD, show j < (msgs l k).length from by rw [HQ.out]; exact hlt])
          rw [hmx2] at hc0 hc1
          replace hc0 : wr.cell? ⟨b, off + j * 2, none⟩ = some (.int .i64 p) := hc0
          replace hc1 : wr.cell? ⟨b, off + j * 2 + 1, none⟩ = some (.int .i64 x) := hc1
          clear hmx hmx2 hp hx hjj
          have hpi : (p : Int) < (n : Int) := by omega
          obtain ⟨W2, hW2⟩ : ∃ W2, wr.alloc (.cells #[.int .i64 p, .int .i64 x] 49) = W2 := ⟨_, rfl⟩
          have g2 : Wb.grownBy W2 (some (w.heap.size + 1)) := by rw [← hW2]; exact HG.out.andThen (grown_alloc _ _ none) (by simp)
          have d0 : W2.cell? ⟨wr.heap.size, 0, none⟩ = some (.int .i64 p) := by rw [← hW2]; simp
          have d1 : W2.cell? ⟨wr.heap.size, 1, none⟩ = some (.int .i64 x) := by rw [← hW2]; simp
          have q1 := (B1.out.kept g2 (by simp; omega)).cell
          have o2 : W2.ownsRow w.heap.size 3 1 (.slice (some ⟨w.heap.size + 1, 0, none⟩) n n) n (ints (putL (List.replicate n 0) ((msgs l k).take j))) := by rw [← hW2]; exact HO.out.alloc _
          have hx1 := own_cell o2 (show (putL (List.replicate n 0) ((msgs l k).take j)).length = n by rw [putL_len]; simp) hpn
          have hf1 := o2.frozenAt p
          obtain ⟨p1, p2⟩ := o2.stored p (.int .i64 x)
          rw [ints_set, show (putL (List.replicate n 0) ((msgs l k).take j)).set p x = putL (List.replicate n 0) ((msgs l k).take (j + 1)) from by rw [HT.out, putL_snoc, Int.toNat_natCast]] at p1
          have P1 := hid p1
          have G1 := hid (g2.andThen p2 (by intro i hi; right; exact hi))
          clear p1 p2 o2 g2
          gi_wp2
          go_roundw
          case rel => exact ⟨j + 1, by go_num, by omega, G1, P1⟩
          case measure => simp [intOf]; omega
        · obtain rfl : j = q := by omega
          have lb2 : wr.heap[W0.heap.size + 1]? = some (.loop (rc .busy none)) := (HG.out.block _ (Array.getElem?_eq_some_iff.1 LB.out).1 (by simp; omega)).trans LB.out
          have db2 : wr.heap[W0.heap.size]? = some (.deferred (some [])) := (HG.out.block _ (Array.getElem?_eq_some_iff.1 DB.out).1 (by simp; omega)).trans DB.out
          have bb2 := BB.out.grown HG.out BB.out.size (by intro i hi; cases hi; omega)
          have L2 := hid lb2
          have D2 := hid db2
          have BB2 := hid bb2
          have OB2 := hid ob
          have hsz9 := HG.out.size
          clear lb2 db2 bb2 ob
          gi_wp2
          exact ⟨L2.out, .inl ⟨rfl, ⟨World.putObj_heap_same (Array.getElem?_eq_some_iff.1 L2.out).1, (World.putObj_heap_other (by omega)).trans D2.out, boxed_putX (B0.out.kept HG.out (by simp)) _ (by omega), boxed_putX (B1.out.kept HG.out (by simp; omega)) _ (by omega), boxed_putX (B2.out.kept HG.out (by simp; omega)) _ (by omega),
            by rw [← HFIN.out]; exact ownsRow_putObj HO.out _ L2.out rfl, by simpa using Nat.le_trans ZB.out hsz9, below_putX BB2.out _ (by omega) BB2.out.size⟩, ownsRow_putObj OB2.out _ L2.out rfl⟩⟩
    · have hne : ((k : Int) == (S : Int)) = false := by simp; omega
      have hne2 : ¬ (k : Int) = (S : Int) := by omega
      have HST := hid (midS_step (l := l) hkS)
      clear hkS
      gi_wp2
      exact ⟨LB.out, rfl, ⟨World.putObj_heap_same (Array.getElem?_eq_some_iff.1 LB.out).1, (World.putObj_heap_other (by omega)).trans DB.out, boxed_putX B0.out _ (by omega), boxed_putX B1.out _ (by omega), boxed_putX B2.out _ (by omega), by rw [HST.out]; exact ownsRow_putObj RB.out _ LB.out rfl, by simpa using ZB.out, below_putX BB.out _ (by omega) BB.out.size⟩, ownsRow_putObj OB.out _ LB.out rfl⟩
  case behind =>
    rintro e W' ⟨hv, (⟨hl, hd, v0, v1, v2, r, hz, hb⟩ | h)⟩
    · refine ⟨hv, .inl ⟨hl, fun o => ?_⟩⟩
      rw [show midS l S n = sentL l S from by rw [← HLL.out]; exact midS_end HPO.out (by rw [HLL.out]; omega) S] at r
      obtain ⟨W2, hW2⟩ : ∃ W2, W'.putObj (W0.heap.size + 1) o = W2 := ⟨_, rfl⟩
      rw [hW2]
      have hcv : W2.cell? ⟨z, 0, none⟩ = some (.slice (some ⟨w.heap.size + 1, 0, none⟩) n n) := by rw [← hW2]; exact (boxed_putX v1 _ (by omega)).cell
      have hK2 : W2.heap[W0.heap.size]? = some (.deferred (some [])) := by rw [← hW2]; exact (World.putObj_heap_other (by omega)).trans hd
      have r2 : W2.ownsRow w.heap.size 3 1 (.slice (some ⟨w.heap.size + 1, 0, none⟩) n n) n (ints (sentL l S)) := by rw [← hW2]; exact ownsRow_putObj r _ hl rfl
      have hb2 : Below w.heap.size w W2 := by rw [← hW2]; exact below_putX hb _ (by omega) hb.size
      have R2 := hid r2
      clear hW2 hb hl hd v0 v1 v2 r r2
      gi_wp2
      refine ⟨by simp, .inl ⟨_, _, rfl, run_takeDeferred hK2, ?_⟩⟩
      exact ⟨_, results_tmp rfl _ _ _, _, _, rfl, ownsRow_putObj R2.out _ hK2 rfl, below_putX hb2 _ (by omega) hb2.size⟩
    · exact h.elim

set_option maxHeartbeats 1600000 in
theorem sentI_any (A : Option Addr) (n c : Nat) (l : List Int) (s : Int) (w : World) (hs : Sl w w.heap.size A n l) (hc : n ≤ c) (hcm : c ≤ maxLen) :
    Calls Try.prog 20 #[.slice A n c, .int .i64 s] w fun e w' => ∃ A2 m c2, e = .returned (.slice A2 m c2) ∧ w'.ownsRow w.heap.size 3 1 (.slice A2 m c2) m (ints (sentOut l s)) ∧ m ≤ 12 ∧ Below w.heap.size w w' := by
  obtain ⟨WR, hWR⟩ : ∃ WR : World, w.alloc (.cells #[.int .i64 s] 3) = WR := ⟨_, rfl⟩
  have hbR : Below w.heap.size w WR := by rw [← hWR]; exact (Below.refl _ w).alloc (Nat.le_refl _) _
  have y0 : Boxed WR w.heap.size 3 (.int .i64 s) := by rw [← hWR]; exact Boxed.new w _ _
  have y0c := y0.cell
  have CK := hid (ringI_any A n c l WR _ (hs.on hbR) hc hcm)
  cases h1 : ringOk l with
  | true =>
    obtain ⟨_, _, h3, h4⟩ := ringOk_iff.1 h1
    rw [hs.len] at h4
    by_cases h2 : within s 0 12 = true
    · have hb := within_iff.1 h2
      obtain ⟨S, rfl⟩ : ∃ S : Nat, s = S := Int.eq_ofNat_of_zero_le hb.1
      have HV : sentOut l (S : Int) = sentL l S := by unfold sentOut; rw [h1, h2, Int.toNat_natCast]; rfl
      rw [HV]
      exact (sent_yes A n c l S w hs hc hcm h1 (by omega)).mono fun e w' ⟨A2, c2, h5, h6, h7⟩ => ⟨A2, n, c2, h5, h6, h4, h7⟩
    · have HV := hid (show sentOut l s = [] from by unfold sentOut; rw [h1, show within s 0 12 = false from by simpa using h2]; rfl)
      rw [h1] at CK
      by_cases hs0 : s < 0
      · go_enter Try.func20, Try.ntmps20
        go_wp2_with (go_at_call 16; refine CK.out.mono ?_; rintro e w' ⟨rfl, rfl⟩)
        go_ret
        exact ⟨none, 0, 0, rfl, by rw [HV.out]; exact World.ownsRow_nil _ _ _ _, by omega, hbR⟩
      · have hs1 : (12 : Int) < s := by simp [within] at h2; omega
        go_enter Try.func20, Try.ntmps20
        go_wp2_with (go_at_call 16; refine CK.out.mono ?_; rintro e w' ⟨rfl, rfl⟩)
        go_ret
        exact ⟨none, 0, 0, rfl, by rw [HV.out]; exact World.ownsRow_nil _ _ _ _, by omega, hbR⟩
  | false =>
    have HV := hid (show sentOut l s = [] from by unfold sentOut; rw [h1]; rfl)
    rw [h1] at CK
    go_enter Try.func20, Try.ntmps20
    go_wp2_with (go_at_call 16; refine CK.out.mono ?_; rintro e w' ⟨rfl, rfl⟩)
    go_ret
    exact ⟨none, 0, 0, rfl, by rw [HV.out]; exact World.ownsRow_nil _ _ _ _, by omega, hbR⟩
end Go.Proofs.Ytegmkacapldnoaa
