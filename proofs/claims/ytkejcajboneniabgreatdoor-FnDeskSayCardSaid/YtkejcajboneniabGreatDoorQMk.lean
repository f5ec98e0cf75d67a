/-
  Texts put together: T12s K12s. No statement is proved here.
-/
import Derived.Test.YtkejcajboneniabGreatDoorQMf
import Derived.Test.YtkejcajboneniabGreatDoorQK12l
import Derived.Test.YtkejcajboneniabGreatDoorQMj
import Derived.Deep.RegionHeld3
set_option linter.unusedVariables false
set_option linter.unusedSimpArgs false
namespace Go.Proofs.YtkejcajboneniabGreatDoor
open Go.RowKit

/-- The slice value '.slice A n c' reads as the list of texts ls in the world w, below block B. -/
def SlT (w : World) (B : Nat) (A : Option Addr) (n : Nat) (ls : List (List UInt8)) : Prop :=
  ls.length = n ∧ n ≤ maxLen ∧ (0 < n → ∃ b off, A = some ⟨b, off, none⟩ ∧ b < B ∧ ∀ j, j < n → w.cell? ⟨b, off + j, none⟩ = some (encStr (ls.getD j [])))
section
variable {w w' : World} {B B' n : Nat} {A : Option Addr} {l : List (List UInt8)}
theorem SlT.len (h : SlT w B A n l) : l.length = n := h.1
theorem SlT.max (h : SlT w B A n l) : n ≤ 9223372036854775807 := h.2.1
theorem SlT.nil (w : World) (B : Nat) : SlT w B none 0 [] := ⟨rfl, by simp [maxLen], fun h => absurd h (by omega)⟩
theorem SlT.keep (h : SlT w B A n l) (hB : B ≤ B') (hk : ∀ p : Addr, p.block < B → w'.cell? p = w.cell? p) : SlT w' B' A n l :=
  ⟨h.1, h.2.1, fun hn => by
    obtain ⟨b, off, e, hb, hc⟩ := h.2.2 hn
    exact ⟨b, off, e, by omega, fun j hj => (hk _ hb).trans (hc j hj)⟩⟩
theorem SlT.more (h : SlT w B A n l) (hB : B ≤ B') : SlT w B' A n l := h.keep hB fun _ _ => rfl
theorem SlT.below (h : SlT w B A n l) (hb : Below B w w') : SlT w' B A n l := h.keep (Nat.le_refl _) fun _ hp => hb.cell hp
theorem SlT.on (h : SlT w w.heap.size A n l) (hb : Below w.heap.size w w') : SlT w' w'.heap.size A n l := (h.below hb).more hb.size
theorem SlT.at (h : SlT w B A n l) {k : Nat} (hk : k < n) : ∃ b off, A = some ⟨b, off, none⟩ ∧ b < B ∧ w.cell? ⟨b, off + k, none⟩ = some (encStr (l.getD k [])) := by
  obtain ⟨b, off, e, hb, hc⟩ := h.2.2 (by omega)
  exact ⟨b, off, e, hb, hc k hk⟩
theorem SlT.of_own {base c : Nat} {e : TypeId} (h : w.ownsRow base e 1 (.slice A n c) n (strs l)) : SlT w w.heap.size A n l := by
  have hl : l.length = n := by have := h.1; simp only [strs, List.length_map] at this; omega
  rcases h.2 with ⟨h1, h2⟩ | ⟨g, cap, cur, hv, hb, hg, hnc, hcm, hs, ht⟩
  · injection h1 with h1 h3
    subst h1; subst h3
    obtain rfl := List.eq_nil_of_length_eq_zero hl
    exact SlT.nil _ _
  · injection hv with h1 h2 h3
    subst h1; subst h3
    refine ⟨hl, Nat.le_trans hnc hcm, fun _ => ⟨g, 0, rfl, (h.lt g rfl).2, fun j hj => ?_⟩⟩
    rw [Nat.zero_add, h.cellAt j (by omega)]
    simp [strs, List.getD, show j < l.length by omega]
theorem SlT.takeK {k : Nat} (h : SlT w B A n l) (hk : k ≤ n) : SlT w B A k (l.take k) := by
  refine ⟨by rw [List.length_take, h.1]; omega, by have := h.2.1; omega, fun h0 => ?_⟩
  obtain ⟨b, off, e, hb, hc⟩ := h.2.2 (by omega)
  refine ⟨b, off, e, hb, fun j hj => ?_⟩
  rw [hc j (by omega)]
  simp [List.getD, List.getElem?_take, hj]
theorem SlT.dropK {k b off : Nat} (h : SlT w B (some ⟨b, off, none⟩) n l) (hk : k ≤ n) : SlT w B (some ⟨b, off + k, none⟩) (n - k) (l.drop k) := by
  refine ⟨by rw [List.length_drop, h.1], by have := h.2.1; omega, fun h0 => ?_⟩
  obtain ⟨b', off', e, hb, hc⟩ := h.2.2 (by omega)
  injection e with e
  injection e with e1 e2 e3
  subst e1; subst e2
  refine ⟨b, off + k, rfl, hb, fun j hj => ?_⟩
  have hh := hc (k + j) (by omega)
  rw [← Nat.add_assoc] at hh
  rw [hh]
  simp [List.getD, List.getElem?_drop]
end
theorem take_text {l : List (List UInt8)} {k : Nat} (h : k < l.length) : l.take (k + 1) = l.take k ++ [l.getD k []] := by
  rw [List.take_succ_eq_append_getElem h, List.getD_eq_getElem?_getD, List.getElem?_eq_getElem h]
  rfl
theorem strs_snoc (l : List (List UInt8)) (s : List UInt8) : strs l ++ [encStr s] = strs (l ++ [s]) := by simp [strs]
end Go.Proofs.YtkejcajboneniabGreatDoor
namespace Go.Proofs.YtkejcajboneniabGreatDoor
open Go.RowKit

theorem own_box2 {w : World} {B b n : Nat} {v : Value} {e : TypeId} {xs : List Value} {u t : Value} (h : w.ownsRow B e 1 v n xs) (hd : Db w b u t) (hT : 31 ≠ e) (x y : Value) : ((w.setCell ⟨b, 0, none⟩ x).setCell ⟨b, 1, none⟩ y).ownsRow B e 1 v n xs :=
  own_box y (own_box x h (own_blk_ne hd h hT)) (own_blk_ne (hd.set0 x) (own_box (k := 0) x h (own_blk_ne hd h hT)) hT)
theorem other_type {w : World} {B B2 n k : Nat} {v u : Value} {e t : TypeId} {xs ys : List Value} (h : w.ownsRow B e 1 v n xs) (hu : w.ownsRow B2 t 1 u k ys) (hT : e ≠ t) : u.ownBlock = none ∨ u.ownBlock ≠ v.ownBlock := by
  rcases h.2 with ⟨h1, h2⟩ | ⟨g, cap, cur, h1, h2, h3, h4⟩
  · rcases hq : u.ownBlock with _ | q
    · exact .inl rfl
    · exact .inr (by rw [h1]; simp [Value.ownBlock])
  · right
    intro e1
    rw [h1] at e1
    exact own_blk_ne h3 hu hT e1.symm
theorem DkG.beside2 {w w' : World} {B n c m c2 nX : Nat} {A A2 : Option Addr} {D : Dk} {v : Value} {xs : List Value} (h : DkG w B A n c A2 m c2 D) (ho : w.ownsRow B 9 1 v nX xs) (hg : w.grownBy w' v.ownBlock) : DkG w' B A n c A2 m c2 D :=
  h.keep (fun u k ys hu => hu.kept hg (other_type ho hu (by decide))) (fun u k ys hu => hu.kept hg (other_type ho hu (by decide)))
theorem cutS {T G : Prop} (h : Hid T → G) (r : T) : G := h (hid r)
theorem results_ds {P : Program} {fn : Func} {p u : Tmp} {ty : TypeId} (h : fn.results = #[.cell p ty, .tmp u]) (tmps : Array Value) (w : World) (g : Nat) (t : TypeId) (cs : Array Value) (fr : Nat × Nat) (d : TypeDesc)
    (hp : tmps.getD p undef = .pointer (some ⟨g, 0, none⟩)) (hg : w.heap[g]? = some (.cells cs t fr))
    (hu : P.underlying ty = some d) (hd : (match d with | .struct _ | .array _ _ => true | _ => false) = true) (hi : (P.info? ty).map (·.size) = some cs.size) :
    (results fn tmps).run P w = .ok (.tuple #[.agg cs, tmps.getD u undef]) w := results_db h tmps w g t cs fr d hp hg hu hd hi

set_option maxRecDepth 100000 in
set_option maxHeartbeats 6400000 in
theorem specDeskSay_any (A : Option Addr) (n c : Nat) (A2 : Option Addr) (m c2 : Nat) (D : Dk) (AL : Option Addr) (nL cL : Nat) (ls : List (List UInt8)) (w : World) (h : DkR w w.heap.size A n c A2 m c2 D) (hL : SlT w w.heap.size AL nL ls) (hlen : ∀ s ∈ ls, s.length ≤ 2000000) :
    Calls Tryz.prog 31 #[dsk A n c A2 m c2, .slice AL nL cL] w fun e w' => ∃ A3 n3 c3 A4 m4 c4 AX nX cX, e = .returned (.tuple #[dsk A3 n3 c3 A4 m4 c4, .slice AX nX cX]) ∧ DkG w' w.heap.size A3 n3 c3 A4 m4 c4 (sayOut D ls).1 ∧ w'.ownsRow w.heap.size 9 1 (.slice AX nX cX) nX (strs (sayOut D ls).2) ∧ nX ≤ 40 ∧ Below w.heap.size w w' := by
  obtain ⟨i0, hi, hz0, hz1, hz2⟩ := info_parts info_str
  have z1 : (w.alloc (.cells #[.slice A n c, .slice A2 m c2] 31)).heap.size = w.heap.size + 1 := by simp
  have g1 := grown_alloc (w.alloc (.cells #[.slice A n c, .slice A2 m c2] 31)) (.cells #[.slice none 0 0, .slice none 0 0] 31) none
  have X0 := (Db.new w (.slice A n c) (.slice A2 m c2)).on (row := none) g1 (by simp)
  have XR := Db.new (w.alloc (.cells #[.slice A n c, .slice A2 m c2] 31)) (.slice none 0 0) (.slice none 0 0)
  rw [z1] at XR
  have B0 := ((Below.refl w.heap.size w).alloc (Nat.le_refl _) (.cells #[.slice A n c, .slice A2 m c2] 31)).alloc (by simp) (.cells #[.slice none 0 0, .slice none 0 0] 31)
  have hLl := hL.len
  have hLm := hL.max
  go_enter Tryz.func31, Tryz.ntmps31
  obtain ⟨wz, ez⟩ : ∃ W, (w.alloc (.cells #[.slice A n c, .slice A2 m c2] 31)).alloc (.cells #[.slice none 0 0, .slice none 0 0] 31) = W := ⟨_, rfl⟩
  have hzz : wz.heap.size = w.heap.size + 2 := by rw [← ez]; simp
  rw [ez] at X0 XR B0
  have gE := grown_alloc wz (.cells #[] 9) none
  have OE : (wz.alloc (.cells #[] 9)).ownsRow w.heap.size 9 1 (.slice (some ⟨wz.heap.size, 0, none⟩) 0 0) 0 (strs []) := World.ownsRow_lit wz #[] 0 (by omega) (by simp [maxLen]) rfl
  replace X0 := X0.on (row := none) gE (by simp)
  replace XR := XR.on (row := none) gE (by simp)
  replace B0 := B0.trans ((below_grown gE).mono B0.size)
  obtain ⟨w0, e0⟩ : ∃ W, wz.alloc (.cells #[] 9) = W := ⟨_, rfl⟩
  have hz0' : w0.heap.size = w.heap.size + 3 := by rw [← e0]; simp; omega
  rw [e0] at X0 XR B0 OE
  obtain ⟨ge, hge⟩ : ∃ ge, wz.heap.size = ge := ⟨_, rfl⟩
  rw [hge] at OE
  have x0 := X0.c0
  have x1 := X0.c1
  have C1 := hid (specDeskOk_any A n c A2 m c2 D w0 (h.on B0))
  have KC := hid (fun (W' : World) (hW : Below w0.heap.size w0 W') (hok : deskOk D = true) => copyDesk_any A n c A2 m c2 D W' (h.on (B0.trans (hW.mono B0.size))) hok)
  have K0 := hid (fun (W' : World) (hW : Below w0.heap.size w0 W') => show Db W' w.heap.size (.slice A n c) (.slice A2 m c2) ∧ Db W' (w.heap.size + 1) (.slice none 0 0) (.slice none 0 0) ∧ W'.ownsRow w.heap.size 9 1 (.slice (some ⟨ge, 0, none⟩) 0 0) 0 (strs []) from ⟨X0.below hW X0.lt, XR.below hW XR.lt, own_on2 OE hW⟩)
  have HB0 := hid B0
  have HLS := hid hL
  have HLL := hid hLl
  have HLEN := hid hlen
  clear X0 XR B0 g1 z1 h hL gE OE hLl hlen hzz
  by_cases hq : sayOk D ls = true
  · have hq' := hq
    unfold sayOk at hq'
    rw [Bool.and_eq_true, decide_eq_true_iff] at hq'
    obtain ⟨hok, h40⟩ := hq'
    rw [HLL.out] at h40
    have h40i : ¬ (40 : Int) < (nL : Int) := by omega
    have h40d : decide ((40 : Int) < (nL : Int)) = false := by simp; omega
    have HV := hid (show sayOut D ls = sayL D ls from by unfold sayOut; rw [if_pos hq])
    rw [hok] at C1
    go_wp2_with fail
    clear e0 ez hge
    with_reducible refine Calls.mono C1.out ?_
    rintro e w1 ⟨rfl, g1⟩
    have b1 := below_grown g1
    obtain ⟨Y0, YR, _⟩ := K0.out w1 b1
    have y0 := Y0.c0
    have y1 := Y0.c1
    have C2 := hid (KC.out w1 b1 hok)
    have H1 := hid b1
    have z1 := b1.size
    clear x0 x1 C1 g1 b1 Y0 YR
    go_wp2_with fail
    with_reducible refine Calls.mono C2.out ?_
    rintro e w2 ⟨A3, c3, A4, c4, rfl, F2, b2⟩
    obtain ⟨w3, e3⟩ : ∃ W, w2.alloc (.cells #[.slice A3 n c3, .slice A4 m c4] 31) = W := ⟨_, rfl⟩
    have g3 : w2.grownBy w3 none := by rw [← e3]; exact grown_alloc _ _ _
    have ZO : Db w3 w2.heap.size (.slice A3 n c3) (.slice A4 m c4) := by rw [← e3]; exact Db.new _ _ _
    have F3 := (DkG.of_own (F2.onto g3)).mono (show w.heap.size ≤ w1.heap.size by omega)
    have H3 := H1.out.trans ((b2.trans ((below_grown g3).mono b2.size)).mono z1)
    obtain ⟨_, ZR, O3⟩ := K0.out w3 H3
    have hz2x := b2.size
    obtain ⟨o, ho⟩ : ∃ o, w2.heap.size = o := ⟨_, rfl⟩
    rw [ho] at ZO
    have hoB : w.heap.size + 3 ≤ o := by omega
    have HZR := hid ZR
    have HZO := hid ZO
    have HF3 := hid F3
    have HO3 := hid O3
    have HB3 := hid (HB0.out.trans (H3.mono HB0.out.size))
    clear y0 y1 F2 b2 g3 ZR ZO F3 H3 O3 C2 KC K0 H1 hz2x z1 hz0'
    go_wp2
    clear e3 ho
    go_loopw [6, 8] (fun ou kk wr => ∃ (k : Nat) (Ao : Option Addr) (no co : Nat) (Po : Option Addr) (mo cp : Nat) (AX : Option Addr) (cX : Nat), ou = .slice AX k cX ∧ kk = .int .i64 k ∧ k ≤ nL ∧ Hid (Db wr (w.heap.size + 1) (.slice none 0 0) (.slice none 0 0)) ∧ Hid (Db wr o (.slice Ao no co) (.slice Po mo cp)) ∧ Hid (DkG wr w.heap.size Ao no co Po mo cp (sayL D (ls.take k)).1) ∧ Hid (wr.ownsRow w.heap.size 9 1 (.slice AX k cX) k (strs (sayL D (ls.take k)).2)) ∧ Hid (Below w.heap.size w wr)) (fun _ kk _ => nL - (intOf kk).toNat)
    case atStart => exact ⟨0, A3, n, c3, A4, m, c4, some ⟨ge, 0, none⟩, 0, rfl, rfl, Nat.zero_le _, HZR, HZO, HF3, HO3, HB3⟩
    case round =>
      clear HZR HZO HF3 HB3 HO3
      obtain ⟨k, Ao, no, co, Po, mo, cp, AX, cX, rfl, rfl, hk, HZR, HZO, HF3, HO3, HB3⟩ := hrel
      have o0 := HZO.out.c0
      have o1 := HZO.out.c1
      have hwz := HB3.out.size
      have hoz := HZO.out.lt
      by_cases hlt : k < nL
      · obtain ⟨bl, offl, rfl, hbl, d0⟩ := (HLS.out.below HB3.out).at hlt
        have hlti : (k : Int) < (nL : Int) := by omega
        have p7 : (0 : Int) ≤ (k : Int) := by omega
        have htk := hid (show sayL D (ls.take (k + 1)) = sayF (sayL D (ls.take k)) (ls.getD k []) from by rw [take_text (by rw [HLL.out]; exact hlt), say_snoc])
        have hsl : (ls.getD k []).length ≤ 2000000 := HLEN.out _ (by rw [List.getD_eq_getElem?_getD, List.getElem?_eq_getElem (by rw [HLL.out]; exact hlt)]; exact List.getElem_mem _)
        obtain ⟨s, hs⟩ : ∃ a, ls.getD k [] = a := ⟨_, rfl⟩
        rw [hs] at d0 htk hsl
        obtain ⟨E, out, hE⟩ : ∃ E out, sayL D (ls.take k) = (E, out) := ⟨_, _, rfl⟩
        rw [hE] at htk HF3 HO3
        have hXk := hid (show sayL D (ls.take (k + 1)) = ((lineOut E s).1, out ++ [(lineOut E s).2]) from htk.out)
        have KX := hid (fun (W : World) (h1 : Below wr.heap.size wr W) => show (W.cell? ⟨o, 0, none⟩ = some (.slice Ao no co) ∧ W.cell? ⟨o, 1, none⟩ = some (.slice Po mo cp) ∧ W.cell? ⟨bl, offl + k, none⟩ = some (encStr s)) from
          ⟨(HZO.out.below h1 HZO.out.lt).c0, (HZO.out.below h1 HZO.out.lt).c1, (h1.cell (p := ⟨bl, offl + k, none⟩) (show bl < wr.heap.size by omega)).trans d0⟩)
        have CD := hid (fun (W : World) (h1 : Below wr.heap.size wr W) => specDeskLine_any Ao no co Po mo cp E s W (HF3.out.on h1).read hsl)
        obtain ⟨E2, ans, hE2⟩ : ∃ E2 ans, lineOut E s = (E2, ans) := ⟨_, _, rfl⟩
        simp only [hE2] at CD hXk
        have hd1 : Below wr.heap.size wr wr.drew := (Below.refl wr.heap.size wr).drew
        have gW1 : wr.grownBy (wr.alloc (.cells #[.slice none 0 0, .slice none 0 0] 31)).drew none := (grown_alloc wr (.cells #[.slice none 0 0, .slice none 0 0] 31) none).trans (drewN_gA _ 1)
        have hd2 : Below wr.heap.size wr (wr.alloc (.cells #[.slice none 0 0, .slice none 0 0] 31)).drew := below_grown gW1
        have X1 : Db (wr.alloc (.cells #[.slice none 0 0, .slice none 0 0] 31)).drew wr.heap.size (.slice none 0 0) (.slice none 0 0) := Db.new wr (.slice none 0 0) (.slice none 0 0)
        have hX1 : wr.heap.size < (wr.alloc (.cells #[.slice none 0 0, .slice none 0 0] 31)).drew.heap.size := by show wr.heap.size < (wr.alloc (.cells #[.slice none 0 0, .slice none 0 0] 31)).heap.size; simp
        have HX1 := hid X1
        clear X1 gW1 hs hE hE2 htk
        go_wp2
        rename_i KK hKK
        replace hKK := hid hKK
        apply cutS
        · intro REST
          go_region_held3 (fun w' => w'.cell? ⟨o, 0, none⟩ = some (.slice Ao no co) ∧ w'.cell? ⟨o, 1, none⟩ = some (.slice Po mo cp) ∧ w'.cell? ⟨bl, offl + k, none⟩ = some (encStr s))
            (first
              | go_keep
              | assumption
              | exact kx2 _ _)
            (first
              | (go_at_call 21; (with_reducible refine Calls.mono (CD.out wr.drew hd1) ?_); rintro e w7 ⟨A7, n7, c7, A8, m8, c8, rfl, G7p, b7⟩; have hB7 : Below wr.heap.size wr w7 := hd1.trans (b7.mono hd1.size); have kx7 := KX.out _ hB7; have G7 := G7p.mono hd1.size)
              | (go_at_call 21; (with_reducible refine Calls.mono (CD.out (wr.alloc (.cells #[.slice none 0 0, .slice none 0 0] 31)).drew hd2) ?_); rintro e w7 ⟨A7, n7, c7, A8, m8, c8, rfl, G7p, b7⟩; have hB7 : Below wr.heap.size wr w7 := hd2.trans (b7.mono hd2.size); have kx7 := KX.out _ hB7; have G7 := G7p.mono hd2.size; have hq : wr.heap.size ≤ wr.heap.size := Nat.le_refl _; have yx7 : Db w7 wr.heap.size (.slice none 0 0) (.slice none 0 0) := HX1.out.below b7 hX1; have yx0 := yx7.c0; have yx1 := yx7.c1; have yf0 := yx7.fz 0; have yf1 := yx7.fz 1; have kx2 := fun x y => KX.out _ ((hB7.setCell (p := ⟨_, 0, none⟩) hq x).setCell (p := ⟨_, 1, none⟩) hq y)))
          · have VX := Db.new w7 (.slice A7 n7 c7) (.slice A8 m8 c8)
            have GX := G7.onto (grown_alloc w7 (.cells #[.slice A7 n7 c7, .slice A8 m8 c8] 31) none)
            have BX := hB7.alloc hB7.size (.cells #[.slice A7 n7 c7, .slice A8 m8 c8] 31)
            have hsq : o < w7.heap.size := by have := hB7.size; omega
            obtain ⟨V2, e⟩ : ∃ V, w7.alloc (.cells #[.slice A7 n7 c7, .slice A8 m8 c8] 31) = V := ⟨_, rfl⟩
            rw [e] at VX GX BX ⊢
            obtain ⟨t, hqq⟩ : ∃ s, w7.heap.size = s := ⟨_, rfl⟩
            rw [hqq] at VX hsq ⊢
            rename_i hh
            clear hh e hqq G7p G7
            revert hsq
            revert BX
            revert GX
            revert VX
            revert t
            revert V2
            revert c8
            revert m8
            revert A8
            revert c7
            revert n7
            revert A7
            exact REST.out
          all_goals exact REST.out A7 n7 c7 A8 m8 c8 _ _ (yx7.set _ _) (G7.box2 yx7 _ _) ((hB7.setCell (p := ⟨_, 0, none⟩) hq _).setCell (p := ⟨_, 1, none⟩) hq _) (by omega)
        intro A7 n7 c7 A8 m8 c8 V t VX GX BX hot
        refine hKK.out _ _ ?_
        have hVz := BX.size
        have VO := HZO.out.below BX hoz
        have VR := HZR.out.below BX HZR.out.lt
        have OO := own_on2 HO3.out BX
        have BV := HB3.out.trans (BX.mono hwz)
        have t0 := VX.c0
        have t1 := VX.c1
        have v0 := VO.c0
        have v1 := VO.c1
        have v2 := VO.fz 0
        have v3 := VO.fz 1
        -- the desk of now, then the answer behind the others
        have S1 := VO.set (.slice A7 n7 c7) (.slice A8 m8 c8)
        have S2 := (VR.other (g := o) (by omega) 0 (.slice A7 n7 c7)).other (g := o) (by omega) 1 (.slice A8 m8 c8)
        have S3 := (GX.mono hwz).box2 VO (.slice A7 n7 c7) (.slice A8 m8 c8)
        have S4 := own_box2 OO VO (by decide) (.slice A7 n7 c7) (.slice A8 m8 c8)
        have S5 := (BV.setCell (p := ⟨o, 0, none⟩) (show w.heap.size ≤ o by omega) (.slice A7 n7 c7)).setCell (p := ⟨o, 1, none⟩) (show w.heap.size ≤ o by omega) (.slice A8 m8 c8)
        obtain ⟨U, eU⟩ : ∃ U, (V.setCell ⟨o, 0, none⟩ (.slice A7 n7 c7)).setCell ⟨o, 1, none⟩ (.slice A8 m8 c8) = U := ⟨_, rfl⟩
        rw [eU] at S1 S2 S3 S4 S5
        have hUz := S5.size
        have gA := grown_alloc U (.cells #[encStr ans] 9) none
        have P1 := S1.on (row := none) gA (by simp)
        have P2 := S2.on (row := none) gA (by simp)
        have P3 := hid (S3.onto gA)
        have P4 := own_kept_none S4 gA
        have P5 := hid (S5.alloc hUz (.cells #[encStr ans] 9))
        have hcap := own_capK P4
        have hP1 := hid P1
        have hP2 := hid P2
        have hP4 := hid P4
        clear VX GX BX VO VR OO BV S1 S2 S3 S4 S5 P1 P2 gA KX CD hd1 hd2 HX1 hX1 hKK o0 o1 d0
        go_wp2_with (at_builtin; refine wpList_append_own _ rfl _ _ 53 rfl w.heap.size 9 i0 (encStr []) 1 16 Tryz.underlying53 hi hz0 hz1 hz2 rfl (by decide) (.slice AX k cX) _ _ rfl P4 ⟨U.heap.size, 0, none⟩ 1 1 [encStr ans] rfl rfl (cells_new _ [encStr ans] _) (by simp [Value.oneCell']) (by simp only [maxLen]; omega) (by omega) (by simp; omega) ?_; intro v2 w2 o2 g2 _)
        obtain ⟨gx, cx, rfl, hbg, hlt2⟩ := own_shape1 o2 (by omega)
        have hblk := hP4.out.lt
        rw [strs_snoc] at o2
        have Q1 := hid (hP1.out.on g2 (own_blk_ne hP1.out hP4.out (by decide)))
        have Q2 := hid (hP2.out.on g2 (own_blk_ne hP2.out hP4.out (by decide)))
        have Q3 := hid (P3.out.beside2 hP4.out g2)
        have Q4 := hid o2
        have Q5 := hid (P5.out.grown g2 (by simp; omega) (fun j hj => (hblk j hj).1))
        go_roundw
        case rel => exact ⟨k + 1, A7, n7, c7, A8, m8, c8, some ⟨gx, 0, none⟩, cx, rfl, by go_num, by omega, Q2, Q1, by rw [hXk.out]; exact Q3, by rw [hXk.out]; exact Q4, Q5⟩
        case measure => simp [intOf]; omega
      · obtain rfl : k = nL := by omega
        have hfin : ls.take k = ls := List.take_of_length_le (by rw [HLL.out]; exact Nat.le_refl _)
        rw [hfin] at HF3 HO3
        have r0 := HZR.out.c0
        have r1 := HZR.out.c1
        have r2 := HZR.out.fz 0
        have r3 := HZR.out.fz 1
        clear hfin
        have QG := hid (HF3.out.box2 HZR.out (.slice Ao no co) (.slice Po mo cp))
        have QR := hid (HZR.out.set (.slice Ao no co) (.slice Po mo cp))
        have QO := hid (own_box2 HO3.out HZR.out (by decide) (.slice Ao no co) (.slice Po mo cp))
        have QB := hid ((HB3.out.setCell (p := ⟨w.heap.size + 1, 0, none⟩) (show w.heap.size ≤ w.heap.size + 1 by omega) (.slice Ao no co)).setCell (p := ⟨w.heap.size + 1, 1, none⟩) (show w.heap.size ≤ w.heap.size + 1 by omega) (.slice Po mo cp))
        go_wp2
        (try simp only [Exit.inBlock, Exit.then])
        refine bodyPost_ret (results_ds rfl _ _ (w.heap.size + 1) 31 _ (0, 0) _ (by simp [Act.put]) QR.out Tryz.underlying31 rfl size_desk) rfl ?_
        exact ⟨Ao, no, co, Po, mo, cp, AX, k, cX, rfl, by rw [HV.out]; exact QG.out, by rw [HV.out]; exact QO.out, h40, QB.out⟩
  · have HV := hid (show sayOut D ls = (noDk, []) from by unfold sayOut; rw [if_neg hq])
    obtain ⟨dk, hdk⟩ : ∃ b, deskOk D = b := ⟨_, rfl⟩
    rw [hdk] at C1
    have hcond : dk = false ∨ (dk = true ∧ (40 : Int) < (nL : Int)) := by
      cases dk with
      | false => exact .inl rfl
      | true =>
        refine .inr ⟨rfl, ?_⟩
        rcases Nat.lt_or_ge 40 nL with h | h
        · omega
        · exact absurd (show sayOk D ls = true from by unfold sayOk; rw [hdk, HLL.out]; simpa using h) hq
    clear hq hdk KC
    rcases hcond with rfl | ⟨rfl, h40i⟩
    all_goals
      try have h40d : decide ((40 : Int) < (nL : Int)) = true := by simp; omega
      go_wp2_with fail
      clear e0 ez hge
      with_reducible refine Calls.mono C1.out ?_
      rintro e w1 ⟨rfl, g1⟩
      have b1 := below_grown g1
      obtain ⟨_, YR, OY⟩ := K0.out w1 b1
      have r0 := YR.c0
      have r1 := YR.c1
      have r2 := YR.fz 0
      have r3 := YR.fz 1
      have QR := hid (YR.set (.slice none 0 0) (.slice none 0 0))
      have QG := hid ((DkG.no w1 w.heap.size).box2 YR (.slice none 0 0) (.slice none 0 0))
      have QO := hid (own_box2 OY YR (by decide) (.slice none 0 0) (.slice none 0 0))
      have QB := hid (((HB0.out.trans (b1.mono HB0.out.size)).setCell (p := ⟨w.heap.size + 1, 0, none⟩) (show w.heap.size ≤ w.heap.size + 1 by omega) (.slice none 0 0)).setCell (p := ⟨w.heap.size + 1, 1, none⟩) (show w.heap.size ≤ w.heap.size + 1 by omega) (.slice none 0 0))
      clear x0 x1 C1 g1 b1 YR OY
      go_wp2
      (try simp only [Exit.inBlock, Exit.then])
      refine bodyPost_ret (results_ds rfl _ _ (w.heap.size + 1) 31 _ (0, 0) _ (by simp [Act.put]) QR.out Tryz.underlying31 rfl size_desk) rfl ?_
      exact ⟨none, 0, 0, none, 0, 0, _, 0, 0, rfl, by rw [HV.out]; exact QG.out, by rw [HV.out]; exact QO.out, by omega, QB.out⟩
end Go.Proofs.YtkejcajboneniabGreatDoor
