/-
  open (function 11): by New.
-/
import Derived.Test.YteokekllbpkemaaAc5
namespace Go.Proofs.Yteokekllbpkemaa
open Go.RowKit

/-- how a disk is made, as a value -/
def beginV (nw : Bool) (bl : Int) (im : Value) : Value := .agg #[.bool nw, .int .i64 bl, im]
/-- what open leaves -/
def OpenR (t : Nat) (κ : Nat → Nat) (w : World) (e : Ending) (w' : World) : Prop :=
  ∃ x κ', e = .returned (.tuple #[.pointer (some ⟨x, 0, none⟩), .bool true]) ∧ Dsk t κ' w' x 0 ∧ (∀ y, y < w.heap.size → κ' y = κ y) ∧ Below w.heap.size w w'
/-- the tags of a new desk: x the desk, G its buffer, then the disk's from S1 to S2, the document's from S2 on -/
def opK (κ : Nat → Nat) (t S x G S1 S2 y : Nat) : Nat := if y < S then κ y else if y = x ∨ y = G then t + 1 else if y < S1 then 0 else if y < S2 then t + 2 else t + 3
theorem desk_new {w : World} {dv rv : Value} : LS (dv, rv, .slice none 0 0) (w.alloc (.cells #[dv, rv, .slice none 0 0, .int .i64 0, .slice none 0 0] 51)) w.heap.size (.slice none 0 0) :=
  ⟨⟨0, by unfold Lnd; show (w.heap.push _)[w.heap.size]? = _; simp⟩, .inl rfl⟩
def nlK (κ : Nat → Nat) (t S y : Nat) : Nat := if y < S then κ y else t + 1
theorem openR_nil {t : Nat} {κ : Nat → Nat} {w w' : World} {x : Nat} {bv : Value} (hb : Below w.heap.size w w') (h : LS (.pointer none, .pointer none, .slice none 0 0) w' x bv) (hx : ∀ y, XL x bv y → w.heap.size ≤ y) : OpenR t κ w (.returned (.tuple #[.pointer (some ⟨x, 0, none⟩), .bool true])) w' := by
  refine ⟨x, nlK κ t w.heap.size, rfl, ⟨bv, .slice none 0 0, .pointer none, .pointer none, h, fun y hy => ?_, .inl rfl, fun g e => (by cases e), .inl ⟨rfl, rfl⟩⟩, fun y hy => if_pos hy, hb⟩
  have := hx y hy
  exact if_neg (by omega)
theorem openR_ok {t : Nat} {κ : Nat → Nat} {w w1 w2 w' : World} {x p r nb S1 : Nat} {bv : Value} {img : List Int} (hb : Below w.heap.size w w') (h : LS (.pointer (some ⟨p, 0, none⟩), .pointer (some ⟨r, 0, none⟩), .slice none 0 0) w' x bv) (hS : w.heap.size ≤ S1) (z1 : S1 ≤ w1.heap.size) (z2 : w1.heap.size ≤ w2.heap.size)
    (hx : ∀ y, XL x bv y → w.heap.size ≤ y ∧ (y < S1 ∨ w2.heap.size ≤ y)) (hD : Dk (fun y => S1 ≤ y) w1 p img [] (-1) false nb) (hK : Rk (fun y => w1.heap.size ≤ y) w2 r img [] (-1) false nb) (hk : ∀ y, S1 ≤ y → y < w2.heap.size → w'.heap[y]? = w2.heap[y]?) (h12 : ∀ y, S1 ≤ y → y < w1.heap.size → w2.heap[y]? = w1.heap[y]?) :
    OpenR t κ w (.returned (.tuple #[.pointer (some ⟨x, 0, none⟩), .bool true])) w' := by
  have G : ∃ G, (bv.ownBlock = some G ∨ G = x) ∧ ∀ y, XL x bv y → y = x ∨ y = G := by
    cases hv : bv.ownBlock with
    | none => exact ⟨x, .inr rfl, fun y hy => hy.elim .inl (fun e => by rw [hv] at e; cases e)⟩
    | some G => exact ⟨G, .inl rfl, fun y hy => hy.elim .inl (fun e => .inr (by rw [hv] at e; cases e; rfl))⟩
  obtain ⟨G, hG1, hG⟩ := G
  have hxx := hx x (.inl rfl)
  have hgg : w.heap.size ≤ G ∧ (G < S1 ∨ w2.heap.size ≤ G) := hG1.elim (fun e => hx G (.inr e)) (fun e => e ▸ hxx)
  have hD2 := hD.cut.keep (w' := w2) (fun y hy hl => h12 y hy.1 hl)
  refine ⟨x, opK κ t w.heap.size x G S1 w1.heap.size, rfl, ⟨bv, .slice none 0 0, _, _, h, fun y hy => ?_, .inl rfl, fun g e => (by cases e), .inr ⟨p, r, img, [], -1, false, nb, rfl, rfl, (hD2.keep (fun y hy hl => hk y hy.1 hl)).mono (fun y hy => ?_), (hK.cut.keep (fun y hy hl => hk y (by omega) hl)).mono (fun y hy => ?_), Nat.le_refl _⟩⟩, fun y hy => if_pos hy, hb⟩
  · have := (hx y hy).1
    unfold opK
    rw [if_neg (by omega), if_pos (hG y hy)]
  · unfold opK
    rw [if_neg (by omega), if_neg (by omega), if_neg (by omega), if_pos hy.2]
  · unfold opK
    rw [if_neg (by omega), if_neg (by omega), if_neg (by omega), if_neg (by omega)]

set_option maxRecDepth 100000 in
set_option maxHeartbeats 4000000 in
theorem open_new_bad (t : Nat) (κ : Nat → Nat) (w : World) (bl : Int) (im : Value) (hx : bl < 1 ∨ 524288 < bl) : Calls Try.prog 11 #[beginV true bl im] w (OpenR t κ w) := by
  unfold beginV
  obtain ⟨W, hW⟩ : ∃ W, W = w.alloc (.cells #[.bool true, .int .i64 bl, im] 24) := ⟨_, rfl⟩
  have hb : Below w.heap.size w W := by rw [hW]; exact (Below.refl _ _).alloc (Nat.le_refl _) _
  have c1 : W.cell? ⟨w.heap.size, 1, none⟩ = some (.int .i64 bl) := by rw [hW]; exact cell_new rfl 1 _ rfl
  have HN := hid (New_bad bl W hx)
  have HW := hid hW
  have Hb := hid hb
  clear hW hb
  go_enter Try.func11, Try.ntmps11
  go_wp2_with fail
  rw [← HW.out]
  refine Calls.mono HN.out ?_
  rintro e w1 ⟨rfl, rfl⟩
  have HN2 := hid (refNew_bad bl w1 hx)
  clear HN
  go_wp2_with fail
  refine Calls.mono HN2.out ?_
  rintro e w2 ⟨rfl, rfl⟩
  clear HN2
  have HD := hid (desk_new (w := w2) (dv := .pointer none) (rv := .pointer none))
  go_wp2_with fail
  refine (num_any 20 _).mono ?_
  rintro e w7 ⟨rfl, rfl⟩
  go_wp2
  go_ret2
  exact openR_nil (Hb.out.alloc Hb.out.size _) HD.out (fun y hy => hy.elim (fun e => e ▸ Hb.out.size) (fun e => by cases e))

set_option maxRecDepth 100000 in
set_option maxHeartbeats 4000000 in
theorem open_new_ok (t : Nat) (κ : Nat → Nat) (w : World) (nb : Nat) (im : Value) (lo : 1 ≤ nb) (hi : nb ≤ 524288) : Calls Try.prog 11 #[beginV true (nb : Int) im] w (OpenR t κ w) := by
  unfold beginV
  obtain ⟨W, hW⟩ : ∃ W, W = w.alloc (.cells #[.bool true, .int .i64 (nb : Int), im] 24) := ⟨_, rfl⟩
  have hb : Below w.heap.size w W := by rw [hW]; exact (Below.refl _ _).alloc (Nat.le_refl _) _
  have hA : w.heap.size < W.heap.size := by rw [hW]; simp
  have c1 : W.cell? ⟨w.heap.size, 1, none⟩ = some (.int .i64 (nb : Int)) := by rw [hW]; exact cell_new rfl 1 _ rfl
  have HN := hid (New_ok nb W lo hi)
  have HW := hid hW
  have Hb := hid hb
  clear hW hb
  go_enter Try.func11, Try.ntmps11
  go_wp2_with fail
  rw [← HW.out]
  refine Calls.mono HN.out ?_
  rintro e w1 ⟨p, rfl, hp, hD1, hb1⟩
  have HN2 := hid (refNew_ok nb w1 lo hi)
  have j1 := (hb1.cell (p := ⟨w.heap.size, 1, none⟩) hA).trans c1
  have H1 := hid (And.intro hD1 hb1)
  clear HN hp hD1 hb1 c1 lo hi
  go_wp2_with fail
  refine Calls.mono HN2.out ?_
  rintro e w2 ⟨r, rfl, hr, hK2, hb2⟩
  have H2 := hid (And.intro hK2 hb2)
  clear HN2 hr hK2 hb2 j1
  have HD := hid (desk_new (w := w2) (dv := .pointer (some ⟨p, 0, none⟩)) (rv := .pointer (some ⟨r, 0, none⟩)))
  go_wp2_with fail
  refine (num_any 0 _).mono ?_
  rintro e w7 ⟨rfl, rfl⟩
  go_wp2
  go_ret2
  have b1 := H1.out.2
  have b2 := H2.out.2
  have s1 := Hb.out.size
  have bb := (Hb.out.trans (b1.mono s1)).trans (b2.mono (Nat.le_trans s1 b1.size))
  exact openR_ok (S1 := W.heap.size) (bb.alloc bb.size _) HD.out s1 b1.size b2.size (fun y hy => hy.elim (fun e => by subst e; exact ⟨bb.size, .inr (Nat.le_refl _)⟩) (fun e => by cases e)) H1.out.1 H2.out.1 (fun y _ hy => Below.heap_alloc _ _ _ hy) (fun y _ hl => b2.block y hl)

end Go.Proofs.Yteokekllbpkemaa

/-
  open (function 11): by an image.
-/
namespace Go.Proofs.Yteokekllbpkemaa
open Go.RowKit

theorem Lnd.setD {D : DV} {w : World} {L : Nat} {bv : Value} {N : Int} (h : Lnd D w L bv N) (u : Value) : Lnd (u, D.2.1, D.2.2) (w.setCell ⟨L, 0, none⟩ u) L bv N := by
  unfold Lnd at *
  simp only [World.setCell, Array.getElem?_modify]
  rw [h]
  simp
theorem Lnd.setR {D : DV} {w : World} {L : Nat} {bv : Value} {N : Int} (h : Lnd D w L bv N) (u : Value) : Lnd (D.1, u, D.2.2) (w.setCell ⟨L, 1, none⟩ u) L bv N := by
  unfold Lnd at *
  simp only [World.setCell, Array.getElem?_modify]
  rw [h]
  simp
theorem LS.setDR {D : DV} {w : World} {L : Nat} {bv : Value} (h : LS D w L bv) (u v : Value) : LS (u, v, D.2.2) ((w.setCell ⟨L, 0, none⟩ u).setCell ⟨L, 1, none⟩ v) L bv := by
  obtain ⟨⟨N, h1⟩, h2⟩ := h
  refine ⟨⟨N, (h1.setD u).setR v⟩, ?_⟩
  rcases h2 with h2 | ⟨G, M, ys, g1, g2, g3, g4, g5⟩
  · exact .inl h2
  · exact .inr ⟨G, M, ys, g1, g2, (g3.of_block (Below.heap_setCell _ _ _ _ (fun e => g2 e.symm))).of_block (Below.heap_setCell _ _ _ _ (fun e => g2 e.symm)), g4, g5⟩
theorem set2_other {w : World} {L y : Nat} (u v : Value) (h : y ≠ L) : ((w.setCell ⟨L, 0, none⟩ u).setCell ⟨L, 1, none⟩ v).heap[y]? = w.heap[y]? := (Below.heap_setCell _ _ _ _ h).trans (Below.heap_setCell _ _ _ _ h)
set_option maxRecDepth 100000 in
set_option maxHeartbeats 4000000 in
theorem open_image_ok (t : Nat) (κ : Nat → Nat) (w : World) (bl : Int) (a : Option Addr) (n c : Nat) (zs : List Int) (hn : n ≤ 16777216) (hR : Rd w.heap.size w a n zs) (nb : Nat) (hnb : n = 512 * nb) (lo : 1 ≤ nb) (hi : nb ≤ 524288) (hcap : n ≤ c) : Calls Try.prog 11 #[beginV false bl (.slice a n c)] w (OpenR t κ w) := by
  unfold beginV
  obtain ⟨W, hW⟩ : ∃ W, W = w.alloc (.cells #[.bool false, .int .i64 bl, .slice a n c] 24) := ⟨_, rfl⟩
  obtain ⟨V, hV⟩ : ∃ V, V = W.alloc (.cells #[.pointer none, .pointer none, .slice none 0 0, .int .i64 0, .slice none 0 0] 51) := ⟨_, rfl⟩
  have bW : Below w.heap.size w W := by rw [hW]; exact (Below.refl _ _).alloc (Nat.le_refl _) _
  have bV : Below W.heap.size W V := by rw [hV]; exact (Below.refl _ _).alloc (Nat.le_refl _) _
  have sW : W.heap.size = w.heap.size + 1 := by rw [hW]; simp
  have sV : V.heap.size = W.heap.size + 1 := by rw [hV]; simp
  have c1 : W.cell? ⟨w.heap.size, 2, none⟩ = some (.slice a n c) := by rw [hW]; exact cell_new rfl 2 _ rfl
  have c2 : V.cell? ⟨w.heap.size, 2, none⟩ = some (.slice a n c) := (bV.cell (p := ⟨w.heap.size, 2, none⟩) (by show w.heap.size < _; omega)).trans c1
  have hL : LS (.pointer none, .pointer none, .slice none 0 0) V W.heap.size (.slice none 0 0) := by rw [hV]; exact desk_new
  have hwV : Below w.heap.size w V := bW.trans (bV.mono (by omega))
  have hRN : ∀ X : Nat → Prop, (∀ y, y < w.heap.size → ¬ X y) → RdN X V a n zs := fun X hX => by
    obtain ⟨r1, r2, r3⟩ := hR.below hwV
    exact ⟨r1, r2, r3.imp id (fun ⟨b, o, e, l, q⟩ => ⟨b, o, e, by omega, hX b l, q⟩)⟩
  have HLd := hid (Lend_any W.heap.size (.slice none 0 0) a n c zs V.drew hn (hL.but (But.refl (fun _ => False) V).drew (fun _ _ h => h)) ((hRN (XL W.heap.size (.slice none 0 0)) (fun y hy h => h.elim (fun e => by omega) (fun e => by cases e))).but (But.refl _ V).drew))
  have HA : Hid (∀ w1 G M, Lent (.pointer none, .pointer none, .slice none 0 0) w1 W.heap.size G M n zs → ((Value.slice none 0 0).ownBlock = some G ∨ V.drew.heap.size ≤ G) → But (XL W.heap.size (.slice none 0 0)) V.drew w1 →
      w1.cell? ⟨w.heap.size, 2, none⟩ = some (.slice a n c) ∧ But (fun y => y = W.heap.size) V w1 ∧ V.heap.size ≤ G ∧ G < w1.heap.size ∧
      Calls Try.prog 25 #[.slice (some ⟨G, 0, none⟩) n (2 * n + 70)] w1 fun e w' => ∃ p, e = .returned (.tuple #[.pointer (some ⟨p, 0, none⟩), .int .i64 0]) ∧ w1.heap.size ≤ p ∧ Dk (fun x => w1.heap.size ≤ x) w' p zs [] (-1) false nb ∧ Below w1.heap.size w1 w') := by
    intro w1 G M hLe hG hb1
    have hb1' : But (fun y => y = W.heap.size) V w1 := ⟨hb1.os, hb1.tape, hb1.output, hb1.size, fun y hy hx => hb1.block y hy (fun h => h.elim hx (fun e => by cases e))⟩
    have hGl : G < w1.heap.size := by obtain ⟨ys, hB', _⟩ := hLe.buf; exact hB'.lt
    refine ⟨(hb1'.cell (p := ⟨w.heap.size, 2, none⟩) (by show w.heap.size < _; omega) (by show ¬ w.heap.size = _; omega)).trans c2, hb1', hG.elim (fun e => by cases e) id, hGl, ?_⟩
    have hrd := hLe.rd hR.1 hR.2.1
    subst hnb
    exact Open_ok ⟨G, 0, none⟩ nb _ zs w1 lo hi hrd
  have HW := hid hW
  have HV := hid hV
  have Hb := hid (And.intro bW (And.intro bV hwV))
  have HRN := hid hRN
  have Hs := hid (And.intro sW sV)
  clear hW hV bW bV hwV hL hRN c1 sW sV
  have Hnb := hid (And.intro hnb (And.intro lo (And.intro hi hcap)))
  clear hnb lo hi hcap
  go_enter Try.func11, Try.ntmps11
  go_wp2_with fail
  rw [← HW.out, ← HV.out, show w.heap.size + 1 = W.heap.size from Hs.out.1.symm]
  generalize hxx : W.heap.size = x at *
  have Hx := hid hxx
  have hAV : w.heap.size < V.heap.size := by have := Hs.out; omega
  clear hxx
  go_region_held3 (fun w' => w'.cell? ⟨w.heap.size, 2, none⟩ = some (.slice a n c)) (first | assumption | go_keep)
    ((first
      | (go_at_call 26; refine Calls.mono HLd.out ?_; rintro e w1 ⟨G, M, rfl, hLe, hG, hb1⟩
         have L0 := hid (HA.out w1 G M hLe hG hb1)
         have LL := hid hLe
         have j2 := L0.out.1
         clear hLe hG hb1)
      | (go_at_call 25; refine Calls.mono L0.out.2.2.2.2 ?_; rintro e w2 ⟨p, rfl, hp, hD2, hb2⟩
         have i2 := (hb2.cell (p := ⟨w.heap.size, 2, none⟩) (Nat.lt_of_lt_of_le hAV L0.out.2.1.size)).trans j2
         have W2 := hid (And.intro hD2 hb2)
         clear hp hD2 hb2)))
  obtain ⟨_, u1, g1, g2, _⟩ := L0.out
  obtain ⟨hD2, hb2⟩ := W2.out
  have HD2 := hid hD2
  clear hD2
  have hLe2 := LL.out.but (But.of_below (X := fun _ => False) hb2) (fun h => h) (fun h => h)
  have hxs : x < V.heap.size := by have := Hs.out; omega
  have hxw : w.heap.size < x := by have := Hs.out; omega
  have u2 : But (fun y => y = x) V w2 := u1.comp (But.of_below (X := fun _ => False) hb2) (fun _ _ h => h.elim)
  have hRN2 : RdN (fun y => y = x ∨ y = G) w2 a n zs := ((HRN.out (fun y => y = x ∨ w.heap.size < y) (fun y hy h => by omega)).but (u2.mono (fun y _ h => .inl h))).mono (fun y _ h => h.elim .inl (fun h => .inr (by omega)))
  have HBk := hid (Back_any x G M a n c zs w2.drew hn (hLe2.but (But.refl (fun _ => False) w2).drew (fun h => h) (fun h => h)) (hRN2.but (But.refl _ w2).drew))
  have Hu2 := hid (And.intro u2 (And.intro g1 (And.intro g2 hb2)))
  have hxs2 : x < w2.heap.size := Nat.lt_of_lt_of_le hxs u2.size
  have hAs2 : w.heap.size < w2.heap.size := Nat.lt_of_lt_of_le hAV u2.size
  clear u1 g1 g2 hLe2 hRN2 u2 hb2 W2 L0 LL HLd HA c2 j2
  go_wp2_with fail
  go_region_held3 (fun w' => w'.cell? ⟨w.heap.size, 2, none⟩ = some (.slice a n c)) (first | assumption | go_keep)
    ((go_at_call 27; refine Calls.mono HBk.out ?_; rintro e w3 ⟨rfl, hS3, hb3⟩
      have W3 := hid (And.intro hS3 (show But (fun y => y = G) w2 w3 from ⟨hb3.os, hb3.tape, hb3.output, hb3.size, hb3.block⟩))
      have k2 := (W3.out.2.cell (p := ⟨w.heap.size, 2, none⟩) hAs2 (by show ¬ w.heap.size = G; have := Hu2.out.2.1; omega)).trans i2
      clear hS3 hb3))
  obtain ⟨hS3, hb3⟩ := W3.out
  obtain ⟨u2, g1, g2, hb2⟩ := Hu2.out
  have u3 : But (fun y => y = x ∨ y = G) V w3 := (u2.mono (fun _ _ h => .inl h)).comp hb3 (fun _ _ h => .inr h)
  have hRd3 : Rd w3.heap.size w3 a n zs := (((HRN.out (fun y => y = x ∨ y = G) (fun y hy h => by omega)).but u3)).rd
  obtain ⟨b0, o0, ha⟩ : ∃ b0 o0, a = some ⟨b0, o0, none⟩ := by
    obtain ⟨q1, q2, q3, _⟩ := Hnb.out
    obtain ⟨_, _, r3⟩ := hRd3
    rcases r3 with r3 | ⟨b0, o0, e, _⟩
    · omega
    · exact ⟨b0, o0, e⟩
  have HRo : Hid (Calls Try.prog 28 #[.slice a n c] w3 fun e w' => ∃ r, e = .returned (.tuple #[.pointer (some ⟨r, 0, none⟩), .int .i64 0]) ∧ w3.heap.size ≤ r ∧ Rk (fun x => w3.heap.size ≤ x) w' r zs [] (-1) false nb ∧ Below w3.heap.size w3 w') := by
    obtain ⟨q1, q2, q3, q4⟩ := Hnb.out
    show Calls Try.prog 28 #[.slice a n c] w3 _
    have hRd4 := hRd3
    rw [ha, q1] at hRd4
    rw [ha, q1]
    exact refOpen_ok b0 o0 nb c zs w3 q2 q3 (by omega) hRd4
  clear ha
  have HS3 := hid (And.intro hS3 (And.intro hb3 u3))
  clear hS3 hb3 u3 hRd3 u2 g1 g2 hb2 HBk W3 i2
  go_wp2_with fail
  refine Calls.mono HRo.out ?_
  rintro e w4 ⟨r, rfl, hr, hK4, hb4⟩
  have HK4 := hid hK4
  clear hr hK4
  obtain ⟨hS3, hb3, u3⟩ := HS3.out
  have hS4 : LS (.pointer none, .pointer none, .slice none 0 0) w4 x (.slice (some ⟨G, 0, none⟩) M M) := hS3.but (But.of_below (X := fun _ => False) hb4) (fun _ _ h => h)
  obtain ⟨N, hN4⟩ := hS4.1
  have c0 := hN4.dsk.1
  have f0 := hN4.frozen 0
  have c1 := (hN4.setD (.pointer (some ⟨p, 0, none⟩))).dsk.2.1
  have f1 := (hN4.setD (.pointer (some ⟨p, 0, none⟩))).frozen 1
  have HS5 := hid (hS4.setDR (.pointer (some ⟨p, 0, none⟩)) (.pointer (some ⟨r, 0, none⟩)))
  have Hb4 := hid hb4
  clear hS3 hb3 u3 hS4 hN4 hb4 HRo k2
  go_wp2_with fail
  refine (num_any 0 _).mono ?_
  rintro e w7 ⟨rfl, e7⟩
  have e8 := e7.symm
  subst e8
  clear e7
  go_wp2
  go_ret2
  obtain ⟨_, hb3, u3⟩ := HS3.out
  obtain ⟨u2, g1, g2, hb2⟩ := Hu2.out
  have uf : But (fun y => y = x ∨ y = G) V ((w4.setCell ⟨x, 0, none⟩ (.pointer (some ⟨p, 0, none⟩))).setCell ⟨x, 1, none⟩ (.pointer (some ⟨r, 0, none⟩))) := ((u3.comp (But.of_below (X := fun _ => False) Hb4.out) (fun _ _ h => h.elim)).setCell (p := ⟨x, 0, none⟩) (.inl rfl) _).setCell (p := ⟨x, 1, none⟩) (.inl rfl) _
  have bf : Below w.heap.size w ((w4.setCell ⟨x, 0, none⟩ (.pointer (some ⟨p, 0, none⟩))).setCell ⟨x, 1, none⟩ (.pointer (some ⟨r, 0, none⟩))) := Hb.out.2.2.trans (uf.below (by omega) (fun k hk h => by omega))
  refine openR_ok (w1 := w2) (w2 := w4) (S1 := w1.heap.size) bf HS5.out (by have := Nat.le_trans g1 (Nat.le_of_lt g2); omega) hb2.size (Nat.le_trans hb3.size Hb4.out.size) (fun y hy => ?_) HD2.out (HK4.out.mono (fun y hy => Nat.le_trans hb3.size hy)) (fun y h1 _ => set2_other _ _ (by omega)) (fun y h1 h2 => (Hb4.out.block y (Nat.lt_of_lt_of_le h2 hb3.size)).trans (hb3.block y h2 (by show ¬ y = G; omega)))
  rcases hy with hy | hy
  · subst hy; exact ⟨by omega, .inl (by omega)⟩
  · have e : y = G := by cases hy; rfl
    subst e; exact ⟨by omega, .inl g2⟩
set_option maxRecDepth 100000 in
set_option maxHeartbeats 4000000 in
theorem open_image_bad (t : Nat) (κ : Nat → Nat) (w : World) (bl : Int) (a : Option Addr) (n c : Nat) (zs : List Int) (hn : n ≤ 16777216) (hR : Rd w.heap.size w a n zs) (hbad : openBad n) : Calls Try.prog 11 #[beginV false bl (.slice a n c)] w (OpenR t κ w) := by
  unfold beginV
  obtain ⟨W, hW⟩ : ∃ W, W = w.alloc (.cells #[.bool false, .int .i64 bl, .slice a n c] 24) := ⟨_, rfl⟩
  obtain ⟨V, hV⟩ : ∃ V, V = W.alloc (.cells #[.pointer none, .pointer none, .slice none 0 0, .int .i64 0, .slice none 0 0] 51) := ⟨_, rfl⟩
  have bW : Below w.heap.size w W := by rw [hW]; exact (Below.refl _ _).alloc (Nat.le_refl _) _
  have bV : Below W.heap.size W V := by rw [hV]; exact (Below.refl _ _).alloc (Nat.le_refl _) _
  have sW : W.heap.size = w.heap.size + 1 := by rw [hW]; simp
  have sV : V.heap.size = W.heap.size + 1 := by rw [hV]; simp
  have c1 : W.cell? ⟨w.heap.size, 2, none⟩ = some (.slice a n c) := by rw [hW]; exact cell_new rfl 2 _ rfl
  have c2 : V.cell? ⟨w.heap.size, 2, none⟩ = some (.slice a n c) := (bV.cell (p := ⟨w.heap.size, 2, none⟩) (by show w.heap.size < _; omega)).trans c1
  have hL : LS (.pointer none, .pointer none, .slice none 0 0) V W.heap.size (.slice none 0 0) := by rw [hV]; exact desk_new
  have hwV : Below w.heap.size w V := bW.trans (bV.mono (by omega))
  have hRN : ∀ X : Nat → Prop, (∀ y, y < w.heap.size → ¬ X y) → RdN X V a n zs := fun X hX => by
    obtain ⟨r1, r2, r3⟩ := hR.below hwV
    exact ⟨r1, r2, r3.imp id (fun ⟨b, o, e, l, q⟩ => ⟨b, o, e, by omega, hX b l, q⟩)⟩
  have HLd := hid (Lend_any W.heap.size (.slice none 0 0) a n c zs V.drew hn (hL.but (But.refl (fun _ => False) V).drew (fun _ _ h => h)) ((hRN (XL W.heap.size (.slice none 0 0)) (fun y hy h => h.elim (fun e => by omega) (fun e => by cases e))).but (But.refl _ V).drew))
  have HA : Hid (∀ w1 G M, Lent (.pointer none, .pointer none, .slice none 0 0) w1 W.heap.size G M n zs → ((Value.slice none 0 0).ownBlock = some G ∨ V.drew.heap.size ≤ G) → But (XL W.heap.size (.slice none 0 0)) V.drew w1 →
      w1.cell? ⟨w.heap.size, 2, none⟩ = some (.slice a n c) ∧ But (fun y => y = W.heap.size) V w1 ∧ V.heap.size ≤ G ∧ G < w1.heap.size ∧
      Calls Try.prog 25 #[.slice (some ⟨G, 0, none⟩) n (2 * n + 70)] w1 fun e w' => e = .returned (.tuple #[.pointer none, .int .i64 21]) ∧ w' = w1) := by
    intro w1 G M hLe hG hb1
    have hb1' : But (fun y => y = W.heap.size) V w1 := ⟨hb1.os, hb1.tape, hb1.output, hb1.size, fun y hy hx => hb1.block y hy (fun h => h.elim hx (fun e => by cases e))⟩
    have hGl : G < w1.heap.size := by obtain ⟨ys, hB', _⟩ := hLe.buf; exact hB'.lt
    refine ⟨(hb1'.cell (p := ⟨w.heap.size, 2, none⟩) (by show w.heap.size < _; omega) (by show ¬ w.heap.size = _; omega)).trans c2, hb1', hG.elim (fun e => by cases e) id, hGl, ?_⟩
    exact Open_bad _ n _ w1 hbad
  have HW := hid hW
  have HV := hid hV
  have Hb := hid (And.intro bW (And.intro bV hwV))
  have HRN := hid hRN
  have Hs := hid (And.intro sW sV)
  clear hW hV bW bV hwV hL hRN c1 sW sV
  go_enter Try.func11, Try.ntmps11
  go_wp2_with fail
  rw [← HW.out, ← HV.out, show w.heap.size + 1 = W.heap.size from Hs.out.1.symm]
  generalize hxx : W.heap.size = x at *
  have Hx := hid hxx
  have hAV : w.heap.size < V.heap.size := by have := Hs.out; omega
  clear hxx
  go_region_held3 (fun w' => w'.cell? ⟨w.heap.size, 2, none⟩ = some (.slice a n c)) (first | assumption | go_keep)
    ((first
      | (go_at_call 26; refine Calls.mono HLd.out ?_; rintro e w1 ⟨G, M, rfl, hLe, hG, hb1⟩
         have L0 := hid (HA.out w1 G M hLe hG hb1)
         have LL := hid hLe
         have j2 := L0.out.1
         clear hLe hG hb1)
      | (go_at_call 25; refine Calls.mono L0.out.2.2.2.2 ?_; rintro e w2 ⟨rfl, rfl⟩; have hb2 : Below w2.heap.size w2 w2 := Below.refl _ _
         have i2 := (hb2.cell (p := ⟨w.heap.size, 2, none⟩) (Nat.lt_of_lt_of_le hAV L0.out.2.1.size)).trans j2
         have W2 := hid hb2
         clear hb2)))
  obtain ⟨_, u1, g1, g2, _⟩ := L0.out
  have hb2 := W2.out
  have hLe2 := LL.out.but (But.of_below (X := fun _ => False) hb2) (fun h => h) (fun h => h)
  have hxs : x < V.heap.size := by have := Hs.out; omega
  have hxw : w.heap.size < x := by have := Hs.out; omega
  have u2 : But (fun y => y = x) V w2 := u1.comp (But.of_below (X := fun _ => False) hb2) (fun _ _ h => h.elim)
  have hRN2 : RdN (fun y => y = x ∨ y = G) w2 a n zs := ((HRN.out (fun y => y = x ∨ w.heap.size < y) (fun y hy h => by omega)).but (u2.mono (fun y _ h => .inl h))).mono (fun y _ h => h.elim .inl (fun h => .inr (by omega)))
  have HBk := hid (Back_any x G M a n c zs w2.drew hn (hLe2.but (But.refl (fun _ => False) w2).drew (fun h => h) (fun h => h)) (hRN2.but (But.refl _ w2).drew))
  have Hu2 := hid (And.intro u2 (And.intro g1 (And.intro g2 hb2)))
  have hxs2 : x < w2.heap.size := Nat.lt_of_lt_of_le hxs u2.size
  have hAs2 : w.heap.size < w2.heap.size := Nat.lt_of_lt_of_le hAV u2.size
  clear u1 g1 g2 hLe2 hRN2 u2 hb2 W2 L0 LL HLd HA c2 j2
  go_wp2_with fail
  go_region_held3 (fun w' => w'.cell? ⟨w.heap.size, 2, none⟩ = some (.slice a n c)) (first | assumption | go_keep)
    ((go_at_call 27; refine Calls.mono HBk.out ?_; rintro e w3 ⟨rfl, hS3, hb3⟩
      have W3 := hid (And.intro hS3 (show But (fun y => y = G) w2 w3 from ⟨hb3.os, hb3.tape, hb3.output, hb3.size, hb3.block⟩))
      have k2 := (W3.out.2.cell (p := ⟨w.heap.size, 2, none⟩) hAs2 (by show ¬ w.heap.size = G; have := Hu2.out.2.1; omega)).trans i2
      clear hS3 hb3))
  obtain ⟨hS3, hb3⟩ := W3.out
  obtain ⟨u2, g1, g2, hb2⟩ := Hu2.out
  have u3 : But (fun y => y = x ∨ y = G) V w3 := (u2.mono (fun _ _ h => .inl h)).comp hb3 (fun _ _ h => .inr h)
  have hRd3 : Rd w3.heap.size w3 a n zs := (((HRN.out (fun y => y = x ∨ y = G) (fun y hy h => by omega)).but u3)).rd
  have HRo := hid (refOpen_bad a n c w3 hbad (by omega))
  have HS3 := hid (And.intro hS3 (And.intro hb3 u3))
  clear hS3 hb3 u3 hRd3 u2 g1 g2 hb2 HBk W3 i2
  go_wp2_with fail
  refine Calls.mono HRo.out ?_
  rintro e w4 ⟨rfl, rfl⟩
  have hb4 : Below w4.heap.size w4 w4 := Below.refl _ _
  obtain ⟨hS3, hb3, u3⟩ := HS3.out
  have hS4 : LS (.pointer none, .pointer none, .slice none 0 0) w4 x (.slice (some ⟨G, 0, none⟩) M M) := hS3.but (But.of_below (X := fun _ => False) hb4) (fun _ _ h => h)
  obtain ⟨N, hN4⟩ := hS4.1
  have c0 := hN4.dsk.1
  have f0 := hN4.frozen 0
  have c1 := (hN4.setD (.pointer none)).dsk.2.1
  have f1 := (hN4.setD (.pointer none)).frozen 1
  have HS5 := hid (hS4.setDR (.pointer none) (.pointer none))
  have Hb4 := hid hb4
  clear hS3 hb3 u3 hS4 hN4 hb4 HRo k2
  go_wp2_with fail
  refine (num_any 21 _).mono ?_
  rintro e w7 ⟨rfl, e7⟩
  have e8 := e7.symm
  subst e8
  clear e7
  go_wp2
  go_ret2
  obtain ⟨_, hb3, u3⟩ := HS3.out
  obtain ⟨u2, g1, g2, hb2⟩ := Hu2.out
  have uf : But (fun y => y = x ∨ y = G) V ((w4.setCell ⟨x, 0, none⟩ (.pointer none)).setCell ⟨x, 1, none⟩ (.pointer none)) := ((u3.comp (But.of_below (X := fun _ => False) Hb4.out) (fun _ _ h => h.elim)).setCell (p := ⟨x, 0, none⟩) (.inl rfl) _).setCell (p := ⟨x, 1, none⟩) (.inl rfl) _
  have bf : Below w.heap.size w ((w4.setCell ⟨x, 0, none⟩ (.pointer none)).setCell ⟨x, 1, none⟩ (.pointer none)) := Hb.out.2.2.trans (uf.below (by omega) (fun k hk h => by omega))
  refine openR_nil bf HS5.out (fun y hy => ?_)
  rcases hy with hy | hy
  · subst hy; omega
  · have e : y = G := by cases hy; rfl
    subst e; omega

end Go.Proofs.Yteokekllbpkemaa

/-
  open (function 11), whole.
-/
namespace Go.Proofs.Yteokekllbpkemaa
open Go.RowKit

/-- the image of a beginning -/
structure BegIn (B : Nat) (w : World) (a : Option Addr) (n c : Nat) (zs : List Int) : Prop where
  small : n ≤ 16777216
  cap : n ≤ c
  rd : Rd B w a n zs
theorem BegIn.below {B : Nat} {w w' : World} {a : Option Addr} {n c : Nat} {zs : List Int} (h : BegIn B w a n c zs) (hb : Below B w w') : BegIn B w' a n c zs := ⟨h.small, h.cap, h.rd.below hb⟩
theorem open_any (t : Nat) (κ : Nat → Nat) (w : World) (nw : Bool) (bl : Int) {B : Nat} {a : Option Addr} {n c : Nat} {zs : List Int} (h : BegIn B w a n c zs) (hB : B ≤ w.heap.size) : Calls Try.prog 11 #[beginV nw bl (.slice a n c)] w (OpenR t κ w) := by
  cases nw with
  | true =>
    by_cases hx : bl < 1 ∨ 524288 < bl
    · exact open_new_bad t κ w bl _ hx
    · obtain ⟨nb, rfl⟩ : ∃ nb : Nat, bl = nb := ⟨bl.toNat, by omega⟩
      exact open_new_ok t κ w nb _ (by omega) (by omega)
  | false =>
    by_cases hx : openBad n
    · exact open_image_bad t κ w bl a n c zs h.small (h.rd.mono hB) hx
    · unfold openBad at hx
      exact open_image_ok t κ w bl a n c zs h.small (h.rd.mono hB) (n / 512) (by omega) (by omega) (by omega) h.cap

end Go.Proofs.Yteokekllbpkemaa
