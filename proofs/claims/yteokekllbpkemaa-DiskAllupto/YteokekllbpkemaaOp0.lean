/-
  open (function 11): by New.
-/
import Derived.Test.YteokekllbpkemaaAc5
namespace Go.Proofs.Yteokekllbpkemaa
open Go.RowKit

/-- how a disk is made, as a value -/
def beginV (nw : Bool) (bl : Int) (im : Value) : Value := .agg #[.bool nw, .int .i64 bl, im]
/-- what open leaves -/
def OpenR (t : Nat) (κ : Nat → Nat) (w : World) (e : Ending) (w' : World) : Prop :=
  ∃ x κ', e = .returned (.tuple #[.pointer (some ⟨x, 0, none⟩), .bool true]) ∧ Dsk t κ' w' x 0 ∧ (∀ y, y < w.heap.size → κ' y = κ y) ∧ Below w.heap.size w w'
/-- the tags of a new desk: x the desk, G its buffer, then the disk's from S1 to S2, the document's from S2 on -/
def opK (κ : Nat → Nat) (t S x G S1 S2 y : Nat) : Nat := if y < S then κ y else if y = x ∨ y = G then t + 1 else if y < S1 then 0 else if y < S2 then t + 2 else t + 3
theorem desk_new {w : World} {dv rv : Value} : LS (dv, rv, .slice none 0 0) (w.alloc (.cells #[dv, rv, .slice none 0 0, .int .i64 0, .slice none 0 0] 51)) w.heap.size (.slice none 0 0) :=
  ⟨⟨0, by unfold Lnd; show (w.heap.push _)[w.heap.size]? = _; simp⟩, .inl rfl⟩
def nlK (κ : Nat → Nat) (t S y : Nat) : Nat := if y < S then κ y else t + 1
theorem openR_nil {t : Nat} {κ : Nat → Nat} {w w' : World} {x : Nat} {bv : Value} (hb : Below w.heap.size w w') (h : LS (.pointer none, .pointer none, .slice none 0 0) w' x bv) (hx : ∀ y, XL x bv y → w.heap.size ≤ y) : OpenR t κ w (.returned (.tuple #[.pointer (some ⟨x, 0, none⟩), .bool true])) w' := by
  refine ⟨x, nlK κ t w.heap.size, rfl, ⟨bv, .slice none 0 0, .pointer none, .pointer none, h, fun y hy => ?_, .inl rfl, fun g e => (by cases e), .inl ⟨rfl, rfl⟩⟩, fun y hy => if_pos hy, hb⟩
  have := hx y hy
  exact if_neg (by omega)
theorem openR_ok {t : Nat} {κ : Nat → Nat} {w w1 w2 w' : World} {x p r nb S1 : Nat} {bv : Value} {img : List Int} (hb : Below w.heap.size w w') (h : LS (.pointer (some ⟨p, 0, none⟩), .pointer (some ⟨r, 0, none⟩), .slice none 0 0) w' x bv) (hS : w.heap.size ≤ S1) (z1 : S1 ≤ w1.heap.size) (z2 : w1.heap.size ≤ w2.heap.size)
    (hx : ∀ y, XL x bv y → w.heap.size ≤ y ∧ (y < S1 ∨ w2.heap.size ≤ y)) (hD : Dk (fun y => S1 ≤ y) w1 p img [] (-1) false nb) (hK : Rk (fun y => w1.heap.size ≤ y) w2 r img [] (-1) false nb) (hk : ∀ y, S1 ≤ y → y < w2.heap.size → w'.heap[y]? = w2.heap[y]?) (h12 : ∀ y, S1 ≤ y → y < w1.heap.size → w2.heap[y]? = w1.heap[y]?) :
    OpenR t κ w (.returned (.tuple #[.pointer (some ⟨x, 0, none⟩), .bool true])) w' := by
  have G : ∃ G, (bv.ownBlock = some G ∨ G = x) ∧ ∀ y, XL x bv y → y = x ∨ y = G := by
    cases hv : bv.ownBlock with
    | none => exact ⟨x, .inr rfl, fun y hy => hy.elim .inl (fun e => by rw [hv] at e; cases e)⟩
    | some G => exact ⟨G, .inl rfl, fun y hy => hy.elim .inl (fun e => .inr (by rw [hv] at e; cases e; rfl))⟩
  obtain ⟨G, hG1, hG⟩ := G
  have hxx := hx x (.inl rfl)
  have hgg : w.heap.size ≤ G ∧ (G < S1 ∨ w2.heap.size ≤ G) := hG1.elim (fun e => hx G (.inr e)) (fun e => e ▸ hxx)
  have hD2 := hD.cut.keep (w' := w2) (fun y hy hl => h12 y hy.1 hl)
  refine ⟨x, opK κ t w.heap.size x G S1 w1.heap.size, rfl, ⟨bv, .slice none 0 0, _, _, h, fun y hy => ?_, .inl rfl, fun g e => (by cases e), .inr ⟨p, r, img, [], -1, false, nb, rfl, rfl, (hD2.keep (fun y hy hl => hk y hy.1 hl)).mono (fun y hy => ?_), (hK.cut.keep (fun y hy hl => hk y (by omega) hl)).mono (fun y hy => ?_), Nat.le_refl _⟩⟩, fun y hy => if_pos hy, hb⟩
  · have := (hx y hy).1
    unfold opK
    rw [if_neg (by omega), if_pos (hG y hy)]
  · unfold opK
    rw [if_neg (by omega), if_neg (by omega), if_neg (by omega), if_pos hy.2]
  · unfold opK
    rw [if_neg (by omega), if_neg (by omega), if_neg (by omega), if_neg (by omega)]

set_option maxRecDepth 100000 in
set_option maxHeartbeats 4000000 in
theorem open_new_bad (t : Nat) (κ : Nat → Nat) (w : World) (bl : Int) (im : Value) (hx : bl < 1 ∨ 524288 < bl) : Calls Try.prog 11 #[beginV true bl im] w (OpenR t κ w) := by
  unfold beginV
  obtain ⟨W, hW⟩ : ∃ W, W = w.alloc (.cells #[.bool true, .int .i64 bl, im] 24) := ⟨_, rfl⟩
  have hb : Below w.heap.size w W := by rw [hW]; exact (Below.refl _ _).alloc (Nat.le_refl _) _
  have c1 : W.cell? ⟨w.heap.size, 1, none⟩ = some (.int .i64 bl) := by rw [hW]; exact cell_new rfl 1 _ rfl
  have HN := hid (New_bad bl W hx)
  have HW := hid hW
  have Hb := hid hb
  clear hW hb
  go_enter Try.func11, Try.ntmps11
  go_wp2_with fail
  rw [← HW.out]
  refine Calls.mono HN.out ?_
  rintro e w1 ⟨rfl, rfl⟩
  have HN2 := hid (refNew_bad bl w1 hx)
  clear HN
  go_wp2_with fail
  refine Calls.mono HN2.out ?_
  rintro e w2 ⟨rfl, rfl⟩
  clear HN2
  have HD := hid (desk_new (w := w2) (dv := .pointer none) (rv := .pointer none))
  go_wp2_with fail
  refine (num_any 20 _).mono ?_
  rintro e w7 ⟨rfl, rfl⟩
  go_wp2
  go_ret2
  exact openR_nil (Hb.out.alloc Hb.out.size _) HD.out (fun y hy => hy.elim (fun e => e ▸ Hb.out.size) (fun e => by cases e))

set_option maxRecDepth 100000 in
set_option maxHeartbeats 4000000 in
theorem open_new_ok (t : Nat) (κ : Nat → Nat) (w : World) (nb : Nat) (im : Value) (lo : 1 ≤ nb) (hi : nb ≤ 524288) : Calls Try.prog 11 #[beginV true (nb : Int) im] w (OpenR t κ w) := by
  unfold beginV
  obtain ⟨W, hW⟩ : ∃ W, W = w.alloc (.cells #[.bool true, .int .i64 (nb : Int), im] 24) := ⟨_, rfl⟩
  have hb : Below w.heap.size w W := by rw [hW]; exact (Below.refl _ _).alloc (Nat.le_refl _) _
  have hA : w.heap.size < W.heap.size := by rw [hW]; simp
  have c1 : W.cell? ⟨w.heap.size, 1, none⟩ = some (.int .i64 (nb : Int)) := by rw [hW]; exact cell_new rfl 1 _ rfl
  have HN := hid (New_ok nb W lo hi)
  have HW := hid hW
  have Hb := hid hb
  clear hW hb
  go_enter Try.func11, Try.ntmps11
  go_wp2_with fail
  rw [← HW.out]
  refine Calls.mono HN.out ?_
  rintro e w1 ⟨p, rfl, hp, hD1, hb1⟩
  have HN2 := hid (refNew_ok nb w1 lo hi)
  have j1 := (hb1.cell (p := ⟨w.heap.size, 1, none⟩) hA).trans c1
  have H1 := hid (And.intro hD1 hb1)
  clear HN hp hD1 hb1 c1 lo hi
  go_wp2_with fail
  refine Calls.mono HN2.out ?_
  rintro e w2 ⟨r, rfl, hr, hK2, hb2⟩
  have H2 := hid (And.intro hK2 hb2)
  clear HN2 hr hK2 hb2 j1
  have HD := hid (desk_new (w := w2) (dv := .pointer (some ⟨p, 0, none⟩)) (rv := .pointer (some ⟨r, 0, none⟩)))
  go_wp2_with fail
  refine (num_any 0 _).mono ?_
  rintro e w7 ⟨rfl, rfl⟩
  go_wp2
  go_ret2
  have b1 := H1.out.2
  have b2 := H2.out.2
  have s1 := Hb.out.size
  have bb := (Hb.out.trans (b1.mono s1)).trans (b2.mono (Nat.le_trans s1 b1.size))
  exact openR_ok (S1 := W.heap.size) (bb.alloc bb.size _) HD.out s1 b1.size b2.size (fun y hy => hy.elim (fun e => by subst e; exact ⟨bb.size, .inr (Nat.le_refl _)⟩) (fun e => by cases e)) H1.out.1 H2.out.1 (fun y _ hy => Below.heap_alloc _ _ _ hy) (fun y _ hl => b2.block y hl)

end Go.Proofs.Yteokekllbpkemaa
