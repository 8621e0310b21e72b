/-
  The lender's state, whichever buffer it has: Lend, what is lent, Back.
-/
import Derived.Test.YtoifmiloaefanaaLend
import Derived.Test.YtoifmiloaefanaaBack
namespace Go.Proofs.Ytoifmiloaefanaa
open Go.RowKit

/-- the lender's own blocks -/
def XL (L : Nat) (bv : Value) (x : Nat) : Prop := x = L ∨ bv.ownBlock = some x
/-- a lender in block L with the buffer bv -/
def LS (w : World) (L : Nat) (bv : Value) : Prop :=
  (∃ N, Lnd w L bv N) ∧ (bv = .slice none 0 0 ∨ ∃ G M ys, bv = .slice (some ⟨G, 0, none⟩) M M ∧ L ≠ G ∧ Blk .u8 5 w G ys ∧ ys.length = M ∧ M ≤ 67109376)
theorem LS.lt {w : World} {L : Nat} {bv : Value} (h : LS w L bv) : L < w.heap.size := by obtain ⟨⟨N, h⟩, _⟩ := h; exact h.lt
theorem LS.but {X : Nat → Prop} {w w' : World} {L : Nat} {bv : Value} (h : LS w L bv) (hb : But X w w') (hx : ∀ x, XL L bv x → ¬ X x) : LS w' L bv := by
  obtain ⟨⟨N, h1⟩, h2⟩ := h
  refine ⟨⟨N, h1.but hb (hx L (.inl rfl))⟩, ?_⟩
  rcases h2 with h2 | ⟨G, M, ys, rfl, h3, h4, h5, h6⟩
  · exact .inl h2
  · exact .inr ⟨G, M, ys, rfl, h3, h4.but hb (hx G (.inr rfl)), h5, h6⟩
/-- a block that the lender has is there -/
theorem LS.there {w : World} {L : Nat} {bv : Value} (h : LS w L bv) {x : Nat} (hx : XL L bv x) : x < w.heap.size := by
  obtain ⟨⟨N, h1⟩, h2⟩ := h
  rcases hx with rfl | hx
  · exact h1.lt
  · rcases h2 with rfl | ⟨G, M, ys, rfl, h3, h4, h5, h6⟩
    · cases hx
    · cases hx; exact h4.lt

/-- what lies in the buffer while zs are lent -/
structure Lent (w : World) (L G M n : Nat) (zs : List Int) : Prop where
  num : Lnd w L (.slice (some ⟨G, 0, none⟩) M M) n
  ne : L ≠ G
  big : 2 * n + 70 ≤ M
  small : M ≤ 67109376
  buf : ∃ ys, Blk .u8 5 w G ys ∧ ys.length = M ∧ ys.take (2 * n + 70) = lent zs

theorem Lend_any (L : Nat) (bv : Value) (a : Option Addr) (n c : Nat) (zs : List Int) (w : World) (hn : n ≤ 16777216) (hS : LS w L bv) (hR : RdN (XL L bv) w a n zs) :
    Calls Try.prog 8 #[.pointer (some ⟨L, 0, none⟩), .slice a n c] w fun e w' => ∃ G M, e = .returned (.slice (some ⟨G, 0, none⟩) n (2 * n + 70)) ∧ Lent w' L G M n zs ∧ (bv.ownBlock = some G ∨ w.heap.size ≤ G) ∧ But (XL L bv) w w' := by
  obtain ⟨⟨N, h1⟩, h2⟩ := hS
  rcases h2 with rfl | ⟨G, M, ys, rfl, h3, h4, h5, h6⟩
  · refine (Lend_new L none 0 0 N a n c zs w hn h1 (by omega) (hR.mono (fun x _ h => .inl h))).mono ?_
    rintro e w' ⟨G, M, ys, he, hB, hl, ht, hL, hG, hM, hb⟩
    have := h1.lt
    exact ⟨G, M, he, ⟨hL, by omega, by omega, by omega, ys, hB, hl, ht⟩, .inr (by omega), hb.mono (fun x _ h => .inl h)⟩
  · by_cases hM : M < 2 * n + 70
    · refine (Lend_new L (some ⟨G, 0, none⟩) M M N a n c zs w hn h1 hM (hR.mono (fun x _ h => .inl h))).mono ?_
      rintro e w' ⟨G', M', ys', he, hB, hl, ht, hL, hG, hM', hb⟩
      have := h1.lt
      exact ⟨G', M', he, ⟨hL, by omega, by omega, by omega, ys', hB, hl, ht⟩, .inr (by omega), hb.mono (fun x _ h => .inl h)⟩
    · have hx : ∀ x, (x = L ∨ x = G) → XL L (.slice (some ⟨G, 0, none⟩) M M) x := fun x h => h.imp id (fun h => by rw [h]; rfl)
      refine (Lend_old L G M N a n c ys zs w hn h4 h5 h1 h3 (by omega) (by omega) (hR.mono (fun x _ h => hx x h))).mono ?_
      rintro e w' ⟨G', M', ys', he, hB, hl, ht, hL, rfl, rfl, hb⟩
      exact ⟨G', M', he, ⟨hL, h3, by omega, h6, ys', hB, hl, ht⟩, .inl rfl, hb.mono (fun x _ h => hx x h)⟩

/-- what was lent reads as it was handed in -/
theorem Lent.rd {w : World} {L G M n : Nat} {zs : List Int} (h : Lent w L G M n zs) (hz : zs.length = n) (hb : Pl.isB zs) : Rd w.heap.size w (some ⟨G, 0, none⟩) n zs := by
  obtain ⟨ys, hB, hl, ht⟩ := h.buf
  have := h.big
  refine ⟨hz, hb, .inr ⟨G, 0, rfl, hB.lt, fun t htn => ?_⟩⟩
  have hc := hB.cell t (by omega)
  rw [Nat.zero_add, hc, ← lent_lo (zs := zs) (by omega), ← ht, List.getD_eq_getElem?_getD, List.getD_eq_getElem?_getD, List.getElem?_take_of_lt (by omega)]
theorem Lent.but {X : Nat → Prop} {w w' : World} {L G M n : Nat} {zs : List Int} (h : Lent w L G M n zs) (hb : But X w w') (h1 : ¬ X L) (h2 : ¬ X G) : Lent w' L G M n zs := by
  obtain ⟨ys, hB, hl, ht⟩ := h.buf
  exact ⟨h.num.but hb h1, h.ne, h.big, h.small, ys, hB.but hb h2, hl, ht⟩
theorem Lent.below {w w' : World} {L G M n : Nat} {zs : List Int} (h : Lent w L G M n zs) (hb : Below w.heap.size w w') : Lent w' L G M n zs :=
  h.but (But.of_below (X := fun _ => False) hb) (fun h => h) (fun h => h)

theorem Back_any (L G M : Nat) (a : Option Addr) (n c : Nat) (zs : List Int) (w : World) (hn : n ≤ 16777216) (hS : Lent w L G M n zs) (hR : RdN (fun x => x = L ∨ x = G) w a n zs) :
    Calls Try.prog 10 #[.pointer (some ⟨L, 0, none⟩), .slice a n c] w fun e w' => e = .returned (.bool true) ∧ LS w' L (.slice (some ⟨G, 0, none⟩) M M) ∧ But (fun x => x = G) w w' := by
  obtain ⟨ys, hB, hl, ht⟩ := hS.buf
  have hs := hS.small
  refine (Back_ok L G M a n c ys zs w hn hB hl ht hS.num hS.ne hS.big (by omega) hR).mono ?_
  rintro e w' ⟨ys', he, hB', hl', hL', hb⟩
  exact ⟨he, ⟨⟨_, hL'⟩, .inr ⟨G, M, ys', rfl, hS.ne, hB', hl', hs⟩⟩, hb⟩

end Go.Proofs.Ytoifmiloaefanaa
