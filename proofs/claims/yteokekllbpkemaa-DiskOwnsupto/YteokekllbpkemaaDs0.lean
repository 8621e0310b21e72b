/-
  A desk: a disk and the document's, side by side.
-/
import Derived.Test.YteokekllbpkemaaLda
namespace Go.Proofs.Yteokekllbpkemaa
open Go.RowKit

theorem Dk.cut {X : Nat → Prop} {w : World} {p : Nat} {img : List Int} {puts : List (Nat × List Int)} {fu : Int} {off : Bool} {nb : Nat} (h : Dk X w p img puts fu off nb) : Dk (fun x => X x ∧ x < w.heap.size) w p img puts fu off nb := by
  obtain ⟨ds, gL, cL, pv, mp, e, h⟩ := h
  exact ⟨ds, gL, cL, pv, mp, e, ⟨h.blk, h.own, h.isb, h.lo, h.hi, h.row, fun d hd => ⟨(h.dat d hd).1, (h.dat d hd).2.1, (h.dat d hd).2.2.1, ⟨(h.dat d hd).2.2.2.1, (h.dat d hd).1.lt⟩, (h.dat d hd).2.2.2.2⟩, h.map, ⟨h.xp, h.blk.lt⟩, ⟨h.xl, h.own.lt⟩, ⟨h.xm, h.map.lt⟩, fun g e => ⟨h.xr g e, (World.ownsRow.lt h.row g e).2⟩, h.fus⟩⟩
theorem Rk.cut {X : Nat → Prop} {w : World} {r : Nat} {img : List Int} {puts : List (Nat × List Int)} {fu : Int} {off : Bool} {nb : Nat} (h : Rk X w r img puts fu off nb) : Rk (fun x => X x ∧ x < w.heap.size) w r img puts fu off nb := by
  obtain ⟨lv, pv, h⟩ := h
  exact ⟨lv, pv, h.blk, h.rowL, h.rowP, h.len, h.lo, h.hi, h.dat, ⟨h.xr, h.blk.lt⟩, fun g e => ⟨h.xl g e, (World.ownsRow.lt h.rowL g e).2⟩, fun g e => ⟨h.xp g e, (World.ownsRow.lt h.rowP g e).2⟩, h.fus⟩
theorem Dk.facts {X : Nat → Prop} {w : World} {p : Nat} {img : List Int} {puts : List (Nat × List Int)} {fu : Int} {off : Bool} {nb : Nat} (h : Dk X w p img puts fu off nb) : Pl.isB img ∧ img.length = 512 * nb ∧ (∀ q ∈ puts, Pl.isB q.2) ∧ nb ≤ 524288 := by
  obtain ⟨ds, gL, cL, pv, mp, e, h⟩ := h
  refine ⟨h.isb, h.own.len, fun q hq => ?_, h.hi⟩
  rw [← e] at hq
  obtain ⟨d, hd, rfl⟩ := List.mem_map.1 hq
  exact (h.dat d hd).2.1

/-- the places of a desk -/
def KS (w : World) (kv : Value) : Prop := kv = .slice none 0 0 ∨ ∃ g M ys, kv = .slice (some ⟨g, 0, none⟩) M M ∧ Blk .i64 3 w g ys ∧ ys.length = M ∧ M ≤ 67109376
theorem KS.keep {w w' : World} {kv : Value} (h : KS w kv) (hk : ∀ g, kv.ownBlock = some g → g < w.heap.size → w'.heap[g]? = w.heap[g]?) : KS w' kv := by
  rcases h with h | ⟨g, M, ys, h1, h2, h3⟩
  · exact .inl h
  · exact .inr ⟨g, M, ys, h1, h2.of_block (hk g (by rw [h1]; rfl) h2.lt), h3⟩
/-- the tags of a desk -/
def tg (t k : Nat) : Prop := t + 1 ≤ k ∧ k ≤ t + 4
/-- a disk and the document's hold the same -/
def Both (t : Nat) (κ : Nat → Nat) (w : World) (dv rv : Value) (n : Nat) : Prop :=
  (dv = .pointer none ∧ rv = .pointer none) ∨ ∃ p r img puts fu off nb, dv = .pointer (some ⟨p, 0, none⟩) ∧ rv = .pointer (some ⟨r, 0, none⟩) ∧ Dk (fun y => κ y = t + 2) w p img puts fu off nb ∧ Rk (fun y => κ y = t + 3) w r img puts fu off nb ∧ puts.length ≤ n
/-- a desk in block x; its own blocks bear the tags t + 1 to t + 4 -/
def Dsk (t : Nat) (κ : Nat → Nat) (w : World) (x n : Nat) : Prop :=
  ∃ bv kv dv rv, LS (dv, rv, kv) w x bv ∧ (∀ y, XL x bv y → κ y = t + 1) ∧ KS w kv ∧ (∀ g, kv.ownBlock = some g → κ g = t + 4) ∧ Both t κ w dv rv n
theorem Both.keep {t : Nat} {κ κ' : Nat → Nat} {w w' : World} {dv rv : Value} {n n' : Nat} (h : Both t κ w dv rv n) (hn : n ≤ n') (hk : ∀ y, y < w.heap.size → tg t (κ y) → w'.heap[y]? = w.heap[y]?) (hκ : ∀ y, y < w.heap.size → tg t (κ y) → κ' y = κ y) : Both t κ' w' dv rv n' := by
  rcases h with h | ⟨p, r, img, puts, fu, off, nb, h1, h2, h3, h4, h5⟩
  · exact .inl h
  · refine .inr ⟨p, r, img, puts, fu, off, nb, h1, h2, (h3.cut.keep (fun y hy hl => hk y hl (by unfold tg; omega))).mono (fun y hy => ?_), (h4.cut.keep (fun y hy hl => hk y hl (by unfold tg; omega))).mono (fun y hy => ?_), by omega⟩
    · rw [hκ y hy.2 (by unfold tg; omega)]; exact hy.1
    · rw [hκ y hy.2 (by unfold tg; omega)]; exact hy.1
theorem Dsk.keep {t : Nat} {κ κ' : Nat → Nat} {w w' : World} {x n n' : Nat} (h : Dsk t κ w x n) (hn : n ≤ n') (hk : ∀ y, y < w.heap.size → tg t (κ y) → w'.heap[y]? = w.heap[y]?) (hκ : ∀ y, y < w.heap.size → tg t (κ y) → κ' y = κ y) : Dsk t κ' w' x n' := by
  obtain ⟨bv, kv, dv, rv, h1, h2, h3, h4, h5⟩ := h
  have hb : ∀ y, XL x bv y → w'.heap[y]? = w.heap[y]? := fun y hy => hk y (h1.there hy) (by have := h2 y hy; unfold tg; omega)
  refine ⟨bv, kv, dv, rv, ?_, fun y hy => ?_, h3.keep (fun g e hl => hk g hl (by have := h4 g e; unfold tg; omega)), fun g e => ?_, h5.keep hn hk hκ⟩
  · obtain ⟨⟨N, h6⟩, h7⟩ := h1
    refine ⟨⟨N, h6.of_block (hb x (.inl rfl))⟩, ?_⟩
    rcases h7 with h7 | ⟨G, M, ys, g1, g2, g3, g4, g5⟩
    · exact .inl h7
    · exact .inr ⟨G, M, ys, g1, g2, g3.of_block (hb G (.inr (by rw [g1]; rfl))), g4, g5⟩
  · rw [hκ y (h1.there hy) (by have := h2 y hy; unfold tg; omega)]; exact h2 y hy
  · rcases h3 with h3 | ⟨g', M, ys, g1, g2, _⟩
    · rw [h3] at e; cases e
    · have e2 : g = g' := by rw [g1] at e; cases e; rfl
      rw [e2, hκ g' g2.lt (by have := h4 g' (by rw [g1]; rfl); unfold tg; omega)]
      exact h4 g' (by rw [g1]; rfl)

theorem RdN.nxt {Y : Nat → Prop} {w w' : World} {a : Option Addr} {n : Nat} {zs : List Int} (h : RdN Y w a n zs) (hb : But Y w w') : RdN (fun x => Y x ∨ w.heap.size ≤ x) w' a n zs := by
  obtain ⟨h1, h2, h3⟩ := h
  refine ⟨h1, h2, ?_⟩
  rcases h3 with h3 | ⟨b, off, h4, h5, h6, h7⟩
  · exact .inl h3
  · exact .inr ⟨b, off, h4, Nat.lt_of_lt_of_le h5 hb.size, fun q => q.elim h6 (fun q => by omega), fun t ht => (hb.cell (by exact h5) (by exact h6)).trans (h7 t ht)⟩
theorem Lnd.dsk {D : DV} {w : World} {L : Nat} {bv : Value} {N : Int} (h : Lnd D w L bv N) : w.cell? ⟨L, 0, none⟩ = some D.1 ∧ w.cell? ⟨L, 1, none⟩ = some D.2.1 ∧ w.cell? ⟨L, 4, none⟩ = some D.2.2 := by
  unfold Lnd at h
  refine ⟨?_, ?_, ?_⟩ <;> simp [World.cell?, h]
/-- tags of what comes later: none -/
def cutK (κ : Nat → Nat) (S y : Nat) : Nat := if y < S then κ y else 0
theorem cutK_lo (κ : Nat → Nat) {S y : Nat} (h : y < S) : cutK κ S y = κ y := if_pos h
theorem cutK_hi (κ : Nat → Nat) {S y : Nat} (h : S ≤ y) : cutK κ S y = 0 := if_neg (by omega)

end Go.Proofs.Yteokekllbpkemaa
