/-
  A desk: act (function 12): what it needs.
-/
import Derived.Test.YteokekllbpkemaaDs3
namespace Go.Proofs.Yteokekllbpkemaa
open Go.RowKit

/-- what an act leaves -/
def ActR (t : Nat) (κ : Nat → Nat) (w : World) (x n : Nat) (e : Ending) (w' : World) : Prop :=
  ∃ lv κ', e = .returned (.tuple #[.bool true, lv]) ∧ Hands κ' w.heap.size w' lv ∧ Dsk t κ' w' x n ∧ (∀ y, y < w.heap.size → κ' y = κ y) ∧ But (fun y => tg t (κ y)) w w'
theorem ActR.shift {t : Nat} {κ : Nat → Nat} {w W : World} {x n : Nat} {e : Ending} {w' : World} (hb : Below w.heap.size w W) (h : ActR t (cutK κ w.heap.size) W x n e w') : ActR t κ w x n e w' := by
  obtain ⟨lv, κ', rfl, ⟨al, zs, c, rfl, hal⟩, hd, hk, hbt⟩ := h
  refine ⟨_, κ', rfl, ⟨al, zs, c, rfl, hal.imp id (fun ⟨g, e, hg, r⟩ => ⟨g, e, Nat.le_trans hb.size hg, r⟩)⟩, hd, fun y hy => (hk y (Nat.lt_of_lt_of_le hy hb.size)).trans (cutK_lo κ hy), ?_⟩
  exact (But.of_below hb).comp hbt (fun y hy h => by rw [cutK_lo κ hy] at h; exact h)
/-- a desk with a disk -/
structure DskW (t : Nat) (κ : Nat → Nat) (w : World) (x m p r : Nat) (bv kv : Value) (img : List Int) (puts : List (Nat × List Int)) (fu : Int) (off : Bool) (nb : Nat) : Prop where
  ls : LS (.pointer (some ⟨p, 0, none⟩), .pointer (some ⟨r, 0, none⟩), kv) w x bv
  xl : ∀ y, XL x bv y → κ y = t + 1
  ks : KS w kv
  kt : ∀ g, kv.ownBlock = some g → κ g = t + 4
  dk : Dk (fun y => κ y = t + 2) w p img puts fu off nb
  rk : Rk (fun y => κ y = t + 3) w r img puts fu off nb
  len : puts.length ≤ m
theorem DskW.dsk {t : Nat} {κ : Nat → Nat} {w : World} {x m p r : Nat} {bv kv : Value} {img : List Int} {puts : List (Nat × List Int)} {fu : Int} {off : Bool} {nb : Nat} (h : DskW t κ w x m p r bv kv img puts fu off nb) : Dsk t κ w x m :=
  ⟨bv, kv, _, _, h.ls, h.xl, h.ks, h.kt, .inr ⟨p, r, img, puts, fu, off, nb, rfl, rfl, h.dk, h.rk, h.len⟩⟩
theorem LS.keep {D : DV} {w w' : World} {L : Nat} {bv : Value} (h : LS D w L bv) (hk : ∀ y, XL L bv y → w'.heap[y]? = w.heap[y]?) : LS D w' L bv := by
  obtain ⟨⟨N, h6⟩, h7⟩ := h
  refine ⟨⟨N, h6.of_block (hk L (.inl rfl))⟩, ?_⟩
  rcases h7 with h7 | ⟨G, M, ys, g1, g2, g3, g4, g5⟩
  · exact .inl h7
  · exact .inr ⟨G, M, ys, g1, g2, g3.of_block (hk G (.inr (by rw [g1]; rfl))), g4, g5⟩
theorem DskW.keep {t : Nat} {κ κ' : Nat → Nat} {w w' : World} {x m p r : Nat} {bv kv : Value} {img : List Int} {puts : List (Nat × List Int)} {fu : Int} {off : Bool} {nb : Nat} (h : DskW t κ w x m p r bv kv img puts fu off nb)
    (hk : ∀ y, y < w.heap.size → tg t (κ y) → w'.heap[y]? = w.heap[y]?) (hκ : ∀ y, y < w.heap.size → κ' y = κ y) : DskW t κ' w' x m p r bv kv img puts fu off nb := by
  refine ⟨h.ls.keep (fun y hy => hk y (h.ls.there hy) (by have := h.xl y hy; unfold tg; omega)), fun y hy => by rw [hκ y (h.ls.there hy)]; exact h.xl y hy, h.ks.keep (fun g e hl => hk g hl (by have := h.kt g e; unfold tg; omega)), fun g e => ?_,
    (h.dk.cut.keep (fun y hy hl => hk y hl (by unfold tg; omega))).mono (fun y hy => by rw [hκ y hy.2]; exact hy.1), (h.rk.cut.keep (fun y hy hl => hk y hl (by unfold tg; omega))).mono (fun y hy => by rw [hκ y hy.2]; exact hy.1), h.len⟩
  rcases h.ks with h3 | ⟨g', M, ys, g1, g2, _⟩
  · rw [h3] at e; cases e
  · have e2 : g = g' := by rw [g1] at e; cases e; rfl
    rw [hκ g (e2 ▸ g2.lt)]; exact h.kt g e
theorem DskW.below {t : Nat} {κ : Nat → Nat} {w w' : World} {x m p r : Nat} {bv kv : Value} {img : List Int} {puts : List (Nat × List Int)} {fu : Int} {off : Bool} {nb : Nat} (h : DskW t κ w x m p r bv kv img puts fu off nb) (hb : Below w.heap.size w w') : DskW t κ w' x m p r bv kv img puts fu off nb := h.keep (fun y hy _ => hb.block y hy) (fun _ _ => rfl)
theorem Dsk.more {t : Nat} {κ : Nat → Nat} {w : World} {x n n' : Nat} (h : Dsk t κ w x n) (hn : n ≤ n') : Dsk t κ w x n' := h.keep hn (fun _ _ _ => rfl) (fun _ _ _ => rfl)
/-- a call that changes nothing -/
theorem DskW.still {t : Nat} {κ : Nat → Nat} {w w' : World} {x m p r : Nat} {bv kv : Value} {img : List Int} {puts : List (Nat × List Int)} {fu : Int} {off : Bool} {nb : Nat} (h : DskW t κ w x m p r bv kv img puts fu off nb) (hb : Below w.heap.size w w') (al : Option Addr) (zs : List Int) (c : Nat)
    (hal : (al = none ∧ c = 0 ∧ zs = []) ∨ ∃ g, al = some ⟨g, 0, none⟩ ∧ w.heap.size ≤ g ∧ Own w' g zs.length c zs ∧ Pl.isB zs ∧ zs.length ≤ 268435456) : ActR t κ w x (m + 1) (.returned (.tuple #[.bool true, .slice al zs.length c])) w' := by
  have h2 : DskW t (cutK κ w.heap.size) w' x m p r bv kv img puts fu off nb := h.keep (fun y hy _ => hb.block y hy) (fun y hy => cutK_lo κ hy)
  exact ⟨_, cutK κ w.heap.size, rfl, ⟨al, zs, c, rfl, hal.imp id (fun ⟨g, e, hg, r⟩ => ⟨g, e, hg, cutK_hi κ hg, r⟩)⟩, h2.dsk.more (by omega), fun y hy => cutK_lo κ hy, But.of_below hb⟩
/-- the act's block, and the desk beside it -/
theorem DskW.ready {t : Nat} {κ : Nat → Nat} {w W : World} {x m p r : Nat} {bv kv : Value} {img : List Int} {puts : List (Nat × List Int)} {fu : Int} {off : Bool} {nb : Nat} (h : DskW t κ w x m p r bv kv img puts fu off nb) {wh kd at_ fi : Int} {ra ke : Value} (hW : W = w.alloc (.cells #[.int .i64 wh, .int .i64 kd, .int .i64 at_, .int .i64 fi, ra, ke] 44)) :
    Below w.heap.size w W ∧ DskW t (cutK κ w.heap.size) W x m p r bv kv img puts fu off nb ∧ x < W.heap.size ∧ w.heap.size < W.heap.size ∧ W.cell? ⟨x, 0, none⟩ = some (.pointer (some ⟨p, 0, none⟩)) ∧ W.cell? ⟨x, 1, none⟩ = some (.pointer (some ⟨r, 0, none⟩)) ∧
      W.cell? ⟨w.heap.size, 1, none⟩ = some (.int .i64 kd) ∧ W.cell? ⟨w.heap.size, 2, none⟩ = some (.int .i64 at_) ∧ W.cell? ⟨w.heap.size, 3, none⟩ = some (.int .i64 fi) ∧ W.cell? ⟨w.heap.size, 4, none⟩ = some ra ∧ W.cell? ⟨w.heap.size, 5, none⟩ = some ke := by
  obtain ⟨N, hN⟩ := h.ls.1
  obtain ⟨a0, a1, a2, a3, a4, a5, a6, a7⟩ := act_ready hN.lt hN.dsk.1 hW
  exact ⟨a0, h.keep (fun y hy _ => a0.block y hy) (fun y hy => cutK_lo κ hy), Nat.lt_of_lt_of_le hN.lt a0.size, a7, a1, (a0.cell (p := ⟨x, 1, none⟩) hN.lt).trans hN.dsk.2.1, a2, a3, a4, a5, a6⟩

end Go.Proofs.Yteokekllbpkemaa
