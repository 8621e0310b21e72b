/-
  The document's answer: Parse, by its contract: a round.
-/
import Derived.Test.YtahaehjmnafhbaaPs1
namespace Go.Proofs.Ytahaehjmnafhbaa
open Go.RowKit

structure Lir (w : World) (B kk r0 sb : Nat) (h : Hd) (cn : Nat) (s0 : St) (q : Nat) (wt : World) : Prop where
  ex : ∃ l s rv vals, l.length = q ∧ q ≤ cn ∧ TkS 63 wt kk s ∧ s.1.length ≤ s0.1.length ∧ Snb wt sb (strOfNums h.name) (strOfNums h.since) h.size h.sum rv ∧ wt.ownsRow kk 51 4 rv q vals ∧ RunsW vals l ∧
    (∀ g, rv.ownBlock = some g → g ≠ kk ∧ g ≠ sb ∧ g ≠ r0) ∧ runsR cn s0 = (l ++ (runsR (cn - q) s).1, (runsR (cn - q) s).2)
  zb : wt.heap[r0]? = some (.cells #[.string ⟨#[]⟩, .int .i64 0, .string ⟨#[]⟩, .int .i64 0, .slice none 0 0] 47 (0, 0))
  bl : Below B w wt

theorem Lir.app {w : World} {B kk r0 sb : Nat} {h : Hd} {cn : Nat} {s0 s' : St} {q : Nat} {W : World} {rb : Nat} {k f t : Int} {dx : Option Addr} {dy dz : Nat} {l : List Rn} {rv : Value} {vals : List Value} (hl : l.length = q) (hq : q < cn)
    (hT : TkS 63 W kk s') (hsl : s'.1.length ≤ s0.1.length) (hr : Rnb W rb k f t (.slice dx dy dz)) (hS : Snb W sb (strOfNums h.name) (strOfNums h.since) h.size h.sum rv) (hrow : W.ownsRow kk 51 4 rv q vals) (hV : RunsW vals l) (hne : ∀ g, rv.ownBlock = some g → g ≠ kk ∧ g ≠ sb ∧ g ≠ r0)
    (hz : W.heap[r0]? = some (.cells #[.string ⟨#[]⟩, .int .i64 0, .string ⟨#[]⟩, .int .i64 0, .slice none 0 0] 47 (0, 0))) (hbl : Below B w W) (o1 : B ≤ w.heap.size) (o2 : B ≤ r0) (o3 : r0 < kk) (o4 : kk < sb) (hrun : runsR cn s0 = ((l ++ [(k, f, t)]) ++ (runsR (cn - (q + 1)) s').1, (runsR (cn - (q + 1)) s').2)) :
    ∃ rv vals B' dx dy dz, W.cell? ⟨rb, 0, none⟩ = some (.int .i64 k) ∧ W.cell? ⟨rb, 1, none⟩ = some (.int .i64 f) ∧ W.cell? ⟨rb, 2, none⟩ = some (.int .i64 t) ∧ W.cell? ⟨rb, 3, none⟩ = some (.slice dx dy dz) ∧ W.cell? ⟨sb, 4, none⟩ = some rv ∧ B' ≤ W.heap.size ∧ (W.alloc (.cells #[.int .i64 k, .int .i64 f, .int .i64 t, .slice dx dy dz] 51)).ownsRow B' 51 4 rv q vals ∧ ∀ u g cap, u.ownsRow B' 51 4 (.slice (some ⟨g, 0, none⟩) (q + 1) cap) (q + 1) (vals ++ [.int .i64 k, .int .i64 f, .int .i64 t, .slice dx dy dz]) → (W.alloc (.cells #[.int .i64 k, .int .i64 f, .int .i64 t, .slice dx dy dz] 51)).grownBy u (Value.ownBlock rv) → (Value.ownBlock rv = some g ∨ g = W.heap.size + 1) → u.cell? ⟨sb, 4, none⟩ = some rv ∧ u.frozen? ⟨sb, 4, none⟩ = false ∧ Lir w B kk r0 sb h cn s0 (q + 1) (u.setCell ⟨sb, 4, none⟩ (.slice (some ⟨g, 0, none⟩) (q + 1) cap)) := by
  have bA : Below W.heap.size W (W.alloc (.cells #[.int .i64 k, .int .i64 f, .int .i64 t, .slice dx dy dz] 51)) := (Below.refl _ _).alloc (Nat.le_refl _) _
  have hlt : ∀ g, rv.ownBlock = some g → g < W.heap.size := fun g hg => (row_lt hrow hg).2
  have hBW : B ≤ W.heap.size := Nat.le_trans o1 (by have := hbl.size; omega)
  refine ⟨rv, vals, kk, dx, dy, dz, hr.cells.1, hr.cells.2.1, hr.cells.2.2.1, hr.cells.2.2.2, hS.cells.2.2.2.2, Nat.le_of_lt hT.lt, row_keep hrow (fun g hg => bA.block g (hlt g hg)), fun u g cap hrow11 hg11 hlie => ?_⟩
  have hsbl := hS.lt
  have hb : But (fun x => some x = rv.ownBlock) W u := (But.of_below bA).trans (But.of_grown hg11)
  have hnsb : ¬ (some sb = rv.ownBlock) := fun z => (hne sb z.symm).2.1 rfl
  have hS11 : Snb u sb (strOfNums h.name) (strOfNums h.since) h.size h.sum rv := hS.keep (hb.block sb hsbl hnsb)
  have hbc : But (fun x => x = sb) u (u.setCell ⟨sb, 4, none⟩ (.slice (some ⟨g, 0, none⟩) (q + 1) cap)) := (But.refl (fun x => x = sb) u).setCell (p := ⟨sb, 4, none⟩) rfl _
  have hbF : But (fun x => some x = rv.ownBlock ∨ x = sb) W (u.setCell ⟨sb, 4, none⟩ (.slice (some ⟨g, 0, none⟩) (q + 1) cap)) := (hb.mono (fun x _ z => .inl z)).trans (hbc.mono (fun x _ z => .inr z))
  have hown : ∀ x, some x = rv.ownBlock → kk ≤ x ∧ x ≠ kk ∧ x ≠ sb ∧ x ≠ r0 := fun x hx => ⟨(row_lt hrow hx.symm).1, hne x hx.symm⟩
  have hkl := hT.lt
  have hgne : g ≠ kk ∧ g ≠ sb ∧ g ≠ r0 := by
    rcases hlie with z | z
    · exact hne g z
    · omega
  refine ⟨hS11.cells.2.2.2.2, hS11.fz 4, ⟨⟨l ++ [(k, f, t)], s', _, _, by simp [hl], by omega, ?_, hsl, hS11.s4 _, ?_, hV.snoc (k, f, t) dx dy dz, ?_, hrun⟩, ?_, ?_⟩⟩
  · exact hT.but hbF (fun x hx z => by
      rcases z with z | z
      · have := hown x z; omega
      · omega)
  · exact row_keep hrow11 (fun g' hg' => by
      have : g = g' := by simpa [Value.ownBlock] using hg'
      subst this
      exact hbc.block g (row_lt hrow11 hg').2 hgne.2.1)
  · intro g' hg'
    have : g = g' := by simpa [Value.ownBlock] using hg'
    subst this
    exact hgne
  · rw [hbF.block r0 (Array.getElem?_eq_some_iff.1 hz).1 (fun z => by
      rcases z with z | z
      · exact (hown r0 z).2.2.2 rfl
      · omega)]
    exact hz
  · exact hbl.trans (hbF.below hBW (fun x hx z => by
      rcases z with z | z
      · have := (hown x z).1; omega
      · omega))

end Go.Proofs.Ytahaehjmnafhbaa
