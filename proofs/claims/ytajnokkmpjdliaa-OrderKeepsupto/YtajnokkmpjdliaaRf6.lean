/-
  The document's order: its state.
-/
import Derived.Test.YtajnokkmpjdliaaRf5
namespace Go.Proofs.Ytajnokkmpjdliaa
open Go.RowKit

structure IT (B : Nat) (w : World) (n m : Nat) (E : List (Nat × Nat)) (Hb lb eb tb ib xb : Nat) (fs nx : List Int) (out : List Nat) (ov : Value) (rest : List Nat) (ls fw lt : List Int) (W : World) : Prop where
  ds : DS n E out rest ls
  rs : RS n ls fw lt
  hm : Hm W Hb lb eb tb ib xb n m ls fw lt fs nx
  ow : W.ownsRow B 3 1 ov out.length (out.map fun (k : Nat) => Value.int .i64 (k : Int))
  nb : ∀ g, ov.ownBlock = some g → g ≠ lb ∧ g ≠ eb ∧ g ≠ tb ∧ g ≠ ib ∧ g ≠ xb
  ge : B ≤ Hb ∧ B ≤ lb ∧ B ≤ eb ∧ B ≤ tb ∧ B ≤ ib ∧ B ≤ xb
  bel : Below B w W
section
variable {B : Nat} {w : World} {n m : Nat} {E : List (Nat × Nat)} {Hb lb eb tb ib xb : Nat} {fs nx : List Int} {out : List Nat} {ov : Value} {rest : List Nat} {ls fw lt : List Int} {W W' : World}
theorem IT.sz (h : IT B w n m E Hb lb eb tb ib xb fs nx out ov rest ls fw lt W) : B ≤ W.heap.size := by have := h.hm.blt; have := h.ge; omega
theorem IT.nbH (h : IT B w n m E Hb lb eb tb ib xb fs nx out ov rest ls fw lt W) {g : Nat} (hg : ov.ownBlock = some g) : g ≠ Hb := fun e => by
  obtain ⟨_, _, cur, hh⟩ := own_blk h.ow hg
  have := h.hm.box
  rw [← e, hh] at this
  simp at this
theorem IT.step {i : Nat} (h : IT B w n m E Hb lb eb tb ib xb fs nx out ov (i :: rest) ls fw lt W) (y : Nat) (hy : y = (eg E i).2) (u v : Int) (hu : u = gt ls y) (hv : v = u - 1) :
    y < n ∧ 1 ≤ u ∧ Hm ((W.setCell ⟨lb, y, none⟩ (.int .i64 v)).drew) Hb lb eb tb ib xb n m (ls.set y v) fw lt fs nx ∧ (v ≠ 0 → IT B w n m E Hb lb eb tb ib xb fs nx out ov rest (ls.set y v) fw lt ((W.setCell ⟨lb, y, none⟩ (.int .i64 v)).drew)) ∧
      (v = 0 → ∀ e W2, RyQ Hb lb eb tb ib xb n m (ls.set y v) fw lt fs nx y 1 ((W.setCell ⟨lb, y, none⟩ (.int .i64 v)).drew) e W2 → e = .returned (.tuple #[]) ∧ ∃ fw' lt', IT B w n m E Hb lb eb tb ib xb fs nx out ov rest (ls.set y v) fw' lt' W2) := by
  obtain ⟨h1, h2, h3⟩ := h.ds.one h.rs.l
  rw [← hy] at h1 h2 h3
  rw [← hu] at h2 h3
  rw [← hv] at h3
  have hge := h.ge
  have hb : But (fun k => k = lb) W ((W.setCell ⟨lb, y, none⟩ (.int .i64 v)).drew) := (but_cell W lb y _).drew
  have hH := (h.hm.setL y v).next (below_drew _ _)
  have hR : ((W.setCell ⟨lb, y, none⟩ (.int .i64 v)).drew).ownsRow B 3 1 ov out.length (out.map fun (k : Nat) => Value.int .i64 (k : Int)) := own_keep h.ow fun g hg => hb.block g (own_blk h.ow hg).2.1 (h.nb g hg).1
  have hB := h.bel.trans (hb.below h.sz (fun k hk e => by omega))
  refine ⟨h1, h2, hH, fun e => ⟨h3, h.rs.same h1 v (by rw [← hu]; omega) e, hH, hR, h.nb, h.ge, hB⟩, fun e e2 W2 hq => ?_⟩
  obtain ⟨he, q1, q2⟩ := hq
  refine ⟨he, _, _, ⟨h3, h.rs.put h1 v 1 ?_, q1, ?_, h.nb, h.ge, ?_⟩⟩
  · rw [if_pos e, if_neg (by rw [← hu]; omega)]; rfl
  · exact own_keep hR fun g hg => q2.block g (own_blk hR hg).2.1 (fun e => by rcases e with e | e; exact (h.nb g hg).2.1 e; exact (h.nb g hg).2.2.1 e)
  · exact hB.trans (q2.below (by have := hH.blt; omega) (fun k hk e => by rcases e with e | e <;> omega))
theorem IT.take (hE : EdOk n E) (hEl : E.length = m) (h : IT B w n m E Hb lb eb tb ib xb fs nx out ov [] ls fw lt W) (x : Nat) (hx : x < n) (h0 : gt ls x = 0) (hlt : ∀ y, y < x → gt ls y ≠ 0) :
    Hm (W.setCell ⟨lb, x, none⟩ (.int .i64 (-1))) Hb lb eb tb ib xb n m (ls.set x (-1)) fw lt fs nx ∧ ∀ e W2, RyQ Hb lb eb tb ib xb n m (ls.set x (-1)) fw lt fs nx x (-1) (W.setCell ⟨lb, x, none⟩ (.int .i64 (-1))) e W2 → e = .returned (.tuple #[]) ∧ B ≤ W2.heap.size ∧ W2.ownsRow B 3 1 ov out.length ((out.map fun (k : Nat) => (k : Int)).map (Value.int .i64)) ∧
      ∀ go co W3, W3.ownsRow B 3 1 (.slice (some ⟨go, 0, none⟩) (out.length + 1) co) (out.length + 1) (((out.map fun (k : Nat) => (k : Int)) ++ [(x : Int)]).map (Value.int .i64)) → But (fun k => some k = ov.ownBlock) W2 W3 → (ov.ownBlock = some go ∨ W2.heap.size ≤ go) →
        ∃ fw' lt', IT B w n m E Hb lb eb tb ib xb fs nx (out ++ [x]) (.slice (some ⟨go, 0, none⟩) (out.length + 1) co) (chn E x m) (ls.set x (-1)) fw' lt' W3 := by
  have hnx := h.ds.nx hx h0 hlt
  have hds := h.ds.take hE h.rs.l hnx
  rw [hEl] at hds
  have hge := h.ge
  have hb : But (fun k => k = lb) W (W.setCell ⟨lb, x, none⟩ (.int .i64 (-1))) := but_cell W lb x _
  have hH := h.hm.setL x (-1)
  have hR : (W.setCell ⟨lb, x, none⟩ (.int .i64 (-1))).ownsRow B 3 1 ov out.length (out.map fun (k : Nat) => Value.int .i64 (k : Int)) := own_keep h.ow fun g hg => hb.block g (own_blk h.ow hg).2.1 (h.nb g hg).1
  have hB := h.bel.trans (hb.below h.sz (fun k hk e => by omega))
  refine ⟨hH, fun e W2 hq => ?_⟩
  obtain ⟨he, q1, q2⟩ := hq
  have hR2 : W2.ownsRow B 3 1 ov out.length (out.map fun (k : Nat) => Value.int .i64 (k : Int)) := own_keep hR fun g hg => q2.block g (own_blk hR hg).2.1 (fun e => by rcases e with e | e; exact (h.nb g hg).2.1 e; exact (h.nb g hg).2.2.1 e)
  have hB2 := hB.trans (q2.below (by have := hH.blt; omega) (fun k hk e => by rcases e with e | e <;> omega))
  have hs2 : B ≤ W2.heap.size := by have := q1.blt; omega
  refine ⟨he, hs2, by rw [map_cast]; exact hR2, fun go co W3 r1 r2 r3 => ⟨_, _, ⟨hds, h.rs.put hx (-1) (-1) (by rw [if_pos h0]; rfl), q1.but r2 ?_ ?_ ?_ ?_ ?_ ?_, ?_, ?_, h.ge, ?_⟩⟩⟩
  · exact fun e => h.nbH e.symm rfl
  · exact fun e => (h.nb _ e.symm).1 rfl
  · exact fun e => (h.nb _ e.symm).2.1 rfl
  · exact fun e => (h.nb _ e.symm).2.2.1 rfl
  · exact fun e => (h.nb _ e.symm).2.2.2.1 rfl
  · exact fun e => (h.nb _ e.symm).2.2.2.2 rfl
  · rw [List.length_append, List.length_singleton, ← map_cast_snoc]; exact r1
  · intro g hg
    simp [Value.ownBlock] at hg
    subst hg
    rcases r3 with r3 | r3
    · exact h.nb _ r3
    · have := q1.l.lt; have := q1.f.lt; have := q1.t.lt; have := q1.i.lt; have := q1.x.lt
      omega
  · refine hB2.trans (r2.below hs2 (fun k hk e => ?_))
    have := (own_blk hR2 e.symm).1
    omega
end
end Go.Proofs.Ytajnokkmpjdliaa
