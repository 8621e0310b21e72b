/-
  A BLOCK OF NUMBERS THAT IS KNOWN WHOLE, and what one store makes of it. No program in it.
-/
import Derived.Test.YtbllaacbeagljaaGreatDoorPlain
import Derived.WalkKit
import Derived.Laws.CopyOwn
namespace Go.Proofs.YtbllaacbeagljaaGreatDoor
open Go.RowKit

/-- block g holds just the numbers zs (kind k, element type e), none of them frozen -/
def Blk (k : IntKind) (e : TypeId) (w : World) (g : Nat) (zs : List Int) : Prop := w.heap[g]? = some (.cells (zs.map (Value.int k)).toArray e (0, 0))

theorem Blk.lt {k : IntKind} {e : TypeId} {w : World} {g : Nat} {zs : List Int} (h : Blk k e w g zs) : g < w.heap.size := by
  unfold Blk at h
  exact (Array.getElem?_eq_some_iff.1 h).1
theorem Blk.cell {k : IntKind} {e : TypeId} {w : World} {g : Nat} {zs : List Int} (h : Blk k e w g zs) (t : Nat) (ht : t < zs.length) : w.cell? ⟨g, t, none⟩ = some (.int k (zs.getD t 0)) := by
  unfold Blk at h
  simp [World.cell?, h, ht]
theorem Blk.frozen {k : IntKind} {e : TypeId} {w : World} {g : Nat} {zs : List Int} (h : Blk k e w g zs) (t : Nat) : w.frozen? ⟨g, t, none⟩ = false := by
  unfold Blk at h
  simp [World.frozen?, h]
theorem Blk.set {k : IntKind} {e : TypeId} {w : World} {g : Nat} {zs : List Int} (h : Blk k e w g zs) (t : Nat) (x : Int) : Blk k e (w.setCell ⟨g, t, none⟩ (.int k x)) g (zs.set t x) := by
  unfold Blk at *
  simp only [World.setCell, Array.getElem?_modify]
  rw [h]
  simp
theorem Blk.of_block {k : IntKind} {e : TypeId} {w w' : World} {g : Nat} {zs : List Int} (h : Blk k e w g zs) (hw : w'.heap[g]? = w.heap[g]?) : Blk k e w' g zs := by
  unfold Blk at *; rw [hw]; exact h
theorem Blk.below {k : IntKind} {e : TypeId} {B : Nat} {w w' : World} {g : Nat} {zs : List Int} (h : Blk k e w g zs) (hb : Below B w w') (hg : g < B) : Blk k e w' g zs := h.of_block (hb.block g hg)
theorem Blk.grown {k : IntKind} {e : TypeId} {w w' : World} {g : Nat} {zs : List Int} {r : Option Nat} (h : Blk k e w g zs) (hb : w.grownBy w' r) (hg : some g ≠ r) : Blk k e w' g zs := h.of_block (hb.block g h.lt hg)
theorem Blk.alloc {k : IntKind} {e : TypeId} {w : World} {g : Nat} {zs : List Int} (h : Blk k e w g zs) (o : Obj) : Blk k e (w.alloc o) g zs := h.of_block (Below.heap_alloc _ _ _ h.lt)
theorem Blk.drew {k : IntKind} {e : TypeId} {w : World} {g : Nat} {zs : List Int} (h : Blk k e w g zs) : Blk k e w.drew g zs := h
theorem Blk.setOther {k : IntKind} {e : TypeId} {w : World} {g : Nat} {zs : List Int} (h : Blk k e w g zs) {p : Addr} (hp : g ≠ p.block) (u : Value) : Blk k e (w.setCell p u) g zs := h.of_block (Below.heap_setCell _ _ _ _ hp)
theorem Blk.new {k : IntKind} {e : TypeId} (w : World) (zs : List Int) : Blk k e (w.alloc (.cells (zs.map (Value.int k)).toArray e (0, 0))) w.heap.size zs := by
  unfold Blk
  show (w.heap.push _)[w.heap.size]? = _
  simp

/-- out of a row that the call made whole -/
theorem Blk.of_owns {k : IntKind} {e : TypeId} {w : World} {base g n : Nat} {xs : List Value} {zs : List Int} (h : w.ownsRow base e 1 (.slice (some ⟨g, 0, none⟩) n n) n xs) (hx : xs = zs.map (Value.int k)) : Blk k e w g zs := by
  obtain ⟨_, h2⟩ := h
  rcases h2 with ⟨h2, _⟩ | ⟨g', cap, cur, hv, _, hh, _, _, hs, ht⟩
  · cases h2
  · simp at hv
    obtain ⟨rfl, rfl⟩ := hv
    unfold Blk
    rw [hh, ← hx, ← ht]
    congr 2
    simp at hs
    rw [List.take_of_length_le (by simp [hs])]

theorem grown_set {w w' : World} {g : Nat} (h : w.grownBy w' (some g)) {p : Addr} (hp : p.block = g) (u : Value) : w.grownBy (w'.setCell p u) (some g) :=
  ⟨h.os, h.tape, h.output, by simpa [World.setCell] using h.size, fun k hk hne => by
    rw [Below.heap_setCell _ _ _ _ (by intro e; apply hne; rw [e, hp])]; exact h.block k hk hne⟩

/-! ### splice -/
theorem splice_nil (L : List Int) (off : Nat) : splice L off [] = L := by simp [splice]
theorem splice_cons (L : List Int) (off : Nat) (x : Int) (r : List Int) (h : off < L.length) : splice L off (x :: r) = splice (L.set off x) (off + 1) r := by
  unfold splice
  have e1 : (L.set off x).take (off + 1) = L.take off ++ [x] := by
    rw [List.take_succ_eq_append_getElem (by simpa using h), List.take_set_of_le (Nat.le_refl _)]
    simp
  rw [e1, List.drop_set_of_lt (by omega)]
  simp [Nat.add_comm, Nat.add_left_comm]
theorem isB_splice {L cs : List Int} (h : Pl.isB L) (h2 : Pl.isB cs) (off : Nat) : Pl.isB (splice L off cs) := by
  unfold splice
  exact Pl.isB_append.2 ⟨Pl.isB_take h _, Pl.isB_append.2 ⟨h2, Pl.isB_drop h _⟩⟩

end Go.Proofs.YtbllaacbeagljaaGreatDoor
