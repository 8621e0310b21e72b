/-
  ALL BUT SOME BLOCKS ARE AS THEY WERE; the lender's state. 
-/
import Derived.Test.YtbllaacbeagljaaGreatDoorBs0
namespace Go.Proofs.YtbllaacbeagljaaGreatDoor
open Go.RowKit

/-- every block that was there is as it was, but for those of X -/
structure But (X : Nat → Prop) (w w' : World) : Prop where
  os : w'.os = w.os
  tape : w'.tape = w.tape
  output : w'.output = w.output
  size : w.heap.size ≤ w'.heap.size
  block : ∀ k, k < w.heap.size → ¬ X k → w'.heap[k]? = w.heap[k]?

theorem But.refl (X : Nat → Prop) (w : World) : But X w w := ⟨rfl, rfl, rfl, Nat.le_refl _, fun _ _ _ => rfl⟩
theorem But.trans {X : Nat → Prop} {a b c : World} (h : But X a b) (k : But X b c) : But X a c :=
  ⟨k.os.trans h.os, k.tape.trans h.tape, k.output.trans h.output, Nat.le_trans h.size k.size, fun i hi hx => (k.block i (Nat.lt_of_lt_of_le hi h.size) hx).trans (h.block i hi hx)⟩
theorem But.mono {X Y : Nat → Prop} {w w' : World} (h : But X w w') (hX : ∀ k, k < w.heap.size → X k → Y k) : But Y w w' :=
  ⟨h.os, h.tape, h.output, h.size, fun k hk hy => h.block k hk (fun hx => hy (hX k hk hx))⟩
theorem But.drew {X : Nat → Prop} {a w : World} (h : But X a w) : But X a w.drew := ⟨h.os, h.tape, h.output, h.size, h.block⟩
theorem But.alloc {X : Nat → Prop} {a w : World} (h : But X a w) (o : Obj) : But X a (w.alloc o) :=
  h.trans ⟨rfl, rfl, rfl, by simp, fun k hk _ => Below.heap_alloc _ _ _ hk⟩
theorem But.setCell {X : Nat → Prop} {a w : World} (h : But X a w) {p : Addr} (hp : X p.block) (u : Value) : But X a (w.setCell p u) :=
  h.trans ⟨rfl, rfl, rfl, by simp [World.setCell], fun k _ hx => Below.heap_setCell _ _ _ _ (fun e => hx (e ▸ hp))⟩
theorem But.of_below {X : Nat → Prop} {w w' : World} (h : Below w.heap.size w w') : But X w w' := ⟨h.os, h.tape, h.output, h.size, fun k hk _ => h.block k hk⟩
theorem But.below {X : Nat → Prop} {w w' : World} (h : But X w w') {B : Nat} (hB : B ≤ w.heap.size) (hX : ∀ k, k < B → ¬ X k) : Below B w w' :=
  ⟨h.os, h.tape, h.output, h.size, fun k hk => h.block k (by omega) (hX k hk)⟩
theorem But.cell {X : Nat → Prop} {w w' : World} (h : But X w w') {p : Addr} (hp : p.block < w.heap.size) (hx : ¬ X p.block) : w'.cell? p = w.cell? p := World.cell?_of_block (w := w) (h.block p.block hp hx)
theorem Blk.but {k : IntKind} {e : TypeId} {X : Nat → Prop} {w w' : World} {g : Nat} {zs : List Int} (h : Blk k e w g zs) (hb : But X w w') (hg : ¬ X g) : Blk k e w' g zs := h.of_block (hb.block g h.lt hg)

/-- BYTES THAT ARE READ, in a block outside of X -/
def RdN (X : Nat → Prop) (w : World) (a : Option Addr) (n : Nat) (zs : List Int) : Prop :=
  zs.length = n ∧ Pl.isB zs ∧ (n = 0 ∨ ∃ b off, a = some ⟨b, off, none⟩ ∧ b < w.heap.size ∧ ¬ X b ∧ ∀ t, t < n → w.cell? ⟨b, off + t, none⟩ = some (.int .u8 (zs.getD t 0)))
theorem RdN.rd {X : Nat → Prop} {w : World} {a : Option Addr} {n : Nat} {zs : List Int} (h : RdN X w a n zs) : Rd w.heap.size w a n zs := by
  obtain ⟨h1, h2, h3⟩ := h
  refine ⟨h1, h2, ?_⟩
  rcases h3 with h3 | ⟨b, off, h4, h5, h6, h7⟩
  · exact .inl h3
  · exact .inr ⟨b, off, h4, h5, h7⟩
theorem RdN.but {X : Nat → Prop} {w w' : World} {a : Option Addr} {n : Nat} {zs : List Int} (h : RdN X w a n zs) (hb : But X w w') : RdN X w' a n zs := by
  obtain ⟨h1, h2, h3⟩ := h
  refine ⟨h1, h2, ?_⟩
  rcases h3 with h3 | ⟨b, off, h4, h5, h6, h7⟩
  · exact .inl h3
  · exact .inr ⟨b, off, h4, Nat.lt_of_lt_of_le h5 hb.size, h6, fun t ht => (hb.cell (by exact h5) (by exact h6)).trans (h7 t ht)⟩
theorem RdN.mono {X Y : Nat → Prop} {w : World} {a : Option Addr} {n : Nat} {zs : List Int} (h : RdN X w a n zs) (hX : ∀ k, k < w.heap.size → Y k → X k) : RdN Y w a n zs := by
  obtain ⟨h1, h2, h3⟩ := h
  refine ⟨h1, h2, ?_⟩
  rcases h3 with h3 | ⟨b, off, h4, h5, h6, h7⟩
  · exact .inl h3
  · exact .inr ⟨b, off, h4, h5, fun hy => h6 (hX b h5 hy), h7⟩
theorem RdN.of_rd {B : Nat} {X : Nat → Prop} {w : World} {a : Option Addr} {n : Nat} {zs : List Int} (h : Rd B w a n zs) (hB : B ≤ w.heap.size) (hX : ∀ k, k < B → ¬ X k) : RdN X w a n zs := by
  obtain ⟨h1, h2, h3⟩ := h
  refine ⟨h1, h2, ?_⟩
  rcases h3 with h3 | ⟨b, off, h4, h5, h7⟩
  · exact .inl h3
  · exact .inr ⟨b, off, h4, by omega, hX b h5, h7⟩
theorem RdN.of_blk {X : Nat → Prop} {w : World} {g : Nat} {zs : List Int} (h : Blk .u8 5 w g zs) (hb : Pl.isB zs) (hX : ¬ X g) : RdN X w (some ⟨g, 0, none⟩) zs.length zs :=
  ⟨rfl, hb, .inr ⟨g, 0, rfl, h.lt, hX, fun t ht => by rw [Nat.zero_add]; exact h.cell t ht⟩⟩

end Go.Proofs.YtbllaacbeagljaaGreatDoor
