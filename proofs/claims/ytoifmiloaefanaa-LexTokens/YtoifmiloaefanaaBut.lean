/-
  ALL BUT SOME BLOCKS ARE AS THEY WERE; the lender's state. 
-/
import Derived.Test.YtoifmiloaefanaaBs0
namespace Go.Proofs.Ytoifmiloaefanaa
open Go.RowKit

/-- every block that was there is as it was, but for those of X -/
structure But (X : Nat → Prop) (w w' : World) : Prop where
  os : w'.os = w.os
  tape : w'.tape = w.tape
  output : w'.output = w.output
  size : w.heap.size ≤ w'.heap.size
  block : ∀ k, k < w.heap.size → ¬ X k → w'.heap[k]? = w.heap[k]?

theorem But.refl (X : Nat → Prop) (w : World) : But X w w := ⟨rfl, rfl, rfl, Nat.le_refl _, fun _ _ _ => rfl⟩
theorem But.trans {X : Nat → Prop} {a b c : World} (h : But X a b) (k : But X b c) : But X a c :=
  ⟨k.os.trans h.os, k.tape.trans h.tape, k.output.trans h.output, Nat.le_trans h.size k.size, fun i hi hx => (k.block i (Nat.lt_of_lt_of_le hi h.size) hx).trans (h.block i hi hx)⟩
theorem But.mono {X Y : Nat → Prop} {w w' : World} (h : But X w w') (hX : ∀ k, k < w.heap.size → X k → Y k) : But Y w w' :=
  ⟨h.os, h.tape, h.output, h.size, fun k hk hy => h.block k hk (fun hx => hy (hX k hk hx))⟩
theorem But.drew {X : Nat → Prop} {a w : World} (h : But X a w) : But X a w.drew := ⟨h.os, h.tape, h.output, h.size, h.block⟩
theorem But.alloc {X : Nat → Prop} {a w : World} (h : But X a w) (o : Obj) : But X a (w.alloc o) :=
  h.trans ⟨rfl, rfl, rfl, by simp, fun k hk _ => Below.heap_alloc _ _ _ hk⟩
theorem But.setCell {X : Nat → Prop} {a w : World} (h : But X a w) {p : Addr} (hp : X p.block) (u : Value) : But X a (w.setCell p u) :=
  h.trans ⟨rfl, rfl, rfl, by simp [World.setCell], fun k _ hx => Below.heap_setCell _ _ _ _ (fun e => hx (e ▸ hp))⟩
theorem But.of_below {X : Nat → Prop} {w w' : World} (h : Below w.heap.size w w') : But X w w' := ⟨h.os, h.tape, h.output, h.size, fun k hk _ => h.block k hk⟩
theorem But.below {X : Nat → Prop} {w w' : World} (h : But X w w') {B : Nat} (hB : B ≤ w.heap.size) (hX : ∀ k, k < B → ¬ X k) : Below B w w' :=
  ⟨h.os, h.tape, h.output, h.size, fun k hk => h.block k (by omega) (hX k hk)⟩
theorem But.cell {X : Nat → Prop} {w w' : World} (h : But X w w') {p : Addr} (hp : p.block < w.heap.size) (hx : ¬ X p.block) : w'.cell? p = w.cell? p := World.cell?_of_block (w := w) (h.block p.block hp hx)
theorem Blk.but {k : IntKind} {e : TypeId} {X : Nat → Prop} {w w' : World} {g : Nat} {zs : List Int} (h : Blk k e w g zs) (hb : But X w w') (hg : ¬ X g) : Blk k e w' g zs := h.of_block (hb.block g h.lt hg)

/-- BYTES THAT ARE READ, in a block outside of X -/
def RdN (X : Nat → Prop) (w : World) (a : Option Addr) (n : Nat) (zs : List Int) : Prop :=
  zs.length = n ∧ Pl.isB zs ∧ (n = 0 ∨ ∃ b off, a = some ⟨b, off, none⟩ ∧ b < w.heap.size ∧ ¬ X b ∧ ∀ t, t < n → w.cell? ⟨b, off + t, none⟩ = some (.int .u8 (zs.getD t 0)))
theorem RdN.rd {X : Nat → Prop} {w : World} {a : Option Addr} {n : Nat} {zs : List Int} (h : RdN X w a n zs) : Rd w.heap.size w a n zs := by
  obtain ⟨h1, h2, h3⟩ := h
  refine ⟨h1, h2, ?_⟩
  rcases h3 with h3 | ⟨b, off, h4, h5, h6, h7⟩
  · exact .inl h3
  · exact .inr ⟨b, off, h4, h5, h7⟩
theorem RdN.but {X : Nat → Prop} {w w' : World} {a : Option Addr} {n : Nat} {zs : List Int} (h : RdN X w a n zs) (hb : But X w w') : RdN X w' a n zs := by
  obtain ⟨h1, h2, h3⟩ := h
  refine ⟨h1, h2, ?_⟩
  rcases h3 with h3 | ⟨b, off, h4, h5, h6, h7⟩
  · exact .inl h3
  · exact .inr ⟨b, off, h4, Nat.lt_of_lt_of_le h5 hb.size, h6, fun t ht => (hb.cell (by exact h5) (by exact h6)).trans (h7 t ht)⟩
theorem RdN.mono {X Y : Nat → Prop} {w : World} {a : Option Addr} {n : Nat} {zs : List Int} (h : RdN X w a n zs) (hX : ∀ k, k < w.heap.size → Y k → X k) : RdN Y w a n zs := by
  obtain ⟨h1, h2, h3⟩ := h
  refine ⟨h1, h2, ?_⟩
  rcases h3 with h3 | ⟨b, off, h4, h5, h6, h7⟩
  · exact .inl h3
  · exact .inr ⟨b, off, h4, h5, fun hy => h6 (hX b h5 hy), h7⟩
theorem RdN.of_rd {B : Nat} {X : Nat → Prop} {w : World} {a : Option Addr} {n : Nat} {zs : List Int} (h : Rd B w a n zs) (hB : B ≤ w.heap.size) (hX : ∀ k, k < B → ¬ X k) : RdN X w a n zs := by
  obtain ⟨h1, h2, h3⟩ := h
  refine ⟨h1, h2, ?_⟩
  rcases h3 with h3 | ⟨b, off, h4, h5, h7⟩
  · exact .inl h3
  · exact .inr ⟨b, off, h4, by omega, hX b h5, h7⟩
theorem RdN.of_blk {X : Nat → Prop} {w : World} {g : Nat} {zs : List Int} (h : Blk .u8 5 w g zs) (hb : Pl.isB zs) (hX : ¬ X g) : RdN X w (some ⟨g, 0, none⟩) zs.length zs :=
  ⟨rfl, hb, .inr ⟨g, 0, rfl, h.lt, hX, fun t ht => by rw [Nat.zero_add]; exact h.cell t ht⟩⟩

/-! ### the lender -/
/-- block L is a lender whose buffer is bv and whose number is N -/
def Lnd (w : World) (L : Nat) (bv : Value) (N : Int) : Prop := w.heap[L]? = some (.cells #[bv, .int .i64 N] 32 (0, 0))
theorem Lnd.lt {w : World} {L : Nat} {bv : Value} {N : Int} (h : Lnd w L bv N) : L < w.heap.size := (Array.getElem?_eq_some_iff.1 h).1
theorem Lnd.buf {w : World} {L : Nat} {bv : Value} {N : Int} (h : Lnd w L bv N) : w.cell? ⟨L, 0, none⟩ = some bv := by unfold Lnd at h; simp [World.cell?, h]
theorem Lnd.num {w : World} {L : Nat} {bv : Value} {N : Int} (h : Lnd w L bv N) : w.cell? ⟨L, 1, none⟩ = some (.int .i64 N) := by unfold Lnd at h; simp [World.cell?, h]
theorem Lnd.frozen {w : World} {L : Nat} {bv : Value} {N : Int} (h : Lnd w L bv N) (t : Nat) : w.frozen? ⟨L, t, none⟩ = false := by unfold Lnd at h; simp [World.frozen?, h]
theorem Lnd.of_block {w w' : World} {L : Nat} {bv : Value} {N : Int} (h : Lnd w L bv N) (hw : w'.heap[L]? = w.heap[L]?) : Lnd w' L bv N := by unfold Lnd at *; rw [hw]; exact h
theorem Lnd.setOther {w : World} {L : Nat} {bv : Value} {N : Int} (h : Lnd w L bv N) {p : Addr} (hp : L ≠ p.block) (u : Value) : Lnd (w.setCell p u) L bv N := h.of_block (Below.heap_setCell _ _ _ _ hp)
theorem Lnd.alloc {w : World} {L : Nat} {bv : Value} {N : Int} (h : Lnd w L bv N) (o : Obj) : Lnd (w.alloc o) L bv N := h.of_block (Below.heap_alloc _ _ _ h.lt)
theorem Lnd.setBuf {w : World} {L : Nat} {bv : Value} {N : Int} (h : Lnd w L bv N) (u : Value) : Lnd (w.setCell ⟨L, 0, none⟩ u) L u N := by
  unfold Lnd at *
  simp only [World.setCell, Array.getElem?_modify]
  rw [h]
  simp
theorem Lnd.setNum {w : World} {L : Nat} {bv : Value} {N : Int} (h : Lnd w L bv N) (u : Int) : Lnd (w.setCell ⟨L, 1, none⟩ (.int .i64 u)) L bv u := by
  unfold Lnd at *
  simp only [World.setCell, Array.getElem?_modify]
  rw [h]
  simp

/-- the mark at a place; what lies in the buffer -/
def mk (i : Nat) : Int := (203 - 5 * (i : Int)) % 256
def lent (zs : List Int) : List Int := zs ++ (List.range (zs.length + 70)).map fun i => mk (zs.length + i)
theorem length_lent (zs : List Int) : (lent zs).length = 2 * zs.length + 70 := by simp [lent]; omega
theorem lent_lo {zs : List Int} {k : Nat} (h : k < zs.length) : (lent zs).getD k 0 = zs.getD k 0 := by
  simp [lent, h, List.getElem?_append_left]
theorem lent_hi {zs : List Int} {k : Nat} (h : zs.length ≤ k) (h2 : k < 2 * zs.length + 70) : (lent zs).getD k 0 = mk k := by
  have h3 : k - zs.length < zs.length + 70 := by omega
  simp [lent, List.getElem?_append_right h, h3]
  congr 1
  omega
theorem isB_lent {zs : List Int} (h : Pl.isB zs) : Pl.isB (lent zs) := by
  refine Pl.isB_append.2 ⟨h, ?_⟩
  intro z hz
  simp only [List.mem_map] at hz
  obtain ⟨i, _, rfl⟩ := hz
  unfold mk
  omega
/-- one place more -/
theorem take_set {ys : List Int} {k : Nat} {z : Int} {l : List Int} (h : k < ys.length) (h2 : k < l.length) (he : ys.take k = l.take k) (hz : z = l.getD k 0) : (ys.set k z).take (k + 1) = l.take (k + 1) := by
  rw [take_snoc (L := l) h2, ← he, List.take_succ_eq_append_getElem (by simpa using h), List.take_set_of_le (Nat.le_refl _), hz]
  simp

set_option maxHeartbeats 400000 in
theorem mark_any (p : Value) (i : Nat) (w : World) (h : i ≤ 1073741824) :
    Calls Try.prog 15 #[p, .int .i64 (i : Int)] w fun e w' => e = .returned (.int .u8 (mk i)) ∧ w' = w := by
  go_enter Try.func15, Try.ntmps15
  go_wp2
  go_ret
  exact ⟨rfl, rfl⟩

end Go.Proofs.Ytoifmiloaefanaa
