/-
  The lender of a desk: its state.
-/
import Derived.Test.YteokekllbpkemaaRf7
namespace Go.Proofs.Yteokekllbpkemaa
open Go.RowKit

/-- what else a desk's block holds: the disk, the document's disk, the places -/
abbrev DV := Value × Value × Value
/-- block L is a desk whose lender's buffer is bv and whose number is N -/
def Lnd (D : DV) (w : World) (L : Nat) (bv : Value) (N : Int) : Prop := w.heap[L]? = some (.cells #[D.1, D.2.1, bv, .int .i64 N, D.2.2] 51 (0, 0))
theorem Lnd.lt {D : DV} {w : World} {L : Nat} {bv : Value} {N : Int} (h : Lnd D w L bv N) : L < w.heap.size := (Array.getElem?_eq_some_iff.1 h).1
theorem Lnd.buf {D : DV} {w : World} {L : Nat} {bv : Value} {N : Int} (h : Lnd D w L bv N) : w.cell? ⟨L, 2, none⟩ = some bv := by unfold Lnd at h; simp [World.cell?, h]
theorem Lnd.num {D : DV} {w : World} {L : Nat} {bv : Value} {N : Int} (h : Lnd D w L bv N) : w.cell? ⟨L, 3, none⟩ = some (.int .i64 N) := by unfold Lnd at h; simp [World.cell?, h]
theorem Lnd.frozen {D : DV} {w : World} {L : Nat} {bv : Value} {N : Int} (h : Lnd D w L bv N) (t : Nat) : w.frozen? ⟨L, t, none⟩ = false := by unfold Lnd at h; simp [World.frozen?, h]
theorem Lnd.of_block {D : DV} {w w' : World} {L : Nat} {bv : Value} {N : Int} (h : Lnd D w L bv N) (hw : w'.heap[L]? = w.heap[L]?) : Lnd D w' L bv N := by unfold Lnd at *; rw [hw]; exact h
theorem Lnd.setOther {D : DV} {w : World} {L : Nat} {bv : Value} {N : Int} (h : Lnd D w L bv N) {p : Addr} (hp : L ≠ p.block) (u : Value) : Lnd D (w.setCell p u) L bv N := h.of_block (Below.heap_setCell _ _ _ _ hp)
theorem Lnd.alloc {D : DV} {w : World} {L : Nat} {bv : Value} {N : Int} (h : Lnd D w L bv N) (o : Obj) : Lnd D (w.alloc o) L bv N := h.of_block (Below.heap_alloc _ _ _ h.lt)
theorem Lnd.setBuf {D : DV} {w : World} {L : Nat} {bv : Value} {N : Int} (h : Lnd D w L bv N) (u : Value) : Lnd D (w.setCell ⟨L, 2, none⟩ u) L u N := by
  unfold Lnd at *
  simp only [World.setCell, Array.getElem?_modify]
  rw [h]
  simp
theorem Lnd.setNum {D : DV} {w : World} {L : Nat} {bv : Value} {N : Int} (h : Lnd D w L bv N) (u : Int) : Lnd D (w.setCell ⟨L, 3, none⟩ (.int .i64 u)) L bv u := by
  unfold Lnd at *
  simp only [World.setCell, Array.getElem?_modify]
  rw [h]
  simp
/-- the mark at a place; what lies in the buffer -/
def mk (i : Nat) : Int := (203 - 5 * (i : Int)) % 256
def lent (zs : List Int) : List Int := zs ++ (List.range (zs.length + 70)).map fun i => mk (zs.length + i)
theorem length_lent (zs : List Int) : (lent zs).length = 2 * zs.length + 70 := by simp [lent]; omega
theorem lent_lo {zs : List Int} {k : Nat} (h : k < zs.length) : (lent zs).getD k 0 = zs.getD k 0 := by
  simp [lent, h, List.getElem?_append_left]
theorem lent_hi {zs : List Int} {k : Nat} (h : zs.length ≤ k) (h2 : k < 2 * zs.length + 70) : (lent zs).getD k 0 = mk k := by
  have h3 : k - zs.length < zs.length + 70 := by omega
  simp [lent, List.getElem?_append_right h, h3]
  congr 1
  omega
theorem isB_lent {zs : List Int} (h : Pl.isB zs) : Pl.isB (lent zs) := by
  refine Pl.isB_append.2 ⟨h, ?_⟩
  intro z hz
  simp only [List.mem_map] at hz
  obtain ⟨i, _, rfl⟩ := hz
  unfold mk
  omega
set_option maxHeartbeats 400000 in
theorem mark_any (p : Value) (i : Nat) (w : World) (h : i ≤ 1073741824) :
    Calls Try.prog 55 #[p, .int .i64 (i : Int)] w fun e w' => e = .returned (.int .u8 (mk i)) ∧ w' = w := by
  go_enter Try.func55, Try.ntmps55
  go_wp2
  go_ret
  exact ⟨rfl, rfl⟩
theorem Lnd.but {D : DV} {X : Nat → Prop} {w w' : World} {L : Nat} {bv : Value} {N : Int} (h : Lnd D w L bv N) (hb : But X w w') (hx : ¬ X L) : Lnd D w' L bv N := h.of_block (hb.block L h.lt hx)

end Go.Proofs.Yteokekllbpkemaa
