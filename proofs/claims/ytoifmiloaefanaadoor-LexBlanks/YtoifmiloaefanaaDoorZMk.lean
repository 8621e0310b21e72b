import Derived.Test.YtoifmiloaefanaaDoorZJn0
import Derived.Laws.MakeOwn
import Derived.Maps.AppendAt
/-
  Bytes of one's own.
-/
namespace Go.Proofs.YtoifmiloaefanaaDoor
open Go.RowKit

/-! ### bytes of one's own -/
def OwB (B : Nat) (w : World) (v : Value) (l : List Int) : Prop := w.ownsRow B 5 1 v l.length (l.map (Value.int .u8))
theorem OwB.first (w : World) (z : Int) : OwB w.heap.size (w.alloc (.cells #[.int .u8 z] 5)) (.slice (some ⟨w.heap.size, 0, none⟩) 1 1) [z] :=
  ⟨rfl, .inr ⟨w.heap.size, 1, #[.int .u8 z], rfl, Nat.le_refl _, heap_new _ _, Nat.le_refl _, by unfold maxLen; omega, rfl, rfl⟩⟩
theorem OwB.next {B : Nat} {w w' : World} {v : Value} {l : List Int} (h : OwB B w v l) (hb : Below w.heap.size w w') : OwB B w' v l :=
  own_keep h fun g hg => hb.block g (own_blk h hg).2.1
theorem OwB.form {B : Nat} {w : World} {v : Value} {l : List Int} (h : OwB B w v l) (h0 : 0 < l.length) : ∃ g c, v = .slice (some ⟨g, 0, none⟩) l.length c ∧ B ≤ g ∧ g < w.heap.size := by
  rcases h.2 with ⟨e, q⟩ | ⟨g, cap, cur, e, hb, hh, _⟩
  · omega
  · exact ⟨g, cap, e, hb, (Array.getElem?_eq_some_iff.1 hh).1⟩
theorem OwB.rd {B : Nat} {w : World} {g m c : Nat} {l : List Int} (h : OwB B w (.slice (some ⟨g, 0, none⟩) m c) l) (hm : m = l.length) (hB : Pl.isB l) (hg : g < w.heap.size) : Rd w.heap.size w (some ⟨g, 0, none⟩) l.length l := by
  subst hm
  refine ⟨rfl, hB, .inr ⟨g, 0, rfl, hg, fun t ht => ?_⟩⟩
  have h2 := World.ownsRow.cellAt h t (by omega)
  rw [Nat.zero_add, h2]
  simp [List.getD_eq_getElem?_getD, ht]
theorem OwB.push {B : Nat} {w : World} {v : Value} {l : List Int} (ty : TypeId) (h : OwB B w v l) (z : Int) {g : Nat} (hg : w.heap[g]? = some (.cells #[.int .u8 z] 5 (0, 0))) (hl : l.length ≤ 16777216) (hw : B ≤ w.heap.size) :
    ∃ v' w', (Builtin.append_ #[22, 22] ty #[v, .slice (some ⟨g, 0, none⟩) 1 1]).run Tryd.prog w = .ok v' w' ∧ OwB B w' v' (l ++ [z]) ∧ Gr w w' v v' := by
  obtain ⟨i0, hi, hz0, hz1, hz2⟩ := info_parts info5
  obtain ⟨v', w', hr, h2, h3, _, h5⟩ := run_append_own_at (P := Tryd.prog) w B 22 ty 5 i0 _ 1 1 Tryd.underlying22 hi hz0 hz1 hz2 rfl (by decide) v l.length (l.map (Value.int .u8)) h ⟨g, 0, none⟩ 1 1 [.int .u8 z] rfl (fun j u hu => by
    rw [Addr.add_lit, Nat.zero_add]
    simp only [World.cell?, hg]
    simpa using hu) (fun u hu => by simp only [List.mem_cons, List.not_mem_nil, or_false] at hu; rw [hu]; rfl) (by unfold maxLen; omega) (by omega) hw
  refine ⟨v', w', hr, ?_, ⟨h3.os, h3.tape, h3.output, h3.size, h3.block, h5.elim .inl fun e => .inr ⟨_, e, Nat.le_refl _⟩⟩⟩
  unfold OwB
  rw [List.length_append]
  simpa using h2

end Go.Proofs.YtoifmiloaefanaaDoor
