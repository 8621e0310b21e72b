/-
  Tokens of one's own, in a list.
-/
import Derived.Test.YtbllaacbeagljaaGreatDoorSc9
import Derived.Laws.OwnMore
namespace Go.Proofs.YtbllaacbeagljaaGreatDoor
open Go.RowKit

/-- what may have grown: the list's own block -/
structure Gr (w w' : World) (v v' : Value) : Prop where
  os : w'.os = w.os
  tape : w'.tape = w.tape
  output : w'.output = w.output
  size : w.heap.size ≤ w'.heap.size
  block : ∀ k, k < w.heap.size → some k ≠ v.ownBlock → w'.heap[k]? = w.heap[k]?
  own : v'.ownBlock = v.ownBlock ∨ ∃ g, v'.ownBlock = some g ∧ w.heap.size ≤ g
theorem Gr.below {w w' : World} {v v' : Value} {B : Nat} (h : Gr w w' v v') (hB : B ≤ w.heap.size) (hv : ∀ g, v.ownBlock = some g → B ≤ g) : Below B w w' :=
  ⟨h.os, h.tape, h.output, h.size, fun k hk => h.block k (by omega) (fun e => by have := hv k e.symm; omega)⟩
theorem below_drew (B : Nat) (w : World) : Below B w w.drew := ⟨rfl, rfl, rfl, Nat.le_refl _, fun _ _ => rfl⟩
theorem info29 : (Tryz.prog.info? 227).map (fun i => (i.zero, i.size, i.bytes)) = some (some (.agg #[.int .i64 0, .string ByteArray.empty, .int .i64 0, .int .i64 0]), 4, 40) := by kernel_rfl
def cellsT (t : Tk) : List Value := [.int .i64 t.k, .string (strOfNums t.tx), .int .i64 t.n, .int .i64 t.a]
def flatT : List Tk → List Value
  | [] => []
  | t :: ts => cellsT t ++ flatT ts
theorem flatT_app : ∀ (a b : List Tk), flatT (a ++ b) = flatT a ++ flatT b
  | [], b => rfl
  | t :: a, b => by simp only [List.cons_append, flatT, flatT_app a b, List.append_assoc]
theorem flatT_len : ∀ (ts : List Tk), (flatT ts).length = ts.length * 4
  | [] => rfl
  | t :: ts => by
    have ih := flatT_len ts
    simp [flatT, cellsT, ih]
    omega
theorem flatT_at : ∀ (ts : List Tk) (t : Nat) (ht : t < ts.length) (i : Nat), i < 4 → (flatT ts)[t * 4 + i]? = (cellsT ts[t])[i]?
  | [], t, ht, _, _ => by simp at ht
  | x :: ts, 0, _, i, hi => by
    simp only [flatT, Nat.zero_mul, Nat.zero_add, List.getElem_cons_zero]
    rw [List.getElem?_append_left (by simpa [cellsT] using hi)]
  | x :: ts, t + 1, ht, i, hi => by
    have ih := flatT_at ts t (by simpa using ht) i hi
    simp only [flatT, List.getElem_cons_succ]
    rw [List.getElem?_append_right (by simp [cellsT]; omega), show (t + 1) * 4 + i - (cellsT x).length = t * 4 + i by simp [cellsT]; omega]
    exact ih
theorem own_blk {B : Nat} {e : TypeId} {n m : Nat} {w : World} {v : Value} {xs : List Value} (h : w.ownsRow B e n v m xs) {g : Nat} (hg : v.ownBlock = some g) : B ≤ g ∧ g < w.heap.size ∧ ∃ cur, w.heap[g]? = some (.cells cur e (0, 0)) := by
  rcases h.2 with ⟨rfl, _⟩ | ⟨g', cap, cur, rfl, hb, hh, _⟩
  · simp [Value.ownBlock] at hg
  · simp [Value.ownBlock] at hg
    subst hg
    exact ⟨hb, (Array.getElem?_eq_some_iff.1 hh).1, cur, hh⟩
theorem own_keep {B : Nat} {e : TypeId} {n m : Nat} {w w' : World} {v : Value} {xs : List Value} (h : w.ownsRow B e n v m xs) (hk : ∀ g, v.ownBlock = some g → w'.heap[g]? = w.heap[g]?) : w'.ownsRow B e n v m xs := by
  obtain ⟨h1, h2⟩ := h
  refine ⟨h1, ?_⟩
  rcases h2 with ⟨e, q⟩ | ⟨g', cap, cur, e, hb, hh, r⟩
  · exact .inl ⟨e, q⟩
  · exact .inr ⟨g', cap, cur, e, hb, (hk g' (by rw [e]; rfl)).trans hh, r⟩
theorem own_mono {B B' : Nat} {e : TypeId} {n m : Nat} {w : World} {v : Value} {xs : List Value} (h : w.ownsRow B e n v m xs) (hb : B' ≤ B) : w.ownsRow B' e n v m xs := by
  obtain ⟨h1, h2⟩ := h
  refine ⟨h1, ?_⟩
  rcases h2 with q | ⟨g', cap, cur, e, hbg, r⟩
  · exact .inl q
  · exact .inr ⟨g', cap, cur, e, by omega, r⟩
/-- tokens of one's own -/
def OwT (B : Nat) (w : World) (v : Value) (ts : List Tk) : Prop := w.ownsRow B 227 4 v ts.length (flatT ts)
theorem OwT.nil (B : Nat) (w : World) : OwT B w (.slice none 0 0) [] := ⟨rfl, .inl ⟨rfl, rfl⟩⟩
theorem OwT.keep {B : Nat} {w w' : World} {v : Value} {ts : List Tk} (h : OwT B w v ts) (hk : ∀ g, B ≤ g → g < w.heap.size → w'.heap[g]? = w.heap[g]?) : OwT B w' v ts :=
  own_keep h fun g hg => by obtain ⟨a, b, _⟩ := own_blk h hg; exact hk g a b
theorem OwT.next {B : Nat} {w w' : World} {v : Value} {ts : List Tk} (h : OwT B w v ts) (hb : Below w.heap.size w w') : OwT B w' v ts := h.keep fun g _ hg => hb.block g hg
theorem OwT.mono {B B' : Nat} {w : World} {v : Value} {ts : List Tk} (h : OwT B w v ts) (hb : B' ≤ B) : OwT B' w v ts := own_mono h hb
theorem OwT.form {B : Nat} {w : World} {v : Value} {ts : List Tk} (h : OwT B w v ts) : ∃ a c, v = .slice a ts.length c := by
  rcases h.2 with ⟨e, q⟩ | ⟨g, cap, cur, e, _⟩
  · exact ⟨none, 0, by rw [e, q]⟩
  · exact ⟨_, _, e⟩
theorem OwT.push {B : Nat} {w : World} {v : Value} {ts : List Tk} (ty : TypeId) (h : OwT B w v ts) (t : Tk) {g : Nat} (hg : w.heap[g]? = some (.cells (cellsT t).toArray 227 (0, 0))) (hl : ts.length ≤ 16777216) (hw : B ≤ w.heap.size) :
    ∃ v' w', (Builtin.append_ #[228, 228] ty #[v, .slice (some ⟨g, 0, none⟩) 1 1]).run Tryz.prog w = .ok v' w' ∧ OwT B w' v' (ts ++ [t]) ∧ Gr w w' v v' := by
  obtain ⟨i0, hi, hz0, hz1, hz2⟩ := info_parts info29
  obtain ⟨v', w', hr, h2, h3, _, h5⟩ := run_append_own_at (P := Tryz.prog) w B 228 ty 227 i0 _ 4 40 Tryz.underlying228 hi hz0 hz1 hz2 rfl (by decide) v ts.length (flatT ts) h ⟨g, 0, none⟩ 1 1 (cellsT t) rfl (fun j u hu => by
    rw [Addr.add_lit, Nat.zero_add]
    simp only [World.cell?, hg]
    simpa using hu) (fun u hu => by simp only [cellsT, List.mem_cons, List.not_mem_nil, or_false] at hu; rcases hu with rfl | rfl | rfl | rfl <;> rfl) (by unfold maxLen; omega) (by omega) hw
  refine ⟨v', w', hr, ?_, ⟨h3.os, h3.tape, h3.output, h3.size, h3.block, h5.elim .inl fun e => .inr ⟨_, e, Nat.le_refl _⟩⟩⟩
  unfold OwT
  rw [flatT_app, List.length_append]
  simpa [flatT] using h2

end Go.Proofs.YtbllaacbeagljaaGreatDoor
