/-
  BASE: blocks, what stays, rows of one's own; methods of *least.
-/
import Derived.Test.YtajnokkmpjdliaaRows
import Derived.WalkKit
import Derived.WalkSpells
import Derived.WalkLawsBesides
import Derived.Laws.CopyOwn
import Derived.Laws.StructEq
import Derived.Laws.OwnMore
import Derived.Deep.RegionWith
import Derived.BigQuiet
import Derived.Maps.AppendAt
import Derived.OwnWalk
namespace Go.Proofs.Ytajnokkmpjdliaa
open Go.RowKit

theorem hid {p : Prop} (h : p) : Hid p := h
theorem heap_new (w : World) (o : Obj) : (w.alloc o).heap[w.heap.size]? = some o := by
  show (w.heap.push _)[w.heap.size]? = _
  simp
theorem below1 (w : World) (o : Obj) : Below w.heap.size w (w.alloc o) := (Below.refl _ _).alloc (Nat.le_refl _) _
theorem below_drew (B : Nat) (w : World) : Below B w w.drew := ⟨rfl, rfl, rfl, Nat.le_refl _, fun _ _ => rfl⟩
theorem below_drewN (B : Nat) (w : World) (n : Nat) : Below B w (w.drewN n) := ⟨rfl, rfl, rfl, Nat.le_refl _, fun _ _ => rfl⟩

theorem w64 (n : Int) (h : -9223372036854775808 ≤ n ∧ n ≤ 9223372036854775807) : wrap64 n = n := by unfold wrap64; omega
theorem iw64 (n : Int) (h : -9223372036854775808 ≤ n ∧ n ≤ 9223372036854775807) : IntKind.i64.wrap n = n := by rw [IntKind.wrap_i64]; omega
/-- every block that was there is as it was, but for those of X -/
structure But (X : Nat → Prop) (w w' : World) : Prop where
  os : w'.os = w.os
  tape : w'.tape = w.tape
  output : w'.output = w.output
  size : w.heap.size ≤ w'.heap.size
  block : ∀ k, k < w.heap.size → ¬ X k → w'.heap[k]? = w.heap[k]?

theorem But.refl (X : Nat → Prop) (w : World) : But X w w := ⟨rfl, rfl, rfl, Nat.le_refl _, fun _ _ _ => rfl⟩
theorem But.trans {X : Nat → Prop} {a b c : World} (h : But X a b) (k : But X b c) : But X a c :=
  ⟨k.os.trans h.os, k.tape.trans h.tape, k.output.trans h.output, Nat.le_trans h.size k.size, fun i hi hx => (k.block i (Nat.lt_of_lt_of_le hi h.size) hx).trans (h.block i hi hx)⟩
theorem But.mono {X Y : Nat → Prop} {w w' : World} (h : But X w w') (hX : ∀ k, k < w.heap.size → X k → Y k) : But Y w w' :=
  ⟨h.os, h.tape, h.output, h.size, fun k hk hy => h.block k hk (fun hx => hy (hX k hk hx))⟩
theorem But.alloc {X : Nat → Prop} {a w : World} (h : But X a w) (o : Obj) : But X a (w.alloc o) :=
  h.trans ⟨rfl, rfl, rfl, by simp, fun k hk _ => Below.heap_alloc _ _ _ hk⟩
theorem But.drew {X : Nat → Prop} {a w : World} (h : But X a w) : But X a w.drew := ⟨h.os, h.tape, h.output, h.size, h.block⟩
theorem But.setCell {X : Nat → Prop} {a w : World} (h : But X a w) {p : Addr} (hp : X p.block) (u : Value) : But X a (w.setCell p u) :=
  h.trans ⟨rfl, rfl, rfl, by simp [World.setCell], fun k _ hx => Below.heap_setCell _ _ _ _ (fun e => hx (e ▸ hp))⟩
theorem But.of_below {X : Nat → Prop} {w w' : World} (h : Below w.heap.size w w') : But X w w' := ⟨h.os, h.tape, h.output, h.size, fun k hk _ => h.block k hk⟩
theorem But.below {X : Nat → Prop} {w w' : World} (h : But X w w') {B : Nat} (hB : B ≤ w.heap.size) (hX : ∀ k, k < B → ¬ X k) : Below B w w' :=
  ⟨h.os, h.tape, h.output, h.size, fun k hk => h.block k (by omega) (hX k hk)⟩
theorem But.cell {X : Nat → Prop} {w w' : World} (h : But X w w') {p : Addr} (hp : p.block < w.heap.size) (hx : ¬ X p.block) : w'.cell? p = w.cell? p := World.cell?_of_block (w := w) (h.block p.block hp hx)

/-! ### rows of cells -/
theorem own_blk {B : Nat} {e : TypeId} {n m : Nat} {w : World} {v : Value} {xs : List Value} (h : w.ownsRow B e n v m xs) {g : Nat} (hg : v.ownBlock = some g) : B ≤ g ∧ g < w.heap.size ∧ ∃ cur, w.heap[g]? = some (.cells cur e (0, 0)) := by
  rcases h.2 with ⟨rfl, _⟩ | ⟨g', cap, cur, rfl, hb, hh, _⟩
  · simp [Value.ownBlock] at hg
  · simp [Value.ownBlock] at hg
    subst hg
    exact ⟨hb, (Array.getElem?_eq_some_iff.1 hh).1, cur, hh⟩
theorem own_keep {B : Nat} {e : TypeId} {n m : Nat} {w w' : World} {v : Value} {xs : List Value} (h : w.ownsRow B e n v m xs) (hk : ∀ g, v.ownBlock = some g → w'.heap[g]? = w.heap[g]?) : w'.ownsRow B e n v m xs := by
  obtain ⟨h1, h2⟩ := h
  refine ⟨h1, ?_⟩
  rcases h2 with ⟨e, q⟩ | ⟨g', cap, cur, e, hb, hh, r⟩
  · exact .inl ⟨e, q⟩
  · exact .inr ⟨g', cap, cur, e, hb, (hk g' (by rw [e]; rfl)).trans hh, r⟩
theorem own_mono {B B' : Nat} {e : TypeId} {n m : Nat} {w : World} {v : Value} {xs : List Value} (h : w.ownsRow B e n v m xs) (hb : B' ≤ B) : w.ownsRow B' e n v m xs := by
  obtain ⟨h1, h2⟩ := h
  refine ⟨h1, ?_⟩
  rcases h2 with q | ⟨g', cap, cur, e, hbg, r⟩
  · exact .inl q
  · exact .inr ⟨g', cap, cur, e, by omega, r⟩
theorem own_next {B : Nat} {e : TypeId} {n m : Nat} {w w' : World} {v : Value} {xs : List Value} (h : w.ownsRow B e n v m xs) (hb : Below w.heap.size w w') : w'.ownsRow B e n v m xs := own_keep h fun _ hg => hb.block _ (own_blk h hg).2.1
theorem own_form {B : Nat} {e : TypeId} {n m : Nat} {w : World} {v : Value} {xs : List Value} (h : w.ownsRow B e n v m xs) : (v = .slice none 0 0 ∧ m = 0) ∨ ∃ g c, v = .slice (some ⟨g, 0, none⟩) m c ∧ v.ownBlock = some g := by
  rcases h.2 with ⟨e, q⟩ | ⟨g', cap, cur, e, hb, hh, r⟩
  · exact .inl ⟨e, q⟩
  · exact .inr ⟨g', cap, e, by rw [e]; rfl⟩

/-! ### a block of numbers that is known whole -/
def Blk (w : World) (g : Nat) (zs : List Int) : Prop := w.heap[g]? = some (.cells (zs.map (Value.int .i64)).toArray 3 (0, 0))
theorem Blk.lt {w : World} {g : Nat} {zs : List Int} (h : Blk w g zs) : g < w.heap.size := (Array.getElem?_eq_some_iff.1 h).1
theorem Blk.cell {w : World} {g : Nat} {zs : List Int} (h : Blk w g zs) (t : Nat) (ht : t < zs.length) : w.cell? ⟨g, t, none⟩ = some (.int .i64 (zs.getD t 0)) := by
  unfold Blk at h
  simp [World.cell?, h, ht]
theorem Blk.frozen {w : World} {g : Nat} {zs : List Int} (h : Blk w g zs) (t : Nat) : w.frozen? ⟨g, t, none⟩ = false := by
  unfold Blk at h
  simp [World.frozen?, h]
theorem Blk.set {w : World} {g : Nat} {zs : List Int} (h : Blk w g zs) (t : Nat) (x : Int) : Blk (w.setCell ⟨g, t, none⟩ (.int .i64 x)) g (zs.set t x) := by
  unfold Blk at *
  simp only [World.setCell, Array.getElem?_modify]
  rw [h]
  simp
theorem Blk.of_block {w w' : World} {g : Nat} {zs : List Int} (h : Blk w g zs) (hw : w'.heap[g]? = w.heap[g]?) : Blk w' g zs := by
  unfold Blk at *; rw [hw]; exact h
theorem Blk.below {B : Nat} {w w' : World} {g : Nat} {zs : List Int} (h : Blk w g zs) (hb : Below B w w') (hg : g < B) : Blk w' g zs := h.of_block (hb.block g hg)
theorem Blk.but {X : Nat → Prop} {w w' : World} {g : Nat} {zs : List Int} (h : Blk w g zs) (hb : But X w w') (hg : ¬ X g) : Blk w' g zs := h.of_block (hb.block g h.lt hg)
theorem Blk.new (w : World) (zs : List Int) : Blk (w.alloc (.cells (zs.map (Value.int .i64)).toArray 3 (0, 0))) w.heap.size zs := heap_new _ _

theorem info3 : (Try.prog.info? 3).map (fun i => (i.zero, i.size, i.bytes)) = some (some (.int .i64 0), 1, 8) := by kernel_rfl
theorem info28 : (Try.prog.info? 28).map (fun i => (i.zero, i.size, i.bytes)) = some (some (.agg #[.int .i64 0, .int .i64 0]), 2, 16) := by kernel_rfl
theorem size3 : (Try.prog.info? 3).map (·.size) = some 1 := by kernel_rfl
def zeros (n : Nat) : List Int := List.replicate n 0
theorem length_zeros (n : Nat) : (zeros n).length = n := by simp [zeros]
theorem made_zeros (k : IntKind) (n : Nat) : madeCells #[.int k 0] n = ((zeros n).map (Value.int k)).toArray := by
  rw [← Array.toList_inj, toList_madeCells_one]
  simp [zeros]
theorem make_i64 (n : Nat) (hn : n ≤ 1073741824) (u : World) : (Instr.makeSlice 23 (.int .i64 (n : Int)) (.int .i64 (n : Int))).run Try.prog u =
    .ok (.slice (some ⟨u.heap.size, 0, none⟩) n n) (u.alloc (.cells ((zeros n).map (Value.int .i64)).toArray 3)) := by
  obtain ⟨i0, hi, hz0, hz1, hz2⟩ := info_parts info3
  have h := run_make (P := Try.prog) u 23 3 i0 (.int .i64 0) Try.underlying23 hi hz0 .i64 .i64 (n : Int) (n : Int) (by omega) (Int.le_refl _) (by rw [hz2]; omega) (by omega)
  have e : ((n : Int)).toNat = n := by omega
  rw [e] at h
  rw [← made_zeros]
  simpa [hz1, Value.cells] using h

/-! ### the methods of *least -/
def IsM (f : Nat) (s : String) : Prop := s = (((Try.prog.info? 65).bind fun i => i.methods.find? fun r => (r.func.map (fun x => x.1)) == some f).map (fun r => r.name)).getD default
set_option maxRecDepth 100000 in
theorem m33 (s : String) (hs : IsM 33 s) (a : Addr) (w : World) : Sem.run Try.prog (method 201 65 (.pointer (some a)) s) w = Sem.run Try.prog (do let v ← loadVar 66 a; pure ((33 : FuncId), v)) w := by
  unfold IsM at hs
  subst hs
  kernel_rfl
set_option maxRecDepth 100000 in
theorem m59 (s : String) (hs : IsM 59 s) (a : Addr) (w : World) : Sem.run Try.prog (method 201 65 (.pointer (some a)) s) w = Sem.run Try.prog (do let v ← loadVar 66 a; pure ((59 : FuncId), v)) w := by
  unfold IsM at hs
  subst hs
  kernel_rfl
set_option maxRecDepth 100000 in
theorem m62 (s : String) (hs : IsM 62 s) (a : Addr) (w : World) : Sem.run Try.prog (method 201 65 (.pointer (some a)) s) w = Sem.run Try.prog (do let v ← loadVar 66 a; pure ((62 : FuncId), v)) w := by
  unfold IsM at hs
  subst hs
  kernel_rfl
set_option maxRecDepth 100000 in
theorem m60 (s : String) (hs : IsM 60 s) (a : Addr) (w : World) : Sem.run Try.prog (method 201 65 (.pointer (some a)) s) w = .ok ((60 : FuncId), .pointer (some a)) w := by
  unfold IsM at hs
  subst hs
  kernel_rfl
set_option maxRecDepth 100000 in
theorem m61 (s : String) (hs : IsM 61 s) (a : Addr) (w : World) : Sem.run Try.prog (method 201 65 (.pointer (some a)) s) w = .ok ((61 : FuncId), .pointer (some a)) w := by
  unfold IsM at hs
  subst hs
  kernel_rfl
theorem load66 (a : Addr) (f : FuncId) (v : Value) (w : World) (h : w.cell? a = some v) : Sem.run Try.prog (do let v ← loadVar 66 a; pure (f, v)) w = .ok (f, v) w := by
  simp [go_sem, loadVar, isAgg, h]

end Go.Proofs.Ytajnokkmpjdliaa
