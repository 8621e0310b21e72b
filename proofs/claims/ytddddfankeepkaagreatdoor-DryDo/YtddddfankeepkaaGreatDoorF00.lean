import Derived.Test.YtddddfankeepkaaGreatDoorRows
import Derived.WalkKit
import Derived.WalkSpells
import Derived.WalkLawsBesides
import Derived.Laws.CopyOwn
import Derived.Laws.StructEq
import Derived.Deep.RegionWith
namespace Go.Proofs.YtddddfankeepkaaGreatDoor
open Go.RowKit
theorem hid {p : Prop} (h : p) : Hid p := h
theorem heap_new (w : World) (o : Obj) : (w.alloc o).heap[w.heap.size]? = some o := by
 show (w.heap.push _)[w.heap.size]? = _
 simp
theorem below1 (w : World) (o : Obj) : Below w.heap.size w (w.alloc o) := (Below.refl _ _).alloc (Nat.le_refl _) _
theorem below_drew (B : Nat) (w : World) : Below B w w.drew := ⟨rfl, rfl, rfl, Nat.le_refl _, fun _ _ => rfl⟩
structure But (X : Nat → Prop) (w w' : World) : Prop where
 os : w'.os = w.os
 tape : w'.tape = w.tape
 output : w'.output = w.output
 size : w.heap.size ≤ w'.heap.size
 block : ∀ k, k < w.heap.size → ¬ X k → w'.heap[k]? = w.heap[k]?
theorem But.refl (X : Nat → Prop) (w : World) : But X w w := ⟨rfl, rfl, rfl, Nat.le_refl _, fun _ _ _ => rfl⟩
theorem But.trans {X : Nat → Prop} {a b c : World} (h : But X a b) (k : But X b c) : But X a c :=
 ⟨k.os.trans h.os, k.tape.trans h.tape, k.output.trans h.output, Nat.le_trans h.size k.size, fun i hi hx => (k.block i (Nat.lt_of_lt_of_le hi h.size) hx).trans (h.block i hi hx)⟩
theorem But.mono {X Y : Nat → Prop} {w w' : World} (h : But X w w') (hX : ∀ k, k < w.heap.size → X k → Y k) : But Y w w' :=
 ⟨h.os, h.tape, h.output, h.size, fun k hk hy => h.block k hk (fun hx => hy (hX k hk hx))⟩
theorem But.alloc {X : Nat → Prop} {a w : World} (h : But X a w) (o : Obj) : But X a (w.alloc o) :=
 h.trans ⟨rfl, rfl, rfl, by simp, fun k hk _ => Below.heap_alloc _ _ _ hk⟩
theorem But.setCell {X : Nat → Prop} {a w : World} (h : But X a w) {p : Addr} (hp : X p.block) (u : Value) : But X a (w.setCell p u) :=
 h.trans ⟨rfl, rfl, rfl, by simp [World.setCell], fun k _ hx => Below.heap_setCell _ _ _ _ (fun e => hx (e ▸ hp))⟩
theorem But.of_below {X : Nat → Prop} {w w' : World} (h : Below w.heap.size w w') : But X w w' := ⟨h.os, h.tape, h.output, h.size, fun k hk _ => h.block k hk⟩
theorem But.below {X : Nat → Prop} {w w' : World} (h : But X w w') {B : Nat} (hB : B ≤ w.heap.size) (hX : ∀ k, k < B → ¬ X k) : Below B w w' :=
 ⟨h.os, h.tape, h.output, h.size, fun k hk => h.block k (by omega) (hX k hk)⟩
structure Rg where
 f : Int
 t : Int
structure PV where
 nm : ByteArray
 id : Int
 sz : Int
 og : Int
 kd : Int
 pt : Bool
 mp : List Rg
def RdR (B : Nat) (w : World) (a : Option Addr) (rs : List Rg) : Prop :=
 rs = [] ∨ ∃ b off, a = some ⟨b, off, none⟩ ∧ b < B ∧ ∀ (j : Nat) (hj : j < rs.length), w.cell? ⟨b, off + j * 2, none⟩ = some (.int .i64 rs[j].f) ∧ w.cell? ⟨b, off + j * 2 + 1, none⟩ = some (.int .i64 rs[j].t)
theorem RdR.below {B : Nat} {w w' : World} {a : Option Addr} {rs : List Rg} (h : RdR B w a rs) (hb : Below B w w') : RdR B w' a rs := by
 rcases h with h | ⟨b, off, rfl, hlt, hc⟩
 ·exact .inl h
 ·exact .inr ⟨b, off, rfl, hlt, fun j hj => ⟨(hb.cell (by exact hlt)).trans (hc j hj).1, (hb.cell (by exact hlt)).trans (hc j hj).2⟩⟩
theorem RdR.mono {B B' : Nat} {w : World} {a : Option Addr} {rs : List Rg} (h : RdR B w a rs) (hb : B ≤ B') : RdR B' w a rs := by
 rcases h with h | ⟨b, off, rfl, hlt, hc⟩
 ·exact .inl h
 ·exact .inr ⟨b, off, rfl, by omega, hc⟩
def VolC (w : World) (b off : Nat) (v : PV) (a : Option Addr) (c : Nat) : Prop :=
 w.cell? ⟨b, off, none⟩ = some (.string v.nm) ∧ w.cell? ⟨b, off + 1, none⟩ = some (.int .i64 v.id) ∧ w.cell? ⟨b, off + 2, none⟩ = some (.int .i64 v.sz) ∧ w.cell? ⟨b, off + 3, none⟩ = some (.int .i64 v.og) ∧ w.cell? ⟨b, off + 4, none⟩ = some (.int .i64 v.kd) ∧ w.cell? ⟨b, off + 5, none⟩ = some (.bool v.pt) ∧ w.cell? ⟨b, off + 6, none⟩ = some (.slice a v.mp.length c)
def RdV (B : Nat) (w : World) (a : Option Addr) (vs : List PV) : Prop :=
 vs = [] ∨ ∃ b off, a = some ⟨b, off, none⟩ ∧ b < B ∧ ∀ (j : Nat) (hj : j < vs.length), ∃ a' c', VolC w b (off + j * 7) vs[j] a' c' ∧ RdR B w a' vs[j].mp ∧ (a' = none → c' = 0)
theorem VolC.below {B : Nat} {w w' : World} {b off : Nat} {v : PV} {a : Option Addr} {c : Nat} (h : VolC w b off v a c) (hb : Below B w w') (hl : b < B) : VolC w' b off v a c := by
 obtain ⟨h0, h1, h2, h3, h4, h5, h6⟩ := h
 exact ⟨(hb.cell (by exact hl)).trans h0, (hb.cell (by exact hl)).trans h1, (hb.cell (by exact hl)).trans h2, (hb.cell (by exact hl)).trans h3, (hb.cell (by exact hl)).trans h4, (hb.cell (by exact hl)).trans h5, (hb.cell (by exact hl)).trans h6⟩
theorem RdV.below {B : Nat} {w w' : World} {a : Option Addr} {vs : List PV} (h : RdV B w a vs) (hb : Below B w w') : RdV B w' a vs := by
 rcases h with h | ⟨b, off, rfl, hlt, hc⟩
 ·exact .inl h
 ·refine .inr ⟨b, off, rfl, hlt, fun j hj => ?_⟩
  obtain ⟨a', c', h1, h2, h3⟩ := hc j hj
  exact ⟨a', c', h1.below hb hlt, h2.below hb, h3⟩
theorem RdV.mono {B B' : Nat} {w : World} {a : Option Addr} {vs : List PV} (h : RdV B w a vs) (hb : B ≤ B') : RdV B' w a vs := by
 rcases h with h | ⟨b, off, rfl, hlt, hc⟩
 ·exact .inl h
 ·refine .inr ⟨b, off, rfl, by omega, fun j hj => ?_⟩
  obtain ⟨a', c', h1, h2, h3⟩ := hc j hj
  exact ⟨a', c', h1, h2.mono hb, h3⟩
abbrev volA (v : PV) (a : Option Addr) (c : Nat) : Value := .agg #[.string v.nm, .int .i64 v.id, .int .i64 v.sz, .int .i64 v.og, .int .i64 v.kd, .bool v.pt, .slice a v.mp.length c]
theorem rg_ext {x y : Rg} (h1 : x.f = y.f) (h2 : x.t = y.t) : x = y := by cases x; cases y; simp_all
theorem pv_ext {x y : PV} (h1 : x.nm = y.nm) (h2 : x.id = y.id) (h3 : x.sz = y.sz) (h4 : x.og = y.og) (h5 : x.kd = y.kd) (h6 : x.pt = y.pt) (h7 : x.mp = y.mp) : x = y := by cases x; cases y; simp_all
theorem str_toList {s s' : ByteArray} : s.toList = s'.toList ↔ s = s' := by
 rw [ByteArray.toList_eq, ByteArray.toList_eq]
 exact ⟨fun h => ByteArray.ext (Array.toList_inj.mp h), fun h => by rw [h]⟩
end Go.Proofs.YtddddfankeepkaaGreatDoor
