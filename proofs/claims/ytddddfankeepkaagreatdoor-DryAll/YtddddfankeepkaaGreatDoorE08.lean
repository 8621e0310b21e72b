import Derived.Test.YtddddfankeepkaaGreatDoorE03
import Derived.Test.YtddddfankeepkaaGreatDoorE07
namespace Go.Proofs.YtddddfankeepkaaGreatDoor
open Go.RowKit
structure PO where
 k : Int
 nm : ByteArray
 ot : ByteArray
 fr : Int
 tt : Int
 da : List Int
theorem info5 : (Tryz.prog.info? 5).map (fun i => (i.zero, i.size, i.bytes)) = some (some (.int .u8 0), 1, 1) := by kernel_rfl
def Rd (B : Nat) (w : World) (a : Option Addr) (n : Nat) (zs : List Int) : Prop :=
 zs.length = n ∧ Pl.isB zs ∧ (n = 0 ∨ ∃ b off, a = some ⟨b, off, none⟩ ∧ b < B ∧ ∀ t, t < n → w.cell? ⟨b, off + t, none⟩ = some (.int .u8 (zs.getD t 0)))
theorem Rd.below {B : Nat} {w w' : World} {a : Option Addr} {n : Nat} {zs : List Int} (h : Rd B w a n zs) (hb : Below B w w') : Rd B w' a n zs := by
 obtain ⟨h1, h2, h3⟩ := h
 refine ⟨h1, h2, ?_⟩
 rcases h3 with h3 | ⟨b, off, rfl, hlt, hc⟩
 ·exact .inl h3
 ·exact .inr ⟨b, off, rfl, hlt, fun t ht => (hb.cell (by exact hlt)).trans (hc t ht)⟩
theorem Rd.mono {B B' : Nat} {w : World} {a : Option Addr} {n : Nat} {zs : List Int} (h : Rd B w a n zs) (hb : B ≤ B') : Rd B' w a n zs := by
 obtain ⟨h1, h2, h3⟩ := h
 refine ⟨h1, h2, ?_⟩
 rcases h3 with h3 | ⟨b, off, rfl, hlt, hc⟩
 ·exact .inl h3
 ·exact .inr ⟨b, off, rfl, by omega, hc⟩
def Ow (B : Nat) (w : World) (v : Value) (zs : List Int) : Prop := w.ownsRow B 5 1 v zs.length (zs.map (Value.int .u8))
structure Gr (w w' : World) (v v' : Value) : Prop where
 os : w'.os = w.os
 tape : w'.tape = w.tape
 output : w'.output = w.output
 size : w.heap.size ≤ w'.heap.size
 block : ∀ k, k < w.heap.size → some k ≠ v.ownBlock → w'.heap[k]? = w.heap[k]?
 own : v'.ownBlock = v.ownBlock ∨ ∃ g, v'.ownBlock = some g ∧ w.heap.size ≤ g
theorem Gr.refl (w : World) (v : Value) : Gr w w v v := ⟨rfl, rfl, rfl, Nat.le_refl _, fun _ _ _ => rfl, .inl rfl⟩
theorem Gr.below {w w' : World} {v v' : Value} {B : Nat} (h : Gr w w' v v') (hB : B ≤ w.heap.size) (hv : ∀ g, v.ownBlock = some g → B ≤ g) : Below B w w' :=
 ⟨h.os, h.tape, h.output, h.size, fun k hk => h.block k (by omega) (fun e => by have := hv k e.symm; omega)⟩
theorem Ow.base {B : Nat} {w : World} {v : Value} {zs : List Int} (h : Ow B w v zs) : ∀ g, v.ownBlock = some g → B ≤ g := by
 intro g hg
 rcases h.2 with ⟨e, _⟩ | ⟨g', cap, cur, e, hb, _⟩
 ·rw [e] at hg; simp [Value.ownBlock] at hg
 ·rw [e] at hg; simp [Value.ownBlock] at hg; omega
theorem Ow.lt {B : Nat} {w : World} {v : Value} {zs : List Int} (h : Ow B w v zs) : ∀ g, v.ownBlock = some g → g < w.heap.size := by
 intro g hg
 rcases h.2 with ⟨e, _⟩ | ⟨g', cap, cur, e, hb, hh, _⟩
 ·rw [e] at hg; simp [Value.ownBlock] at hg
 ·rw [e] at hg; simp [Value.ownBlock] at hg; subst hg; exact (Array.getElem?_eq_some_iff.1 hh).1
theorem Ow.keep {B : Nat} {w w' : World} {v : Value} {zs : List Int} (h : Ow B w v zs) (hk : ∀ g, v.ownBlock = some g → w'.heap[g]? = w.heap[g]?) : Ow B w' v zs := by
 obtain ⟨h1, h2⟩ := h
 refine ⟨h1, ?_⟩
 rcases h2 with ⟨e, q⟩ | ⟨g', cap, cur, e, hb, hh, r⟩
 ·exact .inl ⟨e, q⟩
 ·exact .inr ⟨g', cap, cur, e, hb, (hk g' (by rw [e]; rfl)).trans hh, r⟩
theorem Ow.next {B : Nat} {w w' : World} {v : Value} {zs : List Int} (h : Ow B w v zs) (hb : Below w.heap.size w w') : Ow B w' v zs := h.keep fun g hg => hb.block g (h.lt g hg)
theorem Ow.nil (B : Nat) (w : World) : Ow B w (.slice none 0 0) [] := ⟨rfl, .inl ⟨rfl, rfl⟩⟩
theorem Ow.mono {B B' : Nat} {w : World} {v : Value} {zs : List Int} (h : Ow B w v zs) (hb : B' ≤ B) : Ow B' w v zs := by
 obtain ⟨h1, h2⟩ := h
 refine ⟨h1, ?_⟩
 rcases h2 with q | ⟨g', cap, cur, e, hbg, r⟩
 ·exact .inl q
 ·exact .inr ⟨g', cap, cur, e, by omega, r⟩
theorem Ow.rd {B : Nat} {w : World} {v : Value} {zs : List Int} (h : Ow B w v zs) (hB : Pl.isB zs) : ∃ a c, v = .slice a zs.length c ∧ zs.length ≤ c ∧ Rd w.heap.size w a zs.length zs ∧ (a = none → c = 0) := by
 have hc := fun g => World.ownsRow.cells (g := g) h
 have hlt := h.lt
 obtain ⟨h1, h2⟩ := h
 rcases h2 with ⟨rfl, q⟩ | ⟨g', cap, cur, rfl, hb, hh, r1, r2, r3, r4⟩
 ·obtain rfl : zs = [] := List.eq_nil_of_length_eq_zero q
  exact ⟨none, 0, rfl, Nat.le_refl _, ⟨rfl, hB, .inl rfl⟩, fun _ => rfl⟩
 ·refine ⟨some ⟨g', 0, none⟩, cap, rfl, r1, ⟨rfl, hB, .inr ⟨g', 0, rfl, hlt g' rfl, fun t ht => ?_⟩⟩, fun e => by cases e⟩
  have := hc g' rfl t (.int .u8 (zs.getD t 0)) (by simp [ht])
  rw [Addr.add_lit] at this
  exact this
theorem app_rd {B B' : Nat} {w : World} {v : Value} {zs ys : List Int} (ty : TypeId) (ho : Ow B w v zs) {a : Option Addr} {m c : Nat} (hR : Rd B' w a m ys) (hn : a = none → c = 0) (hm : m ≤ 1073741824) (hz : zs.length ≤ 1073741824) (hw : B ≤ w.heap.size) :
  ∃ v' w', (Builtin.append_ #[40, 40] ty #[v, .slice a m c]).run Tryz.prog w = .ok v' w' ∧ Ow B w' v' (zs ++ ys) ∧ Gr w w' v v' := by
 obtain ⟨i0, hi, hz0, hz1, hz2⟩ := info_parts info5
 cases a with
 | none =>
  have hm0 : m = 0 := by
   rcases hR.2.2 with h | ⟨_, _, h, _⟩
   ·exact h
   ·cases h
  subst hm0
  rw [hn rfl]
  obtain rfl : ys = [] := List.eq_nil_of_length_eq_zero hR.1
  exact ⟨v, w, run_append_owned_none w B 40 ty 5 i0 1 Tryz.underlying40 hi _ _ _ ho, by rw [List.append_nil]; exact ho, Gr.refl _ _⟩
 | some ad =>
  obtain ⟨v', w', hr, h2, h3, _, h5⟩ := run_append_own_at (P := Tryz.prog) w B 40 ty 5 i0 (.int .u8 0) 1 1 Tryz.underlying40 hi hz0 hz1 hz2 rfl (by decide) v zs.length (zs.map (Value.int .u8)) ho ad m c (ys.map (Value.int .u8)) (by simp [hR.1]) (fun j u hu => by
   have hj : j < ys.length := by have := (List.getElem?_eq_some_iff.1 hu).1; simpa using this
   rcases hR.2.2 with h | ⟨b, off, e, _, hc⟩
   ·have := hR.1; omega
   ·cases e
    rw [Addr.add_lit, hc j (by have := hR.1; omega)]
    simp [hj] at hu
    rw [← hu]
    simp [hj]) (fun u hu => by obtain ⟨z, _, rfl⟩ := List.mem_map.1 hu; rfl) (by unfold maxLen; omega) (by omega) hw
  refine ⟨v', w', hr, ?_, ⟨h3.os, h3.tape, h3.output, h3.size, h3.block, h5.elim .inl fun e => .inr ⟨_, e, Nat.le_refl _⟩⟩⟩
  unfold Ow
  rw [List.map_append, List.length_append, hR.1]
  exact h2
theorem Ow.form {B : Nat} {w : World} {v : Value} {zs : List Int} (h : Ow B w v zs) : ∃ a c, v = .slice a zs.length c := by
 rcases h.2 with ⟨rfl, q⟩ | ⟨g', cap, cur, rfl, _⟩
 ·exact ⟨none, 0, by rw [q]⟩
 ·exact ⟨_, _, rfl⟩
def PO0 : PO := ⟨0, cE, cE, 0, 0, []⟩
def OpB (w : World) (b : Nat) (o : PO) (v : Value) : Prop := w.heap[b]? = some (.cells #[.int .i64 o.k, .string o.nm, .string o.ot, .int .i64 o.fr, .int .i64 o.tt, v] 42 (0, 0))
theorem OpB.lt {w : World} {b : Nat} {o : PO} {v : Value} (h : OpB w b o v) : b < w.heap.size := (Array.getElem?_eq_some_iff.1 h).1
theorem OpB.cell {w : World} {b : Nat} {o : PO} {v : Value} (h : OpB w b o v) (i : Nat) (x : Value) (hx : (#[.int .i64 o.k, .string o.nm, .string o.ot, .int .i64 o.fr, .int .i64 o.tt, v] : Array Value)[i]? = some x) : w.cell? ⟨b, i, none⟩ = some x := by
 unfold OpB at h
 simp only [World.cell?, h]
 exact hx
theorem OpB.fz {w : World} {b : Nat} {o : PO} {v : Value} (h : OpB w b o v) (i : Nat) : w.frozen? ⟨b, i, none⟩ = false := by
 unfold OpB at h
 simp [World.frozen?, h]
theorem OpB.set {w : World} {b : Nat} {o o' : PO} {v v' : Value} (h : OpB w b o v) (i : Nat) (x : Value) (hx : (#[.int .i64 o.k, .string o.nm, .string o.ot, .int .i64 o.fr, .int .i64 o.tt, v] : Array Value).setIfInBounds i x = #[.int .i64 o'.k, .string o'.nm, .string o'.ot, .int .i64 o'.fr, .int .i64 o'.tt, v']) : OpB (w.setCell ⟨b, i, none⟩ x) b o' v' := by
 unfold OpB at *
 simp only [World.setCell, Array.getElem?_modify]
 rw [h, ← hx]
 simp
theorem OpB.keep {w w' : World} {b : Nat} {o : PO} {v : Value} (h : OpB w b o v) (hb : w'.heap[b]? = w.heap[b]?) : OpB w' b o v := hb.trans h
theorem OpB.cs {w : World} {b : Nat} {o : PO} {v : Value} (h : OpB w b o v) : (w.cell? ⟨b, 0, none⟩ = some (.int .i64 o.k) ∧ w.cell? ⟨b, 1, none⟩ = some (.string o.nm) ∧ w.cell? ⟨b, 2, none⟩ = some (.string o.ot) ∧ w.cell? ⟨b, 3, none⟩ = some (.int .i64 o.fr) ∧ w.cell? ⟨b, 4, none⟩ = some (.int .i64 o.tt) ∧ w.cell? ⟨b, 5, none⟩ = some v) ∧ (w.frozen? ⟨b, 0, none⟩ = false ∧ w.frozen? ⟨b, 1, none⟩ = false ∧ w.frozen? ⟨b, 2, none⟩ = false ∧ w.frozen? ⟨b, 3, none⟩ = false ∧ w.frozen? ⟨b, 4, none⟩ = false ∧ w.frozen? ⟨b, 5, none⟩ = false) :=
 ⟨⟨h.cell 0 _ rfl, h.cell 1 _ rfl, h.cell 2 _ rfl, h.cell 3 _ rfl, h.cell 4 _ rfl, h.cell 5 _ rfl⟩, h.fz 0, h.fz 1, h.fz 2, h.fz 3, h.fz 4, h.fz 5⟩
def put6 (w : World) (b : Nat) (o : PO) (v : Value) : World := (((((w.setCell ⟨b, 0, none⟩ (.int .i64 o.k)).setCell ⟨b, 1, none⟩ (.string o.nm)).setCell ⟨b, 2, none⟩ (.string o.ot)).setCell ⟨b, 3, none⟩ (.int .i64 o.fr)).setCell ⟨b, 4, none⟩ (.int .i64 o.tt)).setCell ⟨b, 5, none⟩ v
theorem OpB.put6 {w : World} {b : Nat} {o : PO} {v : Value} (h : OpB w b o v) (o' : PO) (v' : Value) : OpB (put6 w b o' v') b o' v' := by
 have h0 := h.set (o' := ⟨o'.k, o.nm, o.ot, o.fr, o.tt, []⟩) (v' := v) 0 (.int .i64 o'.k) rfl
 have h1 := h0.set (o' := ⟨o'.k, o'.nm, o.ot, o.fr, o.tt, []⟩) (v' := v) 1 (.string o'.nm) rfl
 have h2 := h1.set (o' := ⟨o'.k, o'.nm, o'.ot, o.fr, o.tt, []⟩) (v' := v) 2 (.string o'.ot) rfl
 have h3 := h2.set (o' := ⟨o'.k, o'.nm, o'.ot, o'.fr, o.tt, []⟩) (v' := v) 3 (.int .i64 o'.fr) rfl
 have h4 := h3.set (o' := ⟨o'.k, o'.nm, o'.ot, o'.fr, o'.tt, []⟩) (v' := v) 4 (.int .i64 o'.tt) rfl
 exact h4.set (o' := o') (v' := v') 5 v' rfl
theorem but_put6 (w : World) (b : Nat) (o : PO) (v : Value) : But (fun x => x = b) w (put6 w b o v) :=
 ((((((But.refl (fun x => x = b) w).setCell (p := ⟨b, 0, none⟩) rfl _).setCell (p := ⟨b, 1, none⟩) rfl _).setCell (p := ⟨b, 2, none⟩) rfl _).setCell (p := ⟨b, 3, none⟩) rfl _).setCell (p := ⟨b, 4, none⟩) rfl _).setCell (p := ⟨b, 5, none⟩) rfl _
structure okO (o : PO) : Prop where
 k0 : -9223372036854775808 ≤ o.k
 k1 : o.k ≤ 9223372036854775807
 f0 : -9223372036854775808 ≤ o.fr
 f1 : o.fr ≤ 9223372036854775807
 t0 : -9223372036854775808 ≤ o.tt
 t1 : o.tt ≤ 9223372036854775807
 nm : o.nm.size ≤ 16777216
 ot : o.ot.size ≤ 16777216
 da : o.da.length ≤ 16777216
structure OpD (w : World) (b off : Nat) (o : PO) (a : Option Addr) (c : Nat) : Prop where
 o0 : w.cell? ⟨b, off, none⟩ = some (.int .i64 o.k)
 o1 : w.cell? ⟨b, off + 1, none⟩ = some (.string o.nm)
 o2 : w.cell? ⟨b, off + 2, none⟩ = some (.string o.ot)
 o3 : w.cell? ⟨b, off + 3, none⟩ = some (.int .i64 o.fr)
 o4 : w.cell? ⟨b, off + 4, none⟩ = some (.int .i64 o.tt)
 o5 : w.cell? ⟨b, off + 5, none⟩ = some (.slice a o.da.length c)
def OpAt (B : Nat) (w : World) (b off : Nat) (o : PO) : Prop := ∃ a c, OpD w b off o a c ∧ Rd B w a o.da.length o.da ∧ (a = none → c = 0)
def RdO (B : Nat) (w : World) (x : Option Addr) (os : List PO) : Prop :=
 (∀ o ∈ os, okO o) ∧ (os = [] ∨ ∃ b off, x = some ⟨b, off, none⟩ ∧ b < B ∧ ∀ t (h : t < os.length), OpAt B w b (off + t * 6) os[t])
theorem OpD.keep {w w' : World} {b off : Nat} {o : PO} {a : Option Addr} {c : Nat} (h : OpD w b off o a c) (hb : w'.heap[b]? = w.heap[b]?) : OpD w' b off o a c :=
 ⟨(World.cell?_of_block (a := ⟨b, _, none⟩) hb).trans h.o0, (World.cell?_of_block (a := ⟨b, _, none⟩) hb).trans h.o1, (World.cell?_of_block (a := ⟨b, _, none⟩) hb).trans h.o2, (World.cell?_of_block (a := ⟨b, _, none⟩) hb).trans h.o3, (World.cell?_of_block (a := ⟨b, _, none⟩) hb).trans h.o4, (World.cell?_of_block (a := ⟨b, _, none⟩) hb).trans h.o5⟩
theorem OpAt.below {B : Nat} {w w' : World} {b off : Nat} {o : PO} (h : OpAt B w b off o) (hb : Below B w w') (hl : b < B) : OpAt B w' b off o := by
 obtain ⟨a, c, h1, h2, h3⟩ := h
 exact ⟨a, c, h1.keep (hb.block b hl), h2.below hb, h3⟩
theorem RdO.below {B : Nat} {w w' : World} {x : Option Addr} {os : List PO} (h : RdO B w x os) (hb : Below B w w') : RdO B w' x os := by
 refine ⟨h.1, ?_⟩
 rcases h.2 with e | ⟨b, off, rfl, hl, hc⟩
 ·exact .inl e
 ·exact .inr ⟨b, off, rfl, hl, fun t ht => (hc t ht).below hb hl⟩
theorem RdO.mono {B B' : Nat} {w : World} {x : Option Addr} {os : List PO} (h : RdO B w x os) (hB : B ≤ B') : RdO B' w x os := by
 refine ⟨h.1, ?_⟩
 rcases h.2 with e | ⟨b, off, rfl, hl, hc⟩
 ·exact .inl e
 ·exact .inr ⟨b, off, rfl, by omega, fun t ht => by
   obtain ⟨a, c, h1, h2, h3⟩ := hc t ht
   exact ⟨a, c, h1, h2.mono hB, h3⟩⟩
theorem info42 : (Tryz.prog.info? 42).map (fun i => (i.zero, i.size, i.bytes)) = some (some (.agg #[.int .i64 0, .string ByteArray.empty, .string ByteArray.empty, .int .i64 0, .int .i64 0, .slice none 0 0]), 6, 80) := by kernel_rfl
def cells6 (o : PO) (v : Value) : List Value := [.int .i64 o.k, .string o.nm, .string o.ot, .int .i64 o.fr, .int .i64 o.tt, v]
def flatO : List PO → List Value → List Value
 | o :: os, v :: vs => cells6 o v ++ flatO os vs
 | _, _ => []
theorem flatO_app : ∀ (os : List PO) (vs : List Value) (o : PO) (v : Value), vs.length = os.length → flatO (os ++ [o]) (vs ++ [v]) = flatO os vs ++ cells6 o v
 | [], [], o, v, _ => by simp [flatO]
 | [], _ :: _, _, _, h => by simp at h
 | _ :: _, [], _, _, h => by simp at h
 | p :: os, x :: vs, o, v, h => by
  have ih := flatO_app os vs o v (by simpa using h)
  simp only [List.cons_append, flatO, ih, List.append_assoc]
theorem flatO_len : ∀ (os : List PO) (vs : List Value), vs.length = os.length → (flatO os vs).length = os.length * 6
 | [], [], _ => rfl
 | [], _ :: _, h => by simp at h
 | _ :: _, [], h => by simp at h
 | p :: os, x :: vs, h => by
  have ih := flatO_len os vs (by simpa using h)
  simp [flatO, cells6, ih]
  omega
theorem flatO_at : ∀ (os : List PO) (vs : List Value) (hl : vs.length = os.length) (t : Nat) (ht : t < os.length) (i : Nat), i < 6 → (flatO os vs)[t * 6 + i]? = (cells6 os[t] (vs[t]'(by omega)))[i]?
 | [], _, _, t, ht, _, _ => by simp at ht
 | _ :: _, [], h, _, _, _, _ => by simp at h
 | p :: os, x :: vs, h, 0, _, i, hi => by
  simp only [flatO, Nat.zero_mul, Nat.zero_add, List.getElem_cons_zero]
  rw [List.getElem?_append_left (by simpa [cells6] using hi)]
 | p :: os, x :: vs, h, t + 1, ht, i, hi => by
  have ih := flatO_at os vs (by simpa using h) t (by simpa using ht) i hi
  simp only [flatO, List.getElem_cons_succ]
  rw [List.getElem?_append_right (by simp [cells6]; omega), show (t + 1) * 6 + i - (cells6 p x).length = t * 6 + i by simp [cells6]; omega]
  exact ih
structure OwL (B : Nat) (w : World) (v : Value) (os : List PO) (vs : List Value) : Prop where
 len : vs.length = os.length
 row : w.ownsRow B 42 6 v os.length (flatO os vs)
 dat : ∀ i (h : i < os.length), Ow B w (vs[i]'(by omega)) os[i].da
 apart : ∀ i j (hi : i < j) (hj : j < vs.length) g, (vs[i]'(by omega)).ownBlock = some g → vs[j].ownBlock ≠ some g
theorem OwL.ne {B : Nat} {w : World} {v : Value} {os : List PO} {vs : List Value} (h : OwL B w v os vs) {B' : Nat} {u : Value} {zs : List Int} (hu : Ow B' w u zs) {g : Nat} (hg : u.ownBlock = some g) : v.ownBlock ≠ some g := by
 intro e
 obtain ⟨_, _, c1, h1⟩ := own_blk h.row e
 obtain ⟨_, _, c2, h2⟩ := own_blk hu hg
 rw [h1] at h2
 simp at h2
theorem OwL.nil (B : Nat) (w : World) : OwL B w (.slice none 0 0) [] [] := ⟨rfl, ⟨rfl, .inl ⟨rfl, rfl⟩⟩, fun i h => by simp at h, fun i j hi hj => by simp at hj⟩
theorem OwL.keep {B : Nat} {w w' : World} {v : Value} {os : List PO} {vs : List Value} (h : OwL B w v os vs) (hk : ∀ g, B ≤ g → g < w.heap.size → w'.heap[g]? = w.heap[g]?) : OwL B w' v os vs :=
 ⟨h.len, own_keep h.row fun g hg => by obtain ⟨a, b, _⟩ := own_blk h.row hg; exact hk g a b, fun i hi => (h.dat i hi).keep fun g hg => hk g ((h.dat i hi).base g hg) ((h.dat i hi).lt g hg), h.apart⟩
theorem OwL.next {B : Nat} {w w' : World} {v : Value} {os : List PO} {vs : List Value} (h : OwL B w v os vs) (hb : Below w.heap.size w w') : OwL B w' v os vs := h.keep fun g _ hg => hb.block g hg
theorem OwL.push {B : Nat} {w : World} {v : Value} {os : List PO} {vs : List Value} (ty : TypeId) (h : OwL B w v os vs) (o : PO) (nv : Value) (hd : Ow B w nv o.da) (hn : ∀ i (hi : i < vs.length) g, vs[i].ownBlock = some g → nv.ownBlock ≠ some g) {g : Nat} (hg : w.heap[g]? = some (.cells (cells6 o nv).toArray 42 (0, 0))) (hl : os.length ≤ 16777216) (hw : B ≤ w.heap.size) :
  ∃ v' w', (Builtin.append_ #[25, 25] ty #[v, .slice (some ⟨g, 0, none⟩) 1 1]).run Tryz.prog w = .ok v' w' ∧ OwL B w' v' (os ++ [o]) (vs ++ [nv]) ∧ Gr w w' v v' := by
 obtain ⟨i0, hi, hz0, hz1, hz2⟩ := info_parts info42
 obtain ⟨a, c, rfl⟩ := hd.form
 obtain ⟨v', w', hr, h2, h3, _, h5⟩ := run_append_own_at (P := Tryz.prog) w B 25 ty 42 i0 _ 6 80 Tryz.underlying25 hi hz0 hz1 hz2 rfl (by decide) v os.length (flatO os vs) h.row ⟨g, 0, none⟩ 1 1 (cells6 o (.slice a o.da.length c)) rfl (fun j u hu => by
  rw [Addr.add_lit, Nat.zero_add]
  simp only [World.cell?, hg]
  simpa using hu) (fun u hu => by simp only [cells6, List.mem_cons, List.not_mem_nil, or_false] at hu; rcases hu with rfl | rfl | rfl | rfl | rfl | rfl <;> rfl) (by unfold maxLen; omega) (by omega) hw
 have gr : Gr w w' v v' := ⟨h3.os, h3.tape, h3.output, h3.size, h3.block, h5.elim .inl fun e => .inr ⟨_, e, Nat.le_refl _⟩⟩
 have keep : ∀ {u : Value} {zs : List Int}, Ow B w u zs → Ow B w' u zs := fun hu => hu.keep fun x hx => gr.block x (hu.lt x hx) (fun e => h.ne hu hx e.symm)
 refine ⟨v', w', hr, ⟨by simp [h.len], ?_, fun i hi => ?_, fun i j hij hj x hx => ?_⟩, gr⟩
 ·rw [flatO_app os vs o _ h.len, List.length_append]
  exact h2
 ·by_cases he : i < os.length
  ·rw [List.getElem_append_left (by have := h.len; omega)]
   have := keep (h.dat i he)
   simp only [List.getElem_append_left he]
   exact this
  ·simp only [List.length_append, List.length_cons, List.length_nil] at hi
   have e : i = os.length := by omega
   subst e
   have e2 : (vs ++ [Value.slice a o.da.length c])[os.length]'(by simp [h.len]) = .slice a o.da.length c := by
    rw [List.getElem_append_right (by rw [h.len]; exact Nat.le_refl _)]
    simp
   simp only [List.getElem_append_right (Nat.le_refl _), Nat.sub_self, List.getElem_cons_zero]
   rw [e2]
   exact keep hd
 ·simp only [List.length_append, List.length_cons, List.length_nil] at hj
  by_cases he : j < vs.length
  ·rw [List.getElem_append_left he]
   rw [List.getElem_append_left (by omega)] at hx
   exact h.apart i j hij he x hx
  ·have e : j = vs.length := by omega
   subst e
   rw [List.getElem_append_left (by omega)] at hx
   rw [List.getElem_append_right (Nat.le_refl _)]
   simp only [Nat.sub_self, List.getElem_cons_zero]
   exact hn i (by omega) x hx
set_option maxRecDepth 100000 in
set_option maxHeartbeats 1000000 in
theorem CopyBytes_any (a : Option Addr) (n c : Nat) (zs : List Int) (w : World) {B : Nat} (h : Rd B w a n zs) (ha : a = none → c = 0) (hn : n ≤ 16777216) (hB : B ≤ w.heap.size) :
  Calls Tryz.prog 24 #[.slice a n c] w fun e w' => ∃ v, e = .returned v ∧ Ow w.heap.size w' v zs ∧ Below w.heap.size w w' := by
 have ow0 : Ow w.heap.size (w.alloc (.cells #[] 5)) (.slice (some ⟨w.heap.size, 0, none⟩) 0 0) [] := ⟨rfl, .inr ⟨w.heap.size, 0, #[], rfl, Nat.le_refl _, heap_new _ _, Nat.le_refl _, Nat.zero_le _, rfl, rfl⟩⟩
 have b0 : Below w.heap.size w (w.alloc (.cells #[] 5)) := below1 _ _
 obtain ⟨v', w', hr, ho, hg⟩ := app_rd 40 ow0 ((h.mono hB).below b0) ha (by omega) (by simp) (by simp)
 have HO := hid ho
 have HB := hid (b0.trans (hg.below (by simp) (fun g e => by simp [Value.ownBlock] at e; omega)))
 clear ow0 b0 h ha hB ho hg
 go_enter Tryz.func24, Tryz.ntmps24
 go_wp2_with (at_builtin; refine Lib.wpList_append_run _ rfl _ _ _ _ rfl _ _ rfl rfl _ _ hr ?_)
 go_ret
 exact ⟨v', rfl, by simpa using HO.out, HB.out⟩
end Go.Proofs.YtddddfankeepkaaGreatDoor
namespace Go.Proofs.YtddddfankeepkaaGreatDoor
open Go.RowKit
theorem results_op1 {fn : Func} {p : Tmp} (h : fn.results = #[.cell p 42]) (tmps : Array Value) (w : World) (R : Nat) (o : PO) (v : Value) (hp : tmps.getD p undef = .pointer (some ⟨R, 0, none⟩)) (hB : OpB w R o v) :
  (results fn tmps).run Tryz.prog w = .ok (.agg #[.int .i64 o.k, .string o.nm, .string o.ot, .int .i64 o.fr, .int .i64 o.tt, v]) w :=
 results_row1 h tmps w R 42 _ (0, 0) _ hp hB Tryz.underlying42 rfl (by kernel_rfl)
set_option maxRecDepth 100000 in
set_option maxHeartbeats 1000000 in
theorem CopyOp_any (o : PO) (a : Option Addr) (c : Nat) (w : World) (h : Rd w.heap.size w a o.da.length o.da) (ha : a = none → c = 0) (hn : o.da.length ≤ 16777216) :
  Calls Tryz.prog 34 #[.agg #[.int .i64 o.k, .string o.nm, .string o.ot, .int .i64 o.fr, .int .i64 o.tt, .slice a o.da.length c]] w fun e w' => ∃ v, e = .returned (.agg #[.int .i64 o.k, .string o.nm, .string o.ot, .int .i64 o.fr, .int .i64 o.tt, v]) ∧ Ow w.heap.size w' v o.da ∧ Below w.heap.size w w' := by
 obtain ⟨R, hR⟩ : ∃ R, R = w.heap.size := ⟨_, rfl⟩
 obtain ⟨W0, hW0⟩ : ∃ W0, W0 = (w.alloc (.cells #[.int .i64 o.k, .string o.nm, .string o.ot, .int .i64 o.fr, .int .i64 o.tt, .slice a o.da.length c] 42)).alloc (.cells #[.int .i64 0, .string cE, .string cE, .int .i64 0, .int .i64 0, .slice none 0 0] 42) := ⟨_, rfl⟩
 have b0 : Below w.heap.size w W0 := by rw [hW0]; exact ((Below.refl _ _).alloc (Nat.le_refl _) _).alloc (by simp) _
 have z0 : W0.heap.size = R + 2 := by rw [hW0, hR]; simp
 have r0 : OpB W0 R o (.slice a o.da.length c) := by
  unfold OpB
  rw [hW0, hR, Below.heap_alloc _ _ _ (by simp)]
  exact heap_new _ _
 have r1 : OpB W0 (R + 1) PO0 (.slice none 0 0) := by
  have := heap_new (w.alloc (.cells #[.int .i64 o.k, .string o.nm, .string o.ot, .int .i64 o.fr, .int .i64 o.tt, .slice a o.da.length c] 42)) (.cells #[.int .i64 0, .string cE, .string cE, .int .i64 0, .int .i64 0, .slice none 0 0] 42)
  rw [World.size_alloc, ← hR, ← hW0] at this
  exact this
 have HC : Hid (Calls Tryz.prog 24 #[.slice a o.da.length c] W0 fun e w2 => ∃ va vn vc, e = .returned (.slice va vn vc) ∧ (OpB w2 R o (.slice a o.da.length c) ∧ OpB w2 (R + 1) PO0 (.slice none 0 0)) ∧ OpB (put6 (w2.setCell ⟨R, 5, none⟩ (.slice va vn vc)) (R + 1) o (.slice va vn vc)) (R + 1) o (.slice va vn vc) ∧ Ow w.heap.size (put6 (w2.setCell ⟨R, 5, none⟩ (.slice va vn vc)) (R + 1) o (.slice va vn vc)) (.slice va vn vc) o.da ∧ Below w.heap.size w (put6 (w2.setCell ⟨R, 5, none⟩ (.slice va vn vc)) (R + 1) o (.slice va vn vc))) := by
  refine (CopyBytes_any a o.da.length c o.da W0 (h.below b0) ha hn b0.size).mono ?_
  rintro e w2 ⟨v, rfl, ho, hb⟩
  obtain ⟨va, vc, rfl⟩ := ho.form
  have s0 : OpB w2 R o (.slice a o.da.length c) := r0.keep (hb.block _ r0.lt)
  have s1 : OpB w2 (R + 1) PO0 (.slice none 0 0) := r1.keep (hb.block _ r1.lt)
  have e1 : But (fun x => x = R) w2 (w2.setCell ⟨R, 5, none⟩ (.slice va o.da.length vc)) := (But.refl (fun x => x = R) w2).setCell (p := ⟨R, 5, none⟩) rfl _
  have s2 : OpB (w2.setCell ⟨R, 5, none⟩ (.slice va o.da.length vc)) R o (.slice va o.da.length vc) := s0.set (o' := o) (v' := .slice va o.da.length vc) 5 _ rfl
  have s3 : OpB (w2.setCell ⟨R, 5, none⟩ (.slice va o.da.length vc)) (R + 1) PO0 (.slice none 0 0) := s1.keep (e1.block _ s1.lt (by omega))
  have e2 := but_put6 (w2.setCell ⟨R, 5, none⟩ (.slice va o.da.length vc)) (R + 1) o (.slice va o.da.length vc)
  have hz := hb.size
  refine ⟨va, _, vc, rfl, ⟨s0, s1⟩, s3.put6 o _, (ho.mono b0.size).keep fun g hg => ?_, ?_⟩
  ·have q1 := ho.base g hg
   have q2 := ho.lt g hg
   exact (e2.block g (Nat.lt_of_lt_of_le q2 e1.size) (by omega)).trans (e1.block g q2 (by omega))
  ·have := e1.size
   exact ((b0.trans (hb.mono b0.size)).trans (e1.below (by omega) (fun x hx e => by omega))).trans (e2.below (by omega) (fun x hx e => by omega))
 have HW0 := hid hW0
 have HR := hid hR
 clear hW0 b0 z0 r0 r1 h ha hn
 generalize o.da.length = n at *
 go_enter Tryz.func34, Tryz.ntmps34
 go_wp2_with fail
 rw [← HW0.out]
 try rw [← HR.out]
 refine HC.out.mono ?_
 rintro e w2 ⟨va, vn, vc, rfl, ⟨s0, s3⟩, p1, p2, p3⟩
 have HP1 := hid p1
 have HP2 := hid p2
 have HP3 := hid p3
 obtain ⟨⟨c0, c1, c2, c3, c4, c5⟩, ⟨y0, y1, y2, y3, y4, y5⟩⟩ := s0.cs
 obtain ⟨⟨g0, g1, g2, g3, g4, g5⟩, ⟨z0, z1, z2, z3, z4, z5⟩⟩ := s3.cs
 clear p1 p2 p3 s0 s3 HC HW0 hR
 go_wp2_with fail
 have HFin : Hid (∀ x, x = put6 (w2.setCell ⟨R, 5, none⟩ (.slice va vn vc)) (R + 1) o (.slice va vn vc) → OpB x (R + 1) o (.slice va vn vc) ∧ Ow w.heap.size x (.slice va vn vc) o.da ∧ Below w.heap.size w x) := by
  rintro x rfl
  exact ⟨HP1.out, HP2.out, HP3.out⟩
 exact bodyPost_ret (results_op1 rfl _ _ (R + 1) o (.slice va vn vc) rfl (HFin.out _ rfl).1) rfl ⟨_, rfl, (HFin.out _ rfl).2⟩
structure CpS (w wr : World) (v : Value) (os : List PO) : Prop where
 ow : ∃ vs, OwL w.heap.size wr v os vs
 bel : Below w.heap.size w wr
set_option maxRecDepth 100000 in
set_option maxHeartbeats 4000000 in
theorem CopyOps_any (x : Option Addr) (c : Nat) (os : List PO) (w : World) (hl : os.length ≤ 16777216) (hR : RdO w.heap.size w x os) :
  Calls Tryz.prog 11 #[.slice x os.length c] w fun e w' => ∃ u vs, e = .returned u ∧ OwL w.heap.size w' u os vs ∧ Below w.heap.size w w' := by
 have c00 : CpS w (w.alloc (.cells #[] 42)) (.slice (some ⟨w.heap.size, 0, none⟩) 0 0) [] := by
  refine ⟨⟨[], rfl, ⟨rfl, .inr ⟨w.heap.size, 0, #[], rfl, Nat.le_refl _, heap_new _ _, Nat.le_refl _, Nat.zero_le _, rfl, rfl⟩⟩, fun i h => by simp at h, fun i j hi hj => by simp at hj⟩, below1 _ _⟩
 have HSTEP : Hid (∀ (wr : World) (r : Nat) (hr : r < os.length) (u : Value), CpS w wr u (os.take r) → ∃ b off a cp, x = some ⟨b, off, none⟩ ∧ OpD wr b (off + r * 6) os[r] a cp ∧ Calls Tryz.prog 34 #[.agg #[.int .i64 os[r].k, .string os[r].nm, .string os[r].ot, .int .i64 os[r].fr, .int .i64 os[r].tt, .slice a os[r].da.length cp]] wr fun e w2 => ∃ va vn vc u' w', e = .returned (.agg #[.int .i64 os[r].k, .string os[r].nm, .string os[r].ot, .int .i64 os[r].fr, .int .i64 os[r].tt, .slice va vn vc]) ∧ (Builtin.append_ #[25, 25] 22 #[u, .slice (some ⟨w2.heap.size, 0, none⟩) 1 1]).run Tryz.prog (w2.alloc (.cells #[.int .i64 os[r].k, .string os[r].nm, .string os[r].ot, .int .i64 os[r].fr, .int .i64 os[r].tt, .slice va vn vc] 42)) = .ok u' w' ∧ CpS w w' u' (os.take (r + 1))) := by
  intro wr r hr u hS
  have hR2 := hR.below hS.bel
  obtain ⟨b, off, rfl, hbl, hc⟩ := hR2.2.resolve_left (fun e => by rw [e] at hr; simp at hr)
  obtain ⟨a, cp, hO, r1, ha⟩ := hc r hr
  have hok := hR2.1 (os[r]'hr) (List.getElem_mem hr)
  refine ⟨b, off, a, cp, rfl, hO, (CopyOp_any os[r] a cp wr (r1.mono hS.bel.size) ha hok.da).mono ?_⟩
  rintro e w2 ⟨v, rfl, ho, hb2⟩
  obtain ⟨va, vc, rfl⟩ := ho.form
  obtain ⟨vs, how⟩ := hS.ow
  have b3 : Below w2.heap.size w2 (w2.alloc (.cells #[.int .i64 os[r].k, .string os[r].nm, .string os[r].ot, .int .i64 os[r].fr, .int .i64 os[r].tt, .slice va os[r].da.length vc] 42)) := below1 _ _
  have hz := hb2.size
  have hzw := hS.bel.size
  have how2 := (how.next hb2).next b3
  obtain ⟨u', w', hr', hL, hg⟩ := how2.push 25 os[r] (.slice va os[r].da.length vc) ((ho.mono hS.bel.size).next b3) (fun i hi g hgi e => by
   have q1 := (how.dat i (by rw [← how.len]; exact hi)).lt g hgi
   have q2 := ho.base g e
   omega) (g := w2.heap.size) (heap_new _ _) (by rw [List.length_take]; omega) (by have := b3.size; omega)
  refine ⟨va, _, vc, u', w', rfl, hr', ⟨vs ++ [.slice va os[r].da.length vc], ?_⟩, ?_⟩
  ·rw [List.take_succ_eq_append_getElem hr]
   exact hL
  ·exact (hS.bel.trans (hb2.mono hzw)).trans ((b3.mono (by omega)).trans (hg.below (by have := b3.size; omega) (fun g hg => (own_blk how2.row hg).1)))
 have HC0 := hid c00
 clear c00 hR
 go_enter Tryz.func11, Tryz.ntmps11
 go_wp2_with fail
 go_loopw [3, 4] (fun u i wr => ∃ r : Nat, r ≤ os.length ∧ i = .int .i64 (r : Int) ∧ CpS w wr u (os.take r)) (fun _ i _ => os.length - (intOf i).toNat)
 case atStart => exact ⟨0, Nat.zero_le _, rfl, HC0.out⟩
 case round =>
  clear HC0
  obtain ⟨r, hr, rfl, hS⟩ := hrel
  by_cases hlt : r < os.length
  ·obtain ⟨b, off, a, cp, rfl, ⟨c0, c1, c2, c3, c4, c5⟩, hC⟩ := HSTEP.out wr r hlt _ hS
   have HC := hid hC
   have hr1 : (r : Int) < (os.length : Int) := by omega
   clear hC hS HSTEP
   go_wp2_with fail
   refine HC.out.mono ?_
   rintro e w2 ⟨va, vn, vc, u', w', rfl, hrun, hS2⟩
   have HS2 := hid hS2
   clear hS2 HC c0 c1 c2 c3 c4 c5
   go_wp2_with (at_builtin; refine Lib.wpList_append_run _ rfl _ _ _ _ rfl _ _ rfl rfl _ _ hrun ?_)
   go_roundw
   case rel => exact ⟨r + 1, by omega, by go_num, HS2.out⟩
   case measure => simp [intOf]; omega
  ·have e : r = os.length := by omega
   subst e
   have HS := hid hS
   clear hS HSTEP
   go_wp2
   go_ret
   obtain ⟨vs, hL⟩ := HS.out.ow
   rw [List.take_length] at hL
   exact ⟨_, vs, rfl, hL, HS.out.bel⟩
end Go.Proofs.YtddddfankeepkaaGreatDoor
