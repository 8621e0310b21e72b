/-
  DiskCrash: what is wanted of each block; the lists of places.
-/
import Derived.Test.YtilpjgonkmkhmaaCr4
namespace Go.Proofs.Ytilpjgonkmkhmaa
open Go.RowKit

/-- 512 bytes in a block of bytes -/
def W5 (w : World) (a : Option Addr) (zs : List Int) : Prop := zs.length = 512 ∧ Pl.isB zs ∧ ∃ g off, a = some ⟨g, off, none⟩ ∧ (∃ cur, w.heap[g]? = some (.cells cur 5 (0, 0))) ∧ ∀ t, t < 512 → w.cell? ⟨g, off + t, none⟩ = some (.int .u8 (zs.getD t 0))
/-- blocks of bytes are as they were -/
def K5 (w w' : World) : Prop := ∀ (g : Nat) (cur : Array Value), w.heap[g]? = some (.cells cur 5 (0, 0)) → w'.heap[g]? = w.heap[g]?
theorem W5.keep {w w' : World} {a : Option Addr} {zs : List Int} (h : W5 w a zs) (hk : K5 w w') : W5 w' a zs := by
  obtain ⟨h1, h2, g, off, h3, ⟨cur, h4⟩, h5⟩ := h
  have e := hk g cur h4
  exact ⟨h1, h2, g, off, h3, ⟨cur, e.trans h4⟩, fun t ht => (World.cell?_of_block (w := w) e).trans (h5 t ht)⟩
theorem W5.rd {w : World} {a : Option Addr} {zs : List Int} (h : W5 w a zs) : Rd w.heap.size w a 512 zs := by
  obtain ⟨h1, h2, g, off, h3, ⟨cur, h4⟩, h5⟩ := h
  exact ⟨h1, h2, .inr ⟨g, off, h3, (Array.getElem?_eq_some_iff.1 h4).1, h5⟩⟩
theorem K5.below {w w' : World} (h : Below w.heap.size w w') : K5 w w' := fun g _ hg => h.block g (Array.getElem?_eq_some_iff.1 hg).1
theorem W5.of_own {w : World} {g n c i nb : Nat} {im : List Int} (h : Own w g n c im) (hb : Pl.isB im) (hl : im.length = 512 * nb) (hi : i < nb) : W5 w (some ⟨g, 512 * i, none⟩) (imgB im i) := by
  refine ⟨length_imgB hl hi, isB_imgB hb i, g, 512 * i, rfl, h.kind, fun t ht => ?_⟩
  have hn := h.len
  rw [h.cell (512 * i + t) (by omega), List.getD_eq_getElem?_getD, List.getD_eq_getElem?_getD, get_imgB, if_pos ht]
theorem W5.of_blk {w : World} {g : Nat} {zs : List Int} (h : Blk .u8 5 w g zs) (hb : Pl.isB zs) (hl : zs.length = 512) : W5 w (some ⟨g, 0, none⟩) zs :=
  ⟨hl, hb, g, 0, rfl, ⟨_, h⟩, fun t ht => by rw [Nat.zero_add]; exact h.cell t (by omega)⟩

theorem info33 : (Try.prog.info? 33).map (fun i => (i.zero, i.size, i.bytes)) = some (some (.slice none 0 0), 1, 24) := by kernel_rfl
theorem made_rows (n : Nat) : madeCells #[.slice none 0 0] n = (List.replicate n (Value.slice none 0 0)).toArray := by
  rw [← Array.toList_inj, toList_madeCells_one]
theorem make_rows (n : Nat) (hn : n ≤ 1073741824) (u : World) : (Instr.makeSlice 46 (.int .i64 (n : Int)) (.int .i64 (n : Int))).run Try.prog u =
    .ok (.slice (some ⟨u.heap.size, 0, none⟩) n n) (u.alloc (.cells (List.replicate n (Value.slice none 0 0)).toArray 33)) := by
  obtain ⟨i0, hi, hz0, hz1, hz2⟩ := info_parts info33
  have h := run_make (P := Try.prog) u 46 33 i0 (.slice none 0 0) Try.underlying46 hi hz0 .i64 .i64 (n : Int) (n : Int) (by omega) (Int.le_refl _) (by rw [hz2]; omega) (by omega)
  have e : ((n : Int)).toNat = n := by omega
  rw [e] at h
  rw [← made_rows]
  simpa [hz1, Value.cells] using h

/-- what is wanted of the first k of nb blocks: the rows in block G -/
def Wt (w : World) (G nb k : Nat) (f : Nat → List Int) : Prop := ∃ vs : List Value, w.heap[G]? = some (.cells vs.toArray 33 (0, 0)) ∧ vs.length = nb ∧ (∀ v ∈ vs, ∃ a l c, v = .slice a l c) ∧ ∀ j, j < k → ∃ a c, vs[j]? = some (.slice a 512 c) ∧ W5 w a (f j)
theorem Wt.lt {w : World} {G nb k : Nat} {f : Nat → List Int} (h : Wt w G nb k f) : G < w.heap.size := by
  obtain ⟨vs, h1, _⟩ := h
  exact (Array.getElem?_eq_some_iff.1 h1).1
theorem Wt.keep {w w' : World} {G nb k : Nat} {f : Nat → List Int} (h : Wt w G nb k f) (hG : w'.heap[G]? = w.heap[G]?) (hk : K5 w w') : Wt w' G nb k f := by
  obtain ⟨vs, h1, h2, h0, h3⟩ := h
  exact ⟨vs, hG.trans h1, h2, h0, fun j hj => by obtain ⟨a, c, h4, h5⟩ := h3 j hj; exact ⟨a, c, h4, h5.keep hk⟩⟩
theorem Wt.below {w w' : World} {G nb k : Nat} {f : Nat → List Int} (h : Wt w G nb k f) (hb : Below w.heap.size w w') : Wt w' G nb k f := h.keep (hb.block G h.lt) (K5.below hb)
theorem Wt.cell {w : World} {G nb k : Nat} {f : Nat → List Int} (h : Wt w G nb k f) {j : Nat} (hj : j < nb) : (∃ a l c, w.cell? ⟨G, j, none⟩ = some (.slice a l c)) ∧ w.frozen? ⟨G, j, none⟩ = false := by
  obtain ⟨vs, h1, h2, h0, _⟩ := h
  obtain ⟨a, l, c, e⟩ := h0 (vs[j]'(by omega)) (List.getElem_mem _)
  refine ⟨⟨a, l, c, ?_⟩, ?_⟩
  · rw [← e]
    simp [World.cell?, h1, show j < vs.length by omega]
  · simp [World.frozen?, h1]
theorem Wt.row {w : World} {G nb k : Nat} {f : Nat → List Int} (h : Wt w G nb k f) {j : Nat} (hj : j < k) : ∃ a c, w.cell? ⟨G, j, none⟩ = some (.slice a 512 c) ∧ W5 w a (f j) := by
  obtain ⟨vs, h1, h2, _, h3⟩ := h
  obtain ⟨a, c, h4, h5⟩ := h3 j hj
  refine ⟨a, c, ?_, h5⟩
  simp [World.cell?, h1, h4]
theorem Wt.set {w : World} {G nb k j : Nat} {f f' : Nat → List Int} (h : Wt w G nb k f) (hj : j < nb) {a : Option Addr} {c : Nat} {zs : List Int} (hz : W5 w a zs) {k' : Nat} (hf : ∀ i, i < k' → (i = j ∧ f' i = zs) ∨ (i ≠ j ∧ i < k ∧ f' i = f i)) : Wt (w.setCell ⟨G, j, none⟩ (.slice a 512 c)) G nb k' f' := by
  obtain ⟨vs, h1, h2, h0, h3⟩ := h
  have hk : K5 w (w.setCell ⟨G, j, none⟩ (.slice a 512 c)) := fun g cur hg => Below.heap_setCell _ _ _ _ (fun e => by
    subst e
    rw [h1] at hg
    cases hg)
  refine ⟨vs.set j (.slice a 512 c), ?_, by rw [List.length_set]; exact h2, fun v hv => (List.mem_or_eq_of_mem_set hv).elim (h0 v) (fun e => ⟨a, 512, c, e⟩), fun i hi => ?_⟩
  · simp only [World.setCell, Array.getElem?_modify]
    rw [h1]
    simp
  · rcases hf i hi with ⟨rfl, e⟩ | ⟨hne, hik, e⟩
    · exact ⟨a, c, by rw [List.getElem?_set_self (by omega)], by rw [e]; exact hz.keep hk⟩
    · obtain ⟨a2, c2, h4, h5⟩ := h3 i hik
      exact ⟨a2, c2, by rw [List.getElem?_set_ne (fun h => hne h.symm)]; exact h4, by rw [e]; exact h5.keep hk⟩

theorem OwI.kind {B : Nat} {w : World} {v : Value} {n : Nat} {zs : List Int} (h : OwI B w v n zs) {g : Nat} (hg : v.ownBlock = some g) : ∃ cur, w.heap[g]? = some (.cells cur 3 (0, 0)) := row_kind h hg
/-- behind the making of what is wanted: the two lists and the rows -/
structure L3 (S : Nat) (w0 w : World) (nb : Nat) (pv av : Value) (np na : Nat) (P A : List Int) (f : Nat → List Int) : Prop where
  bel : Below S w0 w
  sz : S + 1 ≤ w.heap.size
  rp : OwI (S + 1) w pv np P
  ra : OwI (S + 1) w av na A
  apt : ∀ g, pv.ownBlock = some g → av.ownBlock ≠ some g
  wt : Wt w S nb nb f
theorem L3.below {S : Nat} {w0 w w' : World} {nb : Nat} {pv av : Value} {np na : Nat} {P A : List Int} {f : Nat → List Int} (h : L3 S w0 w nb pv av np na P A f) (hb : Below w.heap.size w w') : L3 S w0 w' nb pv av np na P A f :=
  have hs := h.sz
  ⟨h.bel.trans (hb.mono (by omega)), Nat.le_trans h.sz hb.size, owns_below h.rp hb, owns_below h.ra hb, h.apt, h.wt.below hb⟩
theorem L3.swap_keep {S : Nat} {w0 w w' : World} {nb : Nat} {f : Nat → List Int} {v : Value} {n : Nat} {Z : List Int} (hv : OwI (S + 1) w v n Z) (hw : Wt w S nb nb f) (hbel : Below S w0 w) (hsz : S + 1 ≤ w.heap.size) (hg : w.grownBy w' v.ownBlock) : Wt w' S nb nb f ∧ Below S w0 w' := by
  have hS : v.ownBlock ≠ some S := fun e => by have := (World.ownsRow.lt hv S e).1; omega
  refine ⟨hw.keep (hg.block S hw.lt hS.symm) (fun g cur h5 => hg.block g (Array.getElem?_eq_some_iff.1 h5).1 (fun e => ?_)), hbel.grown hg (by omega) (fun k e => by have := (World.ownsRow.lt hv k e).1; omega)⟩
  obtain ⟨c3, h3⟩ := hv.kind e.symm
  rw [h5] at h3
  cases h3
theorem L3.growA {S : Nat} {w0 w w' : World} {nb : Nat} {pv av : Value} {np na : Nat} {P A : List Int} {f : Nat → List Int} (h : L3 S w0 w nb pv av np na P A f) {g cap na' : Nat} {A' : List Int} (ho : OwI (S + 1) w' (.slice (some ⟨g, 0, none⟩) na' cap) na' A') (hg : w.grownBy w' av.ownBlock) (hl : av.ownBlock = some g ∨ g = w.heap.size) : L3 S w0 w' nb pv (.slice (some ⟨g, 0, none⟩) na' cap) np na' P A' f := by
  obtain ⟨k1, k2⟩ := L3.swap_keep h.ra h.wt h.bel h.sz hg
  refine ⟨k2, Nat.le_trans h.sz hg.size, owns_keep h.rp (fun x e => hg.block x (World.ownsRow.lt h.rp x e).2 (h.apt x e).symm), ho, fun x e e2 => ?_, k1⟩
  cases e2
  rcases hl with hl | hl
  · exact h.apt g e hl
  · have := (World.ownsRow.lt h.rp g e).2
    omega
theorem L3.growP {S : Nat} {w0 w w' : World} {nb : Nat} {pv av : Value} {np na : Nat} {P A : List Int} {f : Nat → List Int} (h : L3 S w0 w nb pv av np na P A f) {g cap np' : Nat} {P' : List Int} (ho : OwI (S + 1) w' (.slice (some ⟨g, 0, none⟩) np' cap) np' P') (hg : w.grownBy w' pv.ownBlock) (hl : pv.ownBlock = some g ∨ g = w.heap.size) : L3 S w0 w' nb (.slice (some ⟨g, 0, none⟩) np' cap) av np' na P' A f := by
  obtain ⟨k1, k2⟩ := L3.swap_keep h.rp h.wt h.bel h.sz hg
  refine ⟨k2, Nat.le_trans h.sz hg.size, ho, owns_keep h.ra (fun x e => hg.block x (World.ownsRow.lt h.ra x e).2 (fun e2 => h.apt x e2.symm e)), fun x e e2 => ?_, k1⟩
  cases e
  rcases hl with hl | hl
  · exact h.apt g hl e2
  · have := (World.ownsRow.lt h.ra g e2).2
    omega
theorem L3.setW {S : Nat} {w0 w : World} {nb : Nat} {pv av : Value} {np na : Nat} {P A : List Int} {f f' : Nat → List Int} (h : L3 S w0 w nb pv av np na P A f) {j : Nat} (hj : j < nb) {a : Option Addr} {c : Nat} {zs : List Int} (hz : W5 w a zs) (hf : ∀ i, i < nb → (i = j ∧ f' i = zs) ∨ (i ≠ j ∧ i < nb ∧ f' i = f i)) : L3 S w0 (w.setCell ⟨S, j, none⟩ (.slice a 512 c)) nb pv av np na P A f' := by
  have k : ∀ x, x ≠ S → (w.setCell ⟨S, j, none⟩ (.slice a 512 c)).heap[x]? = w.heap[x]? := fun x hx => Below.heap_setCell _ _ _ _ hx
  exact ⟨h.bel.setCell (Nat.le_refl _) _, by have := h.sz; simpa [World.setCell] using this, owns_keep h.rp (fun x e => k x (by have := (World.ownsRow.lt h.rp x e).1; omega)), owns_keep h.ra (fun x e => k x (by have := (World.ownsRow.lt h.ra x e).1; omega)), h.apt, h.wt.set hj hz hf⟩

end Go.Proofs.Ytilpjgonkmkhmaa
