/-
  FieldStamps: a round's state.
-/
import Derived.Test.YteaebdonnicbkaaStm
namespace Go.Proofs.Yteaebdonnicbkaa
open Go.RowKit

theorem Sta.cut {B : Nat} {Y : Nat → Prop} {w : World} {L b cnt tot nK : Nat} (h : Sta B Y w L b cnt tot nK) : Sta B (fun x => B ≤ x ∧ x < w.heap.size) w L b cnt tot nK := by
  obtain ⟨bv, X, h1, h2, h3, h4, h5⟩ := h
  exact ⟨bv, X, h1, h2, h3, fun x hx => ⟨(h4 x hx).2, (h4 x hx).2⟩, fun x hx => ⟨⟨(h5 x hx).2, h1.there hx⟩, (h5 x hx).2⟩⟩
/-- what is read: cases -/
structure Cas (B : Nat) (w : World) (b off m : Nat) (K S : Nat → Int) (A : Nat → Option Addr) (N C : Nat → Nat) (Z : Nat → List Int) : Prop where
  lt : b < B
  c0 : ∀ i, i < m → w.cell? ⟨b, off + i * 3, none⟩ = some (.int .i64 (K i))
  c1 : ∀ i, i < m → w.cell? ⟨b, off + i * 3 + 1, none⟩ = some (.int .i64 (S i))
  c2 : ∀ i, i < m → w.cell? ⟨b, off + i * 3 + 2, none⟩ = some (.slice (A i) (N i) (C i))
  nil : ∀ i, i < m → A i = none → C i = 0
  big : ∀ i, i < m → N i ≤ 1048576
  rd : ∀ i, i < m → Rd B w (A i) (N i) (Z i)
/-- a case of one's own, in block p -/
def Stk (w : World) (p : Nat) (K S : Int) (sl : Value) : Prop := w.heap[p]? = some (.cells #[.int .i64 K, .int .i64 S, sl] 77 (0, 0))

theorem Stk.cells {w : World} {p : Nat} {K S : Int} {sl : Value} (h : Stk w p K S sl) : w.cell? ⟨p, 0, none⟩ = some (.int .i64 K) ∧ w.cell? ⟨p, 1, none⟩ = some (.int .i64 S) ∧ w.cell? ⟨p, 2, none⟩ = some sl := by
  unfold Stk at h
  refine ⟨?_, ?_, ?_⟩ <;> simp [World.cell?, h]
theorem Stk.lt {w : World} {p : Nat} {K S : Int} {sl : Value} (h : Stk w p K S sl) : p < w.heap.size := (Array.getElem?_eq_some_iff.1 h).1
theorem Stk.keep {w w' : World} {p : Nat} {K S : Int} {sl : Value} (h : Stk w p K S sl) (hk : w'.heap[p]? = w.heap[p]?) : Stk w' p K S sl := hk.trans h

theorem alloc_self (w : World) (o : Obj) : (w.alloc o).heap[w.heap.size]? = some o := by
  show (w.heap.push o)[w.heap.size]? = some o
  simp
theorem four_blocks (w : World) (o : Obj) : ((((w.alloc o).alloc o).alloc o).alloc o).drew.heap[w.heap.size]? = some o ∧ ((((w.alloc o).alloc o).alloc o).alloc o).drew.heap[w.heap.size + 1]? = some o ∧
    ((((w.alloc o).alloc o).alloc o).alloc o).drew.heap[w.heap.size + 1 + 1]? = some o ∧ ((((w.alloc o).alloc o).alloc o).alloc o).drew.heap[w.heap.size + 1 + 1 + 1]? = some o := by
  have z1 : (w.alloc o).heap.size = w.heap.size + 1 := by simp
  have z2 : ((w.alloc o).alloc o).heap.size = w.heap.size + 1 + 1 := by simp
  have z3 : (((w.alloc o).alloc o).alloc o).heap.size = w.heap.size + 1 + 1 + 1 := by simp
  show ((((w.alloc o).alloc o).alloc o).alloc o).heap[_]? = _ ∧ ((((w.alloc o).alloc o).alloc o).alloc o).heap[_]? = _ ∧ ((((w.alloc o).alloc o).alloc o).alloc o).heap[_]? = _ ∧ ((((w.alloc o).alloc o).alloc o).alloc o).heap[_]? = _
  refine ⟨?_, ?_, ?_, ?_⟩
  · rw [Below.heap_alloc _ _ _ (by omega), Below.heap_alloc _ _ _ (by omega), Below.heap_alloc _ _ _ (by omega), alloc_self]
  · rw [Below.heap_alloc _ _ _ (by omega), Below.heap_alloc _ _ _ (by omega), ← z1, alloc_self]
  · rw [Below.heap_alloc _ _ _ (by omega), ← z2, alloc_self]
  · rw [← z3, alloc_self]

/-- a block that is there, outside of Y -/
def Ap (Y : Nat → Prop) (w : World) (x : Nat) : Prop := x < w.heap.size ∧ ¬ Y x
theorem Ap.next {Y : Nat → Prop} {w w' : World} {x : Nat} (h : Ap Y w x) (hs : w.heap.size ≤ w'.heap.size) : Ap (fun x => Y x ∨ w.heap.size ≤ x) w' x :=
  ⟨Nat.lt_of_lt_of_le h.1 hs, fun q => q.elim h.2 (fun q => by have := h.1; omega)⟩
theorem RdN.next {Y : Nat → Prop} {w w' : World} {a : Option Addr} {n : Nat} {zs : List Int} (h : RdN Y w a n zs) (hb : But Y w w') : RdN (fun x => Y x ∨ w.heap.size ≤ x) w' a n zs := by
  obtain ⟨h1, h2, h3⟩ := h
  refine ⟨h1, h2, ?_⟩
  rcases h3 with h3 | ⟨b, off, h4, h5, h6, h7⟩
  · exact .inl h3
  · exact .inr ⟨b, off, h4, Nat.lt_of_lt_of_le h5 hb.size, fun q => q.elim h6 (fun q => by omega), fun t ht => (hb.cell (by exact h5) (by exact h6)).trans (h7 t ht)⟩
/-- a round's state: the record, the lender, the four cases and what they lead to -/
structure Four (W0 : World) (B : Nat) (Y : Nat → Prop) (w : World) (L b cnt tot nK pc px py pz : Nat) (kk ss ky sz : Int) (aa : Option Addr) (nn cc : Nat) (ax : Option Addr) (cx : Nat) (zs zx : List Int) : Prop where
  sta : Sta B Y w L b cnt tot nK
  kc : Stk w pc kk ss (.slice aa nn cc)
  kx : Stk w px kk ss (.slice ax nn cx)
  ky : Stk w py ky ss (.slice aa nn cc)
  kz : Stk w pz kk sz (.slice aa nn cc)
  nc : ¬ Y pc
  nx : ¬ Y px
  ny : ¬ Y py
  nz : ¬ Y pz
  rb : Rd B w aa nn zs
  rx : RdN Y w ax nn zx
  yb : ∀ x, Y x → B ≤ x
  bb : B ≤ w.heap.size
  bl : Below B W0 w
theorem Four.step {W0 : World} {B : Nat} {Y : Nat → Prop} {w : World} {L b cnt tot nK pc px py pz : Nat} {kk ss ky sz : Int} {aa : Option Addr} {nn cc : Nat} {ax : Option Addr} {cx : Nat} {zs zx : List Int}
    (h : Four W0 B Y w L b cnt tot nK pc px py pz kk ss ky sz aa nn cc ax cx zs zx) {w' : World} {tot' nK' : Nat} (hs : Sta B (fun x => Y x ∨ w.heap.size ≤ x) w' L b (cnt + 1) tot' nK') (hb : But Y w w') :
    Four W0 B (fun x => Y x ∨ w.heap.size ≤ x) w' L b (cnt + 1) tot' nK' pc px py pz kk ss ky sz aa nn cc ax cx zs zx :=
  have hsz := hb.size
  have key : ∀ {p : Nat}, p < w.heap.size → ¬ Y p → ¬ (Y p ∨ w.heap.size ≤ p) := fun h1 h2 q => q.elim h2 (fun q => by omega)
  ⟨hs, h.kc.keep (hb.block _ h.kc.lt h.nc), h.kx.keep (hb.block _ h.kx.lt h.nx), h.ky.keep (hb.block _ h.ky.lt h.ny), h.kz.keep (hb.block _ h.kz.lt h.nz),
   key h.kc.lt h.nc, key h.kx.lt h.nx, key h.ky.lt h.ny, key h.kz.lt h.nz, h.rb.below (hb.below h.bb (fun x hx q => by have := h.yb x q; omega)), h.rx.next hb, fun x hx => hx.elim (h.yb x) (fun q => Nat.le_trans h.bb q), Nat.le_trans h.bb hsz,
   h.bl.trans (hb.below h.bb (fun x hx q => by have := h.yb x q; omega))⟩

theorem Stk.frozen {w : World} {p : Nat} {K S : Int} {sl : Value} (h : Stk w p K S sl) (j : Nat) : w.frozen? ⟨p, j, none⟩ = false := by
  unfold Stk at h
  simp [World.frozen?, h]
theorem heap_set (w : World) (p j : Nat) (u : Value) {cs : Array Value} {t : TypeId} (h : w.heap[p]? = some (.cells cs t (0, 0))) : (w.setCell ⟨p, j, none⟩ u).heap[p]? = some (.cells (cs.setIfInBounds j u) t (0, 0)) := by
  simp only [World.setCell, Array.getElem?_modify]
  rw [h]
  simp
theorem Stk.set0 {w : World} {p : Nat} {K S : Int} {sl : Value} (h : Stk w p K S sl) (x : Int) : Stk (w.setCell ⟨p, 0, none⟩ (.int .i64 x)) p x S sl := by
  have := heap_set w p 0 (.int .i64 x) h
  simpa [Stk] using this
theorem Stk.set1 {w : World} {p : Nat} {K S : Int} {sl : Value} (h : Stk w p K S sl) (x : Int) : Stk (w.setCell ⟨p, 1, none⟩ (.int .i64 x)) p K x sl := by
  have := heap_set w p 1 (.int .i64 x) h
  simpa [Stk] using this
theorem Stk.set2 {w : World} {p : Nat} {K S : Int} {sl : Value} (h : Stk w p K S sl) (u : Value) : Stk (w.setCell ⟨p, 2, none⟩ u) p K S u := by
  have := heap_set w p 2 u h
  simpa [Stk] using this
theorem Stk.off {w : World} {p q j : Nat} {K S : Int} {sl : Value} (h : Stk w p K S sl) (hq : p ≠ q) (u : Value) : Stk (w.setCell ⟨q, j, none⟩ u) p K S sl := h.keep (Below.heap_setCell _ _ _ _ hq)

theorem Four.start {W0 wr w9 : World} {B L b cnt tot nK pc px py pz : Nat} {kk ss : Int} (ky sz : Int) {aa : Option Addr} {nn cc : Nat} {zs : List Int} (hs : Sta B (fun x => B ≤ x ∧ x < wr.heap.size) wr L b cnt tot nK) (hb : Below B W0 wr) (hB : B ≤ wr.heap.size) (hr : Rd B wr aa nn zs)
    (hc : wr.heap.size ≤ pc) (hx : wr.heap.size ≤ px) (hy : wr.heap.size ≤ py) (hz : wr.heap.size ≤ pz) (n2 : pc ≠ py) (n3 : pc ≠ pz) (n4 : px ≠ py) (n5 : px ≠ pz) (n6 : py ≠ pz)
    (kc : Stk w9 pc kk ss (.slice aa nn cc)) (kx : Stk w9 px kk ss (.slice aa nn cc)) (ky' : Stk w9 py kk ss (.slice aa nn cc)) (kz' : Stk w9 pz kk ss (.slice aa nn cc)) (hu : But (fun _ => False) wr w9) :
    Four W0 B (fun x => B ≤ x ∧ x < wr.heap.size) ((w9.setCell ⟨py, 0, none⟩ (.int .i64 ky)).setCell ⟨pz, 1, none⟩ (.int .i64 sz)) L b cnt tot nK pc px py pz kk ss ky sz aa nn cc aa cc zs zs := by
  have hu2 : But (fun x => x = py ∨ x = pz) wr ((w9.setCell ⟨py, 0, none⟩ (.int .i64 ky)).setCell ⟨pz, 1, none⟩ (.int .i64 sz)) :=
    ((hu.mono (fun _ _ h => h.elim)).setCell (p := ⟨py, 0, none⟩) (.inl rfl) _).setCell (p := ⟨pz, 1, none⟩) (.inr rfl) _
  have hrr : RdN (fun x => B ≤ x ∧ x < wr.heap.size) wr aa nn zs := RdN.of_rd hr hB (fun k hk h => by omega)
  have hrr2 := hrr.but (hu2.mono (Y := fun x => B ≤ x ∧ x < wr.heap.size) (fun k hk h => by omega))
  exact ⟨hs.but hu2 (fun x hx h => by omega), (kc.off n2 _).off n3 _, (kx.off n4 _).off n5 _, (ky'.set0 ky).off n6 _, (kz'.off (Ne.symm n6) _).set1 sz, fun h => by omega, fun h => by omega, fun h => by omega, fun h => by omega, hr.below (hu2.below hB (fun k hk h => by omega)), hrr2, fun x hx => hx.1,
    Nat.le_trans hB hu2.size, hb.trans (hu2.below hB (fun k hk h => by omega))⟩
theorem Four.turn {W0 w w' : World} {B : Nat} {Y : Nat → Prop} {L b cnt tot nK pc px py pz : Nat} {kk ss ky sz : Int} {aa : Option Addr} {nn cc : Nat} {zs zx : List Int} (h : Four W0 B Y w L b cnt tot nK pc px py pz kk ss ky sz aa nn cc aa cc zs zs)
    (n1 : px ≠ pc) (n2 : px ≠ py) (n3 : px ≠ pz) (hY : ∀ x, Y x → x < w.heap.size) {g cap : Nat} (hg : w.heap.size ≤ g) (hO : Own w' g nn cap zx) (hzx : Pl.isB zx) (hb : Below w.heap.size w w') (hxB : B ≤ px) :
    Four W0 B Y (w'.setCell ⟨px, 2, none⟩ (.slice (some ⟨g, 0, none⟩) nn cap)) L b cnt tot nK pc px py pz kk ss ky sz aa nn cc (some ⟨g, 0, none⟩) cap zs zx := by
  have hu : But (fun x => x = px) w (w'.setCell ⟨px, 2, none⟩ (.slice (some ⟨g, 0, none⟩) nn cap)) := (But.of_below (X := fun x => x = px) hb).setCell (p := ⟨px, 2, none⟩) (show (fun x => x = px) px from rfl) _
  have hpx := h.kx.lt
  have hOg : Own (w'.setCell ⟨px, 2, none⟩ (.slice (some ⟨g, 0, none⟩) nn cap)) g nn cap zx := owns_setCell hO (fun e => by simp [Value.ownBlock] at e; omega) _
  refine ⟨h.sta.but hu (fun x hx e => h.nx (e ▸ hx)), h.kc.keep (hu.block _ h.kc.lt (Ne.symm n1)), (h.kx.keep (hb.block _ hpx)).set2 _, h.ky.keep (hu.block _ h.ky.lt (Ne.symm n2)), h.kz.keep (hu.block _ h.kz.lt (Ne.symm n3)), h.nc, h.nx, h.ny, h.nz, h.rb.below (hu.below h.bb (fun k hk e => by omega)), hOg.rdn hzx (fun hy => by have := hY g hy; omega), h.yb, Nat.le_trans h.bb hu.size, h.bl.trans (hu.below h.bb (fun k hk e => by omega))⟩
theorem Four.rn {W0 w : World} {B : Nat} {Y : Nat → Prop} {L b cnt tot nK pc px py pz : Nat} {kk ss ky sz : Int} {aa : Option Addr} {nn cc : Nat} {ax : Option Addr} {cx : Nat} {zs zx : List Int} (h : Four W0 B Y w L b cnt tot nK pc px py pz kk ss ky sz aa nn cc ax cx zs zx) : RdN Y w aa nn zs :=
  RdN.of_rd h.rb h.bb (fun k hk hy => by have := h.yb k hy; omega)

end Go.Proofs.Yteaebdonnicbkaa
