/-
  FieldUnpacks: a round's state.
-/
import Derived.Test.YteaebdonnicbkaaUks
namespace Go.Proofs.Yteaebdonnicbkaa
open Go.RowKit

theorem Stu.cut {B : Nat} {Y : Nat → Prop} {w : World} {L s q cnt tot lk : Nat} (h : Stu B Y w L s q cnt tot lk) : Stu B (fun x => B ≤ x ∧ x < w.heap.size) w L s q cnt tot lk := by
  obtain ⟨bv, sv, κ, h1, h2, h3, h4, h5, h6, h7⟩ := h
  exact ⟨bv, sv, κ, h1, h2, h3, h4, fun x hx hk => ⟨⟨(h5 x hx hk).2, hx⟩, (h5 x hx hk).2⟩, fun x hx => ⟨(h6 x hx).1, ⟨(h6 x hx).2.2, h1.there hx⟩, (h6 x hx).2.2⟩, fun x hx => ⟨(h7 x hx).1, ⟨(h7 x hx).2.2, h2.there hx⟩, (h7 x hx).2.2⟩⟩
theorem Own.fits {w : World} {g n cap : Nat} {zs : List Int} (h : Own w g n cap zs) : n ≤ cap := by
  rcases h.2 with ⟨h1, _⟩ | ⟨_, _, _, h1, _, _, h2, _⟩
  · cases h1
  · cases h1
    exact h2
/-- what is read: readings -/
structure Rea (B : Nat) (w : World) (b off m : Nat) (A : Nat → Option Addr) (N C : Nat → Nat) (Z : Nat → List Int) (A2 : Nat → Option Addr) (N2 C2 : Nat → Nat) (Ws : Nat → List Int) : Prop where
  lt : b < B
  c0 : ∀ i, i < m → w.cell? ⟨b, off + i * 2, none⟩ = some (.slice (A i) (N i) (C i))
  c1 : ∀ i, i < m → w.cell? ⟨b, off + i * 2 + 1, none⟩ = some (.slice (A2 i) (N2 i) (C2 i))
  nil : ∀ i, i < m → A i = none → C i = 0
  cap : ∀ i, i < m → N i ≤ C i
  nil2 : ∀ i, i < m → A2 i = none → C2 i = 0
  big : ∀ i, i < m → N i ≤ 1048576
  big2 : ∀ i, i < m → N2 i ≤ 1048576
  rd : ∀ i, i < m → Rd B w (A i) (N i) (Z i)
  rd2 : ∀ i, i < m → RdI B w (A2 i) (N2 i) (Ws i)
/-- a reading of one's own, in block p -/
def Rdk (w : World) (p : Nat) (s1 s2 : Value) : Prop := w.heap[p]? = some (.cells #[s1, s2] 72 (0, 0))
theorem Rdk.cells {w : World} {p : Nat} {s1 s2 : Value} (h : Rdk w p s1 s2) : w.cell? ⟨p, 0, none⟩ = some s1 ∧ w.cell? ⟨p, 1, none⟩ = some s2 := by
  unfold Rdk at h
  refine ⟨?_, ?_⟩ <;> simp [World.cell?, h]
theorem Rdk.lt {w : World} {p : Nat} {s1 s2 : Value} (h : Rdk w p s1 s2) : p < w.heap.size := (Array.getElem?_eq_some_iff.1 h).1
theorem Rdk.keep {w w' : World} {p : Nat} {s1 s2 : Value} (h : Rdk w p s1 s2) (hk : w'.heap[p]? = w.heap[p]?) : Rdk w' p s1 s2 := hk.trans h
theorem Rdk.frozen {w : World} {p : Nat} {s1 s2 : Value} (h : Rdk w p s1 s2) (j : Nat) : w.frozen? ⟨p, j, none⟩ = false := by
  unfold Rdk at h
  simp [World.frozen?, h]
theorem heap_put (w : World) (p j : Nat) (u : Value) {cs : Array Value} {t : TypeId} (h : w.heap[p]? = some (.cells cs t (0, 0))) : (w.setCell ⟨p, j, none⟩ u).heap[p]? = some (.cells (cs.setIfInBounds j u) t (0, 0)) := by
  simp only [World.setCell, Array.getElem?_modify]
  rw [h]
  simp
theorem Rdk.set0 {w : World} {p : Nat} {s1 s2 : Value} (h : Rdk w p s1 s2) (u : Value) : Rdk (w.setCell ⟨p, 0, none⟩ u) p u s2 := by
  have := heap_put w p 0 u h
  simpa [Rdk] using this
theorem Rdk.set1 {w : World} {p : Nat} {s1 s2 : Value} (h : Rdk w p s1 s2) (u : Value) : Rdk (w.setCell ⟨p, 1, none⟩ u) p s1 u := by
  have := heap_put w p 1 u h
  simpa [Rdk] using this
theorem alloc_own (w : World) (o : Obj) : (w.alloc o).heap[w.heap.size]? = some o := by
  show (w.heap.push o)[w.heap.size]? = some o
  simp
theorem three_blocks (w : World) (o : Obj) : (((w.alloc o).alloc o).alloc o).drew.heap[w.heap.size]? = some o ∧ (((w.alloc o).alloc o).alloc o).drew.heap[w.heap.size + 1]? = some o ∧ (((w.alloc o).alloc o).alloc o).drew.heap[w.heap.size + 1 + 1]? = some o := by
  have z1 : (w.alloc o).heap.size = w.heap.size + 1 := by simp
  have z2 : ((w.alloc o).alloc o).heap.size = w.heap.size + 1 + 1 := by simp
  show (((w.alloc o).alloc o).alloc o).heap[_]? = _ ∧ (((w.alloc o).alloc o).alloc o).heap[_]? = _ ∧ (((w.alloc o).alloc o).alloc o).heap[_]? = _
  refine ⟨?_, ?_, ?_⟩
  · rw [Below.heap_alloc _ _ _ (by omega), Below.heap_alloc _ _ _ (by omega), alloc_own]
  · rw [Below.heap_alloc _ _ _ (by omega), ← z1, alloc_own]
  · rw [← z2, alloc_own]
/-- a round's state: the record, the lender, the shelf, the three readings and what they lead to -/
structure Thr (W0 : World) (B : Nat) (Y : Nat → Prop) (w : World) (L s q cnt tot lk pc px py : Nat) (aa : Option Addr) (nn cc : Nat) (a2 : Option Addr) (mm c2 : Nat) (ax : Option Addr) (cx : Nat) (ay : Option Addr) (cy : Nat) (zs ws zx wy : List Int) : Prop where
  sta : Stu B Y w L s q cnt tot lk
  kc : Rdk w pc (.slice aa nn cc) (.slice a2 mm c2)
  kx : Rdk w px (.slice ax nn cx) (.slice a2 mm c2)
  ky : Rdk w py (.slice aa nn cc) (.slice ay mm cy)
  nc : ¬ Y pc
  nx : ¬ Y px
  ny : ¬ Y py
  rb : Rd B w aa nn zs
  rb2 : RdI B w a2 mm ws
  rx : RdN Y w ax nn zx
  ry : RIN Y w ay mm wy
  yb : ∀ x, Y x → B ≤ x
  bb : B ≤ w.heap.size
  bl : Below B W0 w
theorem Thr.step {W0 : World} {B : Nat} {Y : Nat → Prop} {w : World} {L s q cnt tot lk pc px py : Nat} {aa : Option Addr} {nn cc : Nat} {a2 : Option Addr} {mm c2 : Nat} {ax : Option Addr} {cx : Nat} {ay : Option Addr} {cy : Nat} {zs ws zx wy : List Int}
    (h : Thr W0 B Y w L s q cnt tot lk pc px py aa nn cc a2 mm c2 ax cx ay cy zs ws zx wy) {w' : World} {tot' : Nat} (hs : Stu B (fun x => Y x ∨ w.heap.size ≤ x) w' L s q (cnt + 1) tot' (lk + 1)) (hb : But Y w w') :
    Thr W0 B (fun x => Y x ∨ w.heap.size ≤ x) w' L s q (cnt + 1) tot' (lk + 1) pc px py aa nn cc a2 mm c2 ax cx ay cy zs ws zx wy :=
  have hsz := hb.size
  have key : ∀ {p : Nat}, p < w.heap.size → ¬ Y p → ¬ (Y p ∨ w.heap.size ≤ p) := fun h1 h2 q => q.elim h2 (fun q => by omega)
  have hbl := hb.below h.bb (fun x hx q => by have := h.yb x q; omega)
  ⟨hs, h.kc.keep (hb.block _ h.kc.lt h.nc), h.kx.keep (hb.block _ h.kx.lt h.nx), h.ky.keep (hb.block _ h.ky.lt h.ny),
   key h.kc.lt h.nc, key h.kx.lt h.nx, key h.ky.lt h.ny, h.rb.below hbl, h.rb2.below hbl, h.rx.nxt hb, h.ry.next hb, fun x hx => hx.elim (h.yb x) (fun q => Nat.le_trans h.bb q), Nat.le_trans h.bb hsz, h.bl.trans hbl⟩
theorem Thr.start {W0 wr w9 : World} {B L s q cnt tot lk pc px py : Nat} {aa : Option Addr} {nn cc : Nat} {a2 : Option Addr} {mm c2 : Nat} {zs ws : List Int} (hs : Stu B (fun x => B ≤ x ∧ x < wr.heap.size) wr L s q cnt tot lk) (hb : Below B W0 wr) (hB : B ≤ wr.heap.size) (hr : Rd B wr aa nn zs) (hr2 : RdI B wr a2 mm ws)
    (hc : wr.heap.size ≤ pc) (hx : wr.heap.size ≤ px) (hy : wr.heap.size ≤ py)
    (kc : Rdk w9 pc (.slice aa nn cc) (.slice a2 mm c2)) (kx : Rdk w9 px (.slice aa nn cc) (.slice a2 mm c2)) (ky : Rdk w9 py (.slice aa nn cc) (.slice a2 mm c2)) (hu : But (fun _ => False) wr w9) :
    Thr W0 B (fun x => B ≤ x ∧ x < wr.heap.size) w9 L s q cnt tot lk pc px py aa nn cc a2 mm c2 aa cc a2 c2 zs ws zs ws := by
  have hrr : RdN (fun x => B ≤ x ∧ x < wr.heap.size) wr aa nn zs := RdN.of_rd hr hB (fun k hk h => by omega)
  have hrr2 : RIN (fun x => B ≤ x ∧ x < wr.heap.size) wr a2 mm ws := RIN.of_rd hr2 hB (fun k hk h => by omega)
  have hbl := hu.below hB (fun k hk h => h)
  exact ⟨hs.but hu (fun x _ h => h), kc, kx, ky, fun h => by omega, fun h => by omega, fun h => by omega, hr.below hbl, hr2.below hbl, hrr.but (hu.mono (fun _ _ h => h.elim)), hrr2.but (hu.mono (fun _ _ h => h.elim)), fun x hx => hx.1, Nat.le_trans hB hu.size, hb.trans hbl⟩
theorem Thr.turn {W0 w w' : World} {B : Nat} {Y : Nat → Prop} {L s q cnt tot lk pc px py : Nat} {aa : Option Addr} {nn cc : Nat} {a2 : Option Addr} {mm c2 : Nat} {zs ws zx : List Int} (h : Thr W0 B Y w L s q cnt tot lk pc px py aa nn cc a2 mm c2 aa cc a2 c2 zs ws zs ws)
    (n1 : px ≠ pc) (n2 : px ≠ py) (hY : ∀ x, Y x → x < w.heap.size) {g cap : Nat} (hg : w.heap.size ≤ g) (hO : Own w' g nn cap zx) (hzx : Pl.isB zx) (hb : Below w.heap.size w w') (hxB : B ≤ px) :
    Thr W0 B Y (w'.setCell ⟨px, 0, none⟩ (.slice (some ⟨g, 0, none⟩) nn cap)) L s q cnt tot lk pc px py aa nn cc a2 mm c2 (some ⟨g, 0, none⟩) cap a2 c2 zs ws zx ws := by
  have hu : But (fun x => x = px) w (w'.setCell ⟨px, 0, none⟩ (.slice (some ⟨g, 0, none⟩) nn cap)) := (But.of_below (X := fun x => x = px) hb).setCell (p := ⟨px, 0, none⟩) (show (fun x => x = px) px from rfl) _
  have hpx := h.kx.lt
  have hOg : Own (w'.setCell ⟨px, 0, none⟩ (.slice (some ⟨g, 0, none⟩) nn cap)) g nn cap zx := owns_setCell hO (fun e => by simp [Value.ownBlock] at e; omega) _
  have hbl := hu.below h.bb (fun k hk e => by omega)
  exact ⟨h.sta.but hu (fun x hx e => h.nx (e ▸ hx)), h.kc.keep (hu.block _ h.kc.lt (Ne.symm n1)), (h.kx.keep (hb.block _ hpx)).set0 _, h.ky.keep (hu.block _ h.ky.lt (Ne.symm n2)), h.nc, h.nx, h.ny, h.rb.below hbl, h.rb2.below hbl, hOg.rdn hzx (fun hy => by have := hY g hy; omega), RIN.of_rd (h.rb2.below hbl) (Nat.le_trans h.bb hu.size) (fun k hk hy => by have := h.yb k hy; omega), h.yb, Nat.le_trans h.bb hu.size, h.bl.trans hbl⟩
theorem Thr.round {W0 w w' : World} {B : Nat} {Y : Nat → Prop} {L s q cnt tot lk pc px py : Nat} {aa : Option Addr} {nn cc : Nat} {a2 : Option Addr} {mm c2 : Nat} {ax : Option Addr} {cx : Nat} {zs ws zx wy : List Int} (h : Thr W0 B Y w L s q cnt tot lk pc px py aa nn cc a2 mm c2 ax cx a2 c2 zs ws zx ws)
    (n1 : py ≠ pc) (n2 : py ≠ px) (hY : ∀ x, Y x → x < w.heap.size) {g cap : Nat} (hg : w.heap.size ≤ g) (hO : OwI w.heap.size w' (.slice (some ⟨g, 0, none⟩) mm cap) mm wy) (hb : Below w.heap.size w w') (hyB : B ≤ py) (hrx : ∀ b off, ax = some ⟨b, off, none⟩ → nn ≠ 0 → b ≠ py) :
    Thr W0 B Y (w'.setCell ⟨py, 1, none⟩ (.slice (some ⟨g, 0, none⟩) mm cap)) L s q cnt tot lk pc px py aa nn cc a2 mm c2 ax cx (some ⟨g, 0, none⟩) cap zs ws zx wy := by
  have hu : But (fun x => x = py) w (w'.setCell ⟨py, 1, none⟩ (.slice (some ⟨g, 0, none⟩) mm cap)) := (But.of_below (X := fun x => x = py) hb).setCell (p := ⟨py, 1, none⟩) (show (fun x => x = py) py from rfl) _
  have hpy := h.ky.lt
  have hOg : OwI w.heap.size (w'.setCell ⟨py, 1, none⟩ (.slice (some ⟨g, 0, none⟩) mm cap)) (.slice (some ⟨g, 0, none⟩) mm cap) mm wy := owns_setCell hO (fun e => by simp [Value.ownBlock] at e; omega) _
  have hbl := hu.below h.bb (fun k hk e => by omega)
  refine ⟨h.sta.but hu (fun x hx e => h.ny (e ▸ hx)), h.kc.keep (hu.block _ h.kc.lt (Ne.symm n1)), h.kx.keep (hu.block _ h.kx.lt (Ne.symm n2)), (h.ky.keep (hb.block _ hpy)).set1 _, h.nc, h.nx, h.ny, h.rb.below hbl, h.rb2.below hbl, ?_, ?_, h.yb, Nat.le_trans h.bb hu.size, h.bl.trans hbl⟩
  · obtain ⟨r0, r1, r2⟩ := h.rx
    refine ⟨r0, r1, ?_⟩
    rcases r2 with r2 | ⟨b, off, r3, r4, r5, r6⟩
    · exact .inl r2
    · by_cases e0 : nn = 0
      · exact .inl e0
      · exact .inr ⟨b, off, r3, Nat.lt_of_lt_of_le r4 hu.size, r5, fun t ht => (hu.cell (p := ⟨b, off + t, none⟩) r4 (hrx b off r3 e0)).trans (r6 t ht)⟩
  · have hr := rdi_of_owns hOg
    obtain ⟨r1, r2⟩ := hr
    refine ⟨r1, ?_⟩
    rcases r2 with r2 | ⟨b, off, r3, r4, r5⟩
    · exact .inl r2
    · exact .inr ⟨b, off, r3, r4, fun hy => by cases r3; have := hY g hy; omega, r5⟩
theorem Thr.rn {W0 w : World} {B : Nat} {Y : Nat → Prop} {L s q cnt tot lk pc px py : Nat} {aa : Option Addr} {nn cc : Nat} {a2 : Option Addr} {mm c2 : Nat} {ax : Option Addr} {cx : Nat} {ay : Option Addr} {cy : Nat} {zs ws zx wy : List Int}
    (h : Thr W0 B Y w L s q cnt tot lk pc px py aa nn cc a2 mm c2 ax cx ay cy zs ws zx wy) : RdN Y w aa nn zs := RdN.of_rd h.rb h.bb (fun k hk hy => by have := h.yb k hy; omega)
theorem Thr.rn2 {W0 w : World} {B : Nat} {Y : Nat → Prop} {L s q cnt tot lk pc px py : Nat} {aa : Option Addr} {nn cc : Nat} {a2 : Option Addr} {mm c2 : Nat} {ax : Option Addr} {cx : Nat} {ay : Option Addr} {cy : Nat} {zs ws zx wy : List Int}
    (h : Thr W0 B Y w L s q cnt tot lk pc px py aa nn cc a2 mm c2 ax cx ay cy zs ws zx wy) : RIN Y w a2 mm ws := RIN.of_rd h.rb2 h.bb (fun k hk hy => by have := h.yb k hy; omega)

end Go.Proofs.Yteaebdonnicbkaa
