/-
  Rows of one's own; CopyBytes.
-/
import Derived.Test.YtokgfnfgpjkpjaaBut
import Derived.Laws.AppendOwnNone
import Derived.Deep.AppendLies
namespace Go.Proofs.Ytokgfnfgpjkpjaa
open Go.RowKit

theorem owns_form {w : World} {base e size n : Nat} {v : Value} {xs : List Value} (h : w.ownsRow base e size v n xs) (hv : v ≠ .slice none 0 0) : ∃ g cap, v = .slice (some ⟨g, 0, none⟩) n cap ∧ base ≤ g ∧ n ≤ cap := by
  rcases h.2 with ⟨h1, _⟩ | ⟨g, cap, cur, h1, h2, _, h3, _⟩
  · exact absurd h1 hv
  · exact ⟨g, cap, h1, h2, h3⟩
/-- BYTES OF ONE's OWN, with spare room: block g -/
def Own (w : World) (g n cap : Nat) (zs : List Int) : Prop := w.ownsRow g 5 1 (.slice (some ⟨g, 0, none⟩) n cap) n (zs.map (Value.int .u8))
theorem Own.of {w : World} {base g n cap : Nat} {zs : List Int} (h : w.ownsRow base 5 1 (.slice (some ⟨g, 0, none⟩) n cap) n (zs.map (Value.int .u8))) : Own w g n cap zs := by
  obtain ⟨h1, h2⟩ := h
  refine ⟨h1, ?_⟩
  rcases h2 with ⟨h2, _⟩ | ⟨g', cap', cur, hv, _, r⟩
  · cases h2
  · simp at hv
    obtain ⟨rfl, rfl⟩ := hv
    exact .inr ⟨g, cap, cur, rfl, Nat.le_refl _, r⟩
theorem Own.len {w : World} {g n cap : Nat} {zs : List Int} (h : Own w g n cap zs) : zs.length = n := by simpa using h.1
theorem Own.cell {w : World} {g n cap : Nat} {zs : List Int} (h : Own w g n cap zs) (t : Nat) (ht : t < n) : w.cell? ⟨g, t, none⟩ = some (.int .u8 (zs.getD t 0)) := by
  have h2 := World.ownsRow.cellAt h t (by omega)
  have h3 := h.len
  rw [h2]
  simp [show t < zs.length by omega]
theorem Own.lt {w : World} {g n cap : Nat} {zs : List Int} (h : Own w g n cap zs) : g < w.heap.size := (World.ownsRow.lt h g rfl).2
theorem Own.set {w : World} {g n cap : Nat} {zs : List Int} (h : Own w g n cap zs) (t : Nat) (x : Int) : Own (w.setCell ⟨g, t, none⟩ (.int .u8 x)) g n cap (zs.set t x) := by
  have h2 := (World.ownsRow.stored h t (.int .u8 x)).1
  unfold Own
  rw [List.map_set]
  exact h2
theorem Own.rdn {X : Nat → Prop} {w : World} {g n cap : Nat} {zs : List Int} (h : Own w g n cap zs) (hb : Pl.isB zs) (hx : ¬ X g) : RdN X w (some ⟨g, 0, none⟩) n zs :=
  ⟨h.len, hb, .inr ⟨g, 0, rfl, h.lt, hx, fun t ht => by rw [Nat.zero_add]; exact h.cell t ht⟩⟩
theorem Own.rd {w : World} {g n cap : Nat} {zs : List Int} (h : Own w g n cap zs) (hb : Pl.isB zs) : Rd w.heap.size w (some ⟨g, 0, none⟩) n zs := (h.rdn (X := fun _ => False) hb (fun h => h)).rd
theorem Own.cap {w : World} {g n cap : Nat} {zs : List Int} (h : Own w g n cap zs) : n ≤ cap := by
  obtain ⟨_, _, e, _, hc⟩ := owns_form h (by intro h; cases h)
  simp at e
  omega
theorem owns_below {w w' : World} {base e size n : Nat} {v : Value} {xs : List Value} (h : w.ownsRow base e size v n xs) (hb : Below w.heap.size w w') : w'.ownsRow base e size v n xs := by
  obtain ⟨h1, h2⟩ := h
  refine ⟨h1, ?_⟩
  rcases h2 with h2 | ⟨g, cap, cur, hv, hg, hh, r⟩
  · exact .inl h2
  · refine .inr ⟨g, cap, cur, hv, hg, ?_, r⟩
    rw [hb.block g (Array.getElem?_eq_some_iff.1 hh).1]
    exact hh
theorem owns_slice {w : World} {base e size n : Nat} {v : Value} {xs : List Value} (h : w.ownsRow base e size v n xs) : ∃ a c, v = .slice a n c ∧ (a = none → c = 0) := by
  rcases h.2 with ⟨h1, h2⟩ | ⟨g, cap, cur, h1, _⟩
  · subst h2; exact ⟨none, 0, h1, fun _ => rfl⟩
  · exact ⟨_, cap, h1, fun h => by cases h⟩
theorem rdi_of_owns {w : World} {base n : Nat} {a : Option Addr} {c : Nat} {zs : List Int} (h : w.ownsRow base 3 1 (.slice a n c) n (zs.map (Value.int .i64))) : RdI w.heap.size w a n zs := by
  have hl : zs.length = n := by simpa using h.1
  refine ⟨hl, ?_⟩
  rcases h.2 with ⟨_, h2⟩ | ⟨g, cap, cur, h1, h2, _⟩
  · exact .inl h2
  · simp at h1
    obtain ⟨rfl, rfl⟩ := h1
    refine .inr ⟨g, 0, rfl, (World.ownsRow.lt h g rfl).2, fun t ht => ?_⟩
    rw [Nat.zero_add, World.ownsRow.cellAt h t (by omega)]
    simp [show t < zs.length by omega]
/-- a cell of a block that is none of a row's is as it was -/
theorem cell_apart {w w' : World} {row : Option Nat} (hg : w.grownBy w' row) {p : Addr} {v : Value} (hc : w.cell? p = some v) (hne : row ≠ some p.block) : w'.cell? p = some v := hg.cell hc (Ne.symm hne)
theorem own_lt {w : World} {base e size n : Nat} {v : Value} {xs : List Value} (h : w.ownsRow base e size v n xs) {k : Nat} (hk : w.heap.size ≤ k) : v.ownBlock ≠ some k := fun e => by
  have := (World.ownsRow.lt h k e).2
  omega
theorem owns_setCell {w : World} {base e size n : Nat} {v : Value} {xs : List Value} (h : w.ownsRow base e size v n xs) {p : Addr} (hp : v.ownBlock ≠ some p.block) (u : Value) : (w.setCell p u).ownsRow base e size v n xs := by
  obtain ⟨h1, h2⟩ := h
  refine ⟨h1, ?_⟩
  rcases h2 with h2 | ⟨g, cap, cur, rfl, hg, hh, r⟩
  · exact .inl h2
  · exact .inr ⟨g, cap, cur, rfl, hg, by rw [Below.heap_setCell _ _ _ _ (fun e => hp (by rw [← e]; rfl))]; exact hh, r⟩
theorem owns_keep {w w' : World} {base e size n : Nat} {v : Value} {xs : List Value} (h : w.ownsRow base e size v n xs) (hk : ∀ g, v.ownBlock = some g → w'.heap[g]? = w.heap[g]?) : w'.ownsRow base e size v n xs := by
  obtain ⟨h1, h2⟩ := h
  refine ⟨h1, ?_⟩
  rcases h2 with h2 | ⟨g, cap, cur, rfl, hg, hh, r⟩
  · exact .inl h2
  · exact .inr ⟨g, cap, cur, rfl, hg, by rw [hk g rfl]; exact hh, r⟩
theorem But.of_grown {X : Nat → Prop} {a w w' : World} {row : Option Nat} (h : But X a w) (hg : w.grownBy w' row) (hr : ∀ x, row = some x → x < a.heap.size → X x) : But X a w' :=
  ⟨hg.os.trans h.os, hg.tape.trans h.tape, hg.output.trans h.output, Nat.le_trans h.size hg.size, fun k hk hx => (hg.block k (Nat.lt_of_lt_of_le hk h.size) (fun e => hx (hr k e.symm hk))).trans (h.block k hk hx)⟩
theorem owns_cells {w : World} {B e n c : Nat} {a : Option Addr} {xs : List Value} (h : w.ownsRow B e 1 (.slice a n c) n xs) (hn : 0 < n) : ∃ g, a = some ⟨g, 0, none⟩ ∧ B ≤ g ∧ g < w.heap.size ∧ ∀ i, i < n → w.cell? ⟨g, i, none⟩ = some (xs.getD i (.bool false)) := by
  have hl : xs.length = n := by simpa using h.1
  rcases h.2 with ⟨_, h2⟩ | ⟨g, cap, cur, h1, hB, _⟩
  · omega
  · simp at h1
    obtain ⟨rfl, rfl⟩ := h1
    refine ⟨g, rfl, hB, (World.ownsRow.lt h g rfl).2, fun i hi => ?_⟩
    rw [World.ownsRow.cellAt h i (by omega)]
    simp [show i < xs.length by omega]
theorem Own.below {w w' : World} {g n cap : Nat} {zs : List Int} (h : Own w g n cap zs) (hb : Below w.heap.size w w') : Own w' g n cap zs := owns_below h hb
theorem But.step {X Y : Nat → Prop} {a w w' : World} (h : But X a w) (k : But Y w w') (hx : ∀ x, x < a.heap.size → Y x → X x) : But X a w' :=
  ⟨k.os.trans h.os, k.tape.trans h.tape, k.output.trans h.output, Nat.le_trans h.size k.size, fun x hxa hX => (k.block x (Nat.lt_of_lt_of_le hxa h.size) (fun hy => hX (hx x hxa hy))).trans (h.block x hxa hX)⟩
theorem infoI : (Try.prog.info? 3).map (fun i => (i.zero, i.size, i.bytes)) = some (some (.int .i64 0), 1, 8) := by kernel_rfl
/-- a row's cells -/
theorem row_cell {w : World} {B e n : Nat} {v : Value} {xs : List Value} (h : w.ownsRow B e 1 v n xs) {i : Nat} (hi : i < n) : ∃ g c, v = .slice (some ⟨g, 0, none⟩) n c ∧ B ≤ g ∧ g < w.heap.size ∧ w.cell? ⟨g, i, none⟩ = some (xs.getD i (.bool false)) := by
  obtain ⟨a, c, rfl, _⟩ := owns_slice h
  obtain ⟨g, rfl, h1, h2, h3⟩ := owns_cells h (by omega)
  exact ⟨g, c, rfl, h1, h2, h3 i hi⟩
/-- numbers of one's own in a block from B on -/
def OwI (B : Nat) (w : World) (o : Value) (n : Nat) (zs : List Int) : Prop := w.ownsRow B 3 1 o n (zs.map (Value.int .i64))
theorem OwI.nil (B : Nat) (w : World) : OwI B w (.slice none 0 0) 0 [] := ⟨rfl, .inl ⟨rfl, rfl⟩⟩
theorem OwI.len {B : Nat} {w : World} {o : Value} {n : Nat} {zs : List Int} (h : OwI B w o n zs) : zs.length = n := by simpa using h.1
theorem OwI.below {B : Nat} {w w' : World} {o : Value} {n : Nat} {zs : List Int} (h : OwI B w o n zs) (hb : Below w.heap.size w w') : OwI B w' o n zs := owns_below h hb
theorem OwI.alloc {B : Nat} {w : World} {o : Value} {n : Nat} {zs : List Int} (h : OwI B w o n zs) (x : Obj) : OwI B (w.alloc x) o n zs := h.below ((Below.refl _ _).alloc (Nat.le_refl _) _)
theorem OwI.rdi {B : Nat} {w : World} {a : Option Addr} {n c : Nat} {zs : List Int} (h : OwI B w (.slice a n c) n zs) : RdI w.heap.size w a n zs := by
  have hl := h.len
  by_cases h0 : n = 0
  · exact ⟨hl, .inl h0⟩
  · obtain ⟨g, e, _, hg, hc⟩ := owns_cells h (by omega)
    refine ⟨hl, .inr ⟨g, 0, e, hg, fun t ht => ?_⟩⟩
    rw [Nat.zero_add, hc t ht]
    simp [show t < zs.length by omega]
theorem OwI.src {B : Nat} {w : World} {g n cap : Nat} {zs : List Int} (h : OwI B w (.slice (some ⟨g, 0, none⟩) n cap) n zs) : ∀ j u, (zs.map (Value.int .i64))[j]? = some u → w.cell? ((⟨g, 0, none⟩ : Addr).add j) = some u := by
  intro j u hj
  have hl := h.len
  have hjl : j < zs.length := by
    have := (List.getElem?_eq_some_iff.1 hj).1
    simpa using this
  have e : (⟨g, 0, none⟩ : Addr).add j = ⟨g, j, none⟩ := by unfold Addr.add; split <;> simp_all
  rw [e, World.ownsRow.cellAt h j (by omega), ← hj]
theorem Own.src {w : World} {g n cap : Nat} {zs : List Int} (h : Own w g n cap zs) : ∀ j u, (zs.map (Value.int .u8))[j]? = some u → w.cell? ((⟨g, 0, none⟩ : Addr).add j) = some u := by
  intro j u hj
  have hl := h.len
  have hjl : j < zs.length := by
    have := (List.getElem?_eq_some_iff.1 hj).1
    simpa using this
  have e : (⟨g, 0, none⟩ : Addr).add j = ⟨g, j, none⟩ := by unfold Addr.add; split <;> simp_all
  rw [e, h.cell j (by omega), ← hj]
  simp [hjl]

end Go.Proofs.Ytokgfnfgpjkpjaa
