/-
  THE BOOK: its state. 'marked'.
-/
import Derived.Test.YteaebdonnicbkaaStd0
import Derived.Test.YteaebdonnicbkaaBkL
namespace Go.Proofs.Yteaebdonnicbkaa
open Go.RowKit

/-! ### marked -/
def mkd (mark : Int) (i : Nat) : Int := (mark + 7 * (i : Int) + 1) % 256
def markL (k : Nat) (mark : Int) : List Int := (List.range k).map fun i => mkd mark i
theorem length_markL (k : Nat) (mark : Int) : (markL k mark).length = k := by simp [markL]
theorem markL_getD {k i : Nat} (mark : Int) (h : i < k) : (markL k mark).getD i 0 = mkd mark i := by simp [markL, h]
theorem isB_markL (k : Nat) (mark : Int) : Pl.isB (markL k mark) := by
  intro z hz
  simp only [markL, List.mem_map] at hz
  obtain ⟨i, _, rfl⟩ := hz
  unfold mkd
  omega
theorem markL_set {k i : Nat} (mark : Int) (h : i < k) {ys : List Int} (hl : ys.length = k) (ht : ys.take i = (markL k mark).take i) : (ys.set i (mkd mark i)).take (i + 1) = (markL k mark).take (i + 1) :=
  take_set (by omega) (by rw [length_markL]; exact h) ht (markL_getD mark h).symm

set_option maxHeartbeats 400000 in
theorem marked_any (k : Nat) (mark : Int) (w : World) (hk : k ≤ 1073741824) (h0 : -1073741824 ≤ mark) (h1 : mark ≤ 1073741824) :
    Calls Try.prog 64 #[.int .i64 (k : Int), .int .i64 mark] w fun e w' => e = .returned (.slice (some ⟨w.heap.size, 0, none⟩) k k) ∧ Blk .u8 5 w' w.heap.size (markL k mark) ∧ w'.heap.size = w.heap.size + 1 ∧ Below w.heap.size w w' := by
  have hmk := make_u8 k (by omega)
  have HB0 := hid (Blk.new (k := .u8) (e := 5) w (zeros k))
  have Hb0 := hid ((Below.refl w.heap.size w).alloc (Nat.le_refl _) (.cells ((zeros k).map (Value.int .u8)).toArray 5))
  go_enter Try.func64, Try.ntmps64
  go_wp2
  go_loopw [6] (fun i wt => ∃ (j : Nat) (ys : List Int), j ≤ k ∧ i = .int .i64 (j : Int) ∧ Blk .u8 5 wt w.heap.size ys ∧ ys.length = k ∧ ys.take j = (markL k mark).take j ∧ wt.heap.size = w.heap.size + 1 ∧ Below w.heap.size w wt) (fun i _ => k - (intOf i).toNat)
  case atStart => exact ⟨0, zeros k, Nat.zero_le _, rfl, HB0.out, length_zeros k, rfl, by simp, Hb0.out⟩
  case round =>
    clear HB0 Hb0 hmk
    obtain ⟨j, ys, hj, rfl, hB, hl, ht, hs, hb⟩ := hrel
    by_cases hjk : j < k
    · have hc := hB.cell j (by omega)
      have hf := hB.frozen j
      have HB := hid (hB.set j (mkd mark j))
      have HT := hid (markL_set mark hjk hl ht)
      have Hl := hid hl
      have Hs := hid hs
      have Hb := hid (hb.setCell (p := ⟨w.heap.size, j, none⟩) (Nat.le_refl _) (.int .u8 (mkd mark j)))
      generalize ys.getD j 0 = old at *
      clear hB ht hl hs hb
      go_wp2
      go_roundw
      case rel => exact ⟨j + 1, _, by omega, by go_num, HB.out, by simpa using Hl.out, HT.out, by simpa [World.setCell] using Hs.out, Hb.out⟩
      case measure => simp [intOf]; omega
    · have e : ys = markL k mark := by
        rw [List.take_of_length_le (by omega), List.take_of_length_le (by rw [length_markL]; omega)] at ht
        exact ht
      have HB := hid (e ▸ hB)
      have Hs := hid hs
      clear hB ht hl e hs
      go_wp2
      go_ret
      exact ⟨rfl, HB.out, Hs.out, hb⟩

/-! ### lists of bytes that lie in settled blocks -/
/-- a block of bytes, none of them frozen -/
def T5 (w : World) (g : Nat) : Prop := ∃ cur, w.heap[g]? = some (.cells cur 5 (0, 0))
theorem T5.lt {w : World} {g : Nat} (h : T5 w g) : g < w.heap.size := by obtain ⟨cur, h⟩ := h; exact (Array.getElem?_eq_some_iff.1 h).1
theorem T5.blk {w : World} {g : Nat} {zs : List Int} (h : Blk .u8 5 w g zs) : T5 w g := ⟨_, h⟩
theorem T5.keep {w w' : World} {g : Nat} (h : T5 w g) (hk : w'.heap[g]? = w.heap[g]?) : T5 w' g := by obtain ⟨cur, h⟩ := h; exact ⟨cur, by rw [hk]; exact h⟩
/-- a row of another type is another block -/
theorem T5.ne_row {w : World} {g base e size n : Nat} {v : Value} {xs : List Value} (h : T5 w g) (hr : w.ownsRow base e size v n xs) (he : e ≠ 5) : v.ownBlock ≠ some g := by
  intro hv
  obtain ⟨cur, h⟩ := h
  rcases hr.2 with ⟨h1, _⟩ | ⟨g', cap, cur', h1, _, hh, _⟩
  · rw [h1] at hv; cases hv
  · rw [h1] at hv
    cases hv
    rw [h] at hh
    simp at hh
    exact he hh.2.symm

/-- the slice v holds zs, in a block of R (or it is empty) -/
def Sl (R : Nat → Prop) (w : World) (v : Value) (zs : List Int) : Prop :=
  Pl.isB zs ∧ ∃ a c, v = .slice a zs.length c ∧ (a = none → c = 0) ∧ (zs.length = 0 ∨ ∃ g, a = some ⟨g, 0, none⟩ ∧ R g ∧ ∀ t, t < zs.length → w.cell? ⟨g, t, none⟩ = some (.int .u8 (zs.getD t 0)))
theorem Sl.keep {R : Nat → Prop} {w w' : World} {v : Value} {zs : List Int} (h : Sl R w v zs) (hk : ∀ g, R g → w'.heap[g]? = w.heap[g]?) : Sl R w' v zs := by
  obtain ⟨h1, a, c, h2, h3, h4⟩ := h
  refine ⟨h1, a, c, h2, h3, ?_⟩
  rcases h4 with h4 | ⟨g, h4, h5, h6⟩
  · exact .inl h4
  · exact .inr ⟨g, h4, h5, fun t ht => (World.cell?_of_block (w := w) (hk g h5)).trans (h6 t ht)⟩
theorem Sl.mono {R R' : Nat → Prop} {w : World} {v : Value} {zs : List Int} (h : Sl R w v zs) (hr : ∀ g, R g → R' g) : Sl R' w v zs := by
  obtain ⟨h1, a, c, h2, h3, h4⟩ := h
  exact ⟨h1, a, c, h2, h3, h4.imp id fun ⟨g, q1, q2, q3⟩ => ⟨g, q1, hr g q2, q3⟩⟩
theorem Sl.rd {R : Nat → Prop} {w : World} {v : Value} {zs : List Int} (h : Sl R w v zs) (hT : ∀ g, R g → T5 w g) : ∃ a c, v = .slice a zs.length c ∧ (a = none → c = 0) ∧ Rd w.heap.size w a zs.length zs := by
  obtain ⟨h1, a, c, h2, h3, h4⟩ := h
  refine ⟨a, c, h2, h3, rfl, h1, ?_⟩
  rcases h4 with h4 | ⟨g, rfl, h5, h6⟩
  · exact .inl h4
  · exact .inr ⟨g, 0, rfl, (hT g h5).lt, fun t ht => by rw [Nat.zero_add]; exact h6 t ht⟩
theorem Sl.of_blk {R : Nat → Prop} {w : World} {g : Nat} {zs : List Int} (h : Blk .u8 5 w g zs) (hb : Pl.isB zs) (hr : R g) (c : Nat) : Sl R w (.slice (some ⟨g, 0, none⟩) zs.length c) zs :=
  ⟨hb, _, c, rfl, (fun h => by cases h), .inr ⟨g, rfl, hr, fun t ht => h.cell t ht⟩⟩
theorem Sl.of_own {R : Nat → Prop} {w : World} {g n cap : Nat} {zs : List Int} (h : Own w g n cap zs) (hb : Pl.isB zs) (hr : R g) : Sl R w (.slice (some ⟨g, 0, none⟩) n cap) zs := by
  have hl := h.len
  subst hl
  exact ⟨hb, _, cap, rfl, (fun h => by cases h), .inr ⟨g, rfl, hr, fun t ht => h.cell t ht⟩⟩
theorem Own.t5 {w : World} {g n cap : Nat} {zs : List Int} (h : Own w g n cap zs) : T5 w g := by
  rcases h.2 with ⟨h1, _⟩ | ⟨g', cap', cur, h1, _, hh, _⟩
  · cases h1
  · simp at h1
    obtain ⟨rfl, _⟩ := h1
    exact ⟨cur, hh⟩

/-! ### the book's own block -/
def Bkb (w : World) (b : Nat) (cnt tot : Int) (bad : Bool) (fr he ma ke wa : Value) : Prop := w.heap[b]? = some (.cells #[.int .i64 cnt, .int .i64 tot, .bool bad, fr, he, ma, ke, wa] 55 (0, 0))
theorem Bkb.lt {w : World} {b : Nat} {cnt tot : Int} {bad : Bool} {fr he ma ke wa : Value} (h : Bkb w b cnt tot bad fr he ma ke wa) : b < w.heap.size := (Array.getElem?_eq_some_iff.1 h).1
theorem Bkb.cell {w : World} {b : Nat} {cnt tot : Int} {bad : Bool} {fr he ma ke wa : Value} (h : Bkb w b cnt tot bad fr he ma ke wa) (t : Nat) : w.cell? ⟨b, t, none⟩ = #[Value.int .i64 cnt, .int .i64 tot, .bool bad, fr, he, ma, ke, wa][t]? := by
  unfold Bkb at h
  simp [World.cell?, h]
theorem Bkb.frozen {w : World} {b : Nat} {cnt tot : Int} {bad : Bool} {fr he ma ke wa : Value} (h : Bkb w b cnt tot bad fr he ma ke wa) (t : Nat) : w.frozen? ⟨b, t, none⟩ = false := by
  unfold Bkb at h
  simp [World.frozen?, h]
theorem Bkb.of_block {w w' : World} {b : Nat} {cnt tot : Int} {bad : Bool} {fr he ma ke wa : Value} (h : Bkb w b cnt tot bad fr he ma ke wa) (hw : w'.heap[b]? = w.heap[b]?) : Bkb w' b cnt tot bad fr he ma ke wa := by unfold Bkb at *; rw [hw]; exact h
theorem Bkb.set {w : World} {b : Nat} {cnt tot : Int} {bad : Bool} {fr he ma ke wa : Value} (h : Bkb w b cnt tot bad fr he ma ke wa) (t : Nat) (v : Value) : (w.setCell ⟨b, t, none⟩ v).heap[b]? = some (.cells (#[.int .i64 cnt, .int .i64 tot, .bool bad, fr, he, ma, ke, wa].setIfInBounds t v) 55 (0, 0)) := by
  unfold Bkb at h
  simp only [World.setCell, Array.getElem?_modify]
  rw [h]
  simp
theorem Bkb.ne_row {w : World} {b : Nat} {cnt tot : Int} {bad : Bool} {fr he ma ke wa : Value} (h : Bkb w b cnt tot bad fr he ma ke wa) {base e size n : Nat} {v : Value} {xs : List Value} (hr : w.ownsRow base e size v n xs) (he' : e ≠ 55) : v.ownBlock ≠ some b := by
  intro hv
  unfold Bkb at h
  rcases hr.2 with ⟨h1, _⟩ | ⟨g', cap, cur', h1, _, hh, _⟩
  · rw [h1] at hv; cases hv
  · rw [h1] at hv
    cases hv
    rw [h] at hh
    simp at hh
    exact he' hh.2.symm
theorem Bkb.ne_t5 {w : World} {b : Nat} {cnt tot : Int} {bad : Bool} {fr he ma ke wa : Value} (h : Bkb w b cnt tot bad fr he ma ke wa) {g : Nat} (hg : T5 w g) : g ≠ b := by
  intro e
  subst e
  obtain ⟨cur, hh⟩ := hg
  unfold Bkb at h
  rw [h] at hh
  simp at hh

end Go.Proofs.Yteaebdonnicbkaa
