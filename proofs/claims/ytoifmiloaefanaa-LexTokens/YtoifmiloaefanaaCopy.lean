/-
  CopyBytes, turned.
-/
import Derived.Test.YtoifmiloaefanaaBut
import Derived.Laws.AppendOwnNone
namespace Go.Proofs.Ytoifmiloaefanaa
open Go.RowKit

theorem isB_set {L : List Int} (h : Pl.isB L) (i : Nat) {x : Int} (hx : 0 ≤ x ∧ x < 256) : Pl.isB (L.set i x) := by
  intro z hz
  rcases List.mem_or_eq_of_mem_set hz with h1 | rfl
  · exact h z h1
  · exact hx
theorem owns_form {w : World} {base e size n : Nat} {v : Value} {xs : List Value} (h : w.ownsRow base e size v n xs) (hv : v ≠ .slice none 0 0) : ∃ g cap, v = .slice (some ⟨g, 0, none⟩) n cap ∧ base ≤ g ∧ n ≤ cap := by
  rcases h.2 with ⟨h1, _⟩ | ⟨g, cap, cur, h1, h2, _, h3, _⟩
  · exact absurd h1 hv
  · exact ⟨g, cap, h1, h2, h3⟩
/-- BYTES OF ONE's OWN, with spare room: block g -/
def Own (w : World) (g n cap : Nat) (zs : List Int) : Prop := w.ownsRow g 5 1 (.slice (some ⟨g, 0, none⟩) n cap) n (zs.map (Value.int .u8))
theorem Own.of {w : World} {base g n cap : Nat} {zs : List Int} (h : w.ownsRow base 5 1 (.slice (some ⟨g, 0, none⟩) n cap) n (zs.map (Value.int .u8))) : Own w g n cap zs := by
  obtain ⟨h1, h2⟩ := h
  refine ⟨h1, ?_⟩
  rcases h2 with ⟨h2, _⟩ | ⟨g', cap', cur, hv, _, r⟩
  · cases h2
  · simp at hv
    obtain ⟨rfl, rfl⟩ := hv
    exact .inr ⟨g, cap, cur, rfl, Nat.le_refl _, r⟩
theorem Own.len {w : World} {g n cap : Nat} {zs : List Int} (h : Own w g n cap zs) : zs.length = n := by simpa using h.1
theorem Own.cell {w : World} {g n cap : Nat} {zs : List Int} (h : Own w g n cap zs) (t : Nat) (ht : t < n) : w.cell? ⟨g, t, none⟩ = some (.int .u8 (zs.getD t 0)) := by
  have h2 := World.ownsRow.cellAt h t (by omega)
  have h3 := h.len
  rw [h2]
  simp [show t < zs.length by omega]
theorem Own.lt {w : World} {g n cap : Nat} {zs : List Int} (h : Own w g n cap zs) : g < w.heap.size := (World.ownsRow.lt h g rfl).2
theorem Own.set {w : World} {g n cap : Nat} {zs : List Int} (h : Own w g n cap zs) (t : Nat) (x : Int) : Own (w.setCell ⟨g, t, none⟩ (.int .u8 x)) g n cap (zs.set t x) := by
  have h2 := (World.ownsRow.stored h t (.int .u8 x)).1
  unfold Own
  rw [List.map_set]
  exact h2
theorem Own.rdn {X : Nat → Prop} {w : World} {g n cap : Nat} {zs : List Int} (h : Own w g n cap zs) (hb : Pl.isB zs) (hx : ¬ X g) : RdN X w (some ⟨g, 0, none⟩) n zs :=
  ⟨h.len, hb, .inr ⟨g, 0, rfl, h.lt, hx, fun t ht => by rw [Nat.zero_add]; exact h.cell t ht⟩⟩

/-- others of the same number -/
def turn (zs : List Int) : List Int := if zs = [] then [] else
  ((zs.set (zs.length - 1) (bits .xor .u8 (zs.getD (zs.length - 1) 0) 1)).set 0 (bits .xor .u8 ((zs.set (zs.length - 1) (bits .xor .u8 (zs.getD (zs.length - 1) 0) 1)).getD 0 0) 2))
theorem xor_u8_bd {x : Int} (h : 0 ≤ x ∧ x < 256) (y : Nat) (hy : y < 256) : 0 ≤ bits .xor .u8 x (y : Int) ∧ bits .xor .u8 x (y : Int) < 256 := by
  obtain ⟨z, rfl⟩ := Int.eq_ofNat_of_zero_le h.1
  rw [u8_xor_nat z y (by omega) hy]
  have : z ^^^ y < 2 ^ 8 := Nat.xor_lt_two_pow (by omega) hy
  omega
theorem length_turn (zs : List Int) : (turn zs).length = zs.length := by
  unfold turn
  split
  · simp_all
  · simp
theorem isB_turn {zs : List Int} (h : Pl.isB zs) : Pl.isB (turn zs) := by
  unfold turn
  split
  · exact Pl.isB_nil
  · have h1 : Pl.isB (zs.set (zs.length - 1) (bits .xor .u8 (zs.getD (zs.length - 1) 0) 1)) := isB_set h _ (xor_u8_bd (by rw [List.getD_eq_getElem?_getD]; exact Pl.isB_getD h _) 1 (by decide))
    exact isB_set h1 _ (xor_u8_bd (by rw [List.getD_eq_getElem?_getD]; exact Pl.isB_getD h1 _) 2 (by decide))

end Go.Proofs.Ytoifmiloaefanaa
