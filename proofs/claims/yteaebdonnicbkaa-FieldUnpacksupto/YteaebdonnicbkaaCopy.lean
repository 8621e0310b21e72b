/-
  CopyBytes, turned.
-/
import Derived.Test.YteaebdonnicbkaaBut
import Derived.Laws.AppendOwnNone
namespace Go.Proofs.Yteaebdonnicbkaa
open Go.RowKit

theorem owns_form {w : World} {base e size n : Nat} {v : Value} {xs : List Value} (h : w.ownsRow base e size v n xs) (hv : v ≠ .slice none 0 0) : ∃ g cap, v = .slice (some ⟨g, 0, none⟩) n cap ∧ base ≤ g ∧ n ≤ cap := by
  rcases h.2 with ⟨h1, _⟩ | ⟨g, cap, cur, h1, h2, _, h3, _⟩
  · exact absurd h1 hv
  · exact ⟨g, cap, h1, h2, h3⟩
/-- BYTES OF ONE's OWN, with spare room: block g -/
def Own (w : World) (g n cap : Nat) (zs : List Int) : Prop := w.ownsRow g 5 1 (.slice (some ⟨g, 0, none⟩) n cap) n (zs.map (Value.int .u8))
theorem Own.of {w : World} {base g n cap : Nat} {zs : List Int} (h : w.ownsRow base 5 1 (.slice (some ⟨g, 0, none⟩) n cap) n (zs.map (Value.int .u8))) : Own w g n cap zs := by
  obtain ⟨h1, h2⟩ := h
  refine ⟨h1, ?_⟩
  rcases h2 with ⟨h2, _⟩ | ⟨g', cap', cur, hv, _, r⟩
  · cases h2
  · simp at hv
    obtain ⟨rfl, rfl⟩ := hv
    exact .inr ⟨g, cap, cur, rfl, Nat.le_refl _, r⟩
theorem Own.len {w : World} {g n cap : Nat} {zs : List Int} (h : Own w g n cap zs) : zs.length = n := by simpa using h.1
theorem Own.cell {w : World} {g n cap : Nat} {zs : List Int} (h : Own w g n cap zs) (t : Nat) (ht : t < n) : w.cell? ⟨g, t, none⟩ = some (.int .u8 (zs.getD t 0)) := by
  have h2 := World.ownsRow.cellAt h t (by omega)
  have h3 := h.len
  rw [h2]
  simp [show t < zs.length by omega]
theorem Own.lt {w : World} {g n cap : Nat} {zs : List Int} (h : Own w g n cap zs) : g < w.heap.size := (World.ownsRow.lt h g rfl).2
theorem Own.set {w : World} {g n cap : Nat} {zs : List Int} (h : Own w g n cap zs) (t : Nat) (x : Int) : Own (w.setCell ⟨g, t, none⟩ (.int .u8 x)) g n cap (zs.set t x) := by
  have h2 := (World.ownsRow.stored h t (.int .u8 x)).1
  unfold Own
  rw [List.map_set]
  exact h2
theorem Own.rdn {X : Nat → Prop} {w : World} {g n cap : Nat} {zs : List Int} (h : Own w g n cap zs) (hb : Pl.isB zs) (hx : ¬ X g) : RdN X w (some ⟨g, 0, none⟩) n zs :=
  ⟨h.len, hb, .inr ⟨g, 0, rfl, h.lt, hx, fun t ht => by rw [Nat.zero_add]; exact h.cell t ht⟩⟩

set_option maxHeartbeats 400000 in
theorem CopyBytes_any (a : Option Addr) (n c : Nat) (zs : List Int) (w : World) (hn : n ≤ 140737488351232) (hnil : a = none → c = 0) (hR : Rd w.heap.size w a n zs) :
    Calls Try.prog 12 #[.slice a n c] w fun e w' => ∃ g cap, e = .returned (.slice (some ⟨g, 0, none⟩) n cap) ∧ w.heap.size ≤ g ∧ Own w' g n cap zs ∧ Below w.heap.size w w' := by
  obtain ⟨i0, hi, hz0, hz1, hz2⟩ := info_parts info5
  have hb : Below w.heap.size w (w.alloc (.cells #[] 5)) := (Below.refl _ _).alloc (Nat.le_refl _) _
  have h0 : (w.alloc (.cells #[] 5)).ownsRow w.heap.size 5 1 (.slice (some ⟨w.heap.size, 0, none⟩) 0 0) 0 [] := World.ownsRow_lit w #[] 0 (Nat.le_refl _) (by decide) rfl
  have hR2 := hR.below hb
  have hl := hR.1
  cases a with
  | none =>
    obtain ⟨h1, h2, h3⟩ := hR
    have hn0 : n = 0 := by rcases h3 with h3 | ⟨_, _, h3, _⟩; exact h3; cases h3
    subst hn0
    obtain rfl : zs = [] := List.length_eq_zero_iff.1 h1
    obtain rfl : c = 0 := hnil rfl
    have hO : Own (w.alloc (.cells #[] 5)) w.heap.size 0 0 [] := Own.of h0
    go_enter Try.func12, Try.ntmps12
    go_wp2_with (at_builtin; refine wpList_append_own_none rfl _ _ 22 rfl w.heap.size 5 i0 1 Try.underlying22 hi _ 0 [] rfl h0 rfl ?_)
    go_ret
    exact ⟨_, _, rfl, Nat.le_refl _, hO, hb⟩
  | some ad =>
    have hsrc : ∀ j u, (zs.map (Value.int .u8))[j]? = some u → (w.alloc (.cells #[] 5)).cell? (ad.add j) = some u := by
      by_cases h0 : n = 0
      · intro j u h
        rw [h0] at hl
        obtain rfl : zs = [] := List.length_eq_zero_iff.1 hl
        simp at h
      · obtain ⟨ad', e, h⟩ := hR2.src (by omega)
        cases e
        exact h
    go_enter Try.func12, Try.ntmps12
    go_wp2_with (at_builtin; refine wpList_append_own _ rfl _ _ 22 rfl w.heap.size 5 i0 (.int .u8 0) 1 1 Try.underlying22 hi hz0 hz1 hz2 rfl (by decide) _ 0 [] rfl h0 ad n c (zs.map (Value.int .u8)) rfl (by rw [List.length_map, hl, Nat.mul_one]) hsrc (u8_one _) (by unfold maxLen; omega) (by omega) (by simp) ?_)
    intro v' w1 hown hgrow hnn
    obtain ⟨g, cap, rfl, hg, _⟩ := owns_form hown hnn
    have HO := hid (Own.of hown)
    have hb1 : Below w.heap.size w w1 := hb.grown hgrow (by simp) (fun k h => by cases h; exact Nat.le_refl _)
    clear hown hgrow hnn
    go_wp2
    go_ret
    exact ⟨g, cap, rfl, hg, HO.out, hb1⟩

/-- others of the same number -/
def turn (zs : List Int) : List Int := if zs = [] then [] else
  ((zs.set (zs.length - 1) (bits .xor .u8 (zs.getD (zs.length - 1) 0) 1)).set 0 (bits .xor .u8 ((zs.set (zs.length - 1) (bits .xor .u8 (zs.getD (zs.length - 1) 0) 1)).getD 0 0) 2))
theorem xor_u8_bd {x : Int} (h : 0 ≤ x ∧ x < 256) (y : Nat) (hy : y < 256) : 0 ≤ bits .xor .u8 x (y : Int) ∧ bits .xor .u8 x (y : Int) < 256 := by
  obtain ⟨z, rfl⟩ := Int.eq_ofNat_of_zero_le h.1
  rw [u8_xor_nat z y (by omega) hy]
  have : z ^^^ y < 2 ^ 8 := Nat.xor_lt_two_pow (by omega) hy
  omega
theorem length_turn (zs : List Int) : (turn zs).length = zs.length := by
  unfold turn
  split
  · simp_all
  · simp
theorem isB_turn {zs : List Int} (h : Pl.isB zs) : Pl.isB (turn zs) := by
  unfold turn
  split
  · exact Pl.isB_nil
  · have h1 : Pl.isB (zs.set (zs.length - 1) (bits .xor .u8 (zs.getD (zs.length - 1) 0) 1)) := isB_set h _ (xor_u8_bd (by rw [List.getD_eq_getElem?_getD]; exact Pl.isB_getD h _) 1 (by decide))
    exact isB_set h1 _ (xor_u8_bd (by rw [List.getD_eq_getElem?_getD]; exact Pl.isB_getD h1 _) 2 (by decide))

set_option maxHeartbeats 400000 in
theorem turned_any (a : Option Addr) (n c : Nat) (zs : List Int) (w : World) (hn : n ≤ 140737488351232) (hnil : a = none → c = 0) (hR : Rd w.heap.size w a n zs) :
    Calls Try.prog 21 #[.slice a n c] w fun e w' => ∃ g cap, e = .returned (.slice (some ⟨g, 0, none⟩) n cap) ∧ w.heap.size ≤ g ∧ Own w' g n cap (turn zs) ∧ Below w.heap.size w w' := by
  go_enter Try.func21, Try.ntmps21
  go_wp2_with fail
  refine (CopyBytes_any a n c zs w hn hnil hR).mono ?_
  rintro e w1 ⟨g, cap, rfl, hg, hO, hb⟩
  by_cases h0 : n = 0
  · subst h0
    obtain rfl : zs = [] := List.length_eq_zero_iff.1 hR.1
    have HO := hid hO
    clear hO
    go_wp2
    go_ret
    exact ⟨g, cap, rfl, hg, HO.out, hb⟩
  · have hl := hR.1
    have hne : zs ≠ [] := by intro h; rw [h] at hl; exact h0 hl.symm
    have c1 := hO.cell (n - 1) (by omega)
    have f1 := World.ownsRow.frozenAt hO (n - 1)
    have hO2 := hO.set (n - 1) (bits .xor .u8 (zs.getD (n - 1) 0) 1)
    have c2 := hO2.cell 0 (by omega)
    have f2 := World.ownsRow.frozenAt hO2 0
    have hO3 := hO2.set 0 (bits .xor .u8 ((zs.set (n - 1) (bits .xor .u8 (zs.getD (n - 1) 0) 1)).getD 0 0) 2)
    have e : ((zs.set (n - 1) (bits .xor .u8 (zs.getD (n - 1) 0) 1)).set 0 (bits .xor .u8 ((zs.set (n - 1) (bits .xor .u8 (zs.getD (n - 1) 0) 1)).getD 0 0) 2)) = turn zs := by
      unfold turn
      rw [if_neg hne, hl]
    rw [e] at hO3
    have HO := hid hO3
    have Hb := hid ((hb.setCell (p := ⟨g, n - 1, none⟩) hg (.int .u8 (bits .xor .u8 (zs.getD (n - 1) 0) 1))).setCell (p := ⟨g, 0, none⟩) hg (.int .u8 (bits .xor .u8 ((zs.set (n - 1) (bits .xor .u8 (zs.getD (n - 1) 0) 1)).getD 0 0) 2)))
    have hp : (0 : Int) < (n : Int) := by omega
    clear hO hO2 hO3 e hne hl hR
    generalize (zs.set (n - 1) (bits .xor .u8 (zs.getD (n - 1) 0) 1)).getD 0 0 = z0 at *
    generalize zs.getD (n - 1) 0 = z1 at *
    go_wp2
    go_ret
    exact ⟨g, cap, rfl, hg, HO.out, Hb.out⟩

end Go.Proofs.Yteaebdonnicbkaa
