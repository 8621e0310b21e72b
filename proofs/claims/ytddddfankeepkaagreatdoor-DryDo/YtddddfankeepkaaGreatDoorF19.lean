import Derived.Test.YtddddfankeepkaaGreatDoorF12
import Derived.Test.YtddddfankeepkaaGreatDoorF18
namespace Go.Proofs.YtddddfankeepkaaGreatDoor
open Go.RowKit
def fmE (o : OW) (dn : Nat) : Int := if ckO o.k o.nm o.ot o.fr o.tt dn = 106 ∨ ckO o.k o.nm o.ot o.fr o.tt dn = 107 then 0 else ckO o.k o.nm o.ot o.fr o.tt dn
abbrev opA (o : OW) (a : Option Addr) (n c : Nat) : Value := .agg #[.int .i64 o.k, .string o.nm, .string o.ot, .int .i64 o.fr, .int .i64 o.tt, .slice a n c]
set_option maxRecDepth 100000 in
set_option maxHeartbeats 4000000 in
theorem formOf75_any (o : OW) (a : Option Addr) (n c : Nat) (w : World) (hG : GT w) (hnm : o.nm.size ≤ 16777216) (hot : o.ot.size ≤ 16777216) (hf : -9223372036854775808 ≤ o.fr) (ht : o.tt ≤ 9223372036854775807) :
  Calls Tryz.prog 75 #[opA o a n c] w fun e w' => LkQ w (fmE o n) e w' := by
 obtain ⟨W1, hW1⟩ : ∃ W1, W1 = w.alloc (.cells #[.int .i64 o.k, .string o.nm, .string o.ot, .int .i64 o.fr, .int .i64 o.tt, .slice a n c] 42) := ⟨_, rfl⟩
 have b1 : Below w.heap.size w W1 := by rw [hW1]; exact below1 _ _
 have HC := hid (Check_any o.k o.nm o.ot o.fr o.tt a n c W1 (hG.next b1) hnm hot hf ht)
 unfold fmE
 generalize ckO o.k o.nm o.ot o.fr o.tt n = z at *
 have HB := hid b1
 have HW := hid hW1
 clear b1 hW1 hG hnm hot hf ht
 by_cases h1 : z = 106
 ·subst h1
  rw [if_pos (.inl rfl)]
  go_enter Tryz.func75, Tryz.ntmps75
  go_wp2_with fail
  rw [← HW.out]
  refine HC.out.mono ?_
  rintro e w2 ⟨rfl, hb2⟩
  have HB2 := hid (HB.out.trans (hb2.mono HB.out.size))
  clear hb2 HC
  go_wp2
  go_ret
  exact ⟨rfl, HB2.out⟩
 ·by_cases h2 : z = 107
  ·subst h2
   rw [if_pos (.inr rfl)]
   go_enter Tryz.func75, Tryz.ntmps75
   go_wp2_with fail
   rw [← HW.out]
   refine HC.out.mono ?_
   rintro e w2 ⟨rfl, hb2⟩
   have HB2 := hid (HB.out.trans (hb2.mono HB.out.size))
   clear hb2 HC
   go_wp2
   go_ret
   exact ⟨rfl, HB2.out⟩
  ·rw [if_neg (by omega)]
   have e1 : (z == 106) = false := by simpa using h1
   have e2 : (z == 107) = false := by simpa using h2
   clear h1 h2
   go_enter Tryz.func75, Tryz.ntmps75
   go_wp2_with fail
   rw [← HW.out]
   refine HC.out.mono ?_
   rintro e w2 ⟨rfl, hb2⟩
   have HB2 := hid (HB.out.trans (hb2.mono HB.out.size))
   clear hb2 HC
   go_wp2
   go_ret
   exact ⟨rfl, HB2.out⟩
def lks : Nat → List Nat
 | 1 => [52, 59, 54]
 | 2 => [51, 52, 53, 54]
 | 3 => [51, 52, 53, 54]
 | 4 => [55, 59, 57]
 | 5 => [55, 64, 57]
 | 6 => [55, 66]
 | 7 => [55, 51, 57, 53]
 | 8 => [55, 69, 57]
 | 9 => [55, 56, 57]
 | 10 => [55, 56, 58, 57]
 | _ => [73]
def dof : Nat → Nat
 | 1 => 60
 | 2 => 61
 | 3 => 62
 | 4 => 63
 | 5 => 65
 | 6 => 67
 | 7 => 68
 | 8 => 70
 | 9 => 71
 | 10 => 72
 | _ => 74
def RuB (w : World) (R : Nat) : Prop := R < w.heap.size ∧ ∀ k, 1 ≤ k → k ≤ 11 → ∃ L, L < w.heap.size ∧ w.cell? ⟨R, k * 2, none⟩ = some (.slice (some ⟨L, 0, none⟩) (lks k).length (lks k).length) ∧ w.cell? ⟨R, k * 2 + 1, none⟩ = some (.func (.func (dof k)) #[] #[]) ∧ ∀ i (hi : i < (lks k).length), w.cell? ⟨L, i, none⟩ = some (.func (.func (lks k)[i]) #[] #[])
theorem RuB.next {w w' : World} {R : Nat} (h : RuB w R) (hb : Below w.heap.size w w') : RuB w' R :=
 ⟨Nat.lt_of_lt_of_le h.1 hb.size, fun k h1 h2 => by
  obtain ⟨L, hL, a, b, c⟩ := h.2 k h1 h2
  exact ⟨L, Nat.lt_of_lt_of_le hL hb.size, (hb.cell (by exact h.1)).trans a, (hb.cell (by exact h.1)).trans b, fun i hi => (hb.cell (by exact hL)).trans (c i hi)⟩⟩
def alls : World → List Obj → World
 | w, [] => w
 | w, o :: os => alls (w.alloc o) os
theorem alls_spec : ∀ (os : List Obj) (w : World), (alls w os).heap.size = w.heap.size + os.length ∧ Below w.heap.size w (alls w os) ∧ ∀ j (hj : j < os.length), (alls w os).heap[w.heap.size + j]? = some os[j]
 | [], w => ⟨rfl, Below.refl _ _, fun j hj => by simp at hj⟩
 | o :: os, w => by
  obtain ⟨h1, h2, h3⟩ := alls_spec os (w.alloc o)
  refine ⟨by show (alls (w.alloc o) os).heap.size = _; rw [h1]; simp; omega, (below1 w o).trans (h2.mono (below1 w o).size), fun j hj => ?_⟩
  cases j with
  | zero =>
   show (alls (w.alloc o) os).heap[w.heap.size]? = _
   rw [h2.block _ (by simp)]
   exact heap_new _ _
  | succ j =>
   have := h3 j (by simpa using hj)
   rw [World.size_alloc, show w.heap.size + 1 + j = w.heap.size + (j + 1) by omega] at this
   exact this
theorem alls_cell {w : World} {os : List Obj} {j i : Nat} {cs : Array Value} {t : TypeId} {v : Value} (h : os[j]? = some (.cells cs t (0, 0))) (hv : cs[i]? = some v) : (alls w os).cell? ⟨w.heap.size + j, i, none⟩ = some v := by
 obtain ⟨hj, he⟩ := List.getElem?_eq_some_iff.1 h
 have := (alls_spec os w).2.2 j hj
 rw [he] at this
 simp only [World.cell?, this]
 exact hv
end Go.Proofs.YtddddfankeepkaaGreatDoor
