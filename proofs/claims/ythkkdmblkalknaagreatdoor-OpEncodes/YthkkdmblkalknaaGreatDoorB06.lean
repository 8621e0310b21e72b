import Derived.Test.YthkkdmblkalknaaGreatDoorB05
import Derived.Test.YthkkdmblkalknaaGreatDoorA13
/-
  A tray in use: lists that are handed in, and lists that were made.
-/
namespace Go.Proofs.YthkkdmblkalknaaGreatDoor
open Go.RowKit

/-- a tray in block T, made behind w -/
def TyS (w : World) (T : Nat) (wr : World) : Prop := ∃ κ lv dv ls, TS wr T κ lv dv ls ∧ (∀ y, y < w.heap.size → κ y = 0) ∧ Below w.heap.size w wr
/-- and a list beside it -/
def TyR (w : World) (T : Nat) (wr : World) (x : Option Addr) (os : List PO) : Prop := ∃ κ lv dv ls, TS wr T κ lv dv ls ∧ (∀ y, y < w.heap.size → κ y = 0) ∧ Below w.heap.size w wr ∧ RdON (fun x => κ x ≠ 0) wr x os
theorem TyS.start {w w1 : World} (hb : Below w.heap.size w w1) : TyS w w1.heap.size (w1.alloc (.cells #[.slice none 0 0, .slice none 0 0] 48)) := by
  have hz := hb.size
  refine ⟨fun x => if x = w1.heap.size then 1 else 0, .slice none 0 0, .slice none 0 0, [], ⟨heap_new _ _, if_pos rfl, fun x hx => ?_, .inl rfl, ⟨rfl, .inl ⟨rfl, rfl⟩⟩, fun g hg => (by cases hg), fun i hi => by simp at hi⟩, fun y hy => ?_, hb.trans ((below1 w1 _).mono hz)⟩
  · show (if x = w1.heap.size then 1 else 0) = 0
    rw [if_neg (by simp at hx; omega)]
  · show (if y = w1.heap.size then 1 else 0) = 0
    rw [if_neg (by omega)]
theorem TyS.next {w wr wr' : World} {T : Nat} (h : TyS w T wr) (hb : Below wr.heap.size wr wr') : TyS w T wr' := by
  obtain ⟨κ, lv, dv, ls, h1, h2, h3⟩ := h
  exact ⟨κ, lv, dv, ls, h1.keep (But.of_below (X := fun _ => False) hb) (fun _ _ h => h), h2, h3.trans (hb.mono h3.size)⟩
theorem TyS.bel {w wr : World} {T : Nat} (h : TyS w T wr) : Below w.heap.size w wr := by obtain ⟨_, _, _, _, _, _, h3⟩ := h; exact h3
theorem TyS.args {w wr : World} {T : Nat} {x : Option Addr} {os : List PO} (h : TyS w T wr) (hR : RdO w.heap.size w x os) : TyR w T wr x os := by
  obtain ⟨κ, lv, dv, ls, h1, h2, h3⟩ := h
  exact ⟨κ, lv, dv, ls, h1, h2, h3, RdON.of_rd (hR.below h3) h3.size (fun k hk => by simp [h2 k hk])⟩
theorem Twins.ok {os os' : List PO} (h : Twins os os') (hk : ∀ o ∈ os, okO o) : ∀ o ∈ os', okO o := by
  intro o ho
  obtain ⟨t, ht, rfl⟩ := List.getElem_of_mem ho
  have ht' : t < os.length := by rw [← h.1]; exact ht
  exact (h.2 t ht' ht).ok (hk _ (List.getElem_mem ht'))
theorem Twins.isb {os os' : List PO} (h : Twins os os') (hk : ∀ o ∈ os, Pl.isB o.da) : ∀ o ∈ os', Pl.isB o.da := by
  intro o ho
  obtain ⟨t, ht, rfl⟩ := List.getElem_of_mem ho
  have ht' : t < os.length := by rw [← h.1]; exact ht
  exact (h.2 t ht' ht).b (hk _ (List.getElem_mem ht'))
theorem RdO.isb {B : Nat} {w : World} {x : Option Addr} {os : List PO} (h : RdO B w x os) : ∀ o ∈ os, Pl.isB o.da := by
  intro o ho
  rcases h.2 with e | ⟨b, off, _, _, hc⟩
  · subst e; cases ho
  · obtain ⟨t, ht, rfl⟩ := List.getElem_of_mem ho
    obtain ⟨a, c, _, h2, _⟩ := hc t ht
    exact h2.2.1
/-- Turned, with a tray beside it -/
theorem TyS.turned {w wr : World} {T : Nat} {x : Option Addr} {c : Nat} {os : List PO} (h : TyS w T wr) (hl : os.length ≤ 16777216) (hR : RdO w.heap.size w x os) :
    Calls Tryz.prog 22 #[.slice x os.length c] wr fun e w4 => ∃ a cp os', e = .returned (.slice a os'.length cp) ∧ Twins os os' ∧ (a = none → cp = 0) ∧ TyR w T w4 a os' ∧ Below wr.heap.size wr w4 := by
  obtain ⟨κ, lv, dv, ls, h1, h2, h3⟩ := h
  refine (Turned_any x c os wr hl ((hR.below h3).mono h3.size)).mono ?_
  rintro e w4 ⟨u, vs, os', rfl, hO, hT, hb⟩
  obtain ⟨a, cp, rfl, _, hRN, hn⟩ := hO.rdn (X := fun x => κ x ≠ 0) (hT.ok hR.1) (hT.isb hR.isb) (fun k hk _ => by simp [h1.cut k hk])
  exact ⟨a, cp, os', rfl, hT, hn, ⟨κ, lv, dv, ls, h1.keep (But.of_below (X := fun _ => False) hb) (fun _ _ h => h), h2, h3.trans (hb.mono h3.size), hRN⟩, hb⟩
theorem TyR.done {w wr w' : World} {T : Nat} {κ : Nat → Nat} {e : Ending} (h2 : ∀ y, y < w.heap.size → κ y = 0) (h3 : Below w.heap.size w wr) (h : CkP wr κ T e w') : e = .returned (.bool true) ∧ TyS w T w' := by
  obtain ⟨he, κ', lv, dv, ls, hts, hE, hB⟩ := h
  refine ⟨he, κ', lv, dv, ls, hts, fun y hy => ?_, h3.trans (hB.below h3.size (fun k hk => by simp [h2 k hk]))⟩
  rw [hE y (Nat.lt_of_lt_of_le hy h3.size)]
  exact h2 y hy
theorem TyR.checks {w wr : World} {T : Nat} {x : Option Addr} {c : Nat} {os : List PO} (h : TyR w T wr x os) (hG : GT w) (hl : os.length ≤ 16777216) (hx : x = none → c = 0) : Calls Tryz.prog 21 #[.slice x os.length c, .pointer (some ⟨T, 0, none⟩)] wr fun e w' => e = .returned (.bool true) ∧ TyS w T w' := by
  obtain ⟨κ, lv, dv, ls, h1, h2, h3, h4⟩ := h
  refine (checks_any T κ lv dv ls x c os wr hl (hG.next h3) (fun y hy => h2 y (Nat.lt_of_lt_of_le hy hG.lt)) h1 h4 hx).mono ?_
  intro e w' hC
  exact TyR.done h2 h3 hC

set_option maxRecDepth 100000 in
set_option maxHeartbeats 4000000 in
theorem opChecks_law (x : Option Addr) (c : Nat) (os : List PO) (w : World) (hG : GT w) (hl : os.length ≤ 16777216) (hR : RdO w.heap.size w x os) (hx : x = none → c = 0) :
    Calls Tryz.prog 4 #[.slice x os.length c] w fun e w' => e = .returned (.bool true) ∧ Below w.heap.size w w' := by
  have HC : Hid (Calls Tryz.prog 9 #[] w fun e w1 => e = .returned (.bool true) ∧ Calls Tryz.prog 21 #[.slice x os.length c, .pointer (some ⟨w1.heap.size, 0, none⟩)] (w1.alloc (.cells #[.slice none 0 0, .slice none 0 0] 48)) fun e w3 => e = .returned (.bool true) ∧
      Calls Tryz.prog 22 #[.slice x os.length c] w3 fun e w4 => ∃ ua un uc, e = .returned (.slice ua un uc) ∧ Calls Tryz.prog 21 #[.slice ua un uc, .pointer (some ⟨w1.heap.size, 0, none⟩)] w4 fun e w5 => e = .returned (.bool true) ∧
      Calls Tryz.prog 21 #[.slice x os.length c, .pointer (some ⟨w1.heap.size, 0, none⟩)] w5 fun e w6 => e = .returned (.bool true) ∧ Below w.heap.size w w6) := by
    refine (awake_any w hG).mono ?_
    rintro e w1 ⟨rfl, b1⟩
    refine ⟨rfl, (((TyS.start b1).args hR).checks hG hl hx).mono ?_⟩
    rintro e w3 ⟨rfl, s3⟩
    refine ⟨rfl, (s3.turned hl hR).mono ?_⟩
    rintro e w4 ⟨a, cp, os', rfl, hT, hn, hR4, _⟩
    refine ⟨a, _, cp, rfl, (hR4.checks hG (by rw [hT.1]; exact hl) hn).mono ?_⟩
    rintro e w5 ⟨rfl, s5⟩
    refine ⟨rfl, ((s5.args hR).checks hG hl hx).mono ?_⟩
    rintro e w6 ⟨rfl, s6⟩
    exact ⟨rfl, s6.bel⟩
  clear hG hl hR hx
  go_enter Tryz.func4, Tryz.ntmps4
  go_wp2_with fail
  refine HC.out.mono ?_
  rintro e w1 ⟨rfl, h1⟩
  have H1 := hid h1
  clear h1 HC
  go_wp2_with fail
  refine H1.out.mono ?_
  rintro e w3 ⟨rfl, h3⟩
  have H3 := hid h3
  clear h3 H1
  go_wp2_with fail
  refine H3.out.mono ?_
  rintro e w4 ⟨ua, un, uc, rfl, h4⟩
  have H4 := hid h4
  clear h4 H3
  go_wp2_with fail
  refine H4.out.mono ?_
  rintro e w5 ⟨rfl, h5⟩
  have H5 := hid h5
  clear h5 H4
  go_wp2_with fail
  refine H5.out.mono ?_
  rintro e w6 ⟨rfl, h6⟩
  have H6 := hid h6
  clear h6 H5
  go_wp2
  go_ret
  exact ⟨rfl, H6.out⟩

end Go.Proofs.YthkkdmblkalknaaGreatDoor
