/-
  Package disk: Read, Blocks, On, Image, Fuse.
-/
import Derived.Test.YtokgfnfgpjkpjaaDk2
namespace Go.Proofs.Ytokgfnfgpjkpjaa
open Go.RowKit

theorem cell_new {w : World} {vs : Array Value} {t : TypeId} {S : Nat} (hS : w.heap.size = S) (i : Nat) (v : Value) (h : vs[i]? = some v) : (w.alloc (.cells vs t)).cell? ⟨S, i, none⟩ = some v := by
  have e : (w.alloc (.cells vs t)).heap[S]? = some (.cells vs t) := by
    subst hS
    show (w.heap.push _)[w.heap.size]? = _
    simp
  simp [World.cell?, e, h]
/-- the world in which two checks are asked: what the second has caught, and the list of both -/
theorem two_ready (w : World) (v : Value) (t : TypeId) (f : Nat) {w2 : World} (e : w2 = (w.alloc (.cells #[v] t)).alloc (.cells #[.func (.func 32) #[] #[], .func (.func f) #[] #[.pointer (some ⟨w.heap.size, 0, none⟩)]] 71)) :
    Below w.heap.size w w2 ∧ w2.cell? ⟨w.heap.size, 0, none⟩ = some v ∧ w2.cell? ⟨w.heap.size + 1, 0, none⟩ = some (.func (.func 32) #[] #[]) ∧ w2.cell? ⟨w.heap.size + 1, 1, none⟩ = some (.func (.func f) #[] #[.pointer (some ⟨w.heap.size, 0, none⟩)]) := by
  subst e
  have z : (w.alloc (.cells #[v] t)).heap.size = w.heap.size + 1 := by simp
  refine ⟨((Below.refl _ _).alloc (Nat.le_refl _) _).alloc (by omega) _, ?_, cell_new z 0 _ rfl, cell_new z 1 _ rfl⟩
  rw [World.cell?_alloc_past _ _ _ (by simp)]
  exact cell_new rfl 0 _ rfl

/-- what a Read answers: the number of its error, and the bytes -/
def readR (img : List Int) (puts : List (Nat × List Int)) (off : Bool) (nb : Nat) (x : Int) : Int × List Int :=
  if off then (24, []) else if x < 0 ∨ (nb : Int) ≤ x then (22, []) else (0, seenZ img puts x.toNat)

set_option maxRecDepth 100000 in
set_option maxHeartbeats 1000000 in
theorem Read_any {X : Nat → Prop} {w : World} {p : Nat} {img : List Int} {puts : List (Nat × List Int)} {fu : Int} {off : Bool} {nb : Nat} (h : Dk X w p img puts fu off nb) (x : Int) (hl : puts.length ≤ 1073741824) :
    Calls Try.prog 28 #[.pointer (some ⟨p, 0, none⟩), .int .i64 x] w fun e w' => ∃ al c, e = .returned (.tuple #[.slice al (readR img puts off nb x).2.length c, .int .i64 (readR img puts off nb x).1]) ∧
      ((al = none ∧ c = 0 ∧ (readR img puts off nb x).2 = []) ∨ ∃ g, al = some ⟨g, 0, none⟩ ∧ w.heap.size ≤ g ∧ Own w' g (readR img puts off nb x).2.length c (readR img puts off nb x).2) ∧ Below w.heap.size w w' := by
  obtain ⟨ds, gL, cL, pv, mp, rfl, h⟩ := h
  have HI := hid (isThere_any x w)
  obtain ⟨w2, hw2⟩ : ∃ w2, w2 = (w.alloc (.cells #[.int .i64 x] 3)).alloc (.cells #[.func (.func 32) #[] #[], .func (.func 48) #[] #[.pointer (some ⟨w.heap.size, 0, none⟩)]] 71) := ⟨_, rfl⟩
  obtain ⟨b2, hc, k0, k1⟩ := two_ready w _ _ _ hw2
  have HT : Calls Try.prog 48 (#[.pointer (some ⟨p, 0, none⟩)] ++ #[.pointer (some ⟨w.heap.size, 0, none⟩)]) w2 fun e w' => e = .returned (.int .i64 (if x < 0 ∨ (nb : Int) ≤ x then 22 else 0)) ∧ Below w2.heap.size w2 w' := isThere1_any h.hi hc (h.blk.of_block (b2.block p h.blk.lt))
  have HA := hid (ask_two (f := 48) (cap := #[.pointer (some ⟨w.heap.size, 0, none⟩)]) (Q := fun e w' => e = .returned (.int .i64 (if off then 24 else if x < 0 ∨ (nb : Int) ≤ x then 22 else 0)) ∧ Below w.heap.size w w') (k := w.heap.size + 1) (.inl rfl) (h.blk.of_block (b2.block p h.blk.lt)) HT k0 k1 (fun e => ⟨by rw [e]; rfl, b2⟩) (fun e w' hb => ⟨by rw [e]; rfl, b2.trans (hb.mono b2.size)⟩))
  clear k0 k1 hc b2 HT
  go_enter Try.func28, Try.ntmps28
  go_wp2_with fail
  refine Calls.mono HI.out ?_
  rintro e w1 ⟨rfl, rfl⟩
  go_wp2_with fail
  rw [← hw2]
  refine Calls.mono HA.out ?_
  rintro e w3 ⟨rfl, hb3⟩
  have Hb3 := hid hb3
  have H3 := hid (h.keep (w' := w3) (fun x _ hx => hb3.block x hx))
  clear hw2 HA HI hb3 h
  cases off
  · by_cases hx : x < 0 ∨ (nb : Int) ≤ x
    · simp only [if_pos hx, Bool.false_eq_true, if_false]
      have hr : readR img (ds.map Pw.put) false nb x = (22, []) := by simp only [readR, if_pos hx, Bool.false_eq_true, if_false]
      clear hx
      go_wp2
      go_ret2
      rw [hr]
      exact ⟨none, 0, rfl, .inl ⟨rfl, rfl, rfl⟩, Hb3.out⟩
    · obtain ⟨y, rfl⟩ : ∃ y : Nat, x = y := ⟨x.toNat, by omega⟩
      have HSn := hid (seen_any H3.out y (by omega) (by simpa using hl))
      have hr : readR img (ds.map Pw.put) false nb (y : Int) = (0, seenZ img (ds.map Pw.put) y) := by simp only [readR, if_neg hx, Bool.false_eq_true, if_false, Int.toNat_natCast]
      simp only [if_neg hx, Bool.false_eq_true, if_false]
      clear hx
      go_wp2_with fail
      refine Calls.mono HSn.out ?_
      rintro e w4 ⟨ad, c, rfl, hR, rfl⟩
      have HCl := hid (Clone_any ad 512 c _ w4 (by omega) hR)
      have hlen := hR.1
      clear hR HSn
      generalize seenZ img (ds.map Pw.put) y = Z at *
      go_wp2_with fail
      refine Calls.mono HCl.out ?_
      rintro e w5 ⟨g, cap, rfl, hg, hO, hb5⟩
      have HO := hid hO
      have Hb5 := hid hb5
      have Hg := hid hg
      clear hO hb5 hg HCl
      go_wp2
      go_ret2
      rw [hr]
      show ∃ al c, _ = Ending.returned (.tuple #[.slice al Z.length c, .int .i64 0]) ∧ ((al = none ∧ c = 0 ∧ Z = []) ∨ ∃ g, al = some ⟨g, 0, none⟩ ∧ _ ≤ g ∧ Own _ g Z.length c Z) ∧ _
      rw [hlen]
      exact ⟨some ⟨g, 0, none⟩, cap, rfl, .inr ⟨g, rfl, Nat.le_trans Hb3.out.size Hg.out, HO.out⟩, Hb3.out.trans (Hb5.out.mono Hb3.out.size)⟩
  · simp only [if_true]
    have hr : readR img (ds.map Pw.put) true nb x = (24, []) := by simp only [readR, if_true]
    go_wp2
    go_ret2
    rw [hr]
    exact ⟨none, 0, rfl, .inl ⟨rfl, rfl, rfl⟩, Hb3.out⟩

theorem On_any {X : Nat → Prop} {w : World} {p : Nat} {img : List Int} {puts : List (Nat × List Int)} {fu : Int} {off : Bool} {nb : Nat} (h : Dk X w p img puts fu off nb) :
    Calls Try.prog 18 #[.pointer (some ⟨p, 0, none⟩)] w fun e w' => e = .returned (.bool (!off)) ∧ Below w.heap.size w w' := by
  obtain ⟨ds, gL, cL, pv, mp, rfl, h⟩ := h
  have b2 : Below w.heap.size w (w.alloc (.cells #[.func (.func 32) #[] #[]] 71)) := (Below.refl _ _).alloc (Nat.le_refl _) _
  have HA := hid (ask_on (k := w.heap.size) (h.blk.of_block (b2.block p h.blk.lt)) (cell_new rfl 0 _ rfl))
  have Hb := hid b2
  clear h b2
  go_enter Try.func18, Try.ntmps18
  go_wp2_with fail
  refine Calls.mono HA.out ?_
  rintro e w1 ⟨rfl, rfl⟩
  clear HA
  cases off
  · go_wp2
    go_ret
    exact ⟨rfl, Hb.out⟩
  · go_wp2
    go_ret
    exact ⟨rfl, Hb.out⟩

set_option maxRecDepth 100000 in
theorem Image_any {X : Nat → Prop} {w : World} {p : Nat} {img : List Int} {puts : List (Nat × List Int)} {fu : Int} {off : Bool} {nb : Nat} (h : Dk X w p img puts fu off nb) :
    Calls Try.prog 21 #[.pointer (some ⟨p, 0, none⟩)] w fun e w' => ∃ g c, e = .returned (.tuple #[.slice (some ⟨g, 0, none⟩) img.length c, .int .i64 0]) ∧ w.heap.size ≤ g ∧ Own w' g img.length c img ∧ Below w.heap.size w w' := by
  obtain ⟨ds, gL, cL, pv, mp, rfl, h⟩ := h
  have hlen := h.own.len
  have hhi := h.hi
  have HCl := hid (Clone_any ⟨gL, 0, none⟩ (512 * nb) cL img w (by omega) (h.own.rd h.isb))
  have q0 := h.blk.cell 0
  simp only [List.getElem?_toArray, List.getElem?_cons_zero] at q0
  clear h
  go_enter Try.func21, Try.ntmps21
  go_wp2_with fail
  refine (ask_none w).mono ?_
  rintro e w1 ⟨rfl, rfl⟩
  go_wp2_with fail
  refine Calls.mono HCl.out ?_
  rintro e w5 ⟨g, cap, rfl, hg, hO, hb5⟩
  have HO := hid hO
  have Hb5 := hid hb5
  have Hg := hid hg
  clear hO hb5 hg HCl q0
  go_wp2
  go_ret2
  rw [hlen]
  exact ⟨g, cap, rfl, Hg.out, HO.out, Hb5.out⟩

/-- what SetFuse answers -/
def fuseR (off : Bool) (k : Int) : Int := if off then 24 else if k < -1 then 25 else 0

end Go.Proofs.Ytokgfnfgpjkpjaa
