import Derived.Test.YtddddfankeepkaaGreatDoorF26
import Derived.Test.YtddddfankeepkaaGreatDoorF27
import Derived.Test.YtddddfankeepkaaGreatDoorF28
import Derived.Test.YtddddfankeepkaaGreatDoorF29
import Derived.Test.YtddddfankeepkaaGreatDoorF30
import Derived.Test.YtddddfankeepkaaGreatDoorF03
import Derived.Test.YtddddfankeepkaaGreatDoorF11
namespace Go.Proofs.YtddddfankeepkaaGreatDoor
open Go.RowKit
set_option maxRecDepth 100000 in
set_option maxHeartbeats 4000000 in
theorem form_out (o : OW) (a : Option Addr) (dn c : Nat) (w : World) (h : o.k < 1 ∨ 11 < o.k) : Calls Tryz.prog 79 #[opA o a dn c] w fun e w' => LkQ w (fmE o dn) e w' := by
 rw [show fmE o dn = 100 by rw [fm_doc, if_pos h]]
 have HB := hid (below1 w (.cells #[.int .i64 o.k, .string o.nm, .string o.ot, .int .i64 o.fr, .int .i64 o.tt, .slice a dn c] 42))
 obtain ⟨k, nm, ot, fr, tt⟩ := o
 dsimp only [opA] at *
 by_cases h1 : k < 1
 ·clear h
  go_enter Tryz.func79, Tryz.ntmps79
  go_wp2
  go_ret
  exact ⟨rfl, HB.out⟩
 ·have h2 : 11 < k := by omega
  clear h
  go_enter Tryz.func79, Tryz.ntmps79
  go_wp2
  go_ret
  exact ⟨rfl, HB.out⟩
theorem form_any (o : OW) (a : Option Addr) (dn c : Nat) (w : World) (hok : okW o) : Calls Tryz.prog 79 #[opA o a dn c] w fun e w' => LkQ w (fmE o dn) e w' := by
 by_cases h : o.k < 1 ∨ 11 < o.k
 ·exact form_out o a dn c w h
 have h1 := hok.nm
 have h2 := hok.ot
 obtain ⟨k, nm, ot, fr, tt⟩ := o
 dsimp only at h h1 h2
 rcases kind_cases (show 1 ≤ k by omega) (show k ≤ 11 by omega) with rfl | rfl | rfl | rfl | rfl | rfl | rfl | rfl | rfl | rfl | rfl
 ·exact form_1 nm ot fr tt a dn c w h1 h2
 ·exact form_2 nm ot fr tt a dn c w h1 h2
 ·exact form_3 nm ot fr tt a dn c w h1 h2
 ·exact form_4 nm ot fr tt a dn c w h1 h2
 ·exact form_5 nm ot fr tt a dn c w h1 h2
 ·exact form_6 nm ot fr tt a dn c w h1 h2
 ·exact form_7 nm ot fr tt a dn c w h1 h2
 ·exact form_8 nm ot fr tt a dn c w h1 h2
 ·exact form_9 nm ot fr tt a dn c w h1 h2
 ·exact form_10 nm ot fr tt a dn c w h1 h2
 ·exact form_11 nm ot fr tt a dn c w h1 h2
theorem names_any (x : VW) (a : Option Addr) (c0 : Nat) (o : OW) (da : Option Addr) (dn dc : Nat) (w : World) (h1 : 1 ≤ o.k) (h2 : o.k ≤ 11) (hl : x.vs.length ≤ 16777216) (hR : RdV w.heap.size w a x.vs) : Calls Tryz.prog 80 #[viewA x a c0, opA o da dn dc] w fun e w' => LkQ w (rNam o.k (plcF x.vs o.nm 0) (plcF x.vs o.ot 0)) e w' := by
 obtain ⟨k, nm, ot, fr, tt⟩ := o
 dsimp only at h1 h2
 rcases kind_cases h1 h2 with rfl | rfl | rfl | rfl | rfl | rfl | rfl | rfl | rfl | rfl | rfl
 ·exact names_1 x a c0 nm ot fr tt da dn dc w hl hR
 ·exact names_2 x a c0 nm ot fr tt da dn dc w hl hR
 ·exact names_3 x a c0 nm ot fr tt da dn dc w hl hR
 ·exact names_4 x a c0 nm ot fr tt da dn dc w hl hR
 ·exact names_5 x a c0 nm ot fr tt da dn dc w hl hR
 ·exact names_6 x a c0 nm ot fr tt da dn dc w hl hR
 ·exact names_7 x a c0 nm ot fr tt da dn dc w hl hR
 ·exact names_8 x a c0 nm ot fr tt da dn dc w hl hR
 ·exact names_9 x a c0 nm ot fr tt da dn dc w hl hR
 ·exact names_10 x a c0 nm ot fr tt da dn dc w hl hR
 ·exact names_11 x a c0 nm ot fr tt da dn dc w hl hR
theorem nam_there {k pn po : Int} (h : rNam k pn po = 0) : (mkK k = false → k ≠ 11 → 0 ≤ pn) ∧ (tkK k = true → 0 ≤ po) := by
 unfold rNam at h
 by_cases q : (pn < 0 ∧ mkK k = false ∧ k ≠ 11) ∨ (tkK k = true ∧ po < 0)
 ·rw [if_pos q] at h
  exact absurd h (by decide)
 ·exact ⟨fun a b => by
   by_cases c : 0 ≤ pn
   ·exact c
   ·exact absurd (.inl ⟨by omega, a, b⟩) q, fun a => by
   by_cases c : 0 ≤ po
   ·exact c
   ·exact absurd (.inr ⟨a, by omega⟩) q⟩
theorem sizes_any (x : VW) (a : Option Addr) (c0 : Nat) (o : OW) (da : Option Addr) (dn dc : Nat) (w : World) (h1 : 1 ≤ o.k) (h2 : o.k ≤ 11) (hl : x.vs.length ≤ 16777216) (hR : RdV w.heap.size w a x.vs) (hn : rNam o.k (plcF x.vs o.nm 0) (plcF x.vs o.ot 0) = 0) : Calls Tryz.prog 81 #[viewA x a c0, opA o da dn dc] w fun e w' => LkQ w (rSiz o.k o.fr o.tt x.cp (szAt x (plcF x.vs o.nm 0))) e w' := by
 have ht := nam_there hn
 obtain ⟨k, nm, ot, fr, tt⟩ := o
 dsimp only at h1 h2 ht
 rcases kind_cases h1 h2 with rfl | rfl | rfl | rfl | rfl | rfl | rfl | rfl | rfl | rfl | rfl
 ·exact sizes_1 x a c0 nm ot fr tt da dn dc w hl hR
 ·exact sizes_2 x a c0 nm ot fr tt da dn dc w hl hR
 ·exact sizes_3 x a c0 nm ot fr tt da dn dc w hl hR
 ·exact sizes_4 x a c0 nm ot fr tt da dn dc w hl hR (ht.1 (by decide) (by decide))
 ·exact sizes_5 x a c0 nm ot fr tt da dn dc w hl hR (ht.1 (by decide) (by decide))
 ·exact sizes_6 x a c0 nm ot fr tt da dn dc w hl hR (ht.1 (by decide) (by decide))
 ·exact sizes_7 x a c0 nm ot fr tt da dn dc w hl hR (ht.1 (by decide) (by decide))
 ·exact sizes_8 x a c0 nm ot fr tt da dn dc w hl hR (ht.1 (by decide) (by decide))
 ·exact sizes_9 x a c0 nm ot fr tt da dn dc w hl hR (ht.1 (by decide) (by decide))
 ·exact sizes_10 x a c0 nm ot fr tt da dn dc w hl hR (ht.1 (by decide) (by decide))
 ·exact sizes_11 x a c0 nm ot fr tt da dn dc w hl hR
theorem partial_any (x : VW) (a : Option Addr) (c0 : Nat) (o : OW) (da : Option Addr) (dn dc : Nat) (w : World) (h1 : 1 ≤ o.k) (h2 : o.k ≤ 11) (hl : x.vs.length ≤ 16777216) (hR : RdV w.heap.size w a x.vs) (hn : rNam o.k (plcF x.vs o.nm 0) (plcF x.vs o.ot 0) = 0) : Calls Tryz.prog 82 #[viewA x a c0, opA o da dn dc] w fun e w' => BoQ w (rPar x o.k (plcF x.vs o.nm 0) (plcF x.vs o.ot 0)) e w' := by
 have ht := nam_there hn
 obtain ⟨k, nm, ot, fr, tt⟩ := o
 dsimp only at h1 h2 ht
 rcases kind_cases h1 h2 with rfl | rfl | rfl | rfl | rfl | rfl | rfl | rfl | rfl | rfl | rfl
 ·exact partial_1 x a c0 nm ot fr tt da dn dc w hl hR
 ·exact partial_2 x a c0 nm ot fr tt da dn dc w hl hR (ht.2 (by decide))
 ·exact partial_3 x a c0 nm ot fr tt da dn dc w hl hR (ht.2 (by decide))
 ·exact partial_4 x a c0 nm ot fr tt da dn dc w hl hR
 ·exact partial_5 x a c0 nm ot fr tt da dn dc w hl hR
 ·exact partial_6 x a c0 nm ot fr tt da dn dc w hl hR
 ·exact partial_7 x a c0 nm ot fr tt da dn dc w hl hR (ht.2 (by decide))
 ·exact partial_8 x a c0 nm ot fr tt da dn dc w hl hR
 ·exact partial_9 x a c0 nm ot fr tt da dn dc w hl hR
 ·exact partial_10 x a c0 nm ot fr tt da dn dc w hl hR
 ·exact partial_11 x a c0 nm ot fr tt da dn dc w hl hR
theorem rest_any (x : VW) (a : Option Addr) (c0 : Nat) (o : OW) (da : Option Addr) (dn dc : Nat) (w : World) (h1 : 1 ≤ o.k) (h2 : o.k ≤ 11) (hl : x.vs.length ≤ 16777216) (hR : RdV w.heap.size w a x.vs) (hn : rNam o.k (plcF x.vs o.nm 0) (plcF x.vs o.ot 0) = 0) : Calls Tryz.prog 83 #[viewA x a c0, opA o da dn dc] w fun e w' => LkQ w (rRst x o.k (plcF x.vs o.nm 0)) e w' := by
 have ht := nam_there hn
 obtain ⟨k, nm, ot, fr, tt⟩ := o
 dsimp only at h1 h2 ht
 rcases kind_cases h1 h2 with rfl | rfl | rfl | rfl | rfl | rfl | rfl | rfl | rfl | rfl | rfl
 ·exact rest_1 x a c0 nm ot fr tt da dn dc w hl hR
 ·exact rest_2 x a c0 nm ot fr tt da dn dc w hl hR
 ·exact rest_3 x a c0 nm ot fr tt da dn dc w hl hR
 ·exact rest_4 x a c0 nm ot fr tt da dn dc w hl hR
 ·exact rest_5 x a c0 nm ot fr tt da dn dc w hl hR
 ·exact rest_6 x a c0 nm ot fr tt da dn dc w hl hR (ht.1 (by decide) (by decide))
 ·exact rest_7 x a c0 nm ot fr tt da dn dc w hl hR
 ·exact rest_8 x a c0 nm ot fr tt da dn dc w hl hR
 ·exact rest_9 x a c0 nm ot fr tt da dn dc w hl hR
 ·exact rest_10 x a c0 nm ot fr tt da dn dc w hl hR
 ·exact rest_11 x a c0 nm ot fr tt da dn dc w hl hR
set_option maxRecDepth 100000 in
set_option maxHeartbeats 8000000 in
theorem refused_F (x : VW) (a : Option Addr) (c0 : Nat) (o : OW) (da : Option Addr) (dn dc : Nat) (w : World) (hok : okW o) (_hl : x.vs.length ≤ 16777216) (hR : RdV w.heap.size w a x.vs) (h1 : fmE o dn ≠ 0) :
  Calls Tryz.prog 38 #[viewA x a c0, opA o da dn dc] w fun e w' => LkQ w (fmE o dn) e w' := by
 obtain ⟨P, hP⟩ : ∃ P, P = w.heap.size := ⟨_, rfl⟩
 obtain ⟨O, hOe⟩ : ∃ O, O = w.heap.size + 1 := ⟨_, rfl⟩
 obtain ⟨W1, hW1⟩ : ∃ W1, W1 = (w.alloc (.cells #[.int .i64 x.cp, .int .i64 x.fr, .int .i64 x.nx, .slice a x.vs.length c0] 24)).alloc (.cells #[.int .i64 o.k, .string o.nm, .string o.ot, .int .i64 o.fr, .int .i64 o.tt, .slice da dn dc] 42) := ⟨_, rfl⟩
 have b1 : Below w.heap.size w W1 := by rw [hW1]; exact two_below _ _ _
 have hV : VwB W1 P x (.slice a x.vs.length c0) := by
  unfold VwB
  rw [hW1, hP, Below.heap_alloc _ _ _ (by simp)]
  exact heap_new _ _
 have hO : W1.heap[O]? = some (.cells #[.int .i64 o.k, .string o.nm, .string o.ot, .int .i64 o.fr, .int .i64 o.tt, .slice da dn dc] 42 (0, 0)) := by
  have := heap_new (w.alloc (.cells #[.int .i64 x.cp, .int .i64 x.fr, .int .i64 x.nx, .slice a x.vs.length c0] 24)) (.cells #[.int .i64 o.k, .string o.nm, .string o.ot, .int .i64 o.fr, .int .i64 o.tt, .slice da dn dc] 42)
  rw [World.size_alloc, ← hOe, ← hW1] at this
  exact this
 have hR1 := (hR.below b1).mono b1.size
 have HOc : Hid (∀ u, Below W1.heap.size W1 u → u.cell? ⟨O, 0, none⟩ = some (.int .i64 o.k) ∧ u.cell? ⟨O, 1, none⟩ = some (.string o.nm) ∧ u.cell? ⟨O, 2, none⟩ = some (.string o.ot) ∧ u.cell? ⟨O, 3, none⟩ = some (.int .i64 o.fr) ∧ u.cell? ⟨O, 4, none⟩ = some (.int .i64 o.tt) ∧ u.cell? ⟨O, 5, none⟩ = some (.slice da dn dc)) := hid (fun u hu => by
  have := (hu.block O (Array.getElem?_eq_some_iff.1 hO).1).trans hO
  simp [World.cell?, this])
 have HFo := hid (form_any o da dn dc W1 hok)
 obtain ⟨z, hz⟩ : ∃ z, z = fmE o dn := ⟨_, rfl⟩
 rw [← hz] at HFo h1 ⊢
 have q1 : (z == 0) = false := by simpa using h1
 clear hz h1
 have HV := hid hV
 have HB1 := hid b1
 have HU1 : Hid (Below W1.heap.size W1 W1) := hid (Below.refl _ _)
 have HPO := hid (And.intro hP.symm hOe.symm)
 have HW1 := hid hW1
 obtain ⟨⟨p0, p1, p2, p3⟩, _⟩ := (HV.out.keep (HU1.out.block P HV.out.lt)).cs
 obtain ⟨d0, d1, d2, d3, d4, d5⟩ := HOc.out W1 HU1.out
 rw [hW1] at d0 d1 d2 d3 d4 d5 p0 p1 p2 p3
 clear hP hOe hW1 b1 hV hO hR1 hR
 dsimp only [viewA, opA] at *
 go_enter Tryz.func38, Tryz.ntmps38
 go_wp2_with fail
 rw [← HW1.out]
 try rw [HPO.out.2]
 try rw [HPO.out.1]
 refine (HFo.out).mono ?_
 rintro e u2 ⟨rfl, hu2⟩
 have HU2 := hid (HU1.out.trans (hu2.mono HU1.out.size))
 clear hu2
 clear p0 p1 p2 p3 d0 d1 d2 d3 d4 d5
 go_wp2
 go_ret
 exact ⟨rfl, HB1.out.trans (HU2.out.mono HB1.out.size)⟩
set_option maxRecDepth 100000 in
set_option maxHeartbeats 8000000 in
theorem refused_N (x : VW) (a : Option Addr) (c0 : Nat) (o : OW) (da : Option Addr) (dn dc : Nat) (w : World) (hok : okW o) (hl : x.vs.length ≤ 16777216) (hR : RdV w.heap.size w a x.vs) (h1 : fmE o dn = 0) (h2 : rNam o.k (plcF x.vs o.nm 0) (plcF x.vs o.ot 0) ≠ 0) :
  Calls Tryz.prog 38 #[viewA x a c0, opA o da dn dc] w fun e w' => LkQ w (rNam o.k (plcF x.vs o.nm 0) (plcF x.vs o.ot 0)) e w' := by
 obtain ⟨P, hP⟩ : ∃ P, P = w.heap.size := ⟨_, rfl⟩
 obtain ⟨O, hOe⟩ : ∃ O, O = w.heap.size + 1 := ⟨_, rfl⟩
 obtain ⟨W1, hW1⟩ : ∃ W1, W1 = (w.alloc (.cells #[.int .i64 x.cp, .int .i64 x.fr, .int .i64 x.nx, .slice a x.vs.length c0] 24)).alloc (.cells #[.int .i64 o.k, .string o.nm, .string o.ot, .int .i64 o.fr, .int .i64 o.tt, .slice da dn dc] 42) := ⟨_, rfl⟩
 have b1 : Below w.heap.size w W1 := by rw [hW1]; exact two_below _ _ _
 have hV : VwB W1 P x (.slice a x.vs.length c0) := by
  unfold VwB
  rw [hW1, hP, Below.heap_alloc _ _ _ (by simp)]
  exact heap_new _ _
 have hO : W1.heap[O]? = some (.cells #[.int .i64 o.k, .string o.nm, .string o.ot, .int .i64 o.fr, .int .i64 o.tt, .slice da dn dc] 42 (0, 0)) := by
  have := heap_new (w.alloc (.cells #[.int .i64 x.cp, .int .i64 x.fr, .int .i64 x.nx, .slice a x.vs.length c0] 24)) (.cells #[.int .i64 o.k, .string o.nm, .string o.ot, .int .i64 o.fr, .int .i64 o.tt, .slice da dn dc] 42)
  rw [World.size_alloc, ← hOe, ← hW1] at this
  exact this
 have hR1 := (hR.below b1).mono b1.size
 have HOc : Hid (∀ u, Below W1.heap.size W1 u → u.cell? ⟨O, 0, none⟩ = some (.int .i64 o.k) ∧ u.cell? ⟨O, 1, none⟩ = some (.string o.nm) ∧ u.cell? ⟨O, 2, none⟩ = some (.string o.ot) ∧ u.cell? ⟨O, 3, none⟩ = some (.int .i64 o.fr) ∧ u.cell? ⟨O, 4, none⟩ = some (.int .i64 o.tt) ∧ u.cell? ⟨O, 5, none⟩ = some (.slice da dn dc)) := hid (fun u hu => by
  have := (hu.block O (Array.getElem?_eq_some_iff.1 hO).1).trans hO
  simp [World.cell?, this])
 have HFo := hid (form_any o da dn dc W1 hok)
 obtain ⟨k1, k2, _⟩ := fmE_zero h1
 have HNa := hid (fun u (hu : Below W1.heap.size W1 u) => names_any x a c0 o da dn dc u k1 k2 hl ((hR1.below hu).mono hu.size))
 rw [h1] at HFo
 obtain ⟨z, hz⟩ : ∃ z, z = rNam o.k (plcF x.vs o.nm 0) (plcF x.vs o.ot 0) := ⟨_, rfl⟩
 rw [← hz] at HNa h2 ⊢
 have q1 : (z == 0) = false := by simpa using h2
 clear hz h2 h1
 have HV := hid hV
 have HB1 := hid b1
 have HU1 : Hid (Below W1.heap.size W1 W1) := hid (Below.refl _ _)
 have HPO := hid (And.intro hP.symm hOe.symm)
 have HW1 := hid hW1
 obtain ⟨⟨p0, p1, p2, p3⟩, _⟩ := (HV.out.keep (HU1.out.block P HV.out.lt)).cs
 obtain ⟨d0, d1, d2, d3, d4, d5⟩ := HOc.out W1 HU1.out
 rw [hW1] at d0 d1 d2 d3 d4 d5 p0 p1 p2 p3
 clear hP hOe hW1 b1 hV hO hR1 hR
 dsimp only [viewA, opA] at *
 go_enter Tryz.func38, Tryz.ntmps38
 go_wp2_with fail
 rw [← HW1.out]
 try rw [HPO.out.2]
 try rw [HPO.out.1]
 refine (HFo.out).mono ?_
 rintro e u2 ⟨rfl, hu2⟩
 have HU2 := hid (HU1.out.trans (hu2.mono HU1.out.size))
 clear hu2
 clear p0 p1 p2 p3 d0 d1 d2 d3 d4 d5
 obtain ⟨⟨p0, p1, p2, p3⟩, _⟩ := (HV.out.keep ((HU2.out).block P HV.out.lt)).cs
 obtain ⟨d0, d1, d2, d3, d4, d5⟩ := HOc.out u2 (HU2.out)
 go_wp2_with fail
 refine (HNa.out u2 HU2.out).mono ?_
 rintro e u3 ⟨rfl, hu3⟩
 have HU3 := hid (HU2.out.trans (hu3.mono HU2.out.size))
 clear hu3
 clear p0 p1 p2 p3 d0 d1 d2 d3 d4 d5
 go_wp2
 go_ret
 exact ⟨rfl, HB1.out.trans (HU3.out.mono HB1.out.size)⟩
set_option maxRecDepth 100000 in
set_option maxHeartbeats 8000000 in
theorem refused_S (x : VW) (a : Option Addr) (c0 : Nat) (o : OW) (da : Option Addr) (dn dc : Nat) (w : World) (hok : okW o) (hl : x.vs.length ≤ 16777216) (hR : RdV w.heap.size w a x.vs) (h1 : fmE o dn = 0) (h2 : rNam o.k (plcF x.vs o.nm 0) (plcF x.vs o.ot 0) = 0) (h3 : rSiz o.k o.fr o.tt x.cp (szAt x (plcF x.vs o.nm 0)) ≠ 0) :
  Calls Tryz.prog 38 #[viewA x a c0, opA o da dn dc] w fun e w' => LkQ w (rSiz o.k o.fr o.tt x.cp (szAt x (plcF x.vs o.nm 0))) e w' := by
 obtain ⟨P, hP⟩ : ∃ P, P = w.heap.size := ⟨_, rfl⟩
 obtain ⟨O, hOe⟩ : ∃ O, O = w.heap.size + 1 := ⟨_, rfl⟩
 obtain ⟨W1, hW1⟩ : ∃ W1, W1 = (w.alloc (.cells #[.int .i64 x.cp, .int .i64 x.fr, .int .i64 x.nx, .slice a x.vs.length c0] 24)).alloc (.cells #[.int .i64 o.k, .string o.nm, .string o.ot, .int .i64 o.fr, .int .i64 o.tt, .slice da dn dc] 42) := ⟨_, rfl⟩
 have b1 : Below w.heap.size w W1 := by rw [hW1]; exact two_below _ _ _
 have hV : VwB W1 P x (.slice a x.vs.length c0) := by
  unfold VwB
  rw [hW1, hP, Below.heap_alloc _ _ _ (by simp)]
  exact heap_new _ _
 have hO : W1.heap[O]? = some (.cells #[.int .i64 o.k, .string o.nm, .string o.ot, .int .i64 o.fr, .int .i64 o.tt, .slice da dn dc] 42 (0, 0)) := by
  have := heap_new (w.alloc (.cells #[.int .i64 x.cp, .int .i64 x.fr, .int .i64 x.nx, .slice a x.vs.length c0] 24)) (.cells #[.int .i64 o.k, .string o.nm, .string o.ot, .int .i64 o.fr, .int .i64 o.tt, .slice da dn dc] 42)
  rw [World.size_alloc, ← hOe, ← hW1] at this
  exact this
 have hR1 := (hR.below b1).mono b1.size
 have HOc : Hid (∀ u, Below W1.heap.size W1 u → u.cell? ⟨O, 0, none⟩ = some (.int .i64 o.k) ∧ u.cell? ⟨O, 1, none⟩ = some (.string o.nm) ∧ u.cell? ⟨O, 2, none⟩ = some (.string o.ot) ∧ u.cell? ⟨O, 3, none⟩ = some (.int .i64 o.fr) ∧ u.cell? ⟨O, 4, none⟩ = some (.int .i64 o.tt) ∧ u.cell? ⟨O, 5, none⟩ = some (.slice da dn dc)) := hid (fun u hu => by
  have := (hu.block O (Array.getElem?_eq_some_iff.1 hO).1).trans hO
  simp [World.cell?, this])
 have HFo := hid (form_any o da dn dc W1 hok)
 obtain ⟨k1, k2, _⟩ := fmE_zero h1
 have HNa := hid (fun u (hu : Below W1.heap.size W1 u) => names_any x a c0 o da dn dc u k1 k2 hl ((hR1.below hu).mono hu.size))
 have HSi := hid (fun u (hu : Below W1.heap.size W1 u) => sizes_any x a c0 o da dn dc u k1 k2 hl ((hR1.below hu).mono hu.size) h2)
 rw [h1] at HFo
 rw [h2] at HNa
 obtain ⟨z, hz⟩ : ∃ z, z = rSiz o.k o.fr o.tt x.cp (szAt x (plcF x.vs o.nm 0)) := ⟨_, rfl⟩
 rw [← hz] at HSi h3 ⊢
 have q1 : (z == 0) = false := by simpa using h3
 clear hz h1 h2 h3
 have HV := hid hV
 have HB1 := hid b1
 have HU1 : Hid (Below W1.heap.size W1 W1) := hid (Below.refl _ _)
 have HPO := hid (And.intro hP.symm hOe.symm)
 have HW1 := hid hW1
 obtain ⟨⟨p0, p1, p2, p3⟩, _⟩ := (HV.out.keep (HU1.out.block P HV.out.lt)).cs
 obtain ⟨d0, d1, d2, d3, d4, d5⟩ := HOc.out W1 HU1.out
 rw [hW1] at d0 d1 d2 d3 d4 d5 p0 p1 p2 p3
 clear hP hOe hW1 b1 hV hO hR1 hR
 dsimp only [viewA, opA] at *
 go_enter Tryz.func38, Tryz.ntmps38
 go_wp2_with fail
 rw [← HW1.out]
 try rw [HPO.out.2]
 try rw [HPO.out.1]
 refine (HFo.out).mono ?_
 rintro e u2 ⟨rfl, hu2⟩
 have HU2 := hid (HU1.out.trans (hu2.mono HU1.out.size))
 clear hu2
 clear p0 p1 p2 p3 d0 d1 d2 d3 d4 d5
 obtain ⟨⟨p0, p1, p2, p3⟩, _⟩ := (HV.out.keep ((HU2.out).block P HV.out.lt)).cs
 obtain ⟨d0, d1, d2, d3, d4, d5⟩ := HOc.out u2 (HU2.out)
 go_wp2_with fail
 refine (HNa.out u2 HU2.out).mono ?_
 rintro e u3 ⟨rfl, hu3⟩
 have HU3 := hid (HU2.out.trans (hu3.mono HU2.out.size))
 clear hu3
 clear p0 p1 p2 p3 d0 d1 d2 d3 d4 d5
 obtain ⟨⟨p0, p1, p2, p3⟩, _⟩ := (HV.out.keep ((HU3.out).block P HV.out.lt)).cs
 obtain ⟨d0, d1, d2, d3, d4, d5⟩ := HOc.out u3 (HU3.out)
 go_wp2_with fail
 refine (HSi.out u3 HU3.out).mono ?_
 rintro e u4 ⟨rfl, hu4⟩
 have HU4 := hid (HU3.out.trans (hu4.mono HU3.out.size))
 clear hu4
 clear p0 p1 p2 p3 d0 d1 d2 d3 d4 d5
 go_wp2
 go_ret
 exact ⟨rfl, HB1.out.trans (HU4.out.mono HB1.out.size)⟩
set_option maxRecDepth 100000 in
set_option maxHeartbeats 8000000 in
theorem refused_P (x : VW) (a : Option Addr) (c0 : Nat) (o : OW) (da : Option Addr) (dn dc : Nat) (w : World) (hok : okW o) (hl : x.vs.length ≤ 16777216) (hR : RdV w.heap.size w a x.vs) (h1 : fmE o dn = 0) (h2 : rNam o.k (plcF x.vs o.nm 0) (plcF x.vs o.ot 0) = 0) (h3 : rSiz o.k o.fr o.tt x.cp (szAt x (plcF x.vs o.nm 0)) = 0) (h4 : rPar x o.k (plcF x.vs o.nm 0) (plcF x.vs o.ot 0) = true) :
  Calls Tryz.prog 38 #[viewA x a c0, opA o da dn dc] w fun e w' => LkQ w (108) e w' := by
 obtain ⟨P, hP⟩ : ∃ P, P = w.heap.size := ⟨_, rfl⟩
 obtain ⟨O, hOe⟩ : ∃ O, O = w.heap.size + 1 := ⟨_, rfl⟩
 obtain ⟨W1, hW1⟩ : ∃ W1, W1 = (w.alloc (.cells #[.int .i64 x.cp, .int .i64 x.fr, .int .i64 x.nx, .slice a x.vs.length c0] 24)).alloc (.cells #[.int .i64 o.k, .string o.nm, .string o.ot, .int .i64 o.fr, .int .i64 o.tt, .slice da dn dc] 42) := ⟨_, rfl⟩
 have b1 : Below w.heap.size w W1 := by rw [hW1]; exact two_below _ _ _
 have hV : VwB W1 P x (.slice a x.vs.length c0) := by
  unfold VwB
  rw [hW1, hP, Below.heap_alloc _ _ _ (by simp)]
  exact heap_new _ _
 have hO : W1.heap[O]? = some (.cells #[.int .i64 o.k, .string o.nm, .string o.ot, .int .i64 o.fr, .int .i64 o.tt, .slice da dn dc] 42 (0, 0)) := by
  have := heap_new (w.alloc (.cells #[.int .i64 x.cp, .int .i64 x.fr, .int .i64 x.nx, .slice a x.vs.length c0] 24)) (.cells #[.int .i64 o.k, .string o.nm, .string o.ot, .int .i64 o.fr, .int .i64 o.tt, .slice da dn dc] 42)
  rw [World.size_alloc, ← hOe, ← hW1] at this
  exact this
 have hR1 := (hR.below b1).mono b1.size
 have HOc : Hid (∀ u, Below W1.heap.size W1 u → u.cell? ⟨O, 0, none⟩ = some (.int .i64 o.k) ∧ u.cell? ⟨O, 1, none⟩ = some (.string o.nm) ∧ u.cell? ⟨O, 2, none⟩ = some (.string o.ot) ∧ u.cell? ⟨O, 3, none⟩ = some (.int .i64 o.fr) ∧ u.cell? ⟨O, 4, none⟩ = some (.int .i64 o.tt) ∧ u.cell? ⟨O, 5, none⟩ = some (.slice da dn dc)) := hid (fun u hu => by
  have := (hu.block O (Array.getElem?_eq_some_iff.1 hO).1).trans hO
  simp [World.cell?, this])
 have HFo := hid (form_any o da dn dc W1 hok)
 obtain ⟨k1, k2, _⟩ := fmE_zero h1
 have HNa := hid (fun u (hu : Below W1.heap.size W1 u) => names_any x a c0 o da dn dc u k1 k2 hl ((hR1.below hu).mono hu.size))
 have HSi := hid (fun u (hu : Below W1.heap.size W1 u) => sizes_any x a c0 o da dn dc u k1 k2 hl ((hR1.below hu).mono hu.size) h2)
 have HPa := hid (fun u (hu : Below W1.heap.size W1 u) => partial_any x a c0 o da dn dc u k1 k2 hl ((hR1.below hu).mono hu.size) h2)
 rw [h1] at HFo
 rw [h2] at HNa
 rw [h3] at HSi
 rw [h4] at HPa
 clear h1 h2 h3 h4
 have HV := hid hV
 have HB1 := hid b1
 have HU1 : Hid (Below W1.heap.size W1 W1) := hid (Below.refl _ _)
 have HPO := hid (And.intro hP.symm hOe.symm)
 have HW1 := hid hW1
 obtain ⟨⟨p0, p1, p2, p3⟩, _⟩ := (HV.out.keep (HU1.out.block P HV.out.lt)).cs
 obtain ⟨d0, d1, d2, d3, d4, d5⟩ := HOc.out W1 HU1.out
 rw [hW1] at d0 d1 d2 d3 d4 d5 p0 p1 p2 p3
 clear hP hOe hW1 b1 hV hO hR1 hR
 dsimp only [viewA, opA] at *
 go_enter Tryz.func38, Tryz.ntmps38
 go_wp2_with fail
 rw [← HW1.out]
 try rw [HPO.out.2]
 try rw [HPO.out.1]
 refine (HFo.out).mono ?_
 rintro e u2 ⟨rfl, hu2⟩
 have HU2 := hid (HU1.out.trans (hu2.mono HU1.out.size))
 clear hu2
 clear p0 p1 p2 p3 d0 d1 d2 d3 d4 d5
 obtain ⟨⟨p0, p1, p2, p3⟩, _⟩ := (HV.out.keep ((HU2.out).block P HV.out.lt)).cs
 obtain ⟨d0, d1, d2, d3, d4, d5⟩ := HOc.out u2 (HU2.out)
 go_wp2_with fail
 refine (HNa.out u2 HU2.out).mono ?_
 rintro e u3 ⟨rfl, hu3⟩
 have HU3 := hid (HU2.out.trans (hu3.mono HU2.out.size))
 clear hu3
 clear p0 p1 p2 p3 d0 d1 d2 d3 d4 d5
 obtain ⟨⟨p0, p1, p2, p3⟩, _⟩ := (HV.out.keep ((HU3.out).block P HV.out.lt)).cs
 obtain ⟨d0, d1, d2, d3, d4, d5⟩ := HOc.out u3 (HU3.out)
 go_wp2_with fail
 refine (HSi.out u3 HU3.out).mono ?_
 rintro e u4 ⟨rfl, hu4⟩
 have HU4 := hid (HU3.out.trans (hu4.mono HU3.out.size))
 clear hu4
 clear p0 p1 p2 p3 d0 d1 d2 d3 d4 d5
 obtain ⟨⟨p0, p1, p2, p3⟩, _⟩ := (HV.out.keep ((HU4.out).block P HV.out.lt)).cs
 obtain ⟨d0, d1, d2, d3, d4, d5⟩ := HOc.out u4 (HU4.out)
 go_wp2_with fail
 refine (HPa.out u4 HU4.out).mono ?_
 rintro e u5 ⟨rfl, hu5⟩
 have HU5 := hid (HU4.out.trans (hu5.mono HU4.out.size))
 clear hu5
 clear p0 p1 p2 p3 d0 d1 d2 d3 d4 d5
 go_wp2
 go_ret
 exact ⟨rfl, HB1.out.trans (HU5.out.mono HB1.out.size)⟩
set_option maxRecDepth 100000 in
set_option maxHeartbeats 8000000 in
theorem refused_R (x : VW) (a : Option Addr) (c0 : Nat) (o : OW) (da : Option Addr) (dn dc : Nat) (w : World) (hok : okW o) (hl : x.vs.length ≤ 16777216) (hR : RdV w.heap.size w a x.vs) (h1 : fmE o dn = 0) (h2 : rNam o.k (plcF x.vs o.nm 0) (plcF x.vs o.ot 0) = 0) (h3 : rSiz o.k o.fr o.tt x.cp (szAt x (plcF x.vs o.nm 0)) = 0) (h4 : rPar x o.k (plcF x.vs o.nm 0) (plcF x.vs o.ot 0) = false) :
  Calls Tryz.prog 38 #[viewA x a c0, opA o da dn dc] w fun e w' => LkQ w (rRst x o.k (plcF x.vs o.nm 0)) e w' := by
 obtain ⟨P, hP⟩ : ∃ P, P = w.heap.size := ⟨_, rfl⟩
 obtain ⟨O, hOe⟩ : ∃ O, O = w.heap.size + 1 := ⟨_, rfl⟩
 obtain ⟨W1, hW1⟩ : ∃ W1, W1 = (w.alloc (.cells #[.int .i64 x.cp, .int .i64 x.fr, .int .i64 x.nx, .slice a x.vs.length c0] 24)).alloc (.cells #[.int .i64 o.k, .string o.nm, .string o.ot, .int .i64 o.fr, .int .i64 o.tt, .slice da dn dc] 42) := ⟨_, rfl⟩
 have b1 : Below w.heap.size w W1 := by rw [hW1]; exact two_below _ _ _
 have hV : VwB W1 P x (.slice a x.vs.length c0) := by
  unfold VwB
  rw [hW1, hP, Below.heap_alloc _ _ _ (by simp)]
  exact heap_new _ _
 have hO : W1.heap[O]? = some (.cells #[.int .i64 o.k, .string o.nm, .string o.ot, .int .i64 o.fr, .int .i64 o.tt, .slice da dn dc] 42 (0, 0)) := by
  have := heap_new (w.alloc (.cells #[.int .i64 x.cp, .int .i64 x.fr, .int .i64 x.nx, .slice a x.vs.length c0] 24)) (.cells #[.int .i64 o.k, .string o.nm, .string o.ot, .int .i64 o.fr, .int .i64 o.tt, .slice da dn dc] 42)
  rw [World.size_alloc, ← hOe, ← hW1] at this
  exact this
 have hR1 := (hR.below b1).mono b1.size
 have HOc : Hid (∀ u, Below W1.heap.size W1 u → u.cell? ⟨O, 0, none⟩ = some (.int .i64 o.k) ∧ u.cell? ⟨O, 1, none⟩ = some (.string o.nm) ∧ u.cell? ⟨O, 2, none⟩ = some (.string o.ot) ∧ u.cell? ⟨O, 3, none⟩ = some (.int .i64 o.fr) ∧ u.cell? ⟨O, 4, none⟩ = some (.int .i64 o.tt) ∧ u.cell? ⟨O, 5, none⟩ = some (.slice da dn dc)) := hid (fun u hu => by
  have := (hu.block O (Array.getElem?_eq_some_iff.1 hO).1).trans hO
  simp [World.cell?, this])
 have HFo := hid (form_any o da dn dc W1 hok)
 obtain ⟨k1, k2, _⟩ := fmE_zero h1
 have HNa := hid (fun u (hu : Below W1.heap.size W1 u) => names_any x a c0 o da dn dc u k1 k2 hl ((hR1.below hu).mono hu.size))
 have HSi := hid (fun u (hu : Below W1.heap.size W1 u) => sizes_any x a c0 o da dn dc u k1 k2 hl ((hR1.below hu).mono hu.size) h2)
 have HPa := hid (fun u (hu : Below W1.heap.size W1 u) => partial_any x a c0 o da dn dc u k1 k2 hl ((hR1.below hu).mono hu.size) h2)
 have HRe := hid (fun u (hu : Below W1.heap.size W1 u) => rest_any x a c0 o da dn dc u k1 k2 hl ((hR1.below hu).mono hu.size) h2)
 rw [h1] at HFo
 rw [h2] at HNa
 rw [h3] at HSi
 rw [h4] at HPa
 clear h1 h2 h3 h4
 obtain ⟨z, hz⟩ : ∃ z, z = rRst x o.k (plcF x.vs o.nm 0) := ⟨_, rfl⟩
 rw [← hz] at HRe ⊢
 clear hz
 have HV := hid hV
 have HB1 := hid b1
 have HU1 : Hid (Below W1.heap.size W1 W1) := hid (Below.refl _ _)
 have HPO := hid (And.intro hP.symm hOe.symm)
 have HW1 := hid hW1
 obtain ⟨⟨p0, p1, p2, p3⟩, _⟩ := (HV.out.keep (HU1.out.block P HV.out.lt)).cs
 obtain ⟨d0, d1, d2, d3, d4, d5⟩ := HOc.out W1 HU1.out
 rw [hW1] at d0 d1 d2 d3 d4 d5 p0 p1 p2 p3
 clear hP hOe hW1 b1 hV hO hR1 hR
 dsimp only [viewA, opA] at *
 go_enter Tryz.func38, Tryz.ntmps38
 go_wp2_with fail
 rw [← HW1.out]
 try rw [HPO.out.2]
 try rw [HPO.out.1]
 refine (HFo.out).mono ?_
 rintro e u2 ⟨rfl, hu2⟩
 have HU2 := hid (HU1.out.trans (hu2.mono HU1.out.size))
 clear hu2
 clear p0 p1 p2 p3 d0 d1 d2 d3 d4 d5
 obtain ⟨⟨p0, p1, p2, p3⟩, _⟩ := (HV.out.keep ((HU2.out).block P HV.out.lt)).cs
 obtain ⟨d0, d1, d2, d3, d4, d5⟩ := HOc.out u2 (HU2.out)
 go_wp2_with fail
 refine (HNa.out u2 HU2.out).mono ?_
 rintro e u3 ⟨rfl, hu3⟩
 have HU3 := hid (HU2.out.trans (hu3.mono HU2.out.size))
 clear hu3
 clear p0 p1 p2 p3 d0 d1 d2 d3 d4 d5
 obtain ⟨⟨p0, p1, p2, p3⟩, _⟩ := (HV.out.keep ((HU3.out).block P HV.out.lt)).cs
 obtain ⟨d0, d1, d2, d3, d4, d5⟩ := HOc.out u3 (HU3.out)
 go_wp2_with fail
 refine (HSi.out u3 HU3.out).mono ?_
 rintro e u4 ⟨rfl, hu4⟩
 have HU4 := hid (HU3.out.trans (hu4.mono HU3.out.size))
 clear hu4
 clear p0 p1 p2 p3 d0 d1 d2 d3 d4 d5
 obtain ⟨⟨p0, p1, p2, p3⟩, _⟩ := (HV.out.keep ((HU4.out).block P HV.out.lt)).cs
 obtain ⟨d0, d1, d2, d3, d4, d5⟩ := HOc.out u4 (HU4.out)
 go_wp2_with fail
 refine (HPa.out u4 HU4.out).mono ?_
 rintro e u5 ⟨rfl, hu5⟩
 have HU5 := hid (HU4.out.trans (hu5.mono HU4.out.size))
 clear hu5
 clear p0 p1 p2 p3 d0 d1 d2 d3 d4 d5
 obtain ⟨⟨p0, p1, p2, p3⟩, _⟩ := (HV.out.keep ((HU5.out).block P HV.out.lt)).cs
 obtain ⟨d0, d1, d2, d3, d4, d5⟩ := HOc.out u5 (HU5.out)
 go_wp2_with fail
 refine (HRe.out u5 HU5.out).mono ?_
 rintro e u6 ⟨rfl, hu6⟩
 have HU6 := hid (HU5.out.trans (hu6.mono HU5.out.size))
 clear hu6
 clear p0 p1 p2 p3 d0 d1 d2 d3 d4 d5
 go_wp2
 go_ret
 exact ⟨rfl, HB1.out.trans (HU6.out.mono HB1.out.size)⟩
theorem refused_any (x : VW) (a : Option Addr) (c0 : Nat) (o : OW) (da : Option Addr) (dn dc : Nat) (w : World) (hM : MayP x) (hok : okW o) (hR : RdV w.heap.size w a x.vs) :
  Calls Tryz.prog 38 #[viewA x a c0, opA o da dn dc] w fun e w' => LkQ w (tkE x o dn) e w' := by
 have hl : x.vs.length ≤ 16777216 := by have := hM.len; omega
 rw [← refE_eq hM]
 unfold refE
 by_cases h1 : fmE o dn = 0
 ·rw [if_neg (by omega)]
  by_cases h2 : rNam o.k (plcF x.vs o.nm 0) (plcF x.vs o.ot 0) = 0
  ·rw [if_neg (by omega)]
   by_cases h3 : rSiz o.k o.fr o.tt x.cp (szAt x (plcF x.vs o.nm 0)) = 0
   ·rw [if_neg (by omega)]
    cases h4 : rPar x o.k (plcF x.vs o.nm 0) (plcF x.vs o.ot 0)
    ·rw [if_neg (by simp)]
     exact refused_R x a c0 o da dn dc w hok hl hR h1 h2 h3 h4
    ·rw [if_pos rfl]
     exact refused_P x a c0 o da dn dc w hok hl hR h1 h2 h3 h4
   ·rw [if_pos h3]
    exact refused_S x a c0 o da dn dc w hok hl hR h1 h2 h3
  ·rw [if_pos h2]
   exact refused_N x a c0 o da dn dc w hok hl hR h1 h2
 ·rw [if_pos h1]
  exact refused_F x a c0 o da dn dc w hok hl hR h1
end Go.Proofs.YtddddfankeepkaaGreatDoor
namespace Go.Proofs.YtddddfankeepkaaGreatDoor
open Go.RowKit
theorem info4 : (Tryz.prog.info? 4).map (fun i => (i.zero, i.size, i.bytes)) = some (some (.bool false), 1, 1) := by kernel_rfl
def blF (f : Nat → Bool) (n : Nat) : List Value := (List.range n).map (fun j => .bool (f j))
def BlB (w : World) (g : Nat) (f : Nat → Bool) (n : Nat) : Prop := w.heap[g]? = some (.cells (blF f n).toArray 4 (0, 0))
theorem BlB.lt {w : World} {g : Nat} {f : Nat → Bool} {n : Nat} (h : BlB w g f n) : g < w.heap.size := (Array.getElem?_eq_some_iff.1 h).1
theorem BlB.keep {w w' : World} {g : Nat} {f : Nat → Bool} {n : Nat} (h : BlB w g f n) (hw : w'.heap[g]? = w.heap[g]?) : BlB w' g f n := by unfold BlB at *; rw [hw]; exact h
theorem BlB.cell {w : World} {g : Nat} {f : Nat → Bool} {n : Nat} (h : BlB w g f n) {k : Nat} (hk : k < n) : w.cell? ⟨g, k, none⟩ = some (.bool (f k)) := by
 unfold BlB blF at h
 simp [World.cell?, h, hk]
theorem BlB.fz {w : World} {g : Nat} {f : Nat → Bool} {n : Nat} (h : BlB w g f n) (k : Nat) : w.frozen? ⟨g, k, none⟩ = false := by
 unfold BlB at h
 simp [World.frozen?, h]
theorem BlB.congr {w : World} {g : Nat} {f f' : Nat → Bool} {n : Nat} (h : BlB w g f n) (e : ∀ j, j < n → f j = f' j) : BlB w g f' n := by
 unfold BlB at *
 rw [h]
 have : blF f n = blF f' n := List.map_congr_left (fun j hj => by rw [e j (List.mem_range.1 hj)])
 rw [this]
def updF (f : Nat → Bool) (k : Nat) (v : Bool) (j : Nat) : Bool := if j = k then v else f j
theorem blF_len (f : Nat → Bool) (n : Nat) : (blF f n).length = n := by unfold blF; simp
theorem blF_get (f : Nat → Bool) (n i : Nat) (h : i < n) : (blF f n)[i]? = some (.bool (f i)) := by
 unfold blF
 rw [List.getElem?_map, List.getElem?_range h]
 rfl
theorem blF_ext {l : List Value} {f : Nat → Bool} {n : Nat} (hl : l.length = n) (h : ∀ i, i < n → l[i]? = some (.bool (f i))) : l = blF f n := by
 refine List.ext_getElem? fun i => ?_
 by_cases c : i < n
 ·rw [h i c, blF_get f n i c]
 ·rw [List.getElem?_eq_none (by omega), List.getElem?_eq_none (by rw [blF_len]; omega)]
theorem BlB.set {w : World} {g : Nat} {f : Nat → Bool} {n : Nat} (h : BlB w g f n) (k : Nat) (v : Bool) : BlB (w.setCell ⟨g, k, none⟩ (.bool v)) g (updF f k v) n := by
 unfold BlB at *
 simp only [World.setCell, Array.getElem?_modify, if_true]
 rw [h]
 have : (blF f n).set k (.bool v) = blF (updF f k v) n := blF_ext (by rw [List.length_set, blF_len]) (fun i hi => by
  rw [List.getElem?_set, blF_len]
  unfold updF
  by_cases e : k = i
  ·subst e; simp [hi]
  ·rw [if_neg e, if_neg (fun q => e q.symm), blF_get f n i hi])
 simp [this]
theorem make_bl (n : Nat) (hn : n ≤ 67108864) (u : World) : ∃ u', (Instr.makeSlice 105 (.int .i64 (n : Int)) (.int .i64 (n : Int))).run Tryz.prog u = .ok (.slice (some ⟨u.heap.size, 0, none⟩) n n) u' ∧ BlB u' u.heap.size (fun _ => false) n ∧ Below u.heap.size u u' := by
 obtain ⟨i0, hi, hz0, hz1, hz2⟩ := info_parts info4
 have h := run_make (P := Tryz.prog) u 105 4 i0 _ (by kernel_rfl) hi hz0 .i64 .i64 (n : Int) (n : Int) (by omega) (Int.le_refl _) (by rw [hz2]; omega) (by omega)
 have e : ((n : Int)).toNat = n := by omega
 rw [e] at h
 refine ⟨_, h, ?_, below1 _ _⟩
 have e2 : (madeCells (Value.cells (.bool false)) (n * i0.size)).toList = blF (fun _ => false) n := blF_ext (by simp [madeCells, hz1]) (fun i hi => by
  simp only [madeCells, Array.toList_map, Array.toList_range, List.getElem?_map]
  rw [List.getElem?_range (by rw [hz1]; omega)]
  simp [Value.cells, Nat.mod_one])
 unfold BlB
 rw [heap_new, ← e2]
end Go.Proofs.YtddddfankeepkaaGreatDoor
namespace Go.Proofs.YtddddfankeepkaaGreatDoor
open Go.RowKit
def tlF (rs : List Rg) (f k : Int) (j : Nat) : Bool := tolF rs j || (decide (f ≤ (j : Int)) && decide ((j : Int) < k))
theorem tlF_start (rs : List Rg) (f : Int) (j : Nat) : tlF rs f f j = tolF rs j := by
 unfold tlF
 by_cases c : f ≤ (j : Int)
 ·rw [decide_eq_false (show ¬ (j : Int) < f by omega)]; simp
 ·rw [decide_eq_false c]; simp
theorem tlF_step (rs : List Rg) (f : Int) (k : Nat) (h : f ≤ (k : Int)) (j : Nat) : updF (tlF rs f (k : Int)) k true j = tlF rs f ((k + 1 : Nat) : Int) j := by
 unfold updF tlF
 by_cases e : j = k
 ·subst e
  rw [if_pos rfl, decide_eq_true h, decide_eq_true (by omega)]
  simp
 ·rw [if_neg e]
  congr 2
  by_cases c : (j : Int) < (k : Int)
  ·rw [decide_eq_true c, decide_eq_true (by omega)]
  ·rw [decide_eq_false c, decide_eq_false (by omega)]
theorem tlF_end {rs : List Rg} {i : Nat} (hi : i < rs.length) {k : Int} {j : Nat} (h : k = rs[i].t ∨ ((j : Int) < k ∧ k ≤ rs[i].t)) : tlF (rs.take i) rs[i].f k j = tolF (rs.take (i + 1)) j := by
 rw [List.take_succ_eq_append_getElem hi]
 unfold tlF tolF
 rw [List.any_append]
 simp only [List.any_cons, List.any_nil, Bool.or_false]
 congr 2
 rcases h with h | h
 ·rw [h]
 ·rw [decide_eq_true h.1, decide_eq_true (by omega)]
set_option maxRecDepth 100000 in
set_option maxHeartbeats 8000000 in
theorem told_any (a : Option Addr) (c n : Nat) (rs : List Rg) (zz : Int) (w : World) (hNF : NF (-1) rs zz) (hl : rs.length ≤ 16777216) (hn : n ≤ 262144) (hz : zz ≤ 262144) (hR : RdR w.heap.size w a rs) :
  Calls Tryz.prog 85 #[.slice a rs.length c, .int .i64 (n : Int)] w fun e w' => ∃ G, e = .returned (.slice (some ⟨G, 0, none⟩) n n) ∧ BlB w' G (tolF rs) n ∧ w.heap.size ≤ G ∧ Below w.heap.size w w' := by
 obtain ⟨W1, hmk, hB, hb1⟩ := make_bl n (by omega) w
 obtain ⟨G, hG⟩ : ∃ G, G = w.heap.size := ⟨_, rfl⟩
 rw [← hG] at hB hmk
 have HB0 : Hid (BlB W1 G (tolF (rs.take 0)) n) := hid (hB.congr (fun j _ => rfl))
 have HG := hid hG
 have HB1 := hid hb1
 have HR := hid hR
 have HNF := hid hNF
 have HZ := hid hz
 have HN := hid hn
 obtain ⟨m, hm⟩ : ∃ m, m = rs.length := ⟨_, rfl⟩
 have HM := hid hm
 have hm16 : m ≤ 16777216 := by omega
 rw [← hm]
 have HFIN : Hid (∀ W9, BlB W9 G (tolF rs) n → Below w.heap.size w W9 → ∃ G', Ending.returned (.slice (some ⟨G, 0, none⟩) n n) = .returned (.slice (some ⟨G', 0, none⟩) n n) ∧ BlB W9 G' (tolF rs) n ∧ w.heap.size ≤ G' ∧ Below w.heap.size w W9) := hid (fun W9 h1 h2 => ⟨G, rfl, h1, by omega, h2⟩)
 clear hB hb1 hG hR hNF hm hl hz hn
 go_enter Tryz.func85, Tryz.ntmps85
 go_wp2
 go_loopw [6] (fun iv wr => ∃ i : Nat, i ≤ m ∧ iv = .int .i64 (i : Int) ∧ BlB wr G (tolF (rs.take i)) n ∧ Below w.heap.size w wr) (fun iv _ => m - (intOf iv).toNat)
 case atStart => exact ⟨0, Nat.zero_le _, rfl, HB0.out, HB1.out⟩
 case round =>
  obtain ⟨i, hi, rfl, hB, hb⟩ := hrel
  by_cases hlt : i < m
  ·have hil : i < rs.length := by have := HM.out; omega
   obtain ⟨W, hWr⟩ : ∃ W, W = wr := ⟨wr, rfl⟩
   subst hWr
   have hRr := HR.out.below hb
   obtain ⟨g, off, rfl, hgl, hc⟩ := hRr.resolve_left (fun e => by rw [e] at hil; simp at hil)
   obtain ⟨c0, c1⟩ := hc i hil
   have hat := HNF.out.at' hil
   have HGR := hid (And.intro hgl hc)
   have hl1 : (i : Int) < (m : Int) := by omega
   obtain ⟨f, hf⟩ : ∃ f : Nat, (f : Int) = rs[i].f := ⟨rs[i].f.toNat, by omega⟩
   have HF := hid hf
   have HIL := hid hil
   have HAT := hid hat
   have HC0 : Hid (BlB W G (tlF (rs.take i) (f : Int) (f : Int)) n) := hid (hB.congr (fun j _ => (tlF_start _ _ j).symm))
   have HBW := hid hb
   have HCL : Hid (∀ u, Below w.heap.size w u → u.cell? ⟨g, off + i * 2, none⟩ = some (.int .i64 (f : Int)) ∧ u.cell? ⟨g, off + i * 2 + 1, none⟩ = some (.int .i64 rs[i].t)) := hid (fun u hu => by
    obtain ⟨g', off', e, _, hc'⟩ := (HR.out.below hu).resolve_left (fun e => by rw [e] at hil; simp at hil)
    simp only [Option.some.injEq, Addr.mk.injEq, and_true] at e
    obtain ⟨rfl, rfl⟩ := e
    rw [hf]
    exact hc' i hil)
   rw [← hf] at c0
   have HEND : Hid (∀ (k : Int) W9, BlB W9 G (tlF (rs.take i) (f : Int) k) n → (k = rs[i].t ∨ ((n : Int) ≤ k ∧ k ≤ rs[i].t)) → BlB W9 G (tolF (rs.take (i + 1))) n) := hid (fun k W9 h1 h2 => h1.congr (fun j hj => by
    rw [hf]
    exact tlF_end hil (h2.imp id (fun q => ⟨by omega, q.2⟩))))
   obtain ⟨t, ht⟩ : ∃ t, t = rs[i].t := ⟨_, rfl⟩
   have HTT := hid ht
   have c1 : W.cell? ⟨g, off + i * 2 + 1, none⟩ = some (.int .i64 t) := by rw [ht]; exact c1
   have HCL : Hid (∀ u, Below w.heap.size w u → u.cell? ⟨g, off + i * 2, none⟩ = some (.int .i64 (f : Int)) ∧ u.cell? ⟨g, off + i * 2 + 1, none⟩ = some (.int .i64 t)) := hid (fun u hu => by rw [ht]; exact HCL.out u hu)
   have HEND : Hid (∀ (k : Int) W9, BlB W9 G (tlF (rs.take i) (f : Int) k) n → (k = t ∨ ((n : Int) ≤ k ∧ k ≤ t)) → BlB W9 G (tolF (rs.take (i + 1))) n) := hid (fun k W9 h1 h2 => HEND.out k W9 h1 (by rw [← ht]; exact h2))
   have HAT : Hid (-1 < (f : Int) ∧ (f : Int) < t ∧ t ≤ zz) := hid (by rw [hf, ht]; exact HAT.out)
   clear hB hb hRr hc hgl hat hi ht hf HGR
   go_wp2_with fail
   go_loopw [7] (fun kv wr2 => ∃ k : Nat, f ≤ k ∧ (k : Int) ≤ t ∧ kv = .int .i64 (k : Int) ∧ BlB wr2 G (tlF (rs.take i) (f : Int) (k : Int)) n ∧ Below w.heap.size w wr2) (fun kv _ => (t - intOf kv).toNat)
   case atStart => exact ⟨f, Nat.le_refl _, by have := HAT.out; omega, rfl, HC0.out, HBW.out⟩
   case round =>
    obtain ⟨k, hfk, hkt, rfl, hB, hb⟩ := hrel
    obtain ⟨d0, d1⟩ := HCL.out wr hb
    have HBk := hid hB
    have HBb := hid hb
    have htm : t ≤ 262144 := by have := HAT.out; have := HZ.out; omega
    by_cases q1 : (k : Int) < t
    ·by_cases q2 : k < n
     ·have q2' : (k : Int) < (n : Int) := by omega
      have hfz := hB.fz k
      obtain ⟨W2, hW2⟩ : ∃ W2, W2 = wr.setCell ⟨G, k, none⟩ (.bool true) := ⟨_, rfl⟩
      have hck := hB.cell q2
      have HS : Hid (BlB W2 G (tlF (rs.take i) (f : Int) ((k + 1 : Nat) : Int)) n) := hid (by rw [hW2]; exact (hB.set k true).congr (fun j _ => tlF_step _ _ k (by omega) j))
      have HS2 : Hid (Below w.heap.size w W2) := hid (by rw [hW2]; exact hb.setCell (p := ⟨G, k, none⟩) (by have := HG.out; show w.heap.size ≤ G; omega) _)
      have HW2 := hid hW2
      clear hB hb hW2
      go_wp2_with fail
      rw [← HW2.out]
      go_roundw
      case rel => exact ⟨k + 1, by omega, by omega, by go_num, HS.out, HS2.out⟩
      case measure => simp [intOf]; omega
     ·have q2' : ¬ (k : Int) < (n : Int) := by omega
      have HE := hid (HEND.out (k : Int) _ hB (.inr ⟨by omega, hkt⟩))
      clear hB hb
      go_wp2_with fail
      go_roundw
      case rel => exact ⟨i + 1, by omega, by go_num, HE.out, HBb.out⟩
      case measure => simp [intOf]; omega
    ·have HE := hid (HEND.out (k : Int) _ hB (.inl (by omega)))
     clear hB hb
     go_wp2_with fail
     go_roundw
     case rel => exact ⟨i + 1, by omega, by go_num, HE.out, HBb.out⟩
     case measure => simp [intOf]; omega
  ·have eim : i = m := by omega
   have hl1 : ¬ (i : Int) < (m : Int) := by omega
   have HE : Hid (BlB wr G (tolF rs) n) := hid (by have := hB; rw [eim, HM.out, List.take_length] at this; exact this)
   have HBb := hid hb
   clear hB hb eim
   go_wp2
   go_ret
   exact HFIN.out _ HE.out HBb.out
end Go.Proofs.YtddddfankeepkaaGreatDoor
namespace Go.Proofs.YtddddfankeepkaaGreatDoor
open Go.RowKit
def setT (rs : List Rg) (t : Int) : List Rg := rs.dropLast ++ [⟨(rs.getLastD R0).f, t⟩]
theorem redT_len (f : Nat → Bool) : ∀ n, (redT f n).length ≤ n
 | 0 => Nat.le_refl _
 | n + 1 => by
  have ih := redT_len f n
  unfold redT
  split
  ·split
   ·simp; omega
   ·simp; omega
  ·omega
theorem redT_no (f : Nat → Bool) (i : Nat) (h : f i = false) : redT f (i + 1) = redT f i := by
 conv => lhs; unfold redT
 rw [if_neg (by rw [h]; simp)]
theorem redT_new (f : Nat → Bool) (i : Nat) (h : f i = true) (h2 : i = 0 ∨ f (i - 1) = false) : redT f (i + 1) = redT f i ++ [⟨(i : Int), (i : Int) + 1⟩] := by
 conv => lhs; unfold redT
 rw [if_pos h, if_pos h2]
theorem redT_old (f : Nat → Bool) (i : Nat) (h : f i = true) (h2 : ¬ (i = 0 ∨ f (i - 1) = false)) : redT f (i + 1) = setT (redT f i) ((i : Int) + 1) := by
 conv => lhs; unfold redT
 rw [if_pos h, if_neg h2]
 rfl
theorem redT_pos (f : Nat → Bool) (j : Nat) (h : f j = true) : 0 < (redT f (j + 1)).length := by
 unfold redT
 rw [if_pos h]
 split <;> simp
theorem flatR_setT (rs : List Rg) (k : Nat) (hk : rs.length = k + 1) (t : Int) : flatR (setT rs t) = (flatR rs).set (k * 2 + 1) (.int .i64 t) ∧ (setT rs t).length = k + 1 := by
 obtain ⟨l, r, rfl⟩ : ∃ l r, rs = l ++ [r] := ⟨rs.dropLast, rs.getLast (by intro e; rw [e] at hk; simp at hk), (List.dropLast_concat_getLast _).symm⟩
 obtain rfl : l.length = k := by simpa using hk
 refine ⟨?_, by simp [setT]⟩
 unfold setT
 rw [List.dropLast_concat, flatR_app, flatR_app, List.set_append_right _ _ (by rw [flatR_len]; omega), flatR_len]
 simp [flatR]
theorem OwR.setT {B : Nat} {w : World} {g k c : Nat} {rs : List Rg} (h : OwR B w (.slice (some ⟨g, 0, none⟩) (k + 1) c) rs) (hk : rs.length = k + 1) (t : Int) : OwR B (w.setCell ⟨g, k * 2 + 1, none⟩ (.int .i64 t)) (.slice (some ⟨g, 0, none⟩) (k + 1) c) (setT rs t) ∧ w.frozen? ⟨g, k * 2 + 1, none⟩ = false ∧ B ≤ g ∧ w.cell? ⟨g, k * 2 + 1, none⟩ = some (.int .i64 (rs.getLastD R0).t) := by
 obtain ⟨e1, e2⟩ := flatR_setT rs k hk t
 unfold OwR at *
 rw [hk] at h
 rw [e1, e2]
 refine ⟨(h.stored (k * 2 + 1) _).1, h.frozenAt _, (own_blk h rfl).1, ?_⟩
 have q := World.ownsRow.cells h rfl (k * 2 + 1) _ (flatR_at rs k (by omega)).2
 have q : w.cell? ⟨g, k * 2 + 1, none⟩ = some (.int .i64 (rs[k]'(by omega)).t) := by simpa [Addr.add] using q
 rw [q]
 have : rs[k]'(by omega) = rs.getLastD R0 := by
  rw [List.getLastD_eq_getLast?, List.getLast?_eq_getElem?, show rs.length - 1 = k by omega, List.getElem?_eq_getElem (show k < rs.length by omega)]
  rfl
 rw [this]
set_option maxRecDepth 100000 in
set_option maxHeartbeats 8000000 in
theorem read_any (G n : Nat) (f : Nat → Bool) (w : World) (hn : n ≤ 262144) (hB : BlB w G f n) :
  Calls Tryz.prog 84 #[.slice (some ⟨G, 0, none⟩) n n] w fun e w' => ∃ v, e = .returned v ∧ OwR w.heap.size w' v (redT f n) ∧ Below w.heap.size w w' := by
 have HB := hid hB
 have HN := hid hn
 have HO0 : Hid (OwR w.heap.size w (.slice none 0 0) (redT f 0)) := hid ⟨rfl, .inl ⟨rfl, rfl⟩⟩
 have HBl0 : Hid (Below w.heap.size w w) := hid (Below.refl _ _)
 clear hB hn
 go_enter Tryz.func84, Tryz.ntmps84
 go_wp2
 go_loopw [3, 4] (fun ov iv wr => ∃ (i : Nat) (v : Value), i ≤ n ∧ v = ov ∧ iv = .int .i64 (i : Int) ∧ OwR w.heap.size wr v (redT f i) ∧ Below w.heap.size w wr) (fun _ iv _ => n - (intOf iv).toNat)
 case atStart => exact ⟨0, _, Nat.zero_le _, rfl, rfl, HO0.out, HBl0.out⟩
 case round =>
  obtain ⟨i, v, hi, rfl, rfl, hO, hb⟩ := hrel
  have hnn := HN.out
  by_cases hlt : i < n
  ·have hl1 : (i : Int) < (n : Int) := by omega
   have hBl : BlB wr G f n := HB.out.keep (hb.block _ HB.out.lt)
   have d0 := hBl.cell hlt
   have hlen := redT_len f i
   cases hfi : f i
   ·have HE := hid (redT_no f i hfi)
    have HO := hid hO
    have HBb := hid hb
    rw [hfi] at d0
    clear hO hb hBl
    go_wp2_with fail
    go_roundw
    case rel => exact ⟨i + 1, _, by omega, rfl, by go_num, by rw [HE.out]; exact HO.out, HBb.out⟩
    case measure => simp [intOf]; omega
   ·rw [hfi] at d0
    by_cases h0 : i = 0
    ·subst h0
     have d0 : wr.cell? ⟨G, 0, none⟩ = some (.bool true) := d0
     have hl1 : (0 : Int) < (n : Int) := hl1
     obtain ⟨W1, hW1⟩ : ∃ W1, W1 = wr.alloc (.cells #[.int .i64 (0), .int .i64 (0)] 78) := ⟨_, rfl⟩
     have hP1 : RgB W1 wr.heap.size ⟨(0), (0)⟩ := by rw [hW1]; exact heap_new _ _
     have hb1 : Below wr.heap.size wr W1 := by rw [hW1]; exact below1 _ _
     have hO1 : OwR w.heap.size W1 v (redT f 0) := own_next hO hb1
     obtain ⟨c0, c1⟩ := hP1.cs
     obtain ⟨v', w2, hr, hO2, hb2⟩ := app_rg (ys := [⟨(0), (0)⟩]) (c := 1) 36 hO1 (a := some ⟨wr.heap.size, 0, none⟩) (B' := W1.heap.size) (.inr ⟨wr.heap.size, 0, rfl, hP1.lt, fun j hj => by obtain rfl : j = 0 := (by simp at hj; omega); exact ⟨c0, c1⟩⟩) (fun e => by cases e) (by simp) (by have := HN.out; omega) (by have := hb.size; have := hb1.size; omega)
     have HB2 : Hid (Below w.heap.size w w2) := hid ((hb.trans (hb1.mono hb.size)).trans hb2)
     obtain ⟨k, hk⟩ : ∃ k, (redT f 0).length = k := ⟨_, rfl⟩
     have hkn : k ≤ n := by omega
     have hzl : (redT f 0 ++ [(⟨(0), (0)⟩ : Rg)]).length = k + 1 := by simp [hk]
     have HK := hid hzl
     obtain ⟨g, c, rfl⟩ : ∃ g c, v' = .slice (some ⟨g, 0, none⟩) (k + 1) c := by
      rcases own_form hO2 with ⟨_, q⟩ | ⟨g, c, e, _⟩
      ·omega
      ·exact ⟨g, c, by rw [e, hzl]⟩
     have HO2 := hid hO2
     have HW1 := hid hW1
     have HE : Hid (redT f (0 + 1) = setT (redT f 0 ++ [⟨(0), (0)⟩]) (1)) := hid (by
      have := redT_new f 0 hfi (.inl rfl)
      rw [this]; simp [setT])
     simp only [List.length_cons, List.length_nil, Nat.zero_add] at hr
     clear hO hO1 hb hb1 hW1 hP1 c0 c1 hO2 hb2 hzl hBl hk
     obtain ⟨hS1, hS2, hS3, hS4⟩ := HO2.out.setT HK.out (1)
     have k1 : wrap64 (((k + 1 : Nat) : Int) - 1) = (k : Int) := by unfold wrap64; omega
     have k1' : IntKind.i64.wrap (((k + 1 : Nat) : Int) - 1) = (k : Int) := by rw [IntKind.wrap_i64]; omega
     have k3 : (k : Int) < ((k + 1 : Nat) : Int) := by omega
     have k4 : IntKind.i64.wrap (0 + 1) = 1 := by rw [IntKind.wrap_i64]; have := HN.out; omega
     have e0 := (HB.out.keep (HB2.out.block _ HB.out.lt)).cell hlt
     rw [hfi] at e0
     obtain ⟨W3, hW3⟩ : ∃ W3, W3 = w2.setCell ⟨g, k * 2 + 1, none⟩ (.int .i64 (1)) := ⟨_, rfl⟩
     have HS1 : Hid (OwR w.heap.size W3 (.slice (some ⟨g, 0, none⟩) (k + 1) c) (redT f (0 + 1))) := hid (by rw [hW3, HE.out]; exact hS1)
     have HS3 : Hid (Below w.heap.size w W3) := hid (by rw [hW3]; exact HB2.out.setCell (p := ⟨g, k * 2 + 1, none⟩) hS3 _)
     have HW3 := hid hW3
     clear hW3 hS1 hS3
     go_wp2_with (first | (rw [← HW1.out]; at_builtin; refine Lib.wpList_append_run _ rfl _ _ _ _ rfl _ _ rfl rfl _ _ hr ?_) | (at_builtin; refine Lib.wpList_append_run _ rfl _ _ _ _ rfl _ _ rfl rfl _ _ hr ?_))
     rw [← HW3.out]
     go_roundw
     case rel => exact ⟨0 + 1, _, by omega, rfl, by go_num, HS1.out, HS3.out⟩
     case measure => simp [intOf]; omega
    ·obtain ⟨j, hj⟩ : ∃ j, j + 1 = i := ⟨i - 1, by omega⟩
     have hj1 : i - 1 = j := by omega
     have z1 : ¬ (i : Int) = 0 := by omega
     have z2 : wrap64 ((i : Int) - 1) = (j : Int) := by unfold wrap64; have := HN.out; omega
     have z2' : IntKind.i64.wrap ((i : Int) - 1) = (j : Int) := by rw [IntKind.wrap_i64]; have := HN.out; omega
     have z3 : (j : Int) < (n : Int) := by omega
     have d1 := hBl.cell (show j < n by omega)
     cases hfj : f j
     ·rw [hfj] at d1
      obtain ⟨W1, hW1⟩ : ∃ W1, W1 = wr.alloc (.cells #[.int .i64 ((i : Int)), .int .i64 ((i : Int))] 78) := ⟨_, rfl⟩
      have hP1 : RgB W1 wr.heap.size ⟨((i : Int)), ((i : Int))⟩ := by rw [hW1]; exact heap_new _ _
      have hb1 : Below wr.heap.size wr W1 := by rw [hW1]; exact below1 _ _
      have hO1 : OwR w.heap.size W1 v (redT f i) := own_next hO hb1
      obtain ⟨c0, c1⟩ := hP1.cs
      obtain ⟨v', w2, hr, hO2, hb2⟩ := app_rg (ys := [⟨((i : Int)), ((i : Int))⟩]) (c := 1) 36 hO1 (a := some ⟨wr.heap.size, 0, none⟩) (B' := W1.heap.size) (.inr ⟨wr.heap.size, 0, rfl, hP1.lt, fun j hj => by obtain rfl : j = 0 := (by simp at hj; omega); exact ⟨c0, c1⟩⟩) (fun e => by cases e) (by simp) (by have := HN.out; omega) (by have := hb.size; have := hb1.size; omega)
      have HB2 : Hid (Below w.heap.size w w2) := hid ((hb.trans (hb1.mono hb.size)).trans hb2)
      obtain ⟨k, hk⟩ : ∃ k, (redT f i).length = k := ⟨_, rfl⟩
      have hkn : k ≤ n := by omega
      have hzl : (redT f i ++ [(⟨((i : Int)), ((i : Int))⟩ : Rg)]).length = k + 1 := by simp [hk]
      have HK := hid hzl
      obtain ⟨g, c, rfl⟩ : ∃ g c, v' = .slice (some ⟨g, 0, none⟩) (k + 1) c := by
       rcases own_form hO2 with ⟨_, q⟩ | ⟨g, c, e, _⟩
       ·omega
       ·exact ⟨g, c, by rw [e, hzl]⟩
      have HO2 := hid hO2
      have HW1 := hid hW1
      have HE : Hid (redT f (i + 1) = setT (redT f i ++ [⟨((i : Int)), ((i : Int))⟩]) ((i : Int) + 1)) := hid (by
       have := redT_new f i hfi (.inr (by rw [hj1]; exact hfj))
       rw [this]; simp [setT])
      simp only [List.length_cons, List.length_nil, Nat.zero_add] at hr
      clear hO hO1 hb hb1 hW1 hP1 c0 c1 hO2 hb2 hzl hBl hk
      obtain ⟨hS1, hS2, hS3, hS4⟩ := HO2.out.setT HK.out ((i : Int) + 1)
      have k1 : wrap64 (((k + 1 : Nat) : Int) - 1) = (k : Int) := by unfold wrap64; omega
      have k1' : IntKind.i64.wrap (((k + 1 : Nat) : Int) - 1) = (k : Int) := by rw [IntKind.wrap_i64]; omega
      have k3 : (k : Int) < ((k + 1 : Nat) : Int) := by omega
      have k4 : IntKind.i64.wrap ((i : Int) + 1) = (i : Int) + 1 := by rw [IntKind.wrap_i64]; have := HN.out; omega
      have e0 := (HB.out.keep (HB2.out.block _ HB.out.lt)).cell hlt
      rw [hfi] at e0
      obtain ⟨W3, hW3⟩ : ∃ W3, W3 = w2.setCell ⟨g, k * 2 + 1, none⟩ (.int .i64 ((i : Int) + 1)) := ⟨_, rfl⟩
      have HS1 : Hid (OwR w.heap.size W3 (.slice (some ⟨g, 0, none⟩) (k + 1) c) (redT f (i + 1))) := hid (by rw [hW3, HE.out]; exact hS1)
      have HS3 : Hid (Below w.heap.size w W3) := hid (by rw [hW3]; exact HB2.out.setCell (p := ⟨g, k * 2 + 1, none⟩) hS3 _)
      have HW3 := hid hW3
      clear hW3 hS1 hS3
      go_wp2_with (first | (rw [← HW1.out]; at_builtin; refine Lib.wpList_append_run _ rfl _ _ _ _ rfl _ _ rfl rfl _ _ hr ?_) | (at_builtin; refine Lib.wpList_append_run _ rfl _ _ _ _ rfl _ _ rfl rfl _ _ hr ?_))
      rw [← HW3.out]
      go_roundw
      case rel => exact ⟨i + 1, _, by omega, rfl, by go_num, HS1.out, HS3.out⟩
      case measure => simp [intOf]; omega
     ·rw [hfj] at d1
      obtain ⟨k, hk⟩ : ∃ k, (redT f i).length = k + 1 := ⟨(redT f i).length - 1, by have := redT_pos f j hfj; rw [hj] at this; omega⟩
      have hkn : k ≤ n := by omega
      obtain ⟨g, c, rfl⟩ : ∃ g c, v = .slice (some ⟨g, 0, none⟩) (k + 1) c := by
       rcases own_form hO with ⟨_, q⟩ | ⟨g, c, e, _⟩
       ·omega
       ·exact ⟨g, c, by rw [e, hk]⟩
      have HE := hid (redT_old f i hfi (by rw [hj1, hfj]; simp; omega))
      have HO2 := hid hO
      have HB2 := hid hb
      have HK := hid hk
      obtain ⟨w2, hw2⟩ : ∃ w2, w2 = wr := ⟨_, rfl⟩
      subst hw2
      clear hO hb hBl hk
      obtain ⟨hS1, hS2, hS3, hS4⟩ := HO2.out.setT HK.out ((i : Int) + 1)
      have k1 : wrap64 (((k + 1 : Nat) : Int) - 1) = (k : Int) := by unfold wrap64; omega
      have k1' : IntKind.i64.wrap (((k + 1 : Nat) : Int) - 1) = (k : Int) := by rw [IntKind.wrap_i64]; omega
      have k3 : (k : Int) < ((k + 1 : Nat) : Int) := by omega
      have k4 : IntKind.i64.wrap ((i : Int) + 1) = (i : Int) + 1 := by rw [IntKind.wrap_i64]; have := HN.out; omega
      have e0 := (HB.out.keep (HB2.out.block _ HB.out.lt)).cell hlt
      rw [hfi] at e0
      obtain ⟨W3, hW3⟩ : ∃ W3, W3 = w2.setCell ⟨g, k * 2 + 1, none⟩ (.int .i64 ((i : Int) + 1)) := ⟨_, rfl⟩
      have HS1 : Hid (OwR w.heap.size W3 (.slice (some ⟨g, 0, none⟩) (k + 1) c) (redT f (i + 1))) := hid (by rw [hW3, HE.out]; exact hS1)
      have HS3 : Hid (Below w.heap.size w W3) := hid (by rw [hW3]; exact HB2.out.setCell (p := ⟨g, k * 2 + 1, none⟩) hS3 _)
      have HW3 := hid hW3
      clear hW3 hS1 hS3
      go_wp2_with fail
      rw [← HW3.out]
      go_roundw
      case rel => exact ⟨i + 1, _, by omega, rfl, by go_num, HS1.out, HS3.out⟩
      case measure => simp [intOf]; omega
  ·have ein : i = n := by omega
   have hl1 : ¬ (i : Int) < (n : Int) := by omega
   have HE : Hid (∃ v', Ending.returned v = .returned v' ∧ OwR w.heap.size wr v' (redT f n) ∧ Below w.heap.size w wr) := hid ⟨v, rfl, by rw [← ein]; exact hO, hb⟩
   clear hO hb ein
   go_wp2
   go_ret
   exact HE.out
end Go.Proofs.YtddddfankeepkaaGreatDoor
