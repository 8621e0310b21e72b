import Derived.Test.YtddddfankeepkaaGreatDoorF25
namespace Go.Proofs.YtddddfankeepkaaGreatDoor
open Go.RowKit
set_option maxRecDepth 100000 in
set_option maxHeartbeats 8000000 in
theorem sizes_1 (x : VW) (a : Option Addr) (c0 : Nat) (nm ot : ByteArray) (fr tt : Int) (da : Option Addr) (dn dc : Nat) (w : World) (hl : x.vs.length ≤ 16777216) (hR : RdV w.heap.size w a x.vs) :
  Calls Tryz.prog 81 #[viewA x a c0, opA ⟨1, nm, ot, fr, tt⟩ da dn dc] w fun e w' => LkQ w (rSiz 1 fr tt x.cp (szAt x (plcF x.vs nm 0))) e w' := by
 obtain ⟨P, hP⟩ : ∃ P, P = w.heap.size := ⟨_, rfl⟩
 obtain ⟨O, hOe⟩ : ∃ O, O = w.heap.size + 1 := ⟨_, rfl⟩
 obtain ⟨W1, hW1⟩ : ∃ W1, W1 = (w.alloc (.cells #[.int .i64 x.cp, .int .i64 x.fr, .int .i64 x.nx, .slice a x.vs.length c0] 24)).alloc (.cells #[.int .i64 1, .string nm, .string ot, .int .i64 fr, .int .i64 tt, .slice da dn dc] 42) := ⟨_, rfl⟩
 have b1 : Below w.heap.size w W1 := by rw [hW1]; exact two_below _ _ _
 have hV : VwB W1 P x (.slice a x.vs.length c0) := by
  unfold VwB
  rw [hW1, hP, Below.heap_alloc _ _ _ (by simp)]
  exact heap_new _ _
 have hO : W1.heap[O]? = some (.cells #[.int .i64 1, .string nm, .string ot, .int .i64 fr, .int .i64 tt, .slice da dn dc] 42 (0, 0)) := by
  have := heap_new (w.alloc (.cells #[.int .i64 x.cp, .int .i64 x.fr, .int .i64 x.nx, .slice a x.vs.length c0] 24)) (.cells #[.int .i64 1, .string nm, .string ot, .int .i64 fr, .int .i64 tt, .slice da dn dc] 42)
  rw [World.size_alloc, ← hOe, ← hW1] at this
  exact this
 have hR1 := (hR.below b1).mono b1.size
 have HMk := hid (fun u => makes_any 1 (by decide) (by decide) u)
 have HTk := hid (fun u => takes_any 1 (by decide) (by decide) u)
 have HR1 := hid hR1
 have HV := hid hV
 have HO := hid hO
 have HB1 := hid b1
 have HFn := hid (fun u (hu : Below W1.heap.size W1 u) (s : ByteArray) => find_any x a c0 s u hl ((hR1.below hu).mono hu.size))
 have HPO := hid (And.intro hP.symm hOe.symm)
 have HW1 := hid hW1
 have HOc : Hid (∀ u, Below W1.heap.size W1 u → u.cell? ⟨O, 0, none⟩ = some (.int .i64 1) ∧ u.cell? ⟨O, 1, none⟩ = some (.string nm) ∧ u.cell? ⟨O, 2, none⟩ = some (.string ot) ∧ u.cell? ⟨O, 3, none⟩ = some (.int .i64 fr) ∧ u.cell? ⟨O, 4, none⟩ = some (.int .i64 tt)) := hid (fun u hu => by
  have := (hu.block O (Array.getElem?_eq_some_iff.1 hO).1).trans hO
  simp [World.cell?, this])
 have hpl := plO x nm
 obtain ⟨pn, hpn⟩ : ∃ p, p = plcF x.vs nm 0 := ⟨_, rfl⟩
 have HF1 := hid (HFn.out W1 (Below.refl _ _) nm)
 rw [← hpn] at HF1 hpl
 rw [← hpn]
 obtain ⟨z, hz⟩ : ∃ z, z = rSiz 1 fr tt x.cp (szAt x pn) := ⟨_, rfl⟩
 rw [← hz]
 have HZ1 := hid hz
 have HPL := hid hpl
 clear hpn hz hpl
 obtain ⟨c0', c1, c2, c3, c4⟩ := HOc.out W1 (Below.refl _ _)
 obtain ⟨⟨p0, p1, p2, p3⟩, _⟩ := (HV.out.keep ((Below.refl _ _).block P HV.out.lt)).cs
 rw [hW1] at c0' c1 c2 c3 c4 p0 p1 p2 p3
 clear hP hOe hW1 b1 hV hO hR1 hR
 dsimp only [viewA, opA] at *
 go_enter Tryz.func81, Tryz.ntmps81
 go_wp2_with fail
 rw [← HW1.out]
 try rw [HPO.out.2]
 try rw [HPO.out.1]
 refine HF1.out.mono ?_
 rintro e w2 ⟨rfl, hb2⟩
 have HB2 := hid hb2
 clear hb2 HF1 c0' c1 c2 c3 c4 p0 p1 p2 p3
 obtain ⟨c0', c1, c2, c3, c4⟩ := HOc.out w2 (HB2.out)
 obtain ⟨⟨p0, p1, p2, p3⟩, _⟩ := (HV.out.keep ((HB2.out).block P HV.out.lt)).cs
 rcases HPL.out with hp | ⟨i, hi, hp⟩
 ·subst hp
  obtain ⟨sz, hsz⟩ : ∃ s : Int, s = 0 := ⟨_, rfl⟩
  have HZ0 : Hid (z = rSiz 1 fr tt x.cp sz) := hid (by rw [HZ1.out, hsz]; rfl)
  subst hsz
  by_cases q1 : tt < 1
  ·skip
   have HZ : Hid (z = 106) := hid (by rw [HZ0.out]; simp [rSiz, *])
   go_wp2
   go_ret
   exact ⟨by rw [HZ.out]; rfl, HB1.out.trans (HB2.out.mono HB1.out.size)⟩
  ·skip
   by_cases q2 : 262144 < tt
   ·skip
    have HZ : Hid (z = 106) := hid (by rw [HZ0.out]; simp [rSiz, *])
    go_wp2
    go_ret
    exact ⟨by rw [HZ.out]; rfl, HB1.out.trans (HB2.out.mono HB1.out.size)⟩
   ·skip
    have HZ : Hid (z = 0) := hid (by rw [HZ0.out]; simp [rSiz, *])
    go_wp2
    go_ret
    exact ⟨by rw [HZ.out]; rfl, HB1.out.trans (HB2.out.mono HB1.out.size)⟩
 ·subst hp
  obtain ⟨g, off, rfl, hgl, hc⟩ := (HR1.out.below HB2.out).resolve_left (fun e => by rw [e] at hi; simp at hi)
  obtain ⟨ma, mc, ⟨y0, y1, y2, y3, y4, y5, y6⟩, _, _⟩ := hc i hi
  have HZ0 : Hid (z = rSiz 1 fr tt x.cp x.vs[i].sz) := hid (by rw [HZ1.out]; unfold szAt; rw [if_pos (by omega), volAt_eq hi])
  have hi1 : (i : Int) < (x.vs.length : Int) := by omega
  have hi0 : (0 : Int) ≤ (i : Int) := by omega
  have hdi : decide ((0 : Int) ≤ (i : Int)) = true := decide_eq_true hi0
  clear hc y0 y1 y3 y4 y5 y6 HR1 HFn HPL
  generalize x.vs[i].sz = sz at *
  by_cases q1 : tt < 1
  ·skip
   have HZ : Hid (z = 106) := hid (by rw [HZ0.out]; simp [rSiz, *])
   go_wp2
   go_ret
   exact ⟨by rw [HZ.out]; rfl, HB1.out.trans (HB2.out.mono HB1.out.size)⟩
  ·skip
   by_cases q2 : 262144 < tt
   ·skip
    have HZ : Hid (z = 106) := hid (by rw [HZ0.out]; simp [rSiz, *])
    go_wp2
    go_ret
    exact ⟨by rw [HZ.out]; rfl, HB1.out.trans (HB2.out.mono HB1.out.size)⟩
   ·skip
    have HZ : Hid (z = 0) := hid (by rw [HZ0.out]; simp [rSiz, *])
    go_wp2
    go_ret
    exact ⟨by rw [HZ.out]; rfl, HB1.out.trans (HB2.out.mono HB1.out.size)⟩
set_option maxRecDepth 100000 in
set_option maxHeartbeats 8000000 in
theorem sizes_2 (x : VW) (a : Option Addr) (c0 : Nat) (nm ot : ByteArray) (fr tt : Int) (da : Option Addr) (dn dc : Nat) (w : World) (hl : x.vs.length ≤ 16777216) (hR : RdV w.heap.size w a x.vs) :
  Calls Tryz.prog 81 #[viewA x a c0, opA ⟨2, nm, ot, fr, tt⟩ da dn dc] w fun e w' => LkQ w (rSiz 2 fr tt x.cp (szAt x (plcF x.vs nm 0))) e w' := by
 obtain ⟨P, hP⟩ : ∃ P, P = w.heap.size := ⟨_, rfl⟩
 obtain ⟨O, hOe⟩ : ∃ O, O = w.heap.size + 1 := ⟨_, rfl⟩
 obtain ⟨W1, hW1⟩ : ∃ W1, W1 = (w.alloc (.cells #[.int .i64 x.cp, .int .i64 x.fr, .int .i64 x.nx, .slice a x.vs.length c0] 24)).alloc (.cells #[.int .i64 2, .string nm, .string ot, .int .i64 fr, .int .i64 tt, .slice da dn dc] 42) := ⟨_, rfl⟩
 have b1 : Below w.heap.size w W1 := by rw [hW1]; exact two_below _ _ _
 have hV : VwB W1 P x (.slice a x.vs.length c0) := by
  unfold VwB
  rw [hW1, hP, Below.heap_alloc _ _ _ (by simp)]
  exact heap_new _ _
 have hO : W1.heap[O]? = some (.cells #[.int .i64 2, .string nm, .string ot, .int .i64 fr, .int .i64 tt, .slice da dn dc] 42 (0, 0)) := by
  have := heap_new (w.alloc (.cells #[.int .i64 x.cp, .int .i64 x.fr, .int .i64 x.nx, .slice a x.vs.length c0] 24)) (.cells #[.int .i64 2, .string nm, .string ot, .int .i64 fr, .int .i64 tt, .slice da dn dc] 42)
  rw [World.size_alloc, ← hOe, ← hW1] at this
  exact this
 have hR1 := (hR.below b1).mono b1.size
 have HMk := hid (fun u => makes_any 2 (by decide) (by decide) u)
 have HTk := hid (fun u => takes_any 2 (by decide) (by decide) u)
 have HR1 := hid hR1
 have HV := hid hV
 have HO := hid hO
 have HB1 := hid b1
 have HFn := hid (fun u (hu : Below W1.heap.size W1 u) (s : ByteArray) => find_any x a c0 s u hl ((hR1.below hu).mono hu.size))
 have HPO := hid (And.intro hP.symm hOe.symm)
 have HW1 := hid hW1
 have HOc : Hid (∀ u, Below W1.heap.size W1 u → u.cell? ⟨O, 0, none⟩ = some (.int .i64 2) ∧ u.cell? ⟨O, 1, none⟩ = some (.string nm) ∧ u.cell? ⟨O, 2, none⟩ = some (.string ot) ∧ u.cell? ⟨O, 3, none⟩ = some (.int .i64 fr) ∧ u.cell? ⟨O, 4, none⟩ = some (.int .i64 tt)) := hid (fun u hu => by
  have := (hu.block O (Array.getElem?_eq_some_iff.1 hO).1).trans hO
  simp [World.cell?, this])
 have hpl := plO x nm
 obtain ⟨pn, hpn⟩ : ∃ p, p = plcF x.vs nm 0 := ⟨_, rfl⟩
 have HF1 := hid (HFn.out W1 (Below.refl _ _) nm)
 rw [← hpn] at HF1 hpl
 rw [← hpn]
 obtain ⟨z, hz⟩ : ∃ z, z = rSiz 2 fr tt x.cp (szAt x pn) := ⟨_, rfl⟩
 rw [← hz]
 have HZ1 := hid hz
 have HPL := hid hpl
 clear hpn hz hpl
 obtain ⟨c0', c1, c2, c3, c4⟩ := HOc.out W1 (Below.refl _ _)
 obtain ⟨⟨p0, p1, p2, p3⟩, _⟩ := (HV.out.keep ((Below.refl _ _).block P HV.out.lt)).cs
 rw [hW1] at c0' c1 c2 c3 c4 p0 p1 p2 p3
 clear hP hOe hW1 b1 hV hO hR1 hR
 dsimp only [viewA, opA] at *
 go_enter Tryz.func81, Tryz.ntmps81
 go_wp2_with fail
 rw [← HW1.out]
 try rw [HPO.out.2]
 try rw [HPO.out.1]
 refine HF1.out.mono ?_
 rintro e w2 ⟨rfl, hb2⟩
 have HB2 := hid hb2
 clear hb2 HF1 c0' c1 c2 c3 c4 p0 p1 p2 p3
 obtain ⟨c0', c1, c2, c3, c4⟩ := HOc.out w2 (HB2.out)
 obtain ⟨⟨p0, p1, p2, p3⟩, _⟩ := (HV.out.keep ((HB2.out).block P HV.out.lt)).cs
 rcases HPL.out with hp | ⟨i, hi, hp⟩
 ·subst hp
  obtain ⟨sz, hsz⟩ : ∃ s : Int, s = 0 := ⟨_, rfl⟩
  have HZ0 : Hid (z = rSiz 2 fr tt x.cp sz) := hid (by rw [HZ1.out, hsz]; rfl)
  subst hsz
  have HZ : Hid (z = 0) := hid (by rw [HZ0.out]; simp [rSiz, *])
  go_wp2
  go_ret
  exact ⟨by rw [HZ.out]; rfl, HB1.out.trans (HB2.out.mono HB1.out.size)⟩
 ·subst hp
  obtain ⟨g, off, rfl, hgl, hc⟩ := (HR1.out.below HB2.out).resolve_left (fun e => by rw [e] at hi; simp at hi)
  obtain ⟨ma, mc, ⟨y0, y1, y2, y3, y4, y5, y6⟩, _, _⟩ := hc i hi
  have HZ0 : Hid (z = rSiz 2 fr tt x.cp x.vs[i].sz) := hid (by rw [HZ1.out]; unfold szAt; rw [if_pos (by omega), volAt_eq hi])
  have hi1 : (i : Int) < (x.vs.length : Int) := by omega
  have hi0 : (0 : Int) ≤ (i : Int) := by omega
  have hdi : decide ((0 : Int) ≤ (i : Int)) = true := decide_eq_true hi0
  clear hc y0 y1 y3 y4 y5 y6 HR1 HFn HPL
  generalize x.vs[i].sz = sz at *
  have HZ : Hid (z = 0) := hid (by rw [HZ0.out]; simp [rSiz, *])
  go_wp2
  go_ret
  exact ⟨by rw [HZ.out]; rfl, HB1.out.trans (HB2.out.mono HB1.out.size)⟩
set_option maxRecDepth 100000 in
set_option maxHeartbeats 8000000 in
theorem sizes_3 (x : VW) (a : Option Addr) (c0 : Nat) (nm ot : ByteArray) (fr tt : Int) (da : Option Addr) (dn dc : Nat) (w : World) (hl : x.vs.length ≤ 16777216) (hR : RdV w.heap.size w a x.vs) :
  Calls Tryz.prog 81 #[viewA x a c0, opA ⟨3, nm, ot, fr, tt⟩ da dn dc] w fun e w' => LkQ w (rSiz 3 fr tt x.cp (szAt x (plcF x.vs nm 0))) e w' := by
 obtain ⟨P, hP⟩ : ∃ P, P = w.heap.size := ⟨_, rfl⟩
 obtain ⟨O, hOe⟩ : ∃ O, O = w.heap.size + 1 := ⟨_, rfl⟩
 obtain ⟨W1, hW1⟩ : ∃ W1, W1 = (w.alloc (.cells #[.int .i64 x.cp, .int .i64 x.fr, .int .i64 x.nx, .slice a x.vs.length c0] 24)).alloc (.cells #[.int .i64 3, .string nm, .string ot, .int .i64 fr, .int .i64 tt, .slice da dn dc] 42) := ⟨_, rfl⟩
 have b1 : Below w.heap.size w W1 := by rw [hW1]; exact two_below _ _ _
 have hV : VwB W1 P x (.slice a x.vs.length c0) := by
  unfold VwB
  rw [hW1, hP, Below.heap_alloc _ _ _ (by simp)]
  exact heap_new _ _
 have hO : W1.heap[O]? = some (.cells #[.int .i64 3, .string nm, .string ot, .int .i64 fr, .int .i64 tt, .slice da dn dc] 42 (0, 0)) := by
  have := heap_new (w.alloc (.cells #[.int .i64 x.cp, .int .i64 x.fr, .int .i64 x.nx, .slice a x.vs.length c0] 24)) (.cells #[.int .i64 3, .string nm, .string ot, .int .i64 fr, .int .i64 tt, .slice da dn dc] 42)
  rw [World.size_alloc, ← hOe, ← hW1] at this
  exact this
 have hR1 := (hR.below b1).mono b1.size
 have HMk := hid (fun u => makes_any 3 (by decide) (by decide) u)
 have HTk := hid (fun u => takes_any 3 (by decide) (by decide) u)
 have HR1 := hid hR1
 have HV := hid hV
 have HO := hid hO
 have HB1 := hid b1
 have HFn := hid (fun u (hu : Below W1.heap.size W1 u) (s : ByteArray) => find_any x a c0 s u hl ((hR1.below hu).mono hu.size))
 have HPO := hid (And.intro hP.symm hOe.symm)
 have HW1 := hid hW1
 have HOc : Hid (∀ u, Below W1.heap.size W1 u → u.cell? ⟨O, 0, none⟩ = some (.int .i64 3) ∧ u.cell? ⟨O, 1, none⟩ = some (.string nm) ∧ u.cell? ⟨O, 2, none⟩ = some (.string ot) ∧ u.cell? ⟨O, 3, none⟩ = some (.int .i64 fr) ∧ u.cell? ⟨O, 4, none⟩ = some (.int .i64 tt)) := hid (fun u hu => by
  have := (hu.block O (Array.getElem?_eq_some_iff.1 hO).1).trans hO
  simp [World.cell?, this])
 have hpl := plO x nm
 obtain ⟨pn, hpn⟩ : ∃ p, p = plcF x.vs nm 0 := ⟨_, rfl⟩
 have HF1 := hid (HFn.out W1 (Below.refl _ _) nm)
 rw [← hpn] at HF1 hpl
 rw [← hpn]
 obtain ⟨z, hz⟩ : ∃ z, z = rSiz 3 fr tt x.cp (szAt x pn) := ⟨_, rfl⟩
 rw [← hz]
 have HZ1 := hid hz
 have HPL := hid hpl
 clear hpn hz hpl
 obtain ⟨c0', c1, c2, c3, c4⟩ := HOc.out W1 (Below.refl _ _)
 obtain ⟨⟨p0, p1, p2, p3⟩, _⟩ := (HV.out.keep ((Below.refl _ _).block P HV.out.lt)).cs
 rw [hW1] at c0' c1 c2 c3 c4 p0 p1 p2 p3
 clear hP hOe hW1 b1 hV hO hR1 hR
 dsimp only [viewA, opA] at *
 go_enter Tryz.func81, Tryz.ntmps81
 go_wp2_with fail
 rw [← HW1.out]
 try rw [HPO.out.2]
 try rw [HPO.out.1]
 refine HF1.out.mono ?_
 rintro e w2 ⟨rfl, hb2⟩
 have HB2 := hid hb2
 clear hb2 HF1 c0' c1 c2 c3 c4 p0 p1 p2 p3
 obtain ⟨c0', c1, c2, c3, c4⟩ := HOc.out w2 (HB2.out)
 obtain ⟨⟨p0, p1, p2, p3⟩, _⟩ := (HV.out.keep ((HB2.out).block P HV.out.lt)).cs
 rcases HPL.out with hp | ⟨i, hi, hp⟩
 ·subst hp
  obtain ⟨sz, hsz⟩ : ∃ s : Int, s = 0 := ⟨_, rfl⟩
  have HZ0 : Hid (z = rSiz 3 fr tt x.cp sz) := hid (by rw [HZ1.out, hsz]; rfl)
  subst hsz
  have HZ : Hid (z = 0) := hid (by rw [HZ0.out]; simp [rSiz, *])
  go_wp2
  go_ret
  exact ⟨by rw [HZ.out]; rfl, HB1.out.trans (HB2.out.mono HB1.out.size)⟩
 ·subst hp
  obtain ⟨g, off, rfl, hgl, hc⟩ := (HR1.out.below HB2.out).resolve_left (fun e => by rw [e] at hi; simp at hi)
  obtain ⟨ma, mc, ⟨y0, y1, y2, y3, y4, y5, y6⟩, _, _⟩ := hc i hi
  have HZ0 : Hid (z = rSiz 3 fr tt x.cp x.vs[i].sz) := hid (by rw [HZ1.out]; unfold szAt; rw [if_pos (by omega), volAt_eq hi])
  have hi1 : (i : Int) < (x.vs.length : Int) := by omega
  have hi0 : (0 : Int) ≤ (i : Int) := by omega
  have hdi : decide ((0 : Int) ≤ (i : Int)) = true := decide_eq_true hi0
  clear hc y0 y1 y3 y4 y5 y6 HR1 HFn HPL
  generalize x.vs[i].sz = sz at *
  have HZ : Hid (z = 0) := hid (by rw [HZ0.out]; simp [rSiz, *])
  go_wp2
  go_ret
  exact ⟨by rw [HZ.out]; rfl, HB1.out.trans (HB2.out.mono HB1.out.size)⟩
set_option maxRecDepth 100000 in
set_option maxHeartbeats 8000000 in
theorem sizes_4 (x : VW) (a : Option Addr) (c0 : Nat) (nm ot : ByteArray) (fr tt : Int) (da : Option Addr) (dn dc : Nat) (w : World) (hl : x.vs.length ≤ 16777216) (hR : RdV w.heap.size w a x.vs) (h0 : 0 ≤ plcF x.vs nm 0) :
  Calls Tryz.prog 81 #[viewA x a c0, opA ⟨4, nm, ot, fr, tt⟩ da dn dc] w fun e w' => LkQ w (rSiz 4 fr tt x.cp (szAt x (plcF x.vs nm 0))) e w' := by
 obtain ⟨P, hP⟩ : ∃ P, P = w.heap.size := ⟨_, rfl⟩
 obtain ⟨O, hOe⟩ : ∃ O, O = w.heap.size + 1 := ⟨_, rfl⟩
 obtain ⟨W1, hW1⟩ : ∃ W1, W1 = (w.alloc (.cells #[.int .i64 x.cp, .int .i64 x.fr, .int .i64 x.nx, .slice a x.vs.length c0] 24)).alloc (.cells #[.int .i64 4, .string nm, .string ot, .int .i64 fr, .int .i64 tt, .slice da dn dc] 42) := ⟨_, rfl⟩
 have b1 : Below w.heap.size w W1 := by rw [hW1]; exact two_below _ _ _
 have hV : VwB W1 P x (.slice a x.vs.length c0) := by
  unfold VwB
  rw [hW1, hP, Below.heap_alloc _ _ _ (by simp)]
  exact heap_new _ _
 have hO : W1.heap[O]? = some (.cells #[.int .i64 4, .string nm, .string ot, .int .i64 fr, .int .i64 tt, .slice da dn dc] 42 (0, 0)) := by
  have := heap_new (w.alloc (.cells #[.int .i64 x.cp, .int .i64 x.fr, .int .i64 x.nx, .slice a x.vs.length c0] 24)) (.cells #[.int .i64 4, .string nm, .string ot, .int .i64 fr, .int .i64 tt, .slice da dn dc] 42)
  rw [World.size_alloc, ← hOe, ← hW1] at this
  exact this
 have hR1 := (hR.below b1).mono b1.size
 have HMk := hid (fun u => makes_any 4 (by decide) (by decide) u)
 have HTk := hid (fun u => takes_any 4 (by decide) (by decide) u)
 have HR1 := hid hR1
 have HV := hid hV
 have HO := hid hO
 have HB1 := hid b1
 have HFn := hid (fun u (hu : Below W1.heap.size W1 u) (s : ByteArray) => find_any x a c0 s u hl ((hR1.below hu).mono hu.size))
 have HPO := hid (And.intro hP.symm hOe.symm)
 have HW1 := hid hW1
 have HOc : Hid (∀ u, Below W1.heap.size W1 u → u.cell? ⟨O, 0, none⟩ = some (.int .i64 4) ∧ u.cell? ⟨O, 1, none⟩ = some (.string nm) ∧ u.cell? ⟨O, 2, none⟩ = some (.string ot) ∧ u.cell? ⟨O, 3, none⟩ = some (.int .i64 fr) ∧ u.cell? ⟨O, 4, none⟩ = some (.int .i64 tt)) := hid (fun u hu => by
  have := (hu.block O (Array.getElem?_eq_some_iff.1 hO).1).trans hO
  simp [World.cell?, this])
 have hpl := plO x nm
 obtain ⟨pn, hpn⟩ : ∃ p, p = plcF x.vs nm 0 := ⟨_, rfl⟩
 have HF1 := hid (HFn.out W1 (Below.refl _ _) nm)
 rw [← hpn] at HF1 hpl
 rw [← hpn]
 obtain ⟨z, hz⟩ : ∃ z, z = rSiz 4 fr tt x.cp (szAt x pn) := ⟨_, rfl⟩
 rw [← hz]
 have HZ1 := hid hz
 have HPL := hid hpl
 rw [← hpn] at h0
 have H0 := hid h0
 clear h0
 clear hpn hz hpl
 obtain ⟨c0', c1, c2, c3, c4⟩ := HOc.out W1 (Below.refl _ _)
 obtain ⟨⟨p0, p1, p2, p3⟩, _⟩ := (HV.out.keep ((Below.refl _ _).block P HV.out.lt)).cs
 rw [hW1] at c0' c1 c2 c3 c4 p0 p1 p2 p3
 clear hP hOe hW1 b1 hV hO hR1 hR
 dsimp only [viewA, opA] at *
 go_enter Tryz.func81, Tryz.ntmps81
 go_wp2_with fail
 rw [← HW1.out]
 try rw [HPO.out.2]
 try rw [HPO.out.1]
 refine HF1.out.mono ?_
 rintro e w2 ⟨rfl, hb2⟩
 have HB2 := hid hb2
 clear hb2 HF1 c0' c1 c2 c3 c4 p0 p1 p2 p3
 obtain ⟨c0', c1, c2, c3, c4⟩ := HOc.out w2 (HB2.out)
 obtain ⟨⟨p0, p1, p2, p3⟩, _⟩ := (HV.out.keep ((HB2.out).block P HV.out.lt)).cs
 rcases HPL.out with hp | ⟨i, hi, hp⟩
 ·subst hp
  exact absurd H0.out (by omega)
 ·subst hp
  obtain ⟨g, off, rfl, hgl, hc⟩ := (HR1.out.below HB2.out).resolve_left (fun e => by rw [e] at hi; simp at hi)
  obtain ⟨ma, mc, ⟨y0, y1, y2, y3, y4, y5, y6⟩, _, _⟩ := hc i hi
  have HZ0 : Hid (z = rSiz 4 fr tt x.cp x.vs[i].sz) := hid (by rw [HZ1.out]; unfold szAt; rw [if_pos (by omega), volAt_eq hi])
  have hi1 : (i : Int) < (x.vs.length : Int) := by omega
  have hi0 : (0 : Int) ≤ (i : Int) := by omega
  have hdi : decide ((0 : Int) ≤ (i : Int)) = true := decide_eq_true hi0
  clear hc y0 y1 y3 y4 y5 y6 HR1 HFn HPL
  generalize x.vs[i].sz = sz at *
  by_cases q1 : tt < 1
  ·skip
   have HZ : Hid (z = 106) := hid (by rw [HZ0.out]; simp [rSiz, *])
   go_wp2
   go_ret
   exact ⟨by rw [HZ.out]; rfl, HB1.out.trans (HB2.out.mono HB1.out.size)⟩
  ·skip
   by_cases q2 : 262144 < tt
   ·skip
    have HZ : Hid (z = 106) := hid (by rw [HZ0.out]; simp [rSiz, *])
    go_wp2
    go_ret
    exact ⟨by rw [HZ.out]; rfl, HB1.out.trans (HB2.out.mono HB1.out.size)⟩
   ·skip
    have HZ : Hid (z = 0) := hid (by rw [HZ0.out]; simp [rSiz, *])
    go_wp2
    go_ret
    exact ⟨by rw [HZ.out]; rfl, HB1.out.trans (HB2.out.mono HB1.out.size)⟩
set_option maxRecDepth 100000 in
set_option maxHeartbeats 8000000 in
theorem sizes_5 (x : VW) (a : Option Addr) (c0 : Nat) (nm ot : ByteArray) (fr tt : Int) (da : Option Addr) (dn dc : Nat) (w : World) (hl : x.vs.length ≤ 16777216) (hR : RdV w.heap.size w a x.vs) (h0 : 0 ≤ plcF x.vs nm 0) :
  Calls Tryz.prog 81 #[viewA x a c0, opA ⟨5, nm, ot, fr, tt⟩ da dn dc] w fun e w' => LkQ w (rSiz 5 fr tt x.cp (szAt x (plcF x.vs nm 0))) e w' := by
 obtain ⟨P, hP⟩ : ∃ P, P = w.heap.size := ⟨_, rfl⟩
 obtain ⟨O, hOe⟩ : ∃ O, O = w.heap.size + 1 := ⟨_, rfl⟩
 obtain ⟨W1, hW1⟩ : ∃ W1, W1 = (w.alloc (.cells #[.int .i64 x.cp, .int .i64 x.fr, .int .i64 x.nx, .slice a x.vs.length c0] 24)).alloc (.cells #[.int .i64 5, .string nm, .string ot, .int .i64 fr, .int .i64 tt, .slice da dn dc] 42) := ⟨_, rfl⟩
 have b1 : Below w.heap.size w W1 := by rw [hW1]; exact two_below _ _ _
 have hV : VwB W1 P x (.slice a x.vs.length c0) := by
  unfold VwB
  rw [hW1, hP, Below.heap_alloc _ _ _ (by simp)]
  exact heap_new _ _
 have hO : W1.heap[O]? = some (.cells #[.int .i64 5, .string nm, .string ot, .int .i64 fr, .int .i64 tt, .slice da dn dc] 42 (0, 0)) := by
  have := heap_new (w.alloc (.cells #[.int .i64 x.cp, .int .i64 x.fr, .int .i64 x.nx, .slice a x.vs.length c0] 24)) (.cells #[.int .i64 5, .string nm, .string ot, .int .i64 fr, .int .i64 tt, .slice da dn dc] 42)
  rw [World.size_alloc, ← hOe, ← hW1] at this
  exact this
 have hR1 := (hR.below b1).mono b1.size
 have HMk := hid (fun u => makes_any 5 (by decide) (by decide) u)
 have HTk := hid (fun u => takes_any 5 (by decide) (by decide) u)
 have HR1 := hid hR1
 have HV := hid hV
 have HO := hid hO
 have HB1 := hid b1
 have HFn := hid (fun u (hu : Below W1.heap.size W1 u) (s : ByteArray) => find_any x a c0 s u hl ((hR1.below hu).mono hu.size))
 have HPO := hid (And.intro hP.symm hOe.symm)
 have HW1 := hid hW1
 have HOc : Hid (∀ u, Below W1.heap.size W1 u → u.cell? ⟨O, 0, none⟩ = some (.int .i64 5) ∧ u.cell? ⟨O, 1, none⟩ = some (.string nm) ∧ u.cell? ⟨O, 2, none⟩ = some (.string ot) ∧ u.cell? ⟨O, 3, none⟩ = some (.int .i64 fr) ∧ u.cell? ⟨O, 4, none⟩ = some (.int .i64 tt)) := hid (fun u hu => by
  have := (hu.block O (Array.getElem?_eq_some_iff.1 hO).1).trans hO
  simp [World.cell?, this])
 have hpl := plO x nm
 obtain ⟨pn, hpn⟩ : ∃ p, p = plcF x.vs nm 0 := ⟨_, rfl⟩
 have HF1 := hid (HFn.out W1 (Below.refl _ _) nm)
 rw [← hpn] at HF1 hpl
 rw [← hpn]
 obtain ⟨z, hz⟩ : ∃ z, z = rSiz 5 fr tt x.cp (szAt x pn) := ⟨_, rfl⟩
 rw [← hz]
 have HZ1 := hid hz
 have HPL := hid hpl
 rw [← hpn] at h0
 have H0 := hid h0
 clear h0
 clear hpn hz hpl
 obtain ⟨c0', c1, c2, c3, c4⟩ := HOc.out W1 (Below.refl _ _)
 obtain ⟨⟨p0, p1, p2, p3⟩, _⟩ := (HV.out.keep ((Below.refl _ _).block P HV.out.lt)).cs
 rw [hW1] at c0' c1 c2 c3 c4 p0 p1 p2 p3
 clear hP hOe hW1 b1 hV hO hR1 hR
 dsimp only [viewA, opA] at *
 go_enter Tryz.func81, Tryz.ntmps81
 go_wp2_with fail
 rw [← HW1.out]
 try rw [HPO.out.2]
 try rw [HPO.out.1]
 refine HF1.out.mono ?_
 rintro e w2 ⟨rfl, hb2⟩
 have HB2 := hid hb2
 clear hb2 HF1 c0' c1 c2 c3 c4 p0 p1 p2 p3
 obtain ⟨c0', c1, c2, c3, c4⟩ := HOc.out w2 (HB2.out)
 obtain ⟨⟨p0, p1, p2, p3⟩, _⟩ := (HV.out.keep ((HB2.out).block P HV.out.lt)).cs
 rcases HPL.out with hp | ⟨i, hi, hp⟩
 ·subst hp
  exact absurd H0.out (by omega)
 ·subst hp
  obtain ⟨g, off, rfl, hgl, hc⟩ := (HR1.out.below HB2.out).resolve_left (fun e => by rw [e] at hi; simp at hi)
  obtain ⟨ma, mc, ⟨y0, y1, y2, y3, y4, y5, y6⟩, _, _⟩ := hc i hi
  have HZ0 : Hid (z = rSiz 5 fr tt x.cp x.vs[i].sz) := hid (by rw [HZ1.out]; unfold szAt; rw [if_pos (by omega), volAt_eq hi])
  have hi1 : (i : Int) < (x.vs.length : Int) := by omega
  have hi0 : (0 : Int) ≤ (i : Int) := by omega
  have hdi : decide ((0 : Int) ≤ (i : Int)) = true := decide_eq_true hi0
  clear hc y0 y1 y3 y4 y5 y6 HR1 HFn HPL
  generalize x.vs[i].sz = sz at *
  have HZ : Hid (z = 0) := hid (by rw [HZ0.out]; simp [rSiz, *])
  go_wp2
  go_ret
  exact ⟨by rw [HZ.out]; rfl, HB1.out.trans (HB2.out.mono HB1.out.size)⟩
set_option maxRecDepth 100000 in
set_option maxHeartbeats 8000000 in
theorem sizes_6 (x : VW) (a : Option Addr) (c0 : Nat) (nm ot : ByteArray) (fr tt : Int) (da : Option Addr) (dn dc : Nat) (w : World) (hl : x.vs.length ≤ 16777216) (hR : RdV w.heap.size w a x.vs) (h0 : 0 ≤ plcF x.vs nm 0) :
  Calls Tryz.prog 81 #[viewA x a c0, opA ⟨6, nm, ot, fr, tt⟩ da dn dc] w fun e w' => LkQ w (rSiz 6 fr tt x.cp (szAt x (plcF x.vs nm 0))) e w' := by
 obtain ⟨P, hP⟩ : ∃ P, P = w.heap.size := ⟨_, rfl⟩
 obtain ⟨O, hOe⟩ : ∃ O, O = w.heap.size + 1 := ⟨_, rfl⟩
 obtain ⟨W1, hW1⟩ : ∃ W1, W1 = (w.alloc (.cells #[.int .i64 x.cp, .int .i64 x.fr, .int .i64 x.nx, .slice a x.vs.length c0] 24)).alloc (.cells #[.int .i64 6, .string nm, .string ot, .int .i64 fr, .int .i64 tt, .slice da dn dc] 42) := ⟨_, rfl⟩
 have b1 : Below w.heap.size w W1 := by rw [hW1]; exact two_below _ _ _
 have hV : VwB W1 P x (.slice a x.vs.length c0) := by
  unfold VwB
  rw [hW1, hP, Below.heap_alloc _ _ _ (by simp)]
  exact heap_new _ _
 have hO : W1.heap[O]? = some (.cells #[.int .i64 6, .string nm, .string ot, .int .i64 fr, .int .i64 tt, .slice da dn dc] 42 (0, 0)) := by
  have := heap_new (w.alloc (.cells #[.int .i64 x.cp, .int .i64 x.fr, .int .i64 x.nx, .slice a x.vs.length c0] 24)) (.cells #[.int .i64 6, .string nm, .string ot, .int .i64 fr, .int .i64 tt, .slice da dn dc] 42)
  rw [World.size_alloc, ← hOe, ← hW1] at this
  exact this
 have hR1 := (hR.below b1).mono b1.size
 have HMk := hid (fun u => makes_any 6 (by decide) (by decide) u)
 have HTk := hid (fun u => takes_any 6 (by decide) (by decide) u)
 have HR1 := hid hR1
 have HV := hid hV
 have HO := hid hO
 have HB1 := hid b1
 have HFn := hid (fun u (hu : Below W1.heap.size W1 u) (s : ByteArray) => find_any x a c0 s u hl ((hR1.below hu).mono hu.size))
 have HPO := hid (And.intro hP.symm hOe.symm)
 have HW1 := hid hW1
 have HOc : Hid (∀ u, Below W1.heap.size W1 u → u.cell? ⟨O, 0, none⟩ = some (.int .i64 6) ∧ u.cell? ⟨O, 1, none⟩ = some (.string nm) ∧ u.cell? ⟨O, 2, none⟩ = some (.string ot) ∧ u.cell? ⟨O, 3, none⟩ = some (.int .i64 fr) ∧ u.cell? ⟨O, 4, none⟩ = some (.int .i64 tt)) := hid (fun u hu => by
  have := (hu.block O (Array.getElem?_eq_some_iff.1 hO).1).trans hO
  simp [World.cell?, this])
 have hpl := plO x nm
 obtain ⟨pn, hpn⟩ : ∃ p, p = plcF x.vs nm 0 := ⟨_, rfl⟩
 have HF1 := hid (HFn.out W1 (Below.refl _ _) nm)
 rw [← hpn] at HF1 hpl
 rw [← hpn]
 obtain ⟨z, hz⟩ : ∃ z, z = rSiz 6 fr tt x.cp (szAt x pn) := ⟨_, rfl⟩
 rw [← hz]
 have HZ1 := hid hz
 have HPL := hid hpl
 rw [← hpn] at h0
 have H0 := hid h0
 clear h0
 clear hpn hz hpl
 obtain ⟨c0', c1, c2, c3, c4⟩ := HOc.out W1 (Below.refl _ _)
 obtain ⟨⟨p0, p1, p2, p3⟩, _⟩ := (HV.out.keep ((Below.refl _ _).block P HV.out.lt)).cs
 rw [hW1] at c0' c1 c2 c3 c4 p0 p1 p2 p3
 clear hP hOe hW1 b1 hV hO hR1 hR
 dsimp only [viewA, opA] at *
 go_enter Tryz.func81, Tryz.ntmps81
 go_wp2_with fail
 rw [← HW1.out]
 try rw [HPO.out.2]
 try rw [HPO.out.1]
 refine HF1.out.mono ?_
 rintro e w2 ⟨rfl, hb2⟩
 have HB2 := hid hb2
 clear hb2 HF1 c0' c1 c2 c3 c4 p0 p1 p2 p3
 obtain ⟨c0', c1, c2, c3, c4⟩ := HOc.out w2 (HB2.out)
 obtain ⟨⟨p0, p1, p2, p3⟩, _⟩ := (HV.out.keep ((HB2.out).block P HV.out.lt)).cs
 rcases HPL.out with hp | ⟨i, hi, hp⟩
 ·subst hp
  exact absurd H0.out (by omega)
 ·subst hp
  obtain ⟨g, off, rfl, hgl, hc⟩ := (HR1.out.below HB2.out).resolve_left (fun e => by rw [e] at hi; simp at hi)
  obtain ⟨ma, mc, ⟨y0, y1, y2, y3, y4, y5, y6⟩, _, _⟩ := hc i hi
  have HZ0 : Hid (z = rSiz 6 fr tt x.cp x.vs[i].sz) := hid (by rw [HZ1.out]; unfold szAt; rw [if_pos (by omega), volAt_eq hi])
  have hi1 : (i : Int) < (x.vs.length : Int) := by omega
  have hi0 : (0 : Int) ≤ (i : Int) := by omega
  have hdi : decide ((0 : Int) ≤ (i : Int)) = true := decide_eq_true hi0
  clear hc y0 y1 y3 y4 y5 y6 HR1 HFn HPL
  generalize x.vs[i].sz = sz at *
  have HZ : Hid (z = 0) := hid (by rw [HZ0.out]; simp [rSiz, *])
  go_wp2
  go_ret
  exact ⟨by rw [HZ.out]; rfl, HB1.out.trans (HB2.out.mono HB1.out.size)⟩
set_option maxRecDepth 100000 in
set_option maxHeartbeats 8000000 in
theorem sizes_7 (x : VW) (a : Option Addr) (c0 : Nat) (nm ot : ByteArray) (fr tt : Int) (da : Option Addr) (dn dc : Nat) (w : World) (hl : x.vs.length ≤ 16777216) (hR : RdV w.heap.size w a x.vs) (h0 : 0 ≤ plcF x.vs nm 0) :
  Calls Tryz.prog 81 #[viewA x a c0, opA ⟨7, nm, ot, fr, tt⟩ da dn dc] w fun e w' => LkQ w (rSiz 7 fr tt x.cp (szAt x (plcF x.vs nm 0))) e w' := by
 obtain ⟨P, hP⟩ : ∃ P, P = w.heap.size := ⟨_, rfl⟩
 obtain ⟨O, hOe⟩ : ∃ O, O = w.heap.size + 1 := ⟨_, rfl⟩
 obtain ⟨W1, hW1⟩ : ∃ W1, W1 = (w.alloc (.cells #[.int .i64 x.cp, .int .i64 x.fr, .int .i64 x.nx, .slice a x.vs.length c0] 24)).alloc (.cells #[.int .i64 7, .string nm, .string ot, .int .i64 fr, .int .i64 tt, .slice da dn dc] 42) := ⟨_, rfl⟩
 have b1 : Below w.heap.size w W1 := by rw [hW1]; exact two_below _ _ _
 have hV : VwB W1 P x (.slice a x.vs.length c0) := by
  unfold VwB
  rw [hW1, hP, Below.heap_alloc _ _ _ (by simp)]
  exact heap_new _ _
 have hO : W1.heap[O]? = some (.cells #[.int .i64 7, .string nm, .string ot, .int .i64 fr, .int .i64 tt, .slice da dn dc] 42 (0, 0)) := by
  have := heap_new (w.alloc (.cells #[.int .i64 x.cp, .int .i64 x.fr, .int .i64 x.nx, .slice a x.vs.length c0] 24)) (.cells #[.int .i64 7, .string nm, .string ot, .int .i64 fr, .int .i64 tt, .slice da dn dc] 42)
  rw [World.size_alloc, ← hOe, ← hW1] at this
  exact this
 have hR1 := (hR.below b1).mono b1.size
 have HMk := hid (fun u => makes_any 7 (by decide) (by decide) u)
 have HTk := hid (fun u => takes_any 7 (by decide) (by decide) u)
 have HR1 := hid hR1
 have HV := hid hV
 have HO := hid hO
 have HB1 := hid b1
 have HFn := hid (fun u (hu : Below W1.heap.size W1 u) (s : ByteArray) => find_any x a c0 s u hl ((hR1.below hu).mono hu.size))
 have HPO := hid (And.intro hP.symm hOe.symm)
 have HW1 := hid hW1
 have HOc : Hid (∀ u, Below W1.heap.size W1 u → u.cell? ⟨O, 0, none⟩ = some (.int .i64 7) ∧ u.cell? ⟨O, 1, none⟩ = some (.string nm) ∧ u.cell? ⟨O, 2, none⟩ = some (.string ot) ∧ u.cell? ⟨O, 3, none⟩ = some (.int .i64 fr) ∧ u.cell? ⟨O, 4, none⟩ = some (.int .i64 tt)) := hid (fun u hu => by
  have := (hu.block O (Array.getElem?_eq_some_iff.1 hO).1).trans hO
  simp [World.cell?, this])
 have hpl := plO x nm
 obtain ⟨pn, hpn⟩ : ∃ p, p = plcF x.vs nm 0 := ⟨_, rfl⟩
 have HF1 := hid (HFn.out W1 (Below.refl _ _) nm)
 rw [← hpn] at HF1 hpl
 rw [← hpn]
 obtain ⟨z, hz⟩ : ∃ z, z = rSiz 7 fr tt x.cp (szAt x pn) := ⟨_, rfl⟩
 rw [← hz]
 have HZ1 := hid hz
 have HPL := hid hpl
 rw [← hpn] at h0
 have H0 := hid h0
 clear h0
 clear hpn hz hpl
 obtain ⟨c0', c1, c2, c3, c4⟩ := HOc.out W1 (Below.refl _ _)
 obtain ⟨⟨p0, p1, p2, p3⟩, _⟩ := (HV.out.keep ((Below.refl _ _).block P HV.out.lt)).cs
 rw [hW1] at c0' c1 c2 c3 c4 p0 p1 p2 p3
 clear hP hOe hW1 b1 hV hO hR1 hR
 dsimp only [viewA, opA] at *
 go_enter Tryz.func81, Tryz.ntmps81
 go_wp2_with fail
 rw [← HW1.out]
 try rw [HPO.out.2]
 try rw [HPO.out.1]
 refine HF1.out.mono ?_
 rintro e w2 ⟨rfl, hb2⟩
 have HB2 := hid hb2
 clear hb2 HF1 c0' c1 c2 c3 c4 p0 p1 p2 p3
 obtain ⟨c0', c1, c2, c3, c4⟩ := HOc.out w2 (HB2.out)
 obtain ⟨⟨p0, p1, p2, p3⟩, _⟩ := (HV.out.keep ((HB2.out).block P HV.out.lt)).cs
 rcases HPL.out with hp | ⟨i, hi, hp⟩
 ·subst hp
  exact absurd H0.out (by omega)
 ·subst hp
  obtain ⟨g, off, rfl, hgl, hc⟩ := (HR1.out.below HB2.out).resolve_left (fun e => by rw [e] at hi; simp at hi)
  obtain ⟨ma, mc, ⟨y0, y1, y2, y3, y4, y5, y6⟩, _, _⟩ := hc i hi
  have HZ0 : Hid (z = rSiz 7 fr tt x.cp x.vs[i].sz) := hid (by rw [HZ1.out]; unfold szAt; rw [if_pos (by omega), volAt_eq hi])
  have hi1 : (i : Int) < (x.vs.length : Int) := by omega
  have hi0 : (0 : Int) ≤ (i : Int) := by omega
  have hdi : decide ((0 : Int) ≤ (i : Int)) = true := decide_eq_true hi0
  clear hc y0 y1 y3 y4 y5 y6 HR1 HFn HPL
  generalize x.vs[i].sz = sz at *
  have HZ : Hid (z = 0) := hid (by rw [HZ0.out]; simp [rSiz, *])
  go_wp2
  go_ret
  exact ⟨by rw [HZ.out]; rfl, HB1.out.trans (HB2.out.mono HB1.out.size)⟩
set_option maxRecDepth 100000 in
set_option maxHeartbeats 8000000 in
theorem sizes_8 (x : VW) (a : Option Addr) (c0 : Nat) (nm ot : ByteArray) (fr tt : Int) (da : Option Addr) (dn dc : Nat) (w : World) (hl : x.vs.length ≤ 16777216) (hR : RdV w.heap.size w a x.vs) (h0 : 0 ≤ plcF x.vs nm 0) :
  Calls Tryz.prog 81 #[viewA x a c0, opA ⟨8, nm, ot, fr, tt⟩ da dn dc] w fun e w' => LkQ w (rSiz 8 fr tt x.cp (szAt x (plcF x.vs nm 0))) e w' := by
 obtain ⟨P, hP⟩ : ∃ P, P = w.heap.size := ⟨_, rfl⟩
 obtain ⟨O, hOe⟩ : ∃ O, O = w.heap.size + 1 := ⟨_, rfl⟩
 obtain ⟨W1, hW1⟩ : ∃ W1, W1 = (w.alloc (.cells #[.int .i64 x.cp, .int .i64 x.fr, .int .i64 x.nx, .slice a x.vs.length c0] 24)).alloc (.cells #[.int .i64 8, .string nm, .string ot, .int .i64 fr, .int .i64 tt, .slice da dn dc] 42) := ⟨_, rfl⟩
 have b1 : Below w.heap.size w W1 := by rw [hW1]; exact two_below _ _ _
 have hV : VwB W1 P x (.slice a x.vs.length c0) := by
  unfold VwB
  rw [hW1, hP, Below.heap_alloc _ _ _ (by simp)]
  exact heap_new _ _
 have hO : W1.heap[O]? = some (.cells #[.int .i64 8, .string nm, .string ot, .int .i64 fr, .int .i64 tt, .slice da dn dc] 42 (0, 0)) := by
  have := heap_new (w.alloc (.cells #[.int .i64 x.cp, .int .i64 x.fr, .int .i64 x.nx, .slice a x.vs.length c0] 24)) (.cells #[.int .i64 8, .string nm, .string ot, .int .i64 fr, .int .i64 tt, .slice da dn dc] 42)
  rw [World.size_alloc, ← hOe, ← hW1] at this
  exact this
 have hR1 := (hR.below b1).mono b1.size
 have HMk := hid (fun u => makes_any 8 (by decide) (by decide) u)
 have HTk := hid (fun u => takes_any 8 (by decide) (by decide) u)
 have HR1 := hid hR1
 have HV := hid hV
 have HO := hid hO
 have HB1 := hid b1
 have HFn := hid (fun u (hu : Below W1.heap.size W1 u) (s : ByteArray) => find_any x a c0 s u hl ((hR1.below hu).mono hu.size))
 have HPO := hid (And.intro hP.symm hOe.symm)
 have HW1 := hid hW1
 have HOc : Hid (∀ u, Below W1.heap.size W1 u → u.cell? ⟨O, 0, none⟩ = some (.int .i64 8) ∧ u.cell? ⟨O, 1, none⟩ = some (.string nm) ∧ u.cell? ⟨O, 2, none⟩ = some (.string ot) ∧ u.cell? ⟨O, 3, none⟩ = some (.int .i64 fr) ∧ u.cell? ⟨O, 4, none⟩ = some (.int .i64 tt)) := hid (fun u hu => by
  have := (hu.block O (Array.getElem?_eq_some_iff.1 hO).1).trans hO
  simp [World.cell?, this])
 have hpl := plO x nm
 obtain ⟨pn, hpn⟩ : ∃ p, p = plcF x.vs nm 0 := ⟨_, rfl⟩
 have HF1 := hid (HFn.out W1 (Below.refl _ _) nm)
 rw [← hpn] at HF1 hpl
 rw [← hpn]
 obtain ⟨z, hz⟩ : ∃ z, z = rSiz 8 fr tt x.cp (szAt x pn) := ⟨_, rfl⟩
 rw [← hz]
 have HZ1 := hid hz
 have HPL := hid hpl
 rw [← hpn] at h0
 have H0 := hid h0
 clear h0
 clear hpn hz hpl
 obtain ⟨c0', c1, c2, c3, c4⟩ := HOc.out W1 (Below.refl _ _)
 obtain ⟨⟨p0, p1, p2, p3⟩, _⟩ := (HV.out.keep ((Below.refl _ _).block P HV.out.lt)).cs
 rw [hW1] at c0' c1 c2 c3 c4 p0 p1 p2 p3
 clear hP hOe hW1 b1 hV hO hR1 hR
 dsimp only [viewA, opA] at *
 go_enter Tryz.func81, Tryz.ntmps81
 go_wp2_with fail
 rw [← HW1.out]
 try rw [HPO.out.2]
 try rw [HPO.out.1]
 refine HF1.out.mono ?_
 rintro e w2 ⟨rfl, hb2⟩
 have HB2 := hid hb2
 clear hb2 HF1 c0' c1 c2 c3 c4 p0 p1 p2 p3
 obtain ⟨c0', c1, c2, c3, c4⟩ := HOc.out w2 (HB2.out)
 obtain ⟨⟨p0, p1, p2, p3⟩, _⟩ := (HV.out.keep ((HB2.out).block P HV.out.lt)).cs
 rcases HPL.out with hp | ⟨i, hi, hp⟩
 ·subst hp
  exact absurd H0.out (by omega)
 ·subst hp
  obtain ⟨g, off, rfl, hgl, hc⟩ := (HR1.out.below HB2.out).resolve_left (fun e => by rw [e] at hi; simp at hi)
  obtain ⟨ma, mc, ⟨y0, y1, y2, y3, y4, y5, y6⟩, _, _⟩ := hc i hi
  have HZ0 : Hid (z = rSiz 8 fr tt x.cp x.vs[i].sz) := hid (by rw [HZ1.out]; unfold szAt; rw [if_pos (by omega), volAt_eq hi])
  have hi1 : (i : Int) < (x.vs.length : Int) := by omega
  have hi0 : (0 : Int) ≤ (i : Int) := by omega
  have hdi : decide ((0 : Int) ≤ (i : Int)) = true := decide_eq_true hi0
  clear hc y0 y1 y3 y4 y5 y6 HR1 HFn HPL
  generalize x.vs[i].sz = sz at *
  by_cases q1 : fr < 0
  ·skip
   have HZ : Hid (z = 107) := hid (by rw [HZ0.out]; simp [rSiz, *])
   go_wp2
   go_ret
   exact ⟨by rw [HZ.out]; rfl, HB1.out.trans (HB2.out.mono HB1.out.size)⟩
  ·skip
   by_cases q2 : sz ≤ fr
   ·skip
    have HZ : Hid (z = 107) := hid (by rw [HZ0.out]; simp [rSiz, *])
    go_wp2
    go_ret
    exact ⟨by rw [HZ.out]; rfl, HB1.out.trans (HB2.out.mono HB1.out.size)⟩
   ·skip
    have HZ : Hid (z = 0) := hid (by rw [HZ0.out]; simp [rSiz, *])
    go_wp2
    go_ret
    exact ⟨by rw [HZ.out]; rfl, HB1.out.trans (HB2.out.mono HB1.out.size)⟩
set_option maxRecDepth 100000 in
set_option maxHeartbeats 8000000 in
theorem sizes_9 (x : VW) (a : Option Addr) (c0 : Nat) (nm ot : ByteArray) (fr tt : Int) (da : Option Addr) (dn dc : Nat) (w : World) (hl : x.vs.length ≤ 16777216) (hR : RdV w.heap.size w a x.vs) (h0 : 0 ≤ plcF x.vs nm 0) :
  Calls Tryz.prog 81 #[viewA x a c0, opA ⟨9, nm, ot, fr, tt⟩ da dn dc] w fun e w' => LkQ w (rSiz 9 fr tt x.cp (szAt x (plcF x.vs nm 0))) e w' := by
 obtain ⟨P, hP⟩ : ∃ P, P = w.heap.size := ⟨_, rfl⟩
 obtain ⟨O, hOe⟩ : ∃ O, O = w.heap.size + 1 := ⟨_, rfl⟩
 obtain ⟨W1, hW1⟩ : ∃ W1, W1 = (w.alloc (.cells #[.int .i64 x.cp, .int .i64 x.fr, .int .i64 x.nx, .slice a x.vs.length c0] 24)).alloc (.cells #[.int .i64 9, .string nm, .string ot, .int .i64 fr, .int .i64 tt, .slice da dn dc] 42) := ⟨_, rfl⟩
 have b1 : Below w.heap.size w W1 := by rw [hW1]; exact two_below _ _ _
 have hV : VwB W1 P x (.slice a x.vs.length c0) := by
  unfold VwB
  rw [hW1, hP, Below.heap_alloc _ _ _ (by simp)]
  exact heap_new _ _
 have hO : W1.heap[O]? = some (.cells #[.int .i64 9, .string nm, .string ot, .int .i64 fr, .int .i64 tt, .slice da dn dc] 42 (0, 0)) := by
  have := heap_new (w.alloc (.cells #[.int .i64 x.cp, .int .i64 x.fr, .int .i64 x.nx, .slice a x.vs.length c0] 24)) (.cells #[.int .i64 9, .string nm, .string ot, .int .i64 fr, .int .i64 tt, .slice da dn dc] 42)
  rw [World.size_alloc, ← hOe, ← hW1] at this
  exact this
 have hR1 := (hR.below b1).mono b1.size
 have HMk := hid (fun u => makes_any 9 (by decide) (by decide) u)
 have HTk := hid (fun u => takes_any 9 (by decide) (by decide) u)
 have HR1 := hid hR1
 have HV := hid hV
 have HO := hid hO
 have HB1 := hid b1
 have HFn := hid (fun u (hu : Below W1.heap.size W1 u) (s : ByteArray) => find_any x a c0 s u hl ((hR1.below hu).mono hu.size))
 have HPO := hid (And.intro hP.symm hOe.symm)
 have HW1 := hid hW1
 have HOc : Hid (∀ u, Below W1.heap.size W1 u → u.cell? ⟨O, 0, none⟩ = some (.int .i64 9) ∧ u.cell? ⟨O, 1, none⟩ = some (.string nm) ∧ u.cell? ⟨O, 2, none⟩ = some (.string ot) ∧ u.cell? ⟨O, 3, none⟩ = some (.int .i64 fr) ∧ u.cell? ⟨O, 4, none⟩ = some (.int .i64 tt)) := hid (fun u hu => by
  have := (hu.block O (Array.getElem?_eq_some_iff.1 hO).1).trans hO
  simp [World.cell?, this])
 have hpl := plO x nm
 obtain ⟨pn, hpn⟩ : ∃ p, p = plcF x.vs nm 0 := ⟨_, rfl⟩
 have HF1 := hid (HFn.out W1 (Below.refl _ _) nm)
 rw [← hpn] at HF1 hpl
 rw [← hpn]
 obtain ⟨z, hz⟩ : ∃ z, z = rSiz 9 fr tt x.cp (szAt x pn) := ⟨_, rfl⟩
 rw [← hz]
 have HZ1 := hid hz
 have HPL := hid hpl
 rw [← hpn] at h0
 have H0 := hid h0
 clear h0
 clear hpn hz hpl
 obtain ⟨c0', c1, c2, c3, c4⟩ := HOc.out W1 (Below.refl _ _)
 obtain ⟨⟨p0, p1, p2, p3⟩, _⟩ := (HV.out.keep ((Below.refl _ _).block P HV.out.lt)).cs
 rw [hW1] at c0' c1 c2 c3 c4 p0 p1 p2 p3
 clear hP hOe hW1 b1 hV hO hR1 hR
 dsimp only [viewA, opA] at *
 go_enter Tryz.func81, Tryz.ntmps81
 go_wp2_with fail
 rw [← HW1.out]
 try rw [HPO.out.2]
 try rw [HPO.out.1]
 refine HF1.out.mono ?_
 rintro e w2 ⟨rfl, hb2⟩
 have HB2 := hid hb2
 clear hb2 HF1 c0' c1 c2 c3 c4 p0 p1 p2 p3
 obtain ⟨c0', c1, c2, c3, c4⟩ := HOc.out w2 (HB2.out)
 obtain ⟨⟨p0, p1, p2, p3⟩, _⟩ := (HV.out.keep ((HB2.out).block P HV.out.lt)).cs
 rcases HPL.out with hp | ⟨i, hi, hp⟩
 ·subst hp
  exact absurd H0.out (by omega)
 ·subst hp
  obtain ⟨g, off, rfl, hgl, hc⟩ := (HR1.out.below HB2.out).resolve_left (fun e => by rw [e] at hi; simp at hi)
  obtain ⟨ma, mc, ⟨y0, y1, y2, y3, y4, y5, y6⟩, _, _⟩ := hc i hi
  have HZ0 : Hid (z = rSiz 9 fr tt x.cp x.vs[i].sz) := hid (by rw [HZ1.out]; unfold szAt; rw [if_pos (by omega), volAt_eq hi])
  have hi1 : (i : Int) < (x.vs.length : Int) := by omega
  have hi0 : (0 : Int) ≤ (i : Int) := by omega
  have hdi : decide ((0 : Int) ≤ (i : Int)) = true := decide_eq_true hi0
  clear hc y0 y1 y3 y4 y5 y6 HR1 HFn HPL
  generalize x.vs[i].sz = sz at *
  by_cases q1 : fr < 0
  ·skip
   have HZ : Hid (z = 107) := hid (by rw [HZ0.out]; simp [rSiz, *])
   go_wp2
   go_ret
   exact ⟨by rw [HZ.out]; rfl, HB1.out.trans (HB2.out.mono HB1.out.size)⟩
  ·skip
   by_cases q2 : sz < tt
   ·skip
    have HZ : Hid (z = 107) := hid (by rw [HZ0.out]; simp [rSiz, *])
    go_wp2
    go_ret
    exact ⟨by rw [HZ.out]; rfl, HB1.out.trans (HB2.out.mono HB1.out.size)⟩
   ·skip
    by_cases q3 : tt < fr
    ·skip
     have HZ : Hid (z = 107) := hid (by rw [HZ0.out]; simp [rSiz, *])
     go_wp2
     go_ret
     exact ⟨by rw [HZ.out]; rfl, HB1.out.trans (HB2.out.mono HB1.out.size)⟩
    ·skip
     have HZ : Hid (z = 0) := hid (by rw [HZ0.out]; simp [rSiz, *])
     go_wp2
     go_ret
     exact ⟨by rw [HZ.out]; rfl, HB1.out.trans (HB2.out.mono HB1.out.size)⟩
set_option maxRecDepth 100000 in
set_option maxHeartbeats 8000000 in
theorem sizes_10 (x : VW) (a : Option Addr) (c0 : Nat) (nm ot : ByteArray) (fr tt : Int) (da : Option Addr) (dn dc : Nat) (w : World) (hl : x.vs.length ≤ 16777216) (hR : RdV w.heap.size w a x.vs) (h0 : 0 ≤ plcF x.vs nm 0) :
  Calls Tryz.prog 81 #[viewA x a c0, opA ⟨10, nm, ot, fr, tt⟩ da dn dc] w fun e w' => LkQ w (rSiz 10 fr tt x.cp (szAt x (plcF x.vs nm 0))) e w' := by
 obtain ⟨P, hP⟩ : ∃ P, P = w.heap.size := ⟨_, rfl⟩
 obtain ⟨O, hOe⟩ : ∃ O, O = w.heap.size + 1 := ⟨_, rfl⟩
 obtain ⟨W1, hW1⟩ : ∃ W1, W1 = (w.alloc (.cells #[.int .i64 x.cp, .int .i64 x.fr, .int .i64 x.nx, .slice a x.vs.length c0] 24)).alloc (.cells #[.int .i64 10, .string nm, .string ot, .int .i64 fr, .int .i64 tt, .slice da dn dc] 42) := ⟨_, rfl⟩
 have b1 : Below w.heap.size w W1 := by rw [hW1]; exact two_below _ _ _
 have hV : VwB W1 P x (.slice a x.vs.length c0) := by
  unfold VwB
  rw [hW1, hP, Below.heap_alloc _ _ _ (by simp)]
  exact heap_new _ _
 have hO : W1.heap[O]? = some (.cells #[.int .i64 10, .string nm, .string ot, .int .i64 fr, .int .i64 tt, .slice da dn dc] 42 (0, 0)) := by
  have := heap_new (w.alloc (.cells #[.int .i64 x.cp, .int .i64 x.fr, .int .i64 x.nx, .slice a x.vs.length c0] 24)) (.cells #[.int .i64 10, .string nm, .string ot, .int .i64 fr, .int .i64 tt, .slice da dn dc] 42)
  rw [World.size_alloc, ← hOe, ← hW1] at this
  exact this
 have hR1 := (hR.below b1).mono b1.size
 have HMk := hid (fun u => makes_any 10 (by decide) (by decide) u)
 have HTk := hid (fun u => takes_any 10 (by decide) (by decide) u)
 have HR1 := hid hR1
 have HV := hid hV
 have HO := hid hO
 have HB1 := hid b1
 have HFn := hid (fun u (hu : Below W1.heap.size W1 u) (s : ByteArray) => find_any x a c0 s u hl ((hR1.below hu).mono hu.size))
 have HPO := hid (And.intro hP.symm hOe.symm)
 have HW1 := hid hW1
 have HOc : Hid (∀ u, Below W1.heap.size W1 u → u.cell? ⟨O, 0, none⟩ = some (.int .i64 10) ∧ u.cell? ⟨O, 1, none⟩ = some (.string nm) ∧ u.cell? ⟨O, 2, none⟩ = some (.string ot) ∧ u.cell? ⟨O, 3, none⟩ = some (.int .i64 fr) ∧ u.cell? ⟨O, 4, none⟩ = some (.int .i64 tt)) := hid (fun u hu => by
  have := (hu.block O (Array.getElem?_eq_some_iff.1 hO).1).trans hO
  simp [World.cell?, this])
 have hpl := plO x nm
 obtain ⟨pn, hpn⟩ : ∃ p, p = plcF x.vs nm 0 := ⟨_, rfl⟩
 have HF1 := hid (HFn.out W1 (Below.refl _ _) nm)
 rw [← hpn] at HF1 hpl
 rw [← hpn]
 obtain ⟨z, hz⟩ : ∃ z, z = rSiz 10 fr tt x.cp (szAt x pn) := ⟨_, rfl⟩
 rw [← hz]
 have HZ1 := hid hz
 have HPL := hid hpl
 rw [← hpn] at h0
 have H0 := hid h0
 clear h0
 clear hpn hz hpl
 obtain ⟨c0', c1, c2, c3, c4⟩ := HOc.out W1 (Below.refl _ _)
 obtain ⟨⟨p0, p1, p2, p3⟩, _⟩ := (HV.out.keep ((Below.refl _ _).block P HV.out.lt)).cs
 rw [hW1] at c0' c1 c2 c3 c4 p0 p1 p2 p3
 clear hP hOe hW1 b1 hV hO hR1 hR
 dsimp only [viewA, opA] at *
 go_enter Tryz.func81, Tryz.ntmps81
 go_wp2_with fail
 rw [← HW1.out]
 try rw [HPO.out.2]
 try rw [HPO.out.1]
 refine HF1.out.mono ?_
 rintro e w2 ⟨rfl, hb2⟩
 have HB2 := hid hb2
 clear hb2 HF1 c0' c1 c2 c3 c4 p0 p1 p2 p3
 obtain ⟨c0', c1, c2, c3, c4⟩ := HOc.out w2 (HB2.out)
 obtain ⟨⟨p0, p1, p2, p3⟩, _⟩ := (HV.out.keep ((HB2.out).block P HV.out.lt)).cs
 rcases HPL.out with hp | ⟨i, hi, hp⟩
 ·subst hp
  exact absurd H0.out (by omega)
 ·subst hp
  obtain ⟨g, off, rfl, hgl, hc⟩ := (HR1.out.below HB2.out).resolve_left (fun e => by rw [e] at hi; simp at hi)
  obtain ⟨ma, mc, ⟨y0, y1, y2, y3, y4, y5, y6⟩, _, _⟩ := hc i hi
  have HZ0 : Hid (z = rSiz 10 fr tt x.cp x.vs[i].sz) := hid (by rw [HZ1.out]; unfold szAt; rw [if_pos (by omega), volAt_eq hi])
  have hi1 : (i : Int) < (x.vs.length : Int) := by omega
  have hi0 : (0 : Int) ≤ (i : Int) := by omega
  have hdi : decide ((0 : Int) ≤ (i : Int)) = true := decide_eq_true hi0
  clear hc y0 y1 y3 y4 y5 y6 HR1 HFn HPL
  generalize x.vs[i].sz = sz at *
  by_cases q1 : fr < 0
  ·skip
   have HZ : Hid (z = 107) := hid (by rw [HZ0.out]; simp [rSiz, IntWalk.i64_left, *])
   go_wp2
   go_ret
   exact ⟨by rw [HZ.out]; rfl, HB1.out.trans (HB2.out.mono HB1.out.size)⟩
  ·skip
   by_cases q2 : sz < tt
   ·skip
    have HZ : Hid (z = 107) := hid (by rw [HZ0.out]; simp [rSiz, IntWalk.i64_left, *])
    go_wp2
    go_ret
    exact ⟨by rw [HZ.out]; rfl, HB1.out.trans (HB2.out.mono HB1.out.size)⟩
   ·skip
    by_cases q3 : tt < fr
    ·skip
     have HZ : Hid (z = 107) := hid (by rw [HZ0.out]; simp [rSiz, IntWalk.i64_left, *])
     go_wp2
     go_ret
     exact ⟨by rw [HZ.out]; rfl, HB1.out.trans (HB2.out.mono HB1.out.size)⟩
    ·skip
     by_cases q4 : 32 < wrap64 (tt - fr)
     ·skip
      have HZ : Hid (z = 107) := hid (by rw [HZ0.out]; simp [rSiz, IntWalk.i64_left, *])
      go_wp2
      go_ret
      exact ⟨by rw [HZ.out]; rfl, HB1.out.trans (HB2.out.mono HB1.out.size)⟩
     ·skip
      have HZ : Hid (z = 0) := hid (by rw [HZ0.out]; simp [rSiz, IntWalk.i64_left, *])
      go_wp2
      go_ret
      exact ⟨by rw [HZ.out]; rfl, HB1.out.trans (HB2.out.mono HB1.out.size)⟩
set_option maxRecDepth 100000 in
set_option maxHeartbeats 8000000 in
theorem sizes_11 (x : VW) (a : Option Addr) (c0 : Nat) (nm ot : ByteArray) (fr tt : Int) (da : Option Addr) (dn dc : Nat) (w : World) (hl : x.vs.length ≤ 16777216) (hR : RdV w.heap.size w a x.vs) :
  Calls Tryz.prog 81 #[viewA x a c0, opA ⟨11, nm, ot, fr, tt⟩ da dn dc] w fun e w' => LkQ w (rSiz 11 fr tt x.cp (szAt x (plcF x.vs nm 0))) e w' := by
 obtain ⟨P, hP⟩ : ∃ P, P = w.heap.size := ⟨_, rfl⟩
 obtain ⟨O, hOe⟩ : ∃ O, O = w.heap.size + 1 := ⟨_, rfl⟩
 obtain ⟨W1, hW1⟩ : ∃ W1, W1 = (w.alloc (.cells #[.int .i64 x.cp, .int .i64 x.fr, .int .i64 x.nx, .slice a x.vs.length c0] 24)).alloc (.cells #[.int .i64 11, .string nm, .string ot, .int .i64 fr, .int .i64 tt, .slice da dn dc] 42) := ⟨_, rfl⟩
 have b1 : Below w.heap.size w W1 := by rw [hW1]; exact two_below _ _ _
 have hV : VwB W1 P x (.slice a x.vs.length c0) := by
  unfold VwB
  rw [hW1, hP, Below.heap_alloc _ _ _ (by simp)]
  exact heap_new _ _
 have hO : W1.heap[O]? = some (.cells #[.int .i64 11, .string nm, .string ot, .int .i64 fr, .int .i64 tt, .slice da dn dc] 42 (0, 0)) := by
  have := heap_new (w.alloc (.cells #[.int .i64 x.cp, .int .i64 x.fr, .int .i64 x.nx, .slice a x.vs.length c0] 24)) (.cells #[.int .i64 11, .string nm, .string ot, .int .i64 fr, .int .i64 tt, .slice da dn dc] 42)
  rw [World.size_alloc, ← hOe, ← hW1] at this
  exact this
 have hR1 := (hR.below b1).mono b1.size
 have HMk := hid (fun u => makes_any 11 (by decide) (by decide) u)
 have HTk := hid (fun u => takes_any 11 (by decide) (by decide) u)
 have HR1 := hid hR1
 have HV := hid hV
 have HO := hid hO
 have HB1 := hid b1
 have HFn := hid (fun u (hu : Below W1.heap.size W1 u) (s : ByteArray) => find_any x a c0 s u hl ((hR1.below hu).mono hu.size))
 have HPO := hid (And.intro hP.symm hOe.symm)
 have HW1 := hid hW1
 have HOc : Hid (∀ u, Below W1.heap.size W1 u → u.cell? ⟨O, 0, none⟩ = some (.int .i64 11) ∧ u.cell? ⟨O, 1, none⟩ = some (.string nm) ∧ u.cell? ⟨O, 2, none⟩ = some (.string ot) ∧ u.cell? ⟨O, 3, none⟩ = some (.int .i64 fr) ∧ u.cell? ⟨O, 4, none⟩ = some (.int .i64 tt)) := hid (fun u hu => by
  have := (hu.block O (Array.getElem?_eq_some_iff.1 hO).1).trans hO
  simp [World.cell?, this])
 have hpl := plO x nm
 obtain ⟨pn, hpn⟩ : ∃ p, p = plcF x.vs nm 0 := ⟨_, rfl⟩
 have HF1 := hid (HFn.out W1 (Below.refl _ _) nm)
 rw [← hpn] at HF1 hpl
 rw [← hpn]
 obtain ⟨z, hz⟩ : ∃ z, z = rSiz 11 fr tt x.cp (szAt x pn) := ⟨_, rfl⟩
 rw [← hz]
 have HZ1 := hid hz
 have HPL := hid hpl
 clear hpn hz hpl
 obtain ⟨c0', c1, c2, c3, c4⟩ := HOc.out W1 (Below.refl _ _)
 obtain ⟨⟨p0, p1, p2, p3⟩, _⟩ := (HV.out.keep ((Below.refl _ _).block P HV.out.lt)).cs
 rw [hW1] at c0' c1 c2 c3 c4 p0 p1 p2 p3
 clear hP hOe hW1 b1 hV hO hR1 hR
 dsimp only [viewA, opA] at *
 go_enter Tryz.func81, Tryz.ntmps81
 go_wp2_with fail
 rw [← HW1.out]
 try rw [HPO.out.2]
 try rw [HPO.out.1]
 refine HF1.out.mono ?_
 rintro e w2 ⟨rfl, hb2⟩
 have HB2 := hid hb2
 clear hb2 HF1 c0' c1 c2 c3 c4 p0 p1 p2 p3
 obtain ⟨c0', c1, c2, c3, c4⟩ := HOc.out w2 (HB2.out)
 obtain ⟨⟨p0, p1, p2, p3⟩, _⟩ := (HV.out.keep ((HB2.out).block P HV.out.lt)).cs
 rcases HPL.out with hp | ⟨i, hi, hp⟩
 ·subst hp
  obtain ⟨sz, hsz⟩ : ∃ s : Int, s = 0 := ⟨_, rfl⟩
  have HZ0 : Hid (z = rSiz 11 fr tt x.cp sz) := hid (by rw [HZ1.out, hsz]; rfl)
  subst hsz
  by_cases q1 : tt ≤ x.cp
  ·skip
   have HZ : Hid (z = 106) := hid (by rw [HZ0.out]; simp [rSiz, *])
   go_wp2
   go_ret
   exact ⟨by rw [HZ.out]; rfl, HB1.out.trans (HB2.out.mono HB1.out.size)⟩
  ·skip
   by_cases q2 : 262144 < tt
   ·skip
    have HZ : Hid (z = 106) := hid (by rw [HZ0.out]; simp [rSiz, *])
    go_wp2
    go_ret
    exact ⟨by rw [HZ.out]; rfl, HB1.out.trans (HB2.out.mono HB1.out.size)⟩
   ·skip
    have HZ : Hid (z = 0) := hid (by rw [HZ0.out]; simp [rSiz, *])
    go_wp2
    go_ret
    exact ⟨by rw [HZ.out]; rfl, HB1.out.trans (HB2.out.mono HB1.out.size)⟩
 ·subst hp
  obtain ⟨g, off, rfl, hgl, hc⟩ := (HR1.out.below HB2.out).resolve_left (fun e => by rw [e] at hi; simp at hi)
  obtain ⟨ma, mc, ⟨y0, y1, y2, y3, y4, y5, y6⟩, _, _⟩ := hc i hi
  have HZ0 : Hid (z = rSiz 11 fr tt x.cp x.vs[i].sz) := hid (by rw [HZ1.out]; unfold szAt; rw [if_pos (by omega), volAt_eq hi])
  have hi1 : (i : Int) < (x.vs.length : Int) := by omega
  have hi0 : (0 : Int) ≤ (i : Int) := by omega
  have hdi : decide ((0 : Int) ≤ (i : Int)) = true := decide_eq_true hi0
  clear hc y0 y1 y3 y4 y5 y6 HR1 HFn HPL
  generalize x.vs[i].sz = sz at *
  by_cases q1 : tt ≤ x.cp
  ·skip
   have HZ : Hid (z = 106) := hid (by rw [HZ0.out]; simp [rSiz, *])
   go_wp2
   go_ret
   exact ⟨by rw [HZ.out]; rfl, HB1.out.trans (HB2.out.mono HB1.out.size)⟩
  ·skip
   by_cases q2 : 262144 < tt
   ·skip
    have HZ : Hid (z = 106) := hid (by rw [HZ0.out]; simp [rSiz, *])
    go_wp2
    go_ret
    exact ⟨by rw [HZ.out]; rfl, HB1.out.trans (HB2.out.mono HB1.out.size)⟩
   ·skip
    have HZ : Hid (z = 0) := hid (by rw [HZ0.out]; simp [rSiz, *])
    go_wp2
    go_ret
    exact ⟨by rw [HZ.out]; rfl, HB1.out.trans (HB2.out.mono HB1.out.size)⟩
end Go.Proofs.YtddddfankeepkaaGreatDoor
