import Derived.Test.YtddddfankeepkaaGreatDoorF25
namespace Go.Proofs.YtddddfankeepkaaGreatDoor
open Go.RowKit
set_option maxRecDepth 100000 in
set_option maxHeartbeats 8000000 in
theorem partial_1 (x : VW) (a : Option Addr) (c0 : Nat) (nm ot : ByteArray) (fr tt : Int) (da : Option Addr) (dn dc : Nat) (w : World) (hl : x.vs.length ≤ 16777216) (hR : RdV w.heap.size w a x.vs) :
  Calls Tryz.prog 82 #[viewA x a c0, opA ⟨1, nm, ot, fr, tt⟩ da dn dc] w fun e w' => BoQ w (rPar x 1 (plcF x.vs nm 0) (plcF x.vs ot 0)) e w' := by
 obtain ⟨P, hP⟩ : ∃ P, P = w.heap.size := ⟨_, rfl⟩
 obtain ⟨O, hOe⟩ : ∃ O, O = w.heap.size + 1 := ⟨_, rfl⟩
 obtain ⟨W1, hW1⟩ : ∃ W1, W1 = (w.alloc (.cells #[.int .i64 x.cp, .int .i64 x.fr, .int .i64 x.nx, .slice a x.vs.length c0] 24)).alloc (.cells #[.int .i64 1, .string nm, .string ot, .int .i64 fr, .int .i64 tt, .slice da dn dc] 42) := ⟨_, rfl⟩
 have b1 : Below w.heap.size w W1 := by rw [hW1]; exact two_below _ _ _
 have hV : VwB W1 P x (.slice a x.vs.length c0) := by
  unfold VwB
  rw [hW1, hP, Below.heap_alloc _ _ _ (by simp)]
  exact heap_new _ _
 have hO : W1.heap[O]? = some (.cells #[.int .i64 1, .string nm, .string ot, .int .i64 fr, .int .i64 tt, .slice da dn dc] 42 (0, 0)) := by
  have := heap_new (w.alloc (.cells #[.int .i64 x.cp, .int .i64 x.fr, .int .i64 x.nx, .slice a x.vs.length c0] 24)) (.cells #[.int .i64 1, .string nm, .string ot, .int .i64 fr, .int .i64 tt, .slice da dn dc] 42)
  rw [World.size_alloc, ← hOe, ← hW1] at this
  exact this
 have hR1 := (hR.below b1).mono b1.size
 have HMk := hid (fun u => makes_any 1 (by decide) (by decide) u)
 have HTk := hid (fun u => takes_any 1 (by decide) (by decide) u)
 have HR1 := hid hR1
 have HV := hid hV
 have HO := hid hO
 have HB1 := hid b1
 have HFn := hid (fun u (hu : Below W1.heap.size W1 u) (s : ByteArray) => find_any x a c0 s u hl ((hR1.below hu).mono hu.size))
 have HPO := hid (And.intro hP.symm hOe.symm)
 have HW1 := hid hW1
 have HOc : Hid (∀ u, Below W1.heap.size W1 u → u.cell? ⟨O, 0, none⟩ = some (.int .i64 1) ∧ u.cell? ⟨O, 1, none⟩ = some (.string nm) ∧ u.cell? ⟨O, 2, none⟩ = some (.string ot) ∧ u.cell? ⟨O, 3, none⟩ = some (.int .i64 fr) ∧ u.cell? ⟨O, 4, none⟩ = some (.int .i64 tt)) := hid (fun u hu => by
  have := (hu.block O (Array.getElem?_eq_some_iff.1 hO).1).trans hO
  simp [World.cell?, this])
 obtain ⟨pn, hpn⟩ : ∃ p, p = plcF x.vs nm 0 := ⟨_, rfl⟩
 obtain ⟨po, hpo⟩ : ∃ p, p = plcF x.vs ot 0 := ⟨_, rfl⟩
 have HF1 := hid (HFn.out W1 (Below.refl _ _) nm)
 have HF2 := hid (fun u hu => HFn.out u hu ot)
 rw [← hpn] at HF1
 rw [← hpo] at HF2
 obtain ⟨c0', c1, c2, c3, c4⟩ := HOc.out W1 (Below.refl _ _)
 obtain ⟨⟨p0, p1, p2, p3⟩, _⟩ := (HV.out.keep ((Below.refl _ _).block P HV.out.lt)).cs
 rw [hW1] at c0' c1 c2 c3 c4 p0 p1 p2 p3
 obtain ⟨z, hz⟩ : ∃ z, z = rPar x 1 pn po := ⟨_, rfl⟩
 have hpl := plO x nm
 have hqo := plO x ot
 rw [← hpn] at hpl
 rw [← hpo] at hqo
 rw [← hpn, ← hpo, ← hz]
 have HPL := hid hpl
 have HQO := hid hqo
 have HPN := hid (And.intro hpn hpo)
 have HZ0 := hid hz
 clear hpn hpo hz hpl hqo
 clear hP hOe hW1 b1 hV hO hR1 hR
 dsimp only [viewA, opA] at *
 go_enter Tryz.func82, Tryz.ntmps82
 go_wp2_with fail
 rw [← HW1.out]
 try rw [HPO.out.2]
 try rw [HPO.out.1]
 refine HF1.out.mono ?_
 rintro e w2 ⟨rfl, hb2⟩
 have HB2 := hid hb2
 clear hb2 HF1 c0' c1 c2 c3 c4 p0 p1 p2 p3
 obtain ⟨c0', c1, c2, c3, c4⟩ := HOc.out w2 (HB2.out)
 obtain ⟨⟨p0, p1, p2, p3⟩, _⟩ := (HV.out.keep ((HB2.out).block P HV.out.lt)).cs
 go_wp2_with fail
 refine (HF2.out w2 HB2.out).mono ?_
 rintro e w3 ⟨rfl, hb3⟩
 have HB3 := hid (HB2.out.trans (hb3.mono HB2.out.size))
 clear hb3 HF2 c0' c1 c2 c3 c4 p0 p1 p2 p3
 obtain ⟨c0', c1, c2, c3, c4⟩ := HOc.out w3 (HB3.out)
 obtain ⟨⟨p0, p1, p2, p3⟩, _⟩ := (HV.out.keep ((HB3.out).block P HV.out.lt)).cs
 unfold rPar at HZ0
 rcases HPL.out with hp | ⟨i, hi, hp⟩
 ·subst hp
  have HZ : Hid (z = false) := hid (by rw [HZ0.out]; first | rfl | (rw [hdi]; rfl))
  go_wp2_with (first | (go_at_call 39; with_reducible refine (HMk.out _).mono ?_; rintro e wn ⟨rfl, hwn⟩; have hwn := hwn.symm; subst hwn) | (go_at_call 106; with_reducible refine (HTk.out _).mono ?_; rintro e wn ⟨rfl, hwn⟩; have hwn := hwn.symm; subst hwn))
  go_ret
  exact ⟨by rw [HZ.out]; rfl, HB1.out.trans (HB3.out.mono HB1.out.size)⟩
 ·obtain ⟨pv, hpv⟩ : ∃ q, q = (volAt x pn).pt := ⟨_, rfl⟩
  rw [← hpv] at HZ0
  subst hp
  rw [volAt_eq hi] at hpv
  have hi1 : (i : Int) < (x.vs.length : Int) := by omega
  have hi0 : (0 : Int) ≤ (i : Int) := by omega
  have hdi : decide ((0 : Int) ≤ (i : Int)) = true := decide_eq_true hi0
  clear hpv
  have HZ : Hid (z = false) := hid (by rw [HZ0.out]; first | rfl | (rw [hdi]; rfl))
  go_wp2_with (first | (go_at_call 39; with_reducible refine (HMk.out _).mono ?_; rintro e wn ⟨rfl, hwn⟩; have hwn := hwn.symm; subst hwn) | (go_at_call 106; with_reducible refine (HTk.out _).mono ?_; rintro e wn ⟨rfl, hwn⟩; have hwn := hwn.symm; subst hwn))
  go_ret
  exact ⟨by rw [HZ.out]; rfl, HB1.out.trans (HB3.out.mono HB1.out.size)⟩
set_option maxRecDepth 100000 in
set_option maxHeartbeats 8000000 in
theorem partial_2 (x : VW) (a : Option Addr) (c0 : Nat) (nm ot : ByteArray) (fr tt : Int) (da : Option Addr) (dn dc : Nat) (w : World) (hl : x.vs.length ≤ 16777216) (hR : RdV w.heap.size w a x.vs) (h0 : 0 ≤ plcF x.vs ot 0) :
  Calls Tryz.prog 82 #[viewA x a c0, opA ⟨2, nm, ot, fr, tt⟩ da dn dc] w fun e w' => BoQ w (rPar x 2 (plcF x.vs nm 0) (plcF x.vs ot 0)) e w' := by
 obtain ⟨P, hP⟩ : ∃ P, P = w.heap.size := ⟨_, rfl⟩
 obtain ⟨O, hOe⟩ : ∃ O, O = w.heap.size + 1 := ⟨_, rfl⟩
 obtain ⟨W1, hW1⟩ : ∃ W1, W1 = (w.alloc (.cells #[.int .i64 x.cp, .int .i64 x.fr, .int .i64 x.nx, .slice a x.vs.length c0] 24)).alloc (.cells #[.int .i64 2, .string nm, .string ot, .int .i64 fr, .int .i64 tt, .slice da dn dc] 42) := ⟨_, rfl⟩
 have b1 : Below w.heap.size w W1 := by rw [hW1]; exact two_below _ _ _
 have hV : VwB W1 P x (.slice a x.vs.length c0) := by
  unfold VwB
  rw [hW1, hP, Below.heap_alloc _ _ _ (by simp)]
  exact heap_new _ _
 have hO : W1.heap[O]? = some (.cells #[.int .i64 2, .string nm, .string ot, .int .i64 fr, .int .i64 tt, .slice da dn dc] 42 (0, 0)) := by
  have := heap_new (w.alloc (.cells #[.int .i64 x.cp, .int .i64 x.fr, .int .i64 x.nx, .slice a x.vs.length c0] 24)) (.cells #[.int .i64 2, .string nm, .string ot, .int .i64 fr, .int .i64 tt, .slice da dn dc] 42)
  rw [World.size_alloc, ← hOe, ← hW1] at this
  exact this
 have hR1 := (hR.below b1).mono b1.size
 have HMk := hid (fun u => makes_any 2 (by decide) (by decide) u)
 have HTk := hid (fun u => takes_any 2 (by decide) (by decide) u)
 have HR1 := hid hR1
 have HV := hid hV
 have HO := hid hO
 have HB1 := hid b1
 have HFn := hid (fun u (hu : Below W1.heap.size W1 u) (s : ByteArray) => find_any x a c0 s u hl ((hR1.below hu).mono hu.size))
 have HPO := hid (And.intro hP.symm hOe.symm)
 have HW1 := hid hW1
 have HOc : Hid (∀ u, Below W1.heap.size W1 u → u.cell? ⟨O, 0, none⟩ = some (.int .i64 2) ∧ u.cell? ⟨O, 1, none⟩ = some (.string nm) ∧ u.cell? ⟨O, 2, none⟩ = some (.string ot) ∧ u.cell? ⟨O, 3, none⟩ = some (.int .i64 fr) ∧ u.cell? ⟨O, 4, none⟩ = some (.int .i64 tt)) := hid (fun u hu => by
  have := (hu.block O (Array.getElem?_eq_some_iff.1 hO).1).trans hO
  simp [World.cell?, this])
 obtain ⟨pn, hpn⟩ : ∃ p, p = plcF x.vs nm 0 := ⟨_, rfl⟩
 obtain ⟨po, hpo⟩ : ∃ p, p = plcF x.vs ot 0 := ⟨_, rfl⟩
 have HF1 := hid (HFn.out W1 (Below.refl _ _) nm)
 have HF2 := hid (fun u hu => HFn.out u hu ot)
 rw [← hpn] at HF1
 rw [← hpo] at HF2
 obtain ⟨c0', c1, c2, c3, c4⟩ := HOc.out W1 (Below.refl _ _)
 obtain ⟨⟨p0, p1, p2, p3⟩, _⟩ := (HV.out.keep ((Below.refl _ _).block P HV.out.lt)).cs
 rw [hW1] at c0' c1 c2 c3 c4 p0 p1 p2 p3
 obtain ⟨z, hz⟩ : ∃ z, z = rPar x 2 pn po := ⟨_, rfl⟩
 have hpl := plO x nm
 have hqo := plO x ot
 rw [← hpn] at hpl
 rw [← hpo] at hqo
 rw [← hpn, ← hpo, ← hz]
 rw [← hpo] at h0
 have H0 := hid h0
 clear h0
 have HPL := hid hpl
 have HQO := hid hqo
 have HPN := hid (And.intro hpn hpo)
 have HZ0 := hid hz
 clear hpn hpo hz hpl hqo
 clear hP hOe hW1 b1 hV hO hR1 hR
 dsimp only [viewA, opA] at *
 go_enter Tryz.func82, Tryz.ntmps82
 go_wp2_with fail
 rw [← HW1.out]
 try rw [HPO.out.2]
 try rw [HPO.out.1]
 refine HF1.out.mono ?_
 rintro e w2 ⟨rfl, hb2⟩
 have HB2 := hid hb2
 clear hb2 HF1 c0' c1 c2 c3 c4 p0 p1 p2 p3
 obtain ⟨c0', c1, c2, c3, c4⟩ := HOc.out w2 (HB2.out)
 obtain ⟨⟨p0, p1, p2, p3⟩, _⟩ := (HV.out.keep ((HB2.out).block P HV.out.lt)).cs
 go_wp2_with fail
 refine (HF2.out w2 HB2.out).mono ?_
 rintro e w3 ⟨rfl, hb3⟩
 have HB3 := hid (HB2.out.trans (hb3.mono HB2.out.size))
 clear hb3 HF2 c0' c1 c2 c3 c4 p0 p1 p2 p3
 obtain ⟨c0', c1, c2, c3, c4⟩ := HOc.out w3 (HB3.out)
 obtain ⟨⟨p0, p1, p2, p3⟩, _⟩ := (HV.out.keep ((HB3.out).block P HV.out.lt)).cs
 unfold rPar at HZ0
 rcases HPL.out with hp | ⟨i, hi, hp⟩
 ·subst hp
  obtain ⟨j, hj, hp2⟩ := HQO.out.resolve_left (by have := H0.out; omega)
  obtain ⟨pu, hpu⟩ : ∃ q, q = (volAt x po).pt := ⟨_, rfl⟩
  rw [← hpu] at HZ0
  subst hp2
  rw [volAt_eq hj] at hpu
  obtain ⟨g2, off2, hg2, hgl2, hc2⟩ := (HR1.out.below HB3.out).resolve_left (fun e => by rw [e] at hj; simp at hj)
  subst hg2
  obtain ⟨mb, mcb, ⟨_, _, _, _, _, t5, _⟩, _, _⟩ := hc2 j hj
  rw [← hpu] at t5
  have hj1 : (j : Int) < (x.vs.length : Int) := by omega
  have hj0 : (0 : Int) ≤ (j : Int) := by omega
  clear hc2 hpu
  cases pu
  ·skip
   have HZ : Hid (z = false) := hid (by rw [HZ0.out]; first | rfl | (rw [hdi]; rfl))
   go_wp2_with (first | (go_at_call 39; with_reducible refine (HMk.out _).mono ?_; rintro e wn ⟨rfl, hwn⟩; have hwn := hwn.symm; subst hwn) | (go_at_call 106; with_reducible refine (HTk.out _).mono ?_; rintro e wn ⟨rfl, hwn⟩; have hwn := hwn.symm; subst hwn))
   go_ret
   exact ⟨by rw [HZ.out]; rfl, HB1.out.trans (HB3.out.mono HB1.out.size)⟩
  ·skip
   have HZ : Hid (z = true) := hid (by rw [HZ0.out]; first | rfl | (rw [hdi]; rfl))
   go_wp2_with (first | (go_at_call 39; with_reducible refine (HMk.out _).mono ?_; rintro e wn ⟨rfl, hwn⟩; have hwn := hwn.symm; subst hwn) | (go_at_call 106; with_reducible refine (HTk.out _).mono ?_; rintro e wn ⟨rfl, hwn⟩; have hwn := hwn.symm; subst hwn))
   go_ret
   exact ⟨by rw [HZ.out]; rfl, HB1.out.trans (HB3.out.mono HB1.out.size)⟩
 ·obtain ⟨pv, hpv⟩ : ∃ q, q = (volAt x pn).pt := ⟨_, rfl⟩
  rw [← hpv] at HZ0
  subst hp
  rw [volAt_eq hi] at hpv
  have hi1 : (i : Int) < (x.vs.length : Int) := by omega
  have hi0 : (0 : Int) ≤ (i : Int) := by omega
  have hdi : decide ((0 : Int) ≤ (i : Int)) = true := decide_eq_true hi0
  clear hpv
  obtain ⟨j, hj, hp2⟩ := HQO.out.resolve_left (by have := H0.out; omega)
  obtain ⟨pu, hpu⟩ : ∃ q, q = (volAt x po).pt := ⟨_, rfl⟩
  rw [← hpu] at HZ0
  subst hp2
  rw [volAt_eq hj] at hpu
  obtain ⟨g2, off2, hg2, hgl2, hc2⟩ := (HR1.out.below HB3.out).resolve_left (fun e => by rw [e] at hj; simp at hj)
  subst hg2
  obtain ⟨mb, mcb, ⟨_, _, _, _, _, t5, _⟩, _, _⟩ := hc2 j hj
  rw [← hpu] at t5
  have hj1 : (j : Int) < (x.vs.length : Int) := by omega
  have hj0 : (0 : Int) ≤ (j : Int) := by omega
  clear hc2 hpu
  cases pu
  ·skip
   have HZ : Hid (z = false) := hid (by rw [HZ0.out]; first | rfl | (rw [hdi]; rfl))
   go_wp2_with (first | (go_at_call 39; with_reducible refine (HMk.out _).mono ?_; rintro e wn ⟨rfl, hwn⟩; have hwn := hwn.symm; subst hwn) | (go_at_call 106; with_reducible refine (HTk.out _).mono ?_; rintro e wn ⟨rfl, hwn⟩; have hwn := hwn.symm; subst hwn))
   go_ret
   exact ⟨by rw [HZ.out]; rfl, HB1.out.trans (HB3.out.mono HB1.out.size)⟩
  ·skip
   have HZ : Hid (z = true) := hid (by rw [HZ0.out]; first | rfl | (rw [hdi]; rfl))
   go_wp2_with (first | (go_at_call 39; with_reducible refine (HMk.out _).mono ?_; rintro e wn ⟨rfl, hwn⟩; have hwn := hwn.symm; subst hwn) | (go_at_call 106; with_reducible refine (HTk.out _).mono ?_; rintro e wn ⟨rfl, hwn⟩; have hwn := hwn.symm; subst hwn))
   go_ret
   exact ⟨by rw [HZ.out]; rfl, HB1.out.trans (HB3.out.mono HB1.out.size)⟩
set_option maxRecDepth 100000 in
set_option maxHeartbeats 8000000 in
theorem partial_3 (x : VW) (a : Option Addr) (c0 : Nat) (nm ot : ByteArray) (fr tt : Int) (da : Option Addr) (dn dc : Nat) (w : World) (hl : x.vs.length ≤ 16777216) (hR : RdV w.heap.size w a x.vs) (h0 : 0 ≤ plcF x.vs ot 0) :
  Calls Tryz.prog 82 #[viewA x a c0, opA ⟨3, nm, ot, fr, tt⟩ da dn dc] w fun e w' => BoQ w (rPar x 3 (plcF x.vs nm 0) (plcF x.vs ot 0)) e w' := by
 obtain ⟨P, hP⟩ : ∃ P, P = w.heap.size := ⟨_, rfl⟩
 obtain ⟨O, hOe⟩ : ∃ O, O = w.heap.size + 1 := ⟨_, rfl⟩
 obtain ⟨W1, hW1⟩ : ∃ W1, W1 = (w.alloc (.cells #[.int .i64 x.cp, .int .i64 x.fr, .int .i64 x.nx, .slice a x.vs.length c0] 24)).alloc (.cells #[.int .i64 3, .string nm, .string ot, .int .i64 fr, .int .i64 tt, .slice da dn dc] 42) := ⟨_, rfl⟩
 have b1 : Below w.heap.size w W1 := by rw [hW1]; exact two_below _ _ _
 have hV : VwB W1 P x (.slice a x.vs.length c0) := by
  unfold VwB
  rw [hW1, hP, Below.heap_alloc _ _ _ (by simp)]
  exact heap_new _ _
 have hO : W1.heap[O]? = some (.cells #[.int .i64 3, .string nm, .string ot, .int .i64 fr, .int .i64 tt, .slice da dn dc] 42 (0, 0)) := by
  have := heap_new (w.alloc (.cells #[.int .i64 x.cp, .int .i64 x.fr, .int .i64 x.nx, .slice a x.vs.length c0] 24)) (.cells #[.int .i64 3, .string nm, .string ot, .int .i64 fr, .int .i64 tt, .slice da dn dc] 42)
  rw [World.size_alloc, ← hOe, ← hW1] at this
  exact this
 have hR1 := (hR.below b1).mono b1.size
 have HMk := hid (fun u => makes_any 3 (by decide) (by decide) u)
 have HTk := hid (fun u => takes_any 3 (by decide) (by decide) u)
 have HR1 := hid hR1
 have HV := hid hV
 have HO := hid hO
 have HB1 := hid b1
 have HFn := hid (fun u (hu : Below W1.heap.size W1 u) (s : ByteArray) => find_any x a c0 s u hl ((hR1.below hu).mono hu.size))
 have HPO := hid (And.intro hP.symm hOe.symm)
 have HW1 := hid hW1
 have HOc : Hid (∀ u, Below W1.heap.size W1 u → u.cell? ⟨O, 0, none⟩ = some (.int .i64 3) ∧ u.cell? ⟨O, 1, none⟩ = some (.string nm) ∧ u.cell? ⟨O, 2, none⟩ = some (.string ot) ∧ u.cell? ⟨O, 3, none⟩ = some (.int .i64 fr) ∧ u.cell? ⟨O, 4, none⟩ = some (.int .i64 tt)) := hid (fun u hu => by
  have := (hu.block O (Array.getElem?_eq_some_iff.1 hO).1).trans hO
  simp [World.cell?, this])
 obtain ⟨pn, hpn⟩ : ∃ p, p = plcF x.vs nm 0 := ⟨_, rfl⟩
 obtain ⟨po, hpo⟩ : ∃ p, p = plcF x.vs ot 0 := ⟨_, rfl⟩
 have HF1 := hid (HFn.out W1 (Below.refl _ _) nm)
 have HF2 := hid (fun u hu => HFn.out u hu ot)
 rw [← hpn] at HF1
 rw [← hpo] at HF2
 obtain ⟨c0', c1, c2, c3, c4⟩ := HOc.out W1 (Below.refl _ _)
 obtain ⟨⟨p0, p1, p2, p3⟩, _⟩ := (HV.out.keep ((Below.refl _ _).block P HV.out.lt)).cs
 rw [hW1] at c0' c1 c2 c3 c4 p0 p1 p2 p3
 obtain ⟨z, hz⟩ : ∃ z, z = rPar x 3 pn po := ⟨_, rfl⟩
 have hpl := plO x nm
 have hqo := plO x ot
 rw [← hpn] at hpl
 rw [← hpo] at hqo
 rw [← hpn, ← hpo, ← hz]
 rw [← hpo] at h0
 have H0 := hid h0
 clear h0
 have HPL := hid hpl
 have HQO := hid hqo
 have HPN := hid (And.intro hpn hpo)
 have HZ0 := hid hz
 clear hpn hpo hz hpl hqo
 clear hP hOe hW1 b1 hV hO hR1 hR
 dsimp only [viewA, opA] at *
 go_enter Tryz.func82, Tryz.ntmps82
 go_wp2_with fail
 rw [← HW1.out]
 try rw [HPO.out.2]
 try rw [HPO.out.1]
 refine HF1.out.mono ?_
 rintro e w2 ⟨rfl, hb2⟩
 have HB2 := hid hb2
 clear hb2 HF1 c0' c1 c2 c3 c4 p0 p1 p2 p3
 obtain ⟨c0', c1, c2, c3, c4⟩ := HOc.out w2 (HB2.out)
 obtain ⟨⟨p0, p1, p2, p3⟩, _⟩ := (HV.out.keep ((HB2.out).block P HV.out.lt)).cs
 go_wp2_with fail
 refine (HF2.out w2 HB2.out).mono ?_
 rintro e w3 ⟨rfl, hb3⟩
 have HB3 := hid (HB2.out.trans (hb3.mono HB2.out.size))
 clear hb3 HF2 c0' c1 c2 c3 c4 p0 p1 p2 p3
 obtain ⟨c0', c1, c2, c3, c4⟩ := HOc.out w3 (HB3.out)
 obtain ⟨⟨p0, p1, p2, p3⟩, _⟩ := (HV.out.keep ((HB3.out).block P HV.out.lt)).cs
 unfold rPar at HZ0
 rcases HPL.out with hp | ⟨i, hi, hp⟩
 ·subst hp
  obtain ⟨j, hj, hp2⟩ := HQO.out.resolve_left (by have := H0.out; omega)
  obtain ⟨pu, hpu⟩ : ∃ q, q = (volAt x po).pt := ⟨_, rfl⟩
  rw [← hpu] at HZ0
  subst hp2
  rw [volAt_eq hj] at hpu
  obtain ⟨g2, off2, hg2, hgl2, hc2⟩ := (HR1.out.below HB3.out).resolve_left (fun e => by rw [e] at hj; simp at hj)
  subst hg2
  obtain ⟨mb, mcb, ⟨_, _, _, _, _, t5, _⟩, _, _⟩ := hc2 j hj
  rw [← hpu] at t5
  have hj1 : (j : Int) < (x.vs.length : Int) := by omega
  have hj0 : (0 : Int) ≤ (j : Int) := by omega
  clear hc2 hpu
  cases pu
  ·skip
   have HZ : Hid (z = false) := hid (by rw [HZ0.out]; first | rfl | (rw [hdi]; rfl))
   go_wp2_with (first | (go_at_call 39; with_reducible refine (HMk.out _).mono ?_; rintro e wn ⟨rfl, hwn⟩; have hwn := hwn.symm; subst hwn) | (go_at_call 106; with_reducible refine (HTk.out _).mono ?_; rintro e wn ⟨rfl, hwn⟩; have hwn := hwn.symm; subst hwn))
   go_ret
   exact ⟨by rw [HZ.out]; rfl, HB1.out.trans (HB3.out.mono HB1.out.size)⟩
  ·skip
   have HZ : Hid (z = true) := hid (by rw [HZ0.out]; first | rfl | (rw [hdi]; rfl))
   go_wp2_with (first | (go_at_call 39; with_reducible refine (HMk.out _).mono ?_; rintro e wn ⟨rfl, hwn⟩; have hwn := hwn.symm; subst hwn) | (go_at_call 106; with_reducible refine (HTk.out _).mono ?_; rintro e wn ⟨rfl, hwn⟩; have hwn := hwn.symm; subst hwn))
   go_ret
   exact ⟨by rw [HZ.out]; rfl, HB1.out.trans (HB3.out.mono HB1.out.size)⟩
 ·obtain ⟨pv, hpv⟩ : ∃ q, q = (volAt x pn).pt := ⟨_, rfl⟩
  rw [← hpv] at HZ0
  subst hp
  rw [volAt_eq hi] at hpv
  have hi1 : (i : Int) < (x.vs.length : Int) := by omega
  have hi0 : (0 : Int) ≤ (i : Int) := by omega
  have hdi : decide ((0 : Int) ≤ (i : Int)) = true := decide_eq_true hi0
  clear hpv
  obtain ⟨j, hj, hp2⟩ := HQO.out.resolve_left (by have := H0.out; omega)
  obtain ⟨pu, hpu⟩ : ∃ q, q = (volAt x po).pt := ⟨_, rfl⟩
  rw [← hpu] at HZ0
  subst hp2
  rw [volAt_eq hj] at hpu
  obtain ⟨g2, off2, hg2, hgl2, hc2⟩ := (HR1.out.below HB3.out).resolve_left (fun e => by rw [e] at hj; simp at hj)
  subst hg2
  obtain ⟨mb, mcb, ⟨_, _, _, _, _, t5, _⟩, _, _⟩ := hc2 j hj
  rw [← hpu] at t5
  have hj1 : (j : Int) < (x.vs.length : Int) := by omega
  have hj0 : (0 : Int) ≤ (j : Int) := by omega
  clear hc2 hpu
  cases pu
  ·skip
   have HZ : Hid (z = false) := hid (by rw [HZ0.out]; first | rfl | (rw [hdi]; rfl))
   go_wp2_with (first | (go_at_call 39; with_reducible refine (HMk.out _).mono ?_; rintro e wn ⟨rfl, hwn⟩; have hwn := hwn.symm; subst hwn) | (go_at_call 106; with_reducible refine (HTk.out _).mono ?_; rintro e wn ⟨rfl, hwn⟩; have hwn := hwn.symm; subst hwn))
   go_ret
   exact ⟨by rw [HZ.out]; rfl, HB1.out.trans (HB3.out.mono HB1.out.size)⟩
  ·skip
   have HZ : Hid (z = true) := hid (by rw [HZ0.out]; first | rfl | (rw [hdi]; rfl))
   go_wp2_with (first | (go_at_call 39; with_reducible refine (HMk.out _).mono ?_; rintro e wn ⟨rfl, hwn⟩; have hwn := hwn.symm; subst hwn) | (go_at_call 106; with_reducible refine (HTk.out _).mono ?_; rintro e wn ⟨rfl, hwn⟩; have hwn := hwn.symm; subst hwn))
   go_ret
   exact ⟨by rw [HZ.out]; rfl, HB1.out.trans (HB3.out.mono HB1.out.size)⟩
set_option maxRecDepth 100000 in
set_option maxHeartbeats 8000000 in
theorem partial_4 (x : VW) (a : Option Addr) (c0 : Nat) (nm ot : ByteArray) (fr tt : Int) (da : Option Addr) (dn dc : Nat) (w : World) (hl : x.vs.length ≤ 16777216) (hR : RdV w.heap.size w a x.vs) :
  Calls Tryz.prog 82 #[viewA x a c0, opA ⟨4, nm, ot, fr, tt⟩ da dn dc] w fun e w' => BoQ w (rPar x 4 (plcF x.vs nm 0) (plcF x.vs ot 0)) e w' := by
 obtain ⟨P, hP⟩ : ∃ P, P = w.heap.size := ⟨_, rfl⟩
 obtain ⟨O, hOe⟩ : ∃ O, O = w.heap.size + 1 := ⟨_, rfl⟩
 obtain ⟨W1, hW1⟩ : ∃ W1, W1 = (w.alloc (.cells #[.int .i64 x.cp, .int .i64 x.fr, .int .i64 x.nx, .slice a x.vs.length c0] 24)).alloc (.cells #[.int .i64 4, .string nm, .string ot, .int .i64 fr, .int .i64 tt, .slice da dn dc] 42) := ⟨_, rfl⟩
 have b1 : Below w.heap.size w W1 := by rw [hW1]; exact two_below _ _ _
 have hV : VwB W1 P x (.slice a x.vs.length c0) := by
  unfold VwB
  rw [hW1, hP, Below.heap_alloc _ _ _ (by simp)]
  exact heap_new _ _
 have hO : W1.heap[O]? = some (.cells #[.int .i64 4, .string nm, .string ot, .int .i64 fr, .int .i64 tt, .slice da dn dc] 42 (0, 0)) := by
  have := heap_new (w.alloc (.cells #[.int .i64 x.cp, .int .i64 x.fr, .int .i64 x.nx, .slice a x.vs.length c0] 24)) (.cells #[.int .i64 4, .string nm, .string ot, .int .i64 fr, .int .i64 tt, .slice da dn dc] 42)
  rw [World.size_alloc, ← hOe, ← hW1] at this
  exact this
 have hR1 := (hR.below b1).mono b1.size
 have HMk := hid (fun u => makes_any 4 (by decide) (by decide) u)
 have HTk := hid (fun u => takes_any 4 (by decide) (by decide) u)
 have HR1 := hid hR1
 have HV := hid hV
 have HO := hid hO
 have HB1 := hid b1
 have HFn := hid (fun u (hu : Below W1.heap.size W1 u) (s : ByteArray) => find_any x a c0 s u hl ((hR1.below hu).mono hu.size))
 have HPO := hid (And.intro hP.symm hOe.symm)
 have HW1 := hid hW1
 have HOc : Hid (∀ u, Below W1.heap.size W1 u → u.cell? ⟨O, 0, none⟩ = some (.int .i64 4) ∧ u.cell? ⟨O, 1, none⟩ = some (.string nm) ∧ u.cell? ⟨O, 2, none⟩ = some (.string ot) ∧ u.cell? ⟨O, 3, none⟩ = some (.int .i64 fr) ∧ u.cell? ⟨O, 4, none⟩ = some (.int .i64 tt)) := hid (fun u hu => by
  have := (hu.block O (Array.getElem?_eq_some_iff.1 hO).1).trans hO
  simp [World.cell?, this])
 obtain ⟨pn, hpn⟩ : ∃ p, p = plcF x.vs nm 0 := ⟨_, rfl⟩
 obtain ⟨po, hpo⟩ : ∃ p, p = plcF x.vs ot 0 := ⟨_, rfl⟩
 have HF1 := hid (HFn.out W1 (Below.refl _ _) nm)
 have HF2 := hid (fun u hu => HFn.out u hu ot)
 rw [← hpn] at HF1
 rw [← hpo] at HF2
 obtain ⟨c0', c1, c2, c3, c4⟩ := HOc.out W1 (Below.refl _ _)
 obtain ⟨⟨p0, p1, p2, p3⟩, _⟩ := (HV.out.keep ((Below.refl _ _).block P HV.out.lt)).cs
 rw [hW1] at c0' c1 c2 c3 c4 p0 p1 p2 p3
 obtain ⟨z, hz⟩ : ∃ z, z = rPar x 4 pn po := ⟨_, rfl⟩
 have hpl := plO x nm
 have hqo := plO x ot
 rw [← hpn] at hpl
 rw [← hpo] at hqo
 rw [← hpn, ← hpo, ← hz]
 have HPL := hid hpl
 have HQO := hid hqo
 have HPN := hid (And.intro hpn hpo)
 have HZ0 := hid hz
 clear hpn hpo hz hpl hqo
 clear hP hOe hW1 b1 hV hO hR1 hR
 dsimp only [viewA, opA] at *
 go_enter Tryz.func82, Tryz.ntmps82
 go_wp2_with fail
 rw [← HW1.out]
 try rw [HPO.out.2]
 try rw [HPO.out.1]
 refine HF1.out.mono ?_
 rintro e w2 ⟨rfl, hb2⟩
 have HB2 := hid hb2
 clear hb2 HF1 c0' c1 c2 c3 c4 p0 p1 p2 p3
 obtain ⟨c0', c1, c2, c3, c4⟩ := HOc.out w2 (HB2.out)
 obtain ⟨⟨p0, p1, p2, p3⟩, _⟩ := (HV.out.keep ((HB2.out).block P HV.out.lt)).cs
 go_wp2_with fail
 refine (HF2.out w2 HB2.out).mono ?_
 rintro e w3 ⟨rfl, hb3⟩
 have HB3 := hid (HB2.out.trans (hb3.mono HB2.out.size))
 clear hb3 HF2 c0' c1 c2 c3 c4 p0 p1 p2 p3
 obtain ⟨c0', c1, c2, c3, c4⟩ := HOc.out w3 (HB3.out)
 obtain ⟨⟨p0, p1, p2, p3⟩, _⟩ := (HV.out.keep ((HB3.out).block P HV.out.lt)).cs
 unfold rPar at HZ0
 rcases HPL.out with hp | ⟨i, hi, hp⟩
 ·subst hp
  have HZ : Hid (z = false) := hid (by rw [HZ0.out]; first | rfl | (rw [hdi]; rfl))
  go_wp2_with (first | (go_at_call 39; with_reducible refine (HMk.out _).mono ?_; rintro e wn ⟨rfl, hwn⟩; have hwn := hwn.symm; subst hwn) | (go_at_call 106; with_reducible refine (HTk.out _).mono ?_; rintro e wn ⟨rfl, hwn⟩; have hwn := hwn.symm; subst hwn))
  go_ret
  exact ⟨by rw [HZ.out]; rfl, HB1.out.trans (HB3.out.mono HB1.out.size)⟩
 ·obtain ⟨pv, hpv⟩ : ∃ q, q = (volAt x pn).pt := ⟨_, rfl⟩
  rw [← hpv] at HZ0
  subst hp
  rw [volAt_eq hi] at hpv
  have hi1 : (i : Int) < (x.vs.length : Int) := by omega
  have hi0 : (0 : Int) ≤ (i : Int) := by omega
  have hdi : decide ((0 : Int) ≤ (i : Int)) = true := decide_eq_true hi0
  obtain ⟨g, off, hg, hgl, hc⟩ := (HR1.out.below HB3.out).resolve_left (fun e => by rw [e] at hi; simp at hi)
  subst hg
  obtain ⟨ma, mc, ⟨_, _, _, _, _, y5, _⟩, _, _⟩ := hc i hi
  rw [← hpv] at y5
  clear hc hpv
  cases pv
  ·skip
   have HZ : Hid (z = false) := hid (by rw [HZ0.out]; first | rfl | (rw [hdi]; rfl))
   go_wp2_with (first | (go_at_call 39; with_reducible refine (HMk.out _).mono ?_; rintro e wn ⟨rfl, hwn⟩; have hwn := hwn.symm; subst hwn) | (go_at_call 106; with_reducible refine (HTk.out _).mono ?_; rintro e wn ⟨rfl, hwn⟩; have hwn := hwn.symm; subst hwn))
   go_ret
   exact ⟨by rw [HZ.out]; rfl, HB1.out.trans (HB3.out.mono HB1.out.size)⟩
  ·skip
   have HZ : Hid (z = true) := hid (by rw [HZ0.out]; first | rfl | (rw [hdi]; rfl))
   go_wp2_with (first | (go_at_call 39; with_reducible refine (HMk.out _).mono ?_; rintro e wn ⟨rfl, hwn⟩; have hwn := hwn.symm; subst hwn) | (go_at_call 106; with_reducible refine (HTk.out _).mono ?_; rintro e wn ⟨rfl, hwn⟩; have hwn := hwn.symm; subst hwn))
   go_ret
   exact ⟨by rw [HZ.out]; rfl, HB1.out.trans (HB3.out.mono HB1.out.size)⟩
set_option maxRecDepth 100000 in
set_option maxHeartbeats 8000000 in
theorem partial_5 (x : VW) (a : Option Addr) (c0 : Nat) (nm ot : ByteArray) (fr tt : Int) (da : Option Addr) (dn dc : Nat) (w : World) (hl : x.vs.length ≤ 16777216) (hR : RdV w.heap.size w a x.vs) :
  Calls Tryz.prog 82 #[viewA x a c0, opA ⟨5, nm, ot, fr, tt⟩ da dn dc] w fun e w' => BoQ w (rPar x 5 (plcF x.vs nm 0) (plcF x.vs ot 0)) e w' := by
 obtain ⟨P, hP⟩ : ∃ P, P = w.heap.size := ⟨_, rfl⟩
 obtain ⟨O, hOe⟩ : ∃ O, O = w.heap.size + 1 := ⟨_, rfl⟩
 obtain ⟨W1, hW1⟩ : ∃ W1, W1 = (w.alloc (.cells #[.int .i64 x.cp, .int .i64 x.fr, .int .i64 x.nx, .slice a x.vs.length c0] 24)).alloc (.cells #[.int .i64 5, .string nm, .string ot, .int .i64 fr, .int .i64 tt, .slice da dn dc] 42) := ⟨_, rfl⟩
 have b1 : Below w.heap.size w W1 := by rw [hW1]; exact two_below _ _ _
 have hV : VwB W1 P x (.slice a x.vs.length c0) := by
  unfold VwB
  rw [hW1, hP, Below.heap_alloc _ _ _ (by simp)]
  exact heap_new _ _
 have hO : W1.heap[O]? = some (.cells #[.int .i64 5, .string nm, .string ot, .int .i64 fr, .int .i64 tt, .slice da dn dc] 42 (0, 0)) := by
  have := heap_new (w.alloc (.cells #[.int .i64 x.cp, .int .i64 x.fr, .int .i64 x.nx, .slice a x.vs.length c0] 24)) (.cells #[.int .i64 5, .string nm, .string ot, .int .i64 fr, .int .i64 tt, .slice da dn dc] 42)
  rw [World.size_alloc, ← hOe, ← hW1] at this
  exact this
 have hR1 := (hR.below b1).mono b1.size
 have HMk := hid (fun u => makes_any 5 (by decide) (by decide) u)
 have HTk := hid (fun u => takes_any 5 (by decide) (by decide) u)
 have HR1 := hid hR1
 have HV := hid hV
 have HO := hid hO
 have HB1 := hid b1
 have HFn := hid (fun u (hu : Below W1.heap.size W1 u) (s : ByteArray) => find_any x a c0 s u hl ((hR1.below hu).mono hu.size))
 have HPO := hid (And.intro hP.symm hOe.symm)
 have HW1 := hid hW1
 have HOc : Hid (∀ u, Below W1.heap.size W1 u → u.cell? ⟨O, 0, none⟩ = some (.int .i64 5) ∧ u.cell? ⟨O, 1, none⟩ = some (.string nm) ∧ u.cell? ⟨O, 2, none⟩ = some (.string ot) ∧ u.cell? ⟨O, 3, none⟩ = some (.int .i64 fr) ∧ u.cell? ⟨O, 4, none⟩ = some (.int .i64 tt)) := hid (fun u hu => by
  have := (hu.block O (Array.getElem?_eq_some_iff.1 hO).1).trans hO
  simp [World.cell?, this])
 obtain ⟨pn, hpn⟩ : ∃ p, p = plcF x.vs nm 0 := ⟨_, rfl⟩
 obtain ⟨po, hpo⟩ : ∃ p, p = plcF x.vs ot 0 := ⟨_, rfl⟩
 have HF1 := hid (HFn.out W1 (Below.refl _ _) nm)
 have HF2 := hid (fun u hu => HFn.out u hu ot)
 rw [← hpn] at HF1
 rw [← hpo] at HF2
 obtain ⟨c0', c1, c2, c3, c4⟩ := HOc.out W1 (Below.refl _ _)
 obtain ⟨⟨p0, p1, p2, p3⟩, _⟩ := (HV.out.keep ((Below.refl _ _).block P HV.out.lt)).cs
 rw [hW1] at c0' c1 c2 c3 c4 p0 p1 p2 p3
 obtain ⟨z, hz⟩ : ∃ z, z = rPar x 5 pn po := ⟨_, rfl⟩
 have hpl := plO x nm
 have hqo := plO x ot
 rw [← hpn] at hpl
 rw [← hpo] at hqo
 rw [← hpn, ← hpo, ← hz]
 have HPL := hid hpl
 have HQO := hid hqo
 have HPN := hid (And.intro hpn hpo)
 have HZ0 := hid hz
 clear hpn hpo hz hpl hqo
 clear hP hOe hW1 b1 hV hO hR1 hR
 dsimp only [viewA, opA] at *
 go_enter Tryz.func82, Tryz.ntmps82
 go_wp2_with fail
 rw [← HW1.out]
 try rw [HPO.out.2]
 try rw [HPO.out.1]
 refine HF1.out.mono ?_
 rintro e w2 ⟨rfl, hb2⟩
 have HB2 := hid hb2
 clear hb2 HF1 c0' c1 c2 c3 c4 p0 p1 p2 p3
 obtain ⟨c0', c1, c2, c3, c4⟩ := HOc.out w2 (HB2.out)
 obtain ⟨⟨p0, p1, p2, p3⟩, _⟩ := (HV.out.keep ((HB2.out).block P HV.out.lt)).cs
 go_wp2_with fail
 refine (HF2.out w2 HB2.out).mono ?_
 rintro e w3 ⟨rfl, hb3⟩
 have HB3 := hid (HB2.out.trans (hb3.mono HB2.out.size))
 clear hb3 HF2 c0' c1 c2 c3 c4 p0 p1 p2 p3
 obtain ⟨c0', c1, c2, c3, c4⟩ := HOc.out w3 (HB3.out)
 obtain ⟨⟨p0, p1, p2, p3⟩, _⟩ := (HV.out.keep ((HB3.out).block P HV.out.lt)).cs
 unfold rPar at HZ0
 rcases HPL.out with hp | ⟨i, hi, hp⟩
 ·subst hp
  have HZ : Hid (z = false) := hid (by rw [HZ0.out]; first | rfl | (rw [hdi]; rfl))
  go_wp2_with (first | (go_at_call 39; with_reducible refine (HMk.out _).mono ?_; rintro e wn ⟨rfl, hwn⟩; have hwn := hwn.symm; subst hwn) | (go_at_call 106; with_reducible refine (HTk.out _).mono ?_; rintro e wn ⟨rfl, hwn⟩; have hwn := hwn.symm; subst hwn))
  go_ret
  exact ⟨by rw [HZ.out]; rfl, HB1.out.trans (HB3.out.mono HB1.out.size)⟩
 ·obtain ⟨pv, hpv⟩ : ∃ q, q = (volAt x pn).pt := ⟨_, rfl⟩
  rw [← hpv] at HZ0
  subst hp
  rw [volAt_eq hi] at hpv
  have hi1 : (i : Int) < (x.vs.length : Int) := by omega
  have hi0 : (0 : Int) ≤ (i : Int) := by omega
  have hdi : decide ((0 : Int) ≤ (i : Int)) = true := decide_eq_true hi0
  obtain ⟨g, off, hg, hgl, hc⟩ := (HR1.out.below HB3.out).resolve_left (fun e => by rw [e] at hi; simp at hi)
  subst hg
  obtain ⟨ma, mc, ⟨_, _, _, _, _, y5, _⟩, _, _⟩ := hc i hi
  rw [← hpv] at y5
  clear hc hpv
  cases pv
  ·skip
   have HZ : Hid (z = false) := hid (by rw [HZ0.out]; first | rfl | (rw [hdi]; rfl))
   go_wp2_with (first | (go_at_call 39; with_reducible refine (HMk.out _).mono ?_; rintro e wn ⟨rfl, hwn⟩; have hwn := hwn.symm; subst hwn) | (go_at_call 106; with_reducible refine (HTk.out _).mono ?_; rintro e wn ⟨rfl, hwn⟩; have hwn := hwn.symm; subst hwn))
   go_ret
   exact ⟨by rw [HZ.out]; rfl, HB1.out.trans (HB3.out.mono HB1.out.size)⟩
  ·skip
   have HZ : Hid (z = true) := hid (by rw [HZ0.out]; first | rfl | (rw [hdi]; rfl))
   go_wp2_with (first | (go_at_call 39; with_reducible refine (HMk.out _).mono ?_; rintro e wn ⟨rfl, hwn⟩; have hwn := hwn.symm; subst hwn) | (go_at_call 106; with_reducible refine (HTk.out _).mono ?_; rintro e wn ⟨rfl, hwn⟩; have hwn := hwn.symm; subst hwn))
   go_ret
   exact ⟨by rw [HZ.out]; rfl, HB1.out.trans (HB3.out.mono HB1.out.size)⟩
set_option maxRecDepth 100000 in
set_option maxHeartbeats 8000000 in
theorem partial_6 (x : VW) (a : Option Addr) (c0 : Nat) (nm ot : ByteArray) (fr tt : Int) (da : Option Addr) (dn dc : Nat) (w : World) (hl : x.vs.length ≤ 16777216) (hR : RdV w.heap.size w a x.vs) :
  Calls Tryz.prog 82 #[viewA x a c0, opA ⟨6, nm, ot, fr, tt⟩ da dn dc] w fun e w' => BoQ w (rPar x 6 (plcF x.vs nm 0) (plcF x.vs ot 0)) e w' := by
 obtain ⟨P, hP⟩ : ∃ P, P = w.heap.size := ⟨_, rfl⟩
 obtain ⟨O, hOe⟩ : ∃ O, O = w.heap.size + 1 := ⟨_, rfl⟩
 obtain ⟨W1, hW1⟩ : ∃ W1, W1 = (w.alloc (.cells #[.int .i64 x.cp, .int .i64 x.fr, .int .i64 x.nx, .slice a x.vs.length c0] 24)).alloc (.cells #[.int .i64 6, .string nm, .string ot, .int .i64 fr, .int .i64 tt, .slice da dn dc] 42) := ⟨_, rfl⟩
 have b1 : Below w.heap.size w W1 := by rw [hW1]; exact two_below _ _ _
 have hV : VwB W1 P x (.slice a x.vs.length c0) := by
  unfold VwB
  rw [hW1, hP, Below.heap_alloc _ _ _ (by simp)]
  exact heap_new _ _
 have hO : W1.heap[O]? = some (.cells #[.int .i64 6, .string nm, .string ot, .int .i64 fr, .int .i64 tt, .slice da dn dc] 42 (0, 0)) := by
  have := heap_new (w.alloc (.cells #[.int .i64 x.cp, .int .i64 x.fr, .int .i64 x.nx, .slice a x.vs.length c0] 24)) (.cells #[.int .i64 6, .string nm, .string ot, .int .i64 fr, .int .i64 tt, .slice da dn dc] 42)
  rw [World.size_alloc, ← hOe, ← hW1] at this
  exact this
 have hR1 := (hR.below b1).mono b1.size
 have HMk := hid (fun u => makes_any 6 (by decide) (by decide) u)
 have HTk := hid (fun u => takes_any 6 (by decide) (by decide) u)
 have HR1 := hid hR1
 have HV := hid hV
 have HO := hid hO
 have HB1 := hid b1
 have HFn := hid (fun u (hu : Below W1.heap.size W1 u) (s : ByteArray) => find_any x a c0 s u hl ((hR1.below hu).mono hu.size))
 have HPO := hid (And.intro hP.symm hOe.symm)
 have HW1 := hid hW1
 have HOc : Hid (∀ u, Below W1.heap.size W1 u → u.cell? ⟨O, 0, none⟩ = some (.int .i64 6) ∧ u.cell? ⟨O, 1, none⟩ = some (.string nm) ∧ u.cell? ⟨O, 2, none⟩ = some (.string ot) ∧ u.cell? ⟨O, 3, none⟩ = some (.int .i64 fr) ∧ u.cell? ⟨O, 4, none⟩ = some (.int .i64 tt)) := hid (fun u hu => by
  have := (hu.block O (Array.getElem?_eq_some_iff.1 hO).1).trans hO
  simp [World.cell?, this])
 obtain ⟨pn, hpn⟩ : ∃ p, p = plcF x.vs nm 0 := ⟨_, rfl⟩
 obtain ⟨po, hpo⟩ : ∃ p, p = plcF x.vs ot 0 := ⟨_, rfl⟩
 have HF1 := hid (HFn.out W1 (Below.refl _ _) nm)
 have HF2 := hid (fun u hu => HFn.out u hu ot)
 rw [← hpn] at HF1
 rw [← hpo] at HF2
 obtain ⟨c0', c1, c2, c3, c4⟩ := HOc.out W1 (Below.refl _ _)
 obtain ⟨⟨p0, p1, p2, p3⟩, _⟩ := (HV.out.keep ((Below.refl _ _).block P HV.out.lt)).cs
 rw [hW1] at c0' c1 c2 c3 c4 p0 p1 p2 p3
 obtain ⟨z, hz⟩ : ∃ z, z = rPar x 6 pn po := ⟨_, rfl⟩
 have hpl := plO x nm
 have hqo := plO x ot
 rw [← hpn] at hpl
 rw [← hpo] at hqo
 rw [← hpn, ← hpo, ← hz]
 have HPL := hid hpl
 have HQO := hid hqo
 have HPN := hid (And.intro hpn hpo)
 have HZ0 := hid hz
 clear hpn hpo hz hpl hqo
 clear hP hOe hW1 b1 hV hO hR1 hR
 dsimp only [viewA, opA] at *
 go_enter Tryz.func82, Tryz.ntmps82
 go_wp2_with fail
 rw [← HW1.out]
 try rw [HPO.out.2]
 try rw [HPO.out.1]
 refine HF1.out.mono ?_
 rintro e w2 ⟨rfl, hb2⟩
 have HB2 := hid hb2
 clear hb2 HF1 c0' c1 c2 c3 c4 p0 p1 p2 p3
 obtain ⟨c0', c1, c2, c3, c4⟩ := HOc.out w2 (HB2.out)
 obtain ⟨⟨p0, p1, p2, p3⟩, _⟩ := (HV.out.keep ((HB2.out).block P HV.out.lt)).cs
 go_wp2_with fail
 refine (HF2.out w2 HB2.out).mono ?_
 rintro e w3 ⟨rfl, hb3⟩
 have HB3 := hid (HB2.out.trans (hb3.mono HB2.out.size))
 clear hb3 HF2 c0' c1 c2 c3 c4 p0 p1 p2 p3
 obtain ⟨c0', c1, c2, c3, c4⟩ := HOc.out w3 (HB3.out)
 obtain ⟨⟨p0, p1, p2, p3⟩, _⟩ := (HV.out.keep ((HB3.out).block P HV.out.lt)).cs
 unfold rPar at HZ0
 rcases HPL.out with hp | ⟨i, hi, hp⟩
 ·subst hp
  have HZ : Hid (z = false) := hid (by rw [HZ0.out]; first | rfl | (rw [hdi]; rfl))
  go_wp2_with (first | (go_at_call 39; with_reducible refine (HMk.out _).mono ?_; rintro e wn ⟨rfl, hwn⟩; have hwn := hwn.symm; subst hwn) | (go_at_call 106; with_reducible refine (HTk.out _).mono ?_; rintro e wn ⟨rfl, hwn⟩; have hwn := hwn.symm; subst hwn))
  go_ret
  exact ⟨by rw [HZ.out]; rfl, HB1.out.trans (HB3.out.mono HB1.out.size)⟩
 ·obtain ⟨pv, hpv⟩ : ∃ q, q = (volAt x pn).pt := ⟨_, rfl⟩
  rw [← hpv] at HZ0
  subst hp
  rw [volAt_eq hi] at hpv
  have hi1 : (i : Int) < (x.vs.length : Int) := by omega
  have hi0 : (0 : Int) ≤ (i : Int) := by omega
  have hdi : decide ((0 : Int) ≤ (i : Int)) = true := decide_eq_true hi0
  clear hpv
  have HZ : Hid (z = false) := hid (by rw [HZ0.out]; first | rfl | (rw [hdi]; rfl))
  go_wp2_with (first | (go_at_call 39; with_reducible refine (HMk.out _).mono ?_; rintro e wn ⟨rfl, hwn⟩; have hwn := hwn.symm; subst hwn) | (go_at_call 106; with_reducible refine (HTk.out _).mono ?_; rintro e wn ⟨rfl, hwn⟩; have hwn := hwn.symm; subst hwn))
  go_ret
  exact ⟨by rw [HZ.out]; rfl, HB1.out.trans (HB3.out.mono HB1.out.size)⟩
set_option maxRecDepth 100000 in
set_option maxHeartbeats 8000000 in
theorem partial_7 (x : VW) (a : Option Addr) (c0 : Nat) (nm ot : ByteArray) (fr tt : Int) (da : Option Addr) (dn dc : Nat) (w : World) (hl : x.vs.length ≤ 16777216) (hR : RdV w.heap.size w a x.vs) (h0 : 0 ≤ plcF x.vs ot 0) :
  Calls Tryz.prog 82 #[viewA x a c0, opA ⟨7, nm, ot, fr, tt⟩ da dn dc] w fun e w' => BoQ w (rPar x 7 (plcF x.vs nm 0) (plcF x.vs ot 0)) e w' := by
 obtain ⟨P, hP⟩ : ∃ P, P = w.heap.size := ⟨_, rfl⟩
 obtain ⟨O, hOe⟩ : ∃ O, O = w.heap.size + 1 := ⟨_, rfl⟩
 obtain ⟨W1, hW1⟩ : ∃ W1, W1 = (w.alloc (.cells #[.int .i64 x.cp, .int .i64 x.fr, .int .i64 x.nx, .slice a x.vs.length c0] 24)).alloc (.cells #[.int .i64 7, .string nm, .string ot, .int .i64 fr, .int .i64 tt, .slice da dn dc] 42) := ⟨_, rfl⟩
 have b1 : Below w.heap.size w W1 := by rw [hW1]; exact two_below _ _ _
 have hV : VwB W1 P x (.slice a x.vs.length c0) := by
  unfold VwB
  rw [hW1, hP, Below.heap_alloc _ _ _ (by simp)]
  exact heap_new _ _
 have hO : W1.heap[O]? = some (.cells #[.int .i64 7, .string nm, .string ot, .int .i64 fr, .int .i64 tt, .slice da dn dc] 42 (0, 0)) := by
  have := heap_new (w.alloc (.cells #[.int .i64 x.cp, .int .i64 x.fr, .int .i64 x.nx, .slice a x.vs.length c0] 24)) (.cells #[.int .i64 7, .string nm, .string ot, .int .i64 fr, .int .i64 tt, .slice da dn dc] 42)
  rw [World.size_alloc, ← hOe, ← hW1] at this
  exact this
 have hR1 := (hR.below b1).mono b1.size
 have HMk := hid (fun u => makes_any 7 (by decide) (by decide) u)
 have HTk := hid (fun u => takes_any 7 (by decide) (by decide) u)
 have HR1 := hid hR1
 have HV := hid hV
 have HO := hid hO
 have HB1 := hid b1
 have HFn := hid (fun u (hu : Below W1.heap.size W1 u) (s : ByteArray) => find_any x a c0 s u hl ((hR1.below hu).mono hu.size))
 have HPO := hid (And.intro hP.symm hOe.symm)
 have HW1 := hid hW1
 have HOc : Hid (∀ u, Below W1.heap.size W1 u → u.cell? ⟨O, 0, none⟩ = some (.int .i64 7) ∧ u.cell? ⟨O, 1, none⟩ = some (.string nm) ∧ u.cell? ⟨O, 2, none⟩ = some (.string ot) ∧ u.cell? ⟨O, 3, none⟩ = some (.int .i64 fr) ∧ u.cell? ⟨O, 4, none⟩ = some (.int .i64 tt)) := hid (fun u hu => by
  have := (hu.block O (Array.getElem?_eq_some_iff.1 hO).1).trans hO
  simp [World.cell?, this])
 obtain ⟨pn, hpn⟩ : ∃ p, p = plcF x.vs nm 0 := ⟨_, rfl⟩
 obtain ⟨po, hpo⟩ : ∃ p, p = plcF x.vs ot 0 := ⟨_, rfl⟩
 have HF1 := hid (HFn.out W1 (Below.refl _ _) nm)
 have HF2 := hid (fun u hu => HFn.out u hu ot)
 rw [← hpn] at HF1
 rw [← hpo] at HF2
 obtain ⟨c0', c1, c2, c3, c4⟩ := HOc.out W1 (Below.refl _ _)
 obtain ⟨⟨p0, p1, p2, p3⟩, _⟩ := (HV.out.keep ((Below.refl _ _).block P HV.out.lt)).cs
 rw [hW1] at c0' c1 c2 c3 c4 p0 p1 p2 p3
 obtain ⟨z, hz⟩ : ∃ z, z = rPar x 7 pn po := ⟨_, rfl⟩
 have hpl := plO x nm
 have hqo := plO x ot
 rw [← hpn] at hpl
 rw [← hpo] at hqo
 rw [← hpn, ← hpo, ← hz]
 rw [← hpo] at h0
 have H0 := hid h0
 clear h0
 have HPL := hid hpl
 have HQO := hid hqo
 have HPN := hid (And.intro hpn hpo)
 have HZ0 := hid hz
 clear hpn hpo hz hpl hqo
 clear hP hOe hW1 b1 hV hO hR1 hR
 dsimp only [viewA, opA] at *
 go_enter Tryz.func82, Tryz.ntmps82
 go_wp2_with fail
 rw [← HW1.out]
 try rw [HPO.out.2]
 try rw [HPO.out.1]
 refine HF1.out.mono ?_
 rintro e w2 ⟨rfl, hb2⟩
 have HB2 := hid hb2
 clear hb2 HF1 c0' c1 c2 c3 c4 p0 p1 p2 p3
 obtain ⟨c0', c1, c2, c3, c4⟩ := HOc.out w2 (HB2.out)
 obtain ⟨⟨p0, p1, p2, p3⟩, _⟩ := (HV.out.keep ((HB2.out).block P HV.out.lt)).cs
 go_wp2_with fail
 refine (HF2.out w2 HB2.out).mono ?_
 rintro e w3 ⟨rfl, hb3⟩
 have HB3 := hid (HB2.out.trans (hb3.mono HB2.out.size))
 clear hb3 HF2 c0' c1 c2 c3 c4 p0 p1 p2 p3
 obtain ⟨c0', c1, c2, c3, c4⟩ := HOc.out w3 (HB3.out)
 obtain ⟨⟨p0, p1, p2, p3⟩, _⟩ := (HV.out.keep ((HB3.out).block P HV.out.lt)).cs
 unfold rPar at HZ0
 rcases HPL.out with hp | ⟨i, hi, hp⟩
 ·subst hp
  obtain ⟨j, hj, hp2⟩ := HQO.out.resolve_left (by have := H0.out; omega)
  obtain ⟨pu, hpu⟩ : ∃ q, q = (volAt x po).pt := ⟨_, rfl⟩
  rw [← hpu] at HZ0
  subst hp2
  rw [volAt_eq hj] at hpu
  obtain ⟨g2, off2, hg2, hgl2, hc2⟩ := (HR1.out.below HB3.out).resolve_left (fun e => by rw [e] at hj; simp at hj)
  subst hg2
  obtain ⟨mb, mcb, ⟨_, _, _, _, _, t5, _⟩, _, _⟩ := hc2 j hj
  rw [← hpu] at t5
  have hj1 : (j : Int) < (x.vs.length : Int) := by omega
  have hj0 : (0 : Int) ≤ (j : Int) := by omega
  clear hc2 hpu
  cases pu
  ·skip
   have HZ : Hid (z = false) := hid (by rw [HZ0.out]; first | rfl | (rw [hdi]; rfl))
   go_wp2_with (first | (go_at_call 39; with_reducible refine (HMk.out _).mono ?_; rintro e wn ⟨rfl, hwn⟩; have hwn := hwn.symm; subst hwn) | (go_at_call 106; with_reducible refine (HTk.out _).mono ?_; rintro e wn ⟨rfl, hwn⟩; have hwn := hwn.symm; subst hwn))
   go_ret
   exact ⟨by rw [HZ.out]; rfl, HB1.out.trans (HB3.out.mono HB1.out.size)⟩
  ·skip
   have HZ : Hid (z = true) := hid (by rw [HZ0.out]; first | rfl | (rw [hdi]; rfl))
   go_wp2_with (first | (go_at_call 39; with_reducible refine (HMk.out _).mono ?_; rintro e wn ⟨rfl, hwn⟩; have hwn := hwn.symm; subst hwn) | (go_at_call 106; with_reducible refine (HTk.out _).mono ?_; rintro e wn ⟨rfl, hwn⟩; have hwn := hwn.symm; subst hwn))
   go_ret
   exact ⟨by rw [HZ.out]; rfl, HB1.out.trans (HB3.out.mono HB1.out.size)⟩
 ·obtain ⟨pv, hpv⟩ : ∃ q, q = (volAt x pn).pt := ⟨_, rfl⟩
  rw [← hpv] at HZ0
  subst hp
  rw [volAt_eq hi] at hpv
  have hi1 : (i : Int) < (x.vs.length : Int) := by omega
  have hi0 : (0 : Int) ≤ (i : Int) := by omega
  have hdi : decide ((0 : Int) ≤ (i : Int)) = true := decide_eq_true hi0
  obtain ⟨g, off, hg, hgl, hc⟩ := (HR1.out.below HB3.out).resolve_left (fun e => by rw [e] at hi; simp at hi)
  subst hg
  obtain ⟨ma, mc, ⟨_, _, _, _, _, y5, _⟩, _, _⟩ := hc i hi
  rw [← hpv] at y5
  clear hc hpv
  cases pv
  ·skip
   obtain ⟨j, hj, hp2⟩ := HQO.out.resolve_left (by have := H0.out; omega)
   obtain ⟨pu, hpu⟩ : ∃ q, q = (volAt x po).pt := ⟨_, rfl⟩
   rw [← hpu] at HZ0
   subst hp2
   rw [volAt_eq hj] at hpu
   obtain ⟨g2, off2, hg2, hgl2, hc2⟩ := (HR1.out.below HB3.out).resolve_left (fun e => by rw [e] at hj; simp at hj)
   obtain ⟨rfl, rfl⟩ : g = g2 ∧ off = off2 := by simpa using hg2
   obtain ⟨mb, mcb, ⟨_, _, _, _, _, t5, _⟩, _, _⟩ := hc2 j hj
   rw [← hpu] at t5
   have hj1 : (j : Int) < (x.vs.length : Int) := by omega
   have hj0 : (0 : Int) ≤ (j : Int) := by omega
   clear hc2 hpu
   cases pu
   ·skip
    have HZ : Hid (z = false) := hid (by rw [HZ0.out]; first | rfl | (rw [hdi]; rfl))
    go_wp2_with (first | (go_at_call 39; with_reducible refine (HMk.out _).mono ?_; rintro e wn ⟨rfl, hwn⟩; have hwn := hwn.symm; subst hwn) | (go_at_call 106; with_reducible refine (HTk.out _).mono ?_; rintro e wn ⟨rfl, hwn⟩; have hwn := hwn.symm; subst hwn))
    go_ret
    exact ⟨by rw [HZ.out]; rfl, HB1.out.trans (HB3.out.mono HB1.out.size)⟩
   ·skip
    have HZ : Hid (z = true) := hid (by rw [HZ0.out]; first | rfl | (rw [hdi]; rfl))
    go_wp2_with (first | (go_at_call 39; with_reducible refine (HMk.out _).mono ?_; rintro e wn ⟨rfl, hwn⟩; have hwn := hwn.symm; subst hwn) | (go_at_call 106; with_reducible refine (HTk.out _).mono ?_; rintro e wn ⟨rfl, hwn⟩; have hwn := hwn.symm; subst hwn))
    go_ret
    exact ⟨by rw [HZ.out]; rfl, HB1.out.trans (HB3.out.mono HB1.out.size)⟩
  ·skip
   obtain ⟨j, hj, hp2⟩ := HQO.out.resolve_left (by have := H0.out; omega)
   obtain ⟨pu, hpu⟩ : ∃ q, q = (volAt x po).pt := ⟨_, rfl⟩
   rw [← hpu] at HZ0
   subst hp2
   rw [volAt_eq hj] at hpu
   obtain ⟨g2, off2, hg2, hgl2, hc2⟩ := (HR1.out.below HB3.out).resolve_left (fun e => by rw [e] at hj; simp at hj)
   obtain ⟨rfl, rfl⟩ : g = g2 ∧ off = off2 := by simpa using hg2
   obtain ⟨mb, mcb, ⟨_, _, _, _, _, t5, _⟩, _, _⟩ := hc2 j hj
   rw [← hpu] at t5
   have hj1 : (j : Int) < (x.vs.length : Int) := by omega
   have hj0 : (0 : Int) ≤ (j : Int) := by omega
   clear hc2 hpu
   cases pu
   ·skip
    have HZ : Hid (z = true) := hid (by rw [HZ0.out]; first | rfl | (rw [hdi]; rfl))
    go_wp2_with (first | (go_at_call 39; with_reducible refine (HMk.out _).mono ?_; rintro e wn ⟨rfl, hwn⟩; have hwn := hwn.symm; subst hwn) | (go_at_call 106; with_reducible refine (HTk.out _).mono ?_; rintro e wn ⟨rfl, hwn⟩; have hwn := hwn.symm; subst hwn))
    go_ret
    exact ⟨by rw [HZ.out]; rfl, HB1.out.trans (HB3.out.mono HB1.out.size)⟩
   ·skip
    have HZ : Hid (z = true) := hid (by rw [HZ0.out]; first | rfl | (rw [hdi]; rfl))
    go_wp2_with (first | (go_at_call 39; with_reducible refine (HMk.out _).mono ?_; rintro e wn ⟨rfl, hwn⟩; have hwn := hwn.symm; subst hwn) | (go_at_call 106; with_reducible refine (HTk.out _).mono ?_; rintro e wn ⟨rfl, hwn⟩; have hwn := hwn.symm; subst hwn))
    go_ret
    exact ⟨by rw [HZ.out]; rfl, HB1.out.trans (HB3.out.mono HB1.out.size)⟩
set_option maxRecDepth 100000 in
set_option maxHeartbeats 8000000 in
theorem partial_8 (x : VW) (a : Option Addr) (c0 : Nat) (nm ot : ByteArray) (fr tt : Int) (da : Option Addr) (dn dc : Nat) (w : World) (hl : x.vs.length ≤ 16777216) (hR : RdV w.heap.size w a x.vs) :
  Calls Tryz.prog 82 #[viewA x a c0, opA ⟨8, nm, ot, fr, tt⟩ da dn dc] w fun e w' => BoQ w (rPar x 8 (plcF x.vs nm 0) (plcF x.vs ot 0)) e w' := by
 obtain ⟨P, hP⟩ : ∃ P, P = w.heap.size := ⟨_, rfl⟩
 obtain ⟨O, hOe⟩ : ∃ O, O = w.heap.size + 1 := ⟨_, rfl⟩
 obtain ⟨W1, hW1⟩ : ∃ W1, W1 = (w.alloc (.cells #[.int .i64 x.cp, .int .i64 x.fr, .int .i64 x.nx, .slice a x.vs.length c0] 24)).alloc (.cells #[.int .i64 8, .string nm, .string ot, .int .i64 fr, .int .i64 tt, .slice da dn dc] 42) := ⟨_, rfl⟩
 have b1 : Below w.heap.size w W1 := by rw [hW1]; exact two_below _ _ _
 have hV : VwB W1 P x (.slice a x.vs.length c0) := by
  unfold VwB
  rw [hW1, hP, Below.heap_alloc _ _ _ (by simp)]
  exact heap_new _ _
 have hO : W1.heap[O]? = some (.cells #[.int .i64 8, .string nm, .string ot, .int .i64 fr, .int .i64 tt, .slice da dn dc] 42 (0, 0)) := by
  have := heap_new (w.alloc (.cells #[.int .i64 x.cp, .int .i64 x.fr, .int .i64 x.nx, .slice a x.vs.length c0] 24)) (.cells #[.int .i64 8, .string nm, .string ot, .int .i64 fr, .int .i64 tt, .slice da dn dc] 42)
  rw [World.size_alloc, ← hOe, ← hW1] at this
  exact this
 have hR1 := (hR.below b1).mono b1.size
 have HMk := hid (fun u => makes_any 8 (by decide) (by decide) u)
 have HTk := hid (fun u => takes_any 8 (by decide) (by decide) u)
 have HR1 := hid hR1
 have HV := hid hV
 have HO := hid hO
 have HB1 := hid b1
 have HFn := hid (fun u (hu : Below W1.heap.size W1 u) (s : ByteArray) => find_any x a c0 s u hl ((hR1.below hu).mono hu.size))
 have HPO := hid (And.intro hP.symm hOe.symm)
 have HW1 := hid hW1
 have HOc : Hid (∀ u, Below W1.heap.size W1 u → u.cell? ⟨O, 0, none⟩ = some (.int .i64 8) ∧ u.cell? ⟨O, 1, none⟩ = some (.string nm) ∧ u.cell? ⟨O, 2, none⟩ = some (.string ot) ∧ u.cell? ⟨O, 3, none⟩ = some (.int .i64 fr) ∧ u.cell? ⟨O, 4, none⟩ = some (.int .i64 tt)) := hid (fun u hu => by
  have := (hu.block O (Array.getElem?_eq_some_iff.1 hO).1).trans hO
  simp [World.cell?, this])
 obtain ⟨pn, hpn⟩ : ∃ p, p = plcF x.vs nm 0 := ⟨_, rfl⟩
 obtain ⟨po, hpo⟩ : ∃ p, p = plcF x.vs ot 0 := ⟨_, rfl⟩
 have HF1 := hid (HFn.out W1 (Below.refl _ _) nm)
 have HF2 := hid (fun u hu => HFn.out u hu ot)
 rw [← hpn] at HF1
 rw [← hpo] at HF2
 obtain ⟨c0', c1, c2, c3, c4⟩ := HOc.out W1 (Below.refl _ _)
 obtain ⟨⟨p0, p1, p2, p3⟩, _⟩ := (HV.out.keep ((Below.refl _ _).block P HV.out.lt)).cs
 rw [hW1] at c0' c1 c2 c3 c4 p0 p1 p2 p3
 obtain ⟨z, hz⟩ : ∃ z, z = rPar x 8 pn po := ⟨_, rfl⟩
 have hpl := plO x nm
 have hqo := plO x ot
 rw [← hpn] at hpl
 rw [← hpo] at hqo
 rw [← hpn, ← hpo, ← hz]
 have HPL := hid hpl
 have HQO := hid hqo
 have HPN := hid (And.intro hpn hpo)
 have HZ0 := hid hz
 clear hpn hpo hz hpl hqo
 clear hP hOe hW1 b1 hV hO hR1 hR
 dsimp only [viewA, opA] at *
 go_enter Tryz.func82, Tryz.ntmps82
 go_wp2_with fail
 rw [← HW1.out]
 try rw [HPO.out.2]
 try rw [HPO.out.1]
 refine HF1.out.mono ?_
 rintro e w2 ⟨rfl, hb2⟩
 have HB2 := hid hb2
 clear hb2 HF1 c0' c1 c2 c3 c4 p0 p1 p2 p3
 obtain ⟨c0', c1, c2, c3, c4⟩ := HOc.out w2 (HB2.out)
 obtain ⟨⟨p0, p1, p2, p3⟩, _⟩ := (HV.out.keep ((HB2.out).block P HV.out.lt)).cs
 go_wp2_with fail
 refine (HF2.out w2 HB2.out).mono ?_
 rintro e w3 ⟨rfl, hb3⟩
 have HB3 := hid (HB2.out.trans (hb3.mono HB2.out.size))
 clear hb3 HF2 c0' c1 c2 c3 c4 p0 p1 p2 p3
 obtain ⟨c0', c1, c2, c3, c4⟩ := HOc.out w3 (HB3.out)
 obtain ⟨⟨p0, p1, p2, p3⟩, _⟩ := (HV.out.keep ((HB3.out).block P HV.out.lt)).cs
 unfold rPar at HZ0
 rcases HPL.out with hp | ⟨i, hi, hp⟩
 ·subst hp
  have HZ : Hid (z = false) := hid (by rw [HZ0.out]; first | rfl | (rw [hdi]; rfl))
  go_wp2_with (first | (go_at_call 39; with_reducible refine (HMk.out _).mono ?_; rintro e wn ⟨rfl, hwn⟩; have hwn := hwn.symm; subst hwn) | (go_at_call 106; with_reducible refine (HTk.out _).mono ?_; rintro e wn ⟨rfl, hwn⟩; have hwn := hwn.symm; subst hwn))
  go_ret
  exact ⟨by rw [HZ.out]; rfl, HB1.out.trans (HB3.out.mono HB1.out.size)⟩
 ·obtain ⟨pv, hpv⟩ : ∃ q, q = (volAt x pn).pt := ⟨_, rfl⟩
  rw [← hpv] at HZ0
  subst hp
  rw [volAt_eq hi] at hpv
  have hi1 : (i : Int) < (x.vs.length : Int) := by omega
  have hi0 : (0 : Int) ≤ (i : Int) := by omega
  have hdi : decide ((0 : Int) ≤ (i : Int)) = true := decide_eq_true hi0
  obtain ⟨g, off, hg, hgl, hc⟩ := (HR1.out.below HB3.out).resolve_left (fun e => by rw [e] at hi; simp at hi)
  subst hg
  obtain ⟨ma, mc, ⟨_, _, _, _, _, y5, _⟩, _, _⟩ := hc i hi
  rw [← hpv] at y5
  clear hc hpv
  cases pv
  ·skip
   have HZ : Hid (z = false) := hid (by rw [HZ0.out]; first | rfl | (rw [hdi]; rfl))
   go_wp2_with (first | (go_at_call 39; with_reducible refine (HMk.out _).mono ?_; rintro e wn ⟨rfl, hwn⟩; have hwn := hwn.symm; subst hwn) | (go_at_call 106; with_reducible refine (HTk.out _).mono ?_; rintro e wn ⟨rfl, hwn⟩; have hwn := hwn.symm; subst hwn))
   go_ret
   exact ⟨by rw [HZ.out]; rfl, HB1.out.trans (HB3.out.mono HB1.out.size)⟩
  ·skip
   have HZ : Hid (z = true) := hid (by rw [HZ0.out]; first | rfl | (rw [hdi]; rfl))
   go_wp2_with (first | (go_at_call 39; with_reducible refine (HMk.out _).mono ?_; rintro e wn ⟨rfl, hwn⟩; have hwn := hwn.symm; subst hwn) | (go_at_call 106; with_reducible refine (HTk.out _).mono ?_; rintro e wn ⟨rfl, hwn⟩; have hwn := hwn.symm; subst hwn))
   go_ret
   exact ⟨by rw [HZ.out]; rfl, HB1.out.trans (HB3.out.mono HB1.out.size)⟩
set_option maxRecDepth 100000 in
set_option maxHeartbeats 8000000 in
theorem partial_9 (x : VW) (a : Option Addr) (c0 : Nat) (nm ot : ByteArray) (fr tt : Int) (da : Option Addr) (dn dc : Nat) (w : World) (hl : x.vs.length ≤ 16777216) (hR : RdV w.heap.size w a x.vs) :
  Calls Tryz.prog 82 #[viewA x a c0, opA ⟨9, nm, ot, fr, tt⟩ da dn dc] w fun e w' => BoQ w (rPar x 9 (plcF x.vs nm 0) (plcF x.vs ot 0)) e w' := by
 obtain ⟨P, hP⟩ : ∃ P, P = w.heap.size := ⟨_, rfl⟩
 obtain ⟨O, hOe⟩ : ∃ O, O = w.heap.size + 1 := ⟨_, rfl⟩
 obtain ⟨W1, hW1⟩ : ∃ W1, W1 = (w.alloc (.cells #[.int .i64 x.cp, .int .i64 x.fr, .int .i64 x.nx, .slice a x.vs.length c0] 24)).alloc (.cells #[.int .i64 9, .string nm, .string ot, .int .i64 fr, .int .i64 tt, .slice da dn dc] 42) := ⟨_, rfl⟩
 have b1 : Below w.heap.size w W1 := by rw [hW1]; exact two_below _ _ _
 have hV : VwB W1 P x (.slice a x.vs.length c0) := by
  unfold VwB
  rw [hW1, hP, Below.heap_alloc _ _ _ (by simp)]
  exact heap_new _ _
 have hO : W1.heap[O]? = some (.cells #[.int .i64 9, .string nm, .string ot, .int .i64 fr, .int .i64 tt, .slice da dn dc] 42 (0, 0)) := by
  have := heap_new (w.alloc (.cells #[.int .i64 x.cp, .int .i64 x.fr, .int .i64 x.nx, .slice a x.vs.length c0] 24)) (.cells #[.int .i64 9, .string nm, .string ot, .int .i64 fr, .int .i64 tt, .slice da dn dc] 42)
  rw [World.size_alloc, ← hOe, ← hW1] at this
  exact this
 have hR1 := (hR.below b1).mono b1.size
 have HMk := hid (fun u => makes_any 9 (by decide) (by decide) u)
 have HTk := hid (fun u => takes_any 9 (by decide) (by decide) u)
 have HR1 := hid hR1
 have HV := hid hV
 have HO := hid hO
 have HB1 := hid b1
 have HFn := hid (fun u (hu : Below W1.heap.size W1 u) (s : ByteArray) => find_any x a c0 s u hl ((hR1.below hu).mono hu.size))
 have HPO := hid (And.intro hP.symm hOe.symm)
 have HW1 := hid hW1
 have HOc : Hid (∀ u, Below W1.heap.size W1 u → u.cell? ⟨O, 0, none⟩ = some (.int .i64 9) ∧ u.cell? ⟨O, 1, none⟩ = some (.string nm) ∧ u.cell? ⟨O, 2, none⟩ = some (.string ot) ∧ u.cell? ⟨O, 3, none⟩ = some (.int .i64 fr) ∧ u.cell? ⟨O, 4, none⟩ = some (.int .i64 tt)) := hid (fun u hu => by
  have := (hu.block O (Array.getElem?_eq_some_iff.1 hO).1).trans hO
  simp [World.cell?, this])
 obtain ⟨pn, hpn⟩ : ∃ p, p = plcF x.vs nm 0 := ⟨_, rfl⟩
 obtain ⟨po, hpo⟩ : ∃ p, p = plcF x.vs ot 0 := ⟨_, rfl⟩
 have HF1 := hid (HFn.out W1 (Below.refl _ _) nm)
 have HF2 := hid (fun u hu => HFn.out u hu ot)
 rw [← hpn] at HF1
 rw [← hpo] at HF2
 obtain ⟨c0', c1, c2, c3, c4⟩ := HOc.out W1 (Below.refl _ _)
 obtain ⟨⟨p0, p1, p2, p3⟩, _⟩ := (HV.out.keep ((Below.refl _ _).block P HV.out.lt)).cs
 rw [hW1] at c0' c1 c2 c3 c4 p0 p1 p2 p3
 obtain ⟨z, hz⟩ : ∃ z, z = rPar x 9 pn po := ⟨_, rfl⟩
 have hpl := plO x nm
 have hqo := plO x ot
 rw [← hpn] at hpl
 rw [← hpo] at hqo
 rw [← hpn, ← hpo, ← hz]
 have HPL := hid hpl
 have HQO := hid hqo
 have HPN := hid (And.intro hpn hpo)
 have HZ0 := hid hz
 clear hpn hpo hz hpl hqo
 clear hP hOe hW1 b1 hV hO hR1 hR
 dsimp only [viewA, opA] at *
 go_enter Tryz.func82, Tryz.ntmps82
 go_wp2_with fail
 rw [← HW1.out]
 try rw [HPO.out.2]
 try rw [HPO.out.1]
 refine HF1.out.mono ?_
 rintro e w2 ⟨rfl, hb2⟩
 have HB2 := hid hb2
 clear hb2 HF1 c0' c1 c2 c3 c4 p0 p1 p2 p3
 obtain ⟨c0', c1, c2, c3, c4⟩ := HOc.out w2 (HB2.out)
 obtain ⟨⟨p0, p1, p2, p3⟩, _⟩ := (HV.out.keep ((HB2.out).block P HV.out.lt)).cs
 go_wp2_with fail
 refine (HF2.out w2 HB2.out).mono ?_
 rintro e w3 ⟨rfl, hb3⟩
 have HB3 := hid (HB2.out.trans (hb3.mono HB2.out.size))
 clear hb3 HF2 c0' c1 c2 c3 c4 p0 p1 p2 p3
 obtain ⟨c0', c1, c2, c3, c4⟩ := HOc.out w3 (HB3.out)
 obtain ⟨⟨p0, p1, p2, p3⟩, _⟩ := (HV.out.keep ((HB3.out).block P HV.out.lt)).cs
 unfold rPar at HZ0
 rcases HPL.out with hp | ⟨i, hi, hp⟩
 ·subst hp
  have HZ : Hid (z = false) := hid (by rw [HZ0.out]; first | rfl | (rw [hdi]; rfl))
  go_wp2_with (first | (go_at_call 39; with_reducible refine (HMk.out _).mono ?_; rintro e wn ⟨rfl, hwn⟩; have hwn := hwn.symm; subst hwn) | (go_at_call 106; with_reducible refine (HTk.out _).mono ?_; rintro e wn ⟨rfl, hwn⟩; have hwn := hwn.symm; subst hwn))
  go_ret
  exact ⟨by rw [HZ.out]; rfl, HB1.out.trans (HB3.out.mono HB1.out.size)⟩
 ·obtain ⟨pv, hpv⟩ : ∃ q, q = (volAt x pn).pt := ⟨_, rfl⟩
  rw [← hpv] at HZ0
  subst hp
  rw [volAt_eq hi] at hpv
  have hi1 : (i : Int) < (x.vs.length : Int) := by omega
  have hi0 : (0 : Int) ≤ (i : Int) := by omega
  have hdi : decide ((0 : Int) ≤ (i : Int)) = true := decide_eq_true hi0
  obtain ⟨g, off, hg, hgl, hc⟩ := (HR1.out.below HB3.out).resolve_left (fun e => by rw [e] at hi; simp at hi)
  subst hg
  obtain ⟨ma, mc, ⟨_, _, _, _, _, y5, _⟩, _, _⟩ := hc i hi
  rw [← hpv] at y5
  clear hc hpv
  cases pv
  ·skip
   have HZ : Hid (z = false) := hid (by rw [HZ0.out]; first | rfl | (rw [hdi]; rfl))
   go_wp2_with (first | (go_at_call 39; with_reducible refine (HMk.out _).mono ?_; rintro e wn ⟨rfl, hwn⟩; have hwn := hwn.symm; subst hwn) | (go_at_call 106; with_reducible refine (HTk.out _).mono ?_; rintro e wn ⟨rfl, hwn⟩; have hwn := hwn.symm; subst hwn))
   go_ret
   exact ⟨by rw [HZ.out]; rfl, HB1.out.trans (HB3.out.mono HB1.out.size)⟩
  ·skip
   have HZ : Hid (z = true) := hid (by rw [HZ0.out]; first | rfl | (rw [hdi]; rfl))
   go_wp2_with (first | (go_at_call 39; with_reducible refine (HMk.out _).mono ?_; rintro e wn ⟨rfl, hwn⟩; have hwn := hwn.symm; subst hwn) | (go_at_call 106; with_reducible refine (HTk.out _).mono ?_; rintro e wn ⟨rfl, hwn⟩; have hwn := hwn.symm; subst hwn))
   go_ret
   exact ⟨by rw [HZ.out]; rfl, HB1.out.trans (HB3.out.mono HB1.out.size)⟩
set_option maxRecDepth 100000 in
set_option maxHeartbeats 8000000 in
theorem partial_10 (x : VW) (a : Option Addr) (c0 : Nat) (nm ot : ByteArray) (fr tt : Int) (da : Option Addr) (dn dc : Nat) (w : World) (hl : x.vs.length ≤ 16777216) (hR : RdV w.heap.size w a x.vs) :
  Calls Tryz.prog 82 #[viewA x a c0, opA ⟨10, nm, ot, fr, tt⟩ da dn dc] w fun e w' => BoQ w (rPar x 10 (plcF x.vs nm 0) (plcF x.vs ot 0)) e w' := by
 obtain ⟨P, hP⟩ : ∃ P, P = w.heap.size := ⟨_, rfl⟩
 obtain ⟨O, hOe⟩ : ∃ O, O = w.heap.size + 1 := ⟨_, rfl⟩
 obtain ⟨W1, hW1⟩ : ∃ W1, W1 = (w.alloc (.cells #[.int .i64 x.cp, .int .i64 x.fr, .int .i64 x.nx, .slice a x.vs.length c0] 24)).alloc (.cells #[.int .i64 10, .string nm, .string ot, .int .i64 fr, .int .i64 tt, .slice da dn dc] 42) := ⟨_, rfl⟩
 have b1 : Below w.heap.size w W1 := by rw [hW1]; exact two_below _ _ _
 have hV : VwB W1 P x (.slice a x.vs.length c0) := by
  unfold VwB
  rw [hW1, hP, Below.heap_alloc _ _ _ (by simp)]
  exact heap_new _ _
 have hO : W1.heap[O]? = some (.cells #[.int .i64 10, .string nm, .string ot, .int .i64 fr, .int .i64 tt, .slice da dn dc] 42 (0, 0)) := by
  have := heap_new (w.alloc (.cells #[.int .i64 x.cp, .int .i64 x.fr, .int .i64 x.nx, .slice a x.vs.length c0] 24)) (.cells #[.int .i64 10, .string nm, .string ot, .int .i64 fr, .int .i64 tt, .slice da dn dc] 42)
  rw [World.size_alloc, ← hOe, ← hW1] at this
  exact this
 have hR1 := (hR.below b1).mono b1.size
 have HMk := hid (fun u => makes_any 10 (by decide) (by decide) u)
 have HTk := hid (fun u => takes_any 10 (by decide) (by decide) u)
 have HR1 := hid hR1
 have HV := hid hV
 have HO := hid hO
 have HB1 := hid b1
 have HFn := hid (fun u (hu : Below W1.heap.size W1 u) (s : ByteArray) => find_any x a c0 s u hl ((hR1.below hu).mono hu.size))
 have HPO := hid (And.intro hP.symm hOe.symm)
 have HW1 := hid hW1
 have HOc : Hid (∀ u, Below W1.heap.size W1 u → u.cell? ⟨O, 0, none⟩ = some (.int .i64 10) ∧ u.cell? ⟨O, 1, none⟩ = some (.string nm) ∧ u.cell? ⟨O, 2, none⟩ = some (.string ot) ∧ u.cell? ⟨O, 3, none⟩ = some (.int .i64 fr) ∧ u.cell? ⟨O, 4, none⟩ = some (.int .i64 tt)) := hid (fun u hu => by
  have := (hu.block O (Array.getElem?_eq_some_iff.1 hO).1).trans hO
  simp [World.cell?, this])
 obtain ⟨pn, hpn⟩ : ∃ p, p = plcF x.vs nm 0 := ⟨_, rfl⟩
 obtain ⟨po, hpo⟩ : ∃ p, p = plcF x.vs ot 0 := ⟨_, rfl⟩
 have HF1 := hid (HFn.out W1 (Below.refl _ _) nm)
 have HF2 := hid (fun u hu => HFn.out u hu ot)
 rw [← hpn] at HF1
 rw [← hpo] at HF2
 obtain ⟨c0', c1, c2, c3, c4⟩ := HOc.out W1 (Below.refl _ _)
 obtain ⟨⟨p0, p1, p2, p3⟩, _⟩ := (HV.out.keep ((Below.refl _ _).block P HV.out.lt)).cs
 rw [hW1] at c0' c1 c2 c3 c4 p0 p1 p2 p3
 obtain ⟨z, hz⟩ : ∃ z, z = rPar x 10 pn po := ⟨_, rfl⟩
 have hpl := plO x nm
 have hqo := plO x ot
 rw [← hpn] at hpl
 rw [← hpo] at hqo
 rw [← hpn, ← hpo, ← hz]
 have HPL := hid hpl
 have HQO := hid hqo
 have HPN := hid (And.intro hpn hpo)
 have HZ0 := hid hz
 clear hpn hpo hz hpl hqo
 clear hP hOe hW1 b1 hV hO hR1 hR
 dsimp only [viewA, opA] at *
 go_enter Tryz.func82, Tryz.ntmps82
 go_wp2_with fail
 rw [← HW1.out]
 try rw [HPO.out.2]
 try rw [HPO.out.1]
 refine HF1.out.mono ?_
 rintro e w2 ⟨rfl, hb2⟩
 have HB2 := hid hb2
 clear hb2 HF1 c0' c1 c2 c3 c4 p0 p1 p2 p3
 obtain ⟨c0', c1, c2, c3, c4⟩ := HOc.out w2 (HB2.out)
 obtain ⟨⟨p0, p1, p2, p3⟩, _⟩ := (HV.out.keep ((HB2.out).block P HV.out.lt)).cs
 go_wp2_with fail
 refine (HF2.out w2 HB2.out).mono ?_
 rintro e w3 ⟨rfl, hb3⟩
 have HB3 := hid (HB2.out.trans (hb3.mono HB2.out.size))
 clear hb3 HF2 c0' c1 c2 c3 c4 p0 p1 p2 p3
 obtain ⟨c0', c1, c2, c3, c4⟩ := HOc.out w3 (HB3.out)
 obtain ⟨⟨p0, p1, p2, p3⟩, _⟩ := (HV.out.keep ((HB3.out).block P HV.out.lt)).cs
 unfold rPar at HZ0
 rcases HPL.out with hp | ⟨i, hi, hp⟩
 ·subst hp
  have HZ : Hid (z = false) := hid (by rw [HZ0.out]; first | rfl | (rw [hdi]; rfl))
  go_wp2_with (first | (go_at_call 39; with_reducible refine (HMk.out _).mono ?_; rintro e wn ⟨rfl, hwn⟩; have hwn := hwn.symm; subst hwn) | (go_at_call 106; with_reducible refine (HTk.out _).mono ?_; rintro e wn ⟨rfl, hwn⟩; have hwn := hwn.symm; subst hwn))
  go_ret
  exact ⟨by rw [HZ.out]; rfl, HB1.out.trans (HB3.out.mono HB1.out.size)⟩
 ·obtain ⟨pv, hpv⟩ : ∃ q, q = (volAt x pn).pt := ⟨_, rfl⟩
  rw [← hpv] at HZ0
  subst hp
  rw [volAt_eq hi] at hpv
  have hi1 : (i : Int) < (x.vs.length : Int) := by omega
  have hi0 : (0 : Int) ≤ (i : Int) := by omega
  have hdi : decide ((0 : Int) ≤ (i : Int)) = true := decide_eq_true hi0
  obtain ⟨g, off, hg, hgl, hc⟩ := (HR1.out.below HB3.out).resolve_left (fun e => by rw [e] at hi; simp at hi)
  subst hg
  obtain ⟨ma, mc, ⟨_, _, _, _, _, y5, _⟩, _, _⟩ := hc i hi
  rw [← hpv] at y5
  clear hc hpv
  cases pv
  ·skip
   have HZ : Hid (z = false) := hid (by rw [HZ0.out]; first | rfl | (rw [hdi]; rfl))
   go_wp2_with (first | (go_at_call 39; with_reducible refine (HMk.out _).mono ?_; rintro e wn ⟨rfl, hwn⟩; have hwn := hwn.symm; subst hwn) | (go_at_call 106; with_reducible refine (HTk.out _).mono ?_; rintro e wn ⟨rfl, hwn⟩; have hwn := hwn.symm; subst hwn))
   go_ret
   exact ⟨by rw [HZ.out]; rfl, HB1.out.trans (HB3.out.mono HB1.out.size)⟩
  ·skip
   have HZ : Hid (z = true) := hid (by rw [HZ0.out]; first | rfl | (rw [hdi]; rfl))
   go_wp2_with (first | (go_at_call 39; with_reducible refine (HMk.out _).mono ?_; rintro e wn ⟨rfl, hwn⟩; have hwn := hwn.symm; subst hwn) | (go_at_call 106; with_reducible refine (HTk.out _).mono ?_; rintro e wn ⟨rfl, hwn⟩; have hwn := hwn.symm; subst hwn))
   go_ret
   exact ⟨by rw [HZ.out]; rfl, HB1.out.trans (HB3.out.mono HB1.out.size)⟩
set_option maxRecDepth 100000 in
set_option maxHeartbeats 8000000 in
theorem partial_11 (x : VW) (a : Option Addr) (c0 : Nat) (nm ot : ByteArray) (fr tt : Int) (da : Option Addr) (dn dc : Nat) (w : World) (hl : x.vs.length ≤ 16777216) (hR : RdV w.heap.size w a x.vs) :
  Calls Tryz.prog 82 #[viewA x a c0, opA ⟨11, nm, ot, fr, tt⟩ da dn dc] w fun e w' => BoQ w (rPar x 11 (plcF x.vs nm 0) (plcF x.vs ot 0)) e w' := by
 obtain ⟨P, hP⟩ : ∃ P, P = w.heap.size := ⟨_, rfl⟩
 obtain ⟨O, hOe⟩ : ∃ O, O = w.heap.size + 1 := ⟨_, rfl⟩
 obtain ⟨W1, hW1⟩ : ∃ W1, W1 = (w.alloc (.cells #[.int .i64 x.cp, .int .i64 x.fr, .int .i64 x.nx, .slice a x.vs.length c0] 24)).alloc (.cells #[.int .i64 11, .string nm, .string ot, .int .i64 fr, .int .i64 tt, .slice da dn dc] 42) := ⟨_, rfl⟩
 have b1 : Below w.heap.size w W1 := by rw [hW1]; exact two_below _ _ _
 have hV : VwB W1 P x (.slice a x.vs.length c0) := by
  unfold VwB
  rw [hW1, hP, Below.heap_alloc _ _ _ (by simp)]
  exact heap_new _ _
 have hO : W1.heap[O]? = some (.cells #[.int .i64 11, .string nm, .string ot, .int .i64 fr, .int .i64 tt, .slice da dn dc] 42 (0, 0)) := by
  have := heap_new (w.alloc (.cells #[.int .i64 x.cp, .int .i64 x.fr, .int .i64 x.nx, .slice a x.vs.length c0] 24)) (.cells #[.int .i64 11, .string nm, .string ot, .int .i64 fr, .int .i64 tt, .slice da dn dc] 42)
  rw [World.size_alloc, ← hOe, ← hW1] at this
  exact this
 have hR1 := (hR.below b1).mono b1.size
 have HMk := hid (fun u => makes_any 11 (by decide) (by decide) u)
 have HTk := hid (fun u => takes_any 11 (by decide) (by decide) u)
 have HR1 := hid hR1
 have HV := hid hV
 have HO := hid hO
 have HB1 := hid b1
 have HFn := hid (fun u (hu : Below W1.heap.size W1 u) (s : ByteArray) => find_any x a c0 s u hl ((hR1.below hu).mono hu.size))
 have HPO := hid (And.intro hP.symm hOe.symm)
 have HW1 := hid hW1
 have HOc : Hid (∀ u, Below W1.heap.size W1 u → u.cell? ⟨O, 0, none⟩ = some (.int .i64 11) ∧ u.cell? ⟨O, 1, none⟩ = some (.string nm) ∧ u.cell? ⟨O, 2, none⟩ = some (.string ot) ∧ u.cell? ⟨O, 3, none⟩ = some (.int .i64 fr) ∧ u.cell? ⟨O, 4, none⟩ = some (.int .i64 tt)) := hid (fun u hu => by
  have := (hu.block O (Array.getElem?_eq_some_iff.1 hO).1).trans hO
  simp [World.cell?, this])
 obtain ⟨pn, hpn⟩ : ∃ p, p = plcF x.vs nm 0 := ⟨_, rfl⟩
 obtain ⟨po, hpo⟩ : ∃ p, p = plcF x.vs ot 0 := ⟨_, rfl⟩
 have HF1 := hid (HFn.out W1 (Below.refl _ _) nm)
 have HF2 := hid (fun u hu => HFn.out u hu ot)
 rw [← hpn] at HF1
 rw [← hpo] at HF2
 obtain ⟨c0', c1, c2, c3, c4⟩ := HOc.out W1 (Below.refl _ _)
 obtain ⟨⟨p0, p1, p2, p3⟩, _⟩ := (HV.out.keep ((Below.refl _ _).block P HV.out.lt)).cs
 rw [hW1] at c0' c1 c2 c3 c4 p0 p1 p2 p3
 obtain ⟨z, hz⟩ : ∃ z, z = rPar x 11 pn po := ⟨_, rfl⟩
 have hpl := plO x nm
 have hqo := plO x ot
 rw [← hpn] at hpl
 rw [← hpo] at hqo
 rw [← hpn, ← hpo, ← hz]
 have HPL := hid hpl
 have HQO := hid hqo
 have HPN := hid (And.intro hpn hpo)
 have HZ0 := hid hz
 clear hpn hpo hz hpl hqo
 clear hP hOe hW1 b1 hV hO hR1 hR
 dsimp only [viewA, opA] at *
 go_enter Tryz.func82, Tryz.ntmps82
 go_wp2_with fail
 rw [← HW1.out]
 try rw [HPO.out.2]
 try rw [HPO.out.1]
 refine HF1.out.mono ?_
 rintro e w2 ⟨rfl, hb2⟩
 have HB2 := hid hb2
 clear hb2 HF1 c0' c1 c2 c3 c4 p0 p1 p2 p3
 obtain ⟨c0', c1, c2, c3, c4⟩ := HOc.out w2 (HB2.out)
 obtain ⟨⟨p0, p1, p2, p3⟩, _⟩ := (HV.out.keep ((HB2.out).block P HV.out.lt)).cs
 go_wp2_with fail
 refine (HF2.out w2 HB2.out).mono ?_
 rintro e w3 ⟨rfl, hb3⟩
 have HB3 := hid (HB2.out.trans (hb3.mono HB2.out.size))
 clear hb3 HF2 c0' c1 c2 c3 c4 p0 p1 p2 p3
 obtain ⟨c0', c1, c2, c3, c4⟩ := HOc.out w3 (HB3.out)
 obtain ⟨⟨p0, p1, p2, p3⟩, _⟩ := (HV.out.keep ((HB3.out).block P HV.out.lt)).cs
 unfold rPar at HZ0
 rcases HPL.out with hp | ⟨i, hi, hp⟩
 ·subst hp
  have HZ : Hid (z = false) := hid (by rw [HZ0.out]; first | rfl | (rw [hdi]; rfl))
  go_wp2_with (first | (go_at_call 39; with_reducible refine (HMk.out _).mono ?_; rintro e wn ⟨rfl, hwn⟩; have hwn := hwn.symm; subst hwn) | (go_at_call 106; with_reducible refine (HTk.out _).mono ?_; rintro e wn ⟨rfl, hwn⟩; have hwn := hwn.symm; subst hwn))
  go_ret
  exact ⟨by rw [HZ.out]; rfl, HB1.out.trans (HB3.out.mono HB1.out.size)⟩
 ·obtain ⟨pv, hpv⟩ : ∃ q, q = (volAt x pn).pt := ⟨_, rfl⟩
  rw [← hpv] at HZ0
  subst hp
  rw [volAt_eq hi] at hpv
  have hi1 : (i : Int) < (x.vs.length : Int) := by omega
  have hi0 : (0 : Int) ≤ (i : Int) := by omega
  have hdi : decide ((0 : Int) ≤ (i : Int)) = true := decide_eq_true hi0
  obtain ⟨g, off, hg, hgl, hc⟩ := (HR1.out.below HB3.out).resolve_left (fun e => by rw [e] at hi; simp at hi)
  subst hg
  obtain ⟨ma, mc, ⟨_, _, _, _, _, y5, _⟩, _, _⟩ := hc i hi
  rw [← hpv] at y5
  clear hc hpv
  cases pv
  ·skip
   have HZ : Hid (z = false) := hid (by rw [HZ0.out]; first | rfl | (rw [hdi]; rfl))
   go_wp2_with (first | (go_at_call 39; with_reducible refine (HMk.out _).mono ?_; rintro e wn ⟨rfl, hwn⟩; have hwn := hwn.symm; subst hwn) | (go_at_call 106; with_reducible refine (HTk.out _).mono ?_; rintro e wn ⟨rfl, hwn⟩; have hwn := hwn.symm; subst hwn))
   go_ret
   exact ⟨by rw [HZ.out]; rfl, HB1.out.trans (HB3.out.mono HB1.out.size)⟩
  ·skip
   have HZ : Hid (z = true) := hid (by rw [HZ0.out]; first | rfl | (rw [hdi]; rfl))
   go_wp2_with (first | (go_at_call 39; with_reducible refine (HMk.out _).mono ?_; rintro e wn ⟨rfl, hwn⟩; have hwn := hwn.symm; subst hwn) | (go_at_call 106; with_reducible refine (HTk.out _).mono ?_; rintro e wn ⟨rfl, hwn⟩; have hwn := hwn.symm; subst hwn))
   go_ret
   exact ⟨by rw [HZ.out]; rfl, HB1.out.trans (HB3.out.mono HB1.out.size)⟩
end Go.Proofs.YtddddfankeepkaaGreatDoor
