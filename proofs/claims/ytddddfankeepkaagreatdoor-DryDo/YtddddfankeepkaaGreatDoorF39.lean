import Derived.Test.YtddddfankeepkaaGreatDoorF38
import Derived.Test.YtddddfankeepkaaGreatDoorF10
import Derived.Test.YtddddfankeepkaaGreatDoorF31
namespace Go.Proofs.YtddddfankeepkaaGreatDoor
open Go.RowKit
theorem setF_start (f : Nat → Bool) (a : Int) (b : Bool) (j : Nat) : setF f a a b j = f j := by
 unfold setF
 rw [if_neg (by omega)]
theorem setF_step (f : Nat → Bool) (a k : Nat) (b : Bool) (h : a ≤ k) (j : Nat) : updF (setF f (a : Int) (k : Int) b) k b j = setF f (a : Int) ((k + 1 : Nat) : Int) b j := by
 unfold updF setF
 by_cases e : j = k
 ·subst e
  rw [if_pos rfl, if_pos (by omega)]
 ·rw [if_neg e]
  by_cases c : (a : Int) ≤ (j : Int) ∧ (j : Int) < (k : Int)
  ·rw [if_pos c, if_pos (by omega)]
  ·rw [if_neg c, if_neg (by omega)]
set_option maxRecDepth 100000 in
set_option maxHeartbeats 8000000 in
theorem turned_4 (X9 : Nat → Prop) (x : VW) (a : Option Addr) (c0 : Nat) (nm ot : ByteArray) (fr tt : Int) (da : Option Addr) (dn dc : Nat) (v : PV) (va : Option Addr) (vc : Nat) (w : World) (hv : RdR w.heap.size w va v.mp) (_hvn : va = none → vc = 0) (hX : ∀ q, X9 q → q < w.heap.size) (po : Int) (hNF : NF (-1) v.mp v.sz) (hsz : v.sz ≤ 262144) (hlen : v.mp.length ≤ 16777216) (t : Nat) (ht : tt = (t : Int)) (ht2 : t ≤ 262144) :
  Calls Tryz.prog 44 #[viewA x a c0, opA ⟨4, nm, ot, fr, tt⟩ da dn dc, volA v va vc] w fun e w' => VlQ X9 w (turP x ⟨4, nm, ot, fr, tt⟩ po v) e w' := by
 obtain ⟨P, hP⟩ : ∃ P, P = w.heap.size := ⟨_, rfl⟩
 obtain ⟨O, hOe⟩ : ∃ O, O = w.heap.size + 1 := ⟨_, rfl⟩
 obtain ⟨V, hVe⟩ : ∃ V, V = w.heap.size + 1 + 1 := ⟨_, rfl⟩
 obtain ⟨R, hRe⟩ : ∃ R, R = w.heap.size + 1 + 1 + 1 := ⟨_, rfl⟩
 obtain ⟨W1, hW1⟩ : ∃ W1, W1 = (((w.alloc (.cells #[.int .i64 x.cp, .int .i64 x.fr, .int .i64 x.nx, .slice a x.vs.length c0] 24)).alloc (.cells #[.int .i64 4, .string nm, .string ot, .int .i64 fr, .int .i64 tt, .slice da dn dc] 42)).alloc (.cells #[.string v.nm, .int .i64 v.id, .int .i64 v.sz, .int .i64 v.og, .int .i64 v.kd, .bool v.pt, .slice va v.mp.length vc] 38)).alloc (.cells #[.string ⟨#[]⟩, .int .i64 0, .int .i64 0, .int .i64 0, .int .i64 0, .bool false, .slice none 0 0] 38) := ⟨_, rfl⟩
 have b1 : Below w.heap.size w W1 := by rw [hW1]; exact ((two_below _ _ _).trans ((below1 _ _).mono (by simp only [World.size_alloc]; omega))).trans ((below1 _ _).mono (by simp only [World.size_alloc]; omega))
 have hV : VwB W1 P x (.slice a x.vs.length c0) := by
  unfold VwB
  rw [hW1, hP, Below.heap_alloc _ _ _ (by simp only [World.size_alloc]; omega), Below.heap_alloc _ _ _ (by simp only [World.size_alloc]; omega), Below.heap_alloc _ _ _ (by simp)]
  exact heap_new _ _
 have hO : W1.heap[O]? = some (.cells #[.int .i64 4, .string nm, .string ot, .int .i64 fr, .int .i64 tt, .slice da dn dc] 42 (0, 0)) := by
  have := heap_new (w.alloc (.cells #[.int .i64 x.cp, .int .i64 x.fr, .int .i64 x.nx, .slice a x.vs.length c0] 24)) (.cells #[.int .i64 4, .string nm, .string ot, .int .i64 fr, .int .i64 tt, .slice da dn dc] 42)
  rw [World.size_alloc, ← hOe] at this
  rw [hW1, Below.heap_alloc _ _ _ (by simp only [World.size_alloc]; omega), Below.heap_alloc _ _ _ (by simp only [World.size_alloc]; omega)]
  exact this
 have hVb : VoB W1 V v (.slice va v.mp.length vc) := by
  have := heap_new ((w.alloc (.cells #[.int .i64 x.cp, .int .i64 x.fr, .int .i64 x.nx, .slice a x.vs.length c0] 24)).alloc (.cells #[.int .i64 4, .string nm, .string ot, .int .i64 fr, .int .i64 tt, .slice da dn dc] 42)) (.cells #[.string v.nm, .int .i64 v.id, .int .i64 v.sz, .int .i64 v.og, .int .i64 v.kd, .bool v.pt, .slice va v.mp.length vc] 38)
  rw [World.size_alloc, World.size_alloc, ← hVe] at this
  unfold VoB
  rw [hW1, Below.heap_alloc _ _ _ (by simp only [World.size_alloc]; omega)]
  exact this
 have hRb : VoB W1 R PV0 (.slice none 0 0) := by
  have := heap_new (((w.alloc (.cells #[.int .i64 x.cp, .int .i64 x.fr, .int .i64 x.nx, .slice a x.vs.length c0] 24)).alloc (.cells #[.int .i64 4, .string nm, .string ot, .int .i64 fr, .int .i64 tt, .slice da dn dc] 42)).alloc (.cells #[.string v.nm, .int .i64 v.id, .int .i64 v.sz, .int .i64 v.og, .int .i64 v.kd, .bool v.pt, .slice va v.mp.length vc] 38)) (.cells #[.string ⟨#[]⟩, .int .i64 0, .int .i64 0, .int .i64 0, .int .i64 0, .bool false, .slice none 0 0] 38)
  rw [World.size_alloc, World.size_alloc, World.size_alloc, ← hRe, ← hW1] at this
  exact this
 have HB1 := hid b1
 have HV := hid hV
 have HRb := hid hRb
 have HVb := hid hVb
 have HW1 := hid hW1
 have HPO := hid (And.intro hP.symm (And.intro hOe.symm (And.intro hVe.symm hRe.symm)))
 have HVR : Hid (w.heap.size ≤ V ∧ V + 1 = R) := hid (by omega)
 have HOc : Hid (∀ u, Below W1.heap.size W1 u → u.cell? ⟨O, 0, none⟩ = some (.int .i64 4) ∧ u.cell? ⟨O, 1, none⟩ = some (.string nm) ∧ u.cell? ⟨O, 2, none⟩ = some (.string ot) ∧ u.cell? ⟨O, 3, none⟩ = some (.int .i64 fr) ∧ u.cell? ⟨O, 4, none⟩ = some (.int .i64 tt)) := hid (fun u hu => by
  have := (hu.block O (Array.getElem?_eq_some_iff.1 hO).1).trans hO
  simp [World.cell?, this])
 obtain ⟨c0', c1, c2, c3, c4⟩ := HOc.out W1 (Below.refl _ _)
 obtain ⟨⟨x0, x1, x2, x3, x4, x5, x6⟩, xf⟩ := hVb.cs
 obtain ⟨⟨r0, r1, r2, r3, r4, r5, r6⟩, rf⟩ := hRb.cs
 obtain ⟨⟨p0, p1, p2, p3⟩, _⟩ := hV.cs
 rw [hW1] at c0' c1 c2 c3 c4
 have HT := hid (told_any va vc t v.mp v.sz W1 hNF hlen ht2 hsz ((hv.below b1).mono b1.size))
 rw [← ht] at HT
 have HRd := hid (fun G u (h : BlB u G (tolF v.mp) t) => read_any G t (tolF v.mp) u ht2 h)
 obtain ⟨rs, hrs⟩ : ∃ rs, rs = redT (tolF v.mp) t := ⟨_, rfl⟩
 have HE : Hid (turP x ⟨4, nm, ot, fr, tt⟩ po v = ⟨v.nm, v.id, tt, v.og, v.kd, v.pt, rs⟩) := hid (by
  unfold turP
  rw [if_neg (by show ¬ ((4 : Int) = 5); decide), if_neg (by show ¬ ((4 : Int) = 7); decide), if_pos (show ((⟨4, nm, ot, fr, tt⟩ : OW)).k = 4 from rfl), show tt.toNat = t by omega, ← hrs]
  rfl)
 rw [← hrs] at HRd
 have HXX := hid hX
 rw [hW1, hVe] at x0 x1 x2 x3 x4 x5 x6 xf
 rw [hW1, hRe] at r0 r1 r2 r3 r4 r5 r6 rf
 rw [hOe] at c0' c1 c2 c3 c4
 rw [hW1, hP] at p0 p1 p2 p3
 clear hX hP hOe hVe hRe hW1 b1 hV hO hVb hRb hv hrs hNF hsz hlen ht2 ht
 dsimp only [viewA, opA, volA] at *
 go_enter Tryz.func44, Tryz.ntmps44
 go_wp2_with fail
 rw [← HW1.out]
 try rw [HPO.out.2.2.2]
 try rw [HPO.out.2.2.1]
 try rw [HPO.out.2.1]
 try rw [HPO.out.1]
 refine HT.out.mono ?_
 rintro e W2 ⟨G, rfl, hBl, hG, hb2⟩
 have HR2 := hid (HRd.out G W2 hBl)
 have HB2 := hid hb2
 clear hBl hb2 HT HRd x0 x1 x2 x3 x4 x5 x6 xf r0 r1 r2 r3 r4 r5 r6 rf c0' c1 c2 c3 c4 p0 p1 p2 p3
 go_wp2_with fail
 refine HR2.out.mono ?_
 rintro e W3 ⟨z, rfl, hz, hb3'⟩
 have hb3 : Below W1.heap.size W1 W3 := HB2.out.trans (hb3'.mono HB2.out.size)
 have hbS := HB2.out.size
 obtain ⟨za, zc, rfl, _, _⟩ := hz.rd
 have hV3 : VoB W3 V v (.slice va v.mp.length vc) := HVb.out.keep (hb3.block _ HVb.out.lt)
 have hR3 : VoB W3 R PV0 (.slice none 0 0) := HRb.out.keep (hb3.block _ HRb.out.lt)
 obtain ⟨c0', c1, c2, c3, c4⟩ := HOc.out W3 hb3
 obtain ⟨W5, hW5⟩ : ∃ W5, W5 = (W3.setCell ⟨V, 6, none⟩ (.slice za rs.length zc)).setCell ⟨V, 2, none⟩ (.int .i64 tt) := ⟨_, rfl⟩
 have e4 : But (fun q => q = V) W3 W5 := by rw [hW5]; exact ((But.refl (fun q => q = V) W3).setCell (p := ⟨V, 6, none⟩) rfl _).setCell (p := ⟨V, 2, none⟩) rfl _
 have hbw : Below w.heap.size w W3 := HB1.out.trans (hb3.mono HB1.out.size)
 have hb5 : Below w.heap.size w W5 := hbw.trans (e4.below hbw.size (fun q hq e => by have := HVR.out.1; omega))
 have hR5 : VoB W5 R PV0 (.slice none 0 0) := hR3.keep (e4.block _ hR3.lt (by have := HVR.out.2; omega))
 have HFIN : Hid (∀ u, u = put7 W5 R ⟨v.nm, v.id, tt, v.og, v.kd, v.pt, rs⟩ (.slice za rs.length zc) → VoB u R ⟨v.nm, v.id, tt, v.og, v.kd, v.pt, rs⟩ (.slice za rs.length zc) ∧ VlQ X9 w (turP x ⟨4, nm, ot, fr, tt⟩ po v) (.returned (.agg #[.string v.nm, .int .i64 v.id, .int .i64 tt, .int .i64 v.og, .int .i64 v.kd, .bool v.pt, .slice za rs.length zc])) u) := hid (by
  rintro u rfl
  have hbt := but_put7 W5 R ⟨v.nm, v.id, tt, v.og, v.kd, v.pt, rs⟩ (.slice za rs.length zc)
  have hBz := hb5.trans (hbt.below hb5.size (fun q hq e => by have := HVR.out; omega))
  obtain ⟨a', c', e', h1, h2⟩ := OwR.rd (own_keep hz (fun q hq => by
   obtain ⟨q1, q2, _⟩ := own_blk hz hq
   have := HRb.out.lt
   have := HVR.out
   have := e4.size
   exact (hbt.block q (by omega) (by omega)).trans (e4.block q q2 (by omega))))
  simp only [Value.slice.injEq, true_and] at e'
  obtain ⟨rfl, rfl⟩ := e'
  rw [HE.out]
  refine ⟨hR5.put7, za, zc, rfl, h1, h2, ?_, hBz⟩
  rcases own_form hz with ⟨_, q⟩ | ⟨q1, _, e1, e2⟩
  ·exact .inl (List.eq_nil_of_length_eq_zero q)
  ·refine .inr fun ad had q => ?_
   have q2 := (own_blk hz e2).1
   have q3 := HXX.out _ q
   have q4 := HB1.out.size
   simp only [Value.slice.injEq] at e1
   rw [had] at e1
   have e3 := e1.1
   simp only [Option.some.injEq] at e3
   rw [e3] at q3
   dsimp only at q3
   omega)
 obtain ⟨⟨x0, x1, x2, x3, x4, x5, x6⟩, xf⟩ := hV3.cs
 obtain ⟨⟨r0, r1, r2, r3, r4, r5, r6⟩, rf⟩ := hR3.cs
 have hVR : ¬ (V = R) := by have := HVR.out; omega
 have hRV : ¬ (R = V) := fun e => hVR e.symm
 have hVO : ¬ (V = O) := by have := HPO.out; omega
 have hOV : ¬ (O = V) := fun e => hVO e.symm
 rw [hW5] at HFIN
 clear hV3 hR3 hW5 e4 hbw hb5 hR5
 clear hz hb3 hb3' hbS
 go_wp2_with fail
 exact bodyPost_ret (results_row1 rfl _ _ R 38 _ (0, 0) _ rfl (HFIN.out _ rfl).1 Tryz.underlying38 rfl (by kernel_rfl)) rfl (HFIN.out _ rfl).2
set_option maxRecDepth 100000 in
set_option maxHeartbeats 8000000 in
theorem turned_5 (X9 : Nat → Prop) (x : VW) (a : Option Addr) (c0 : Nat) (nm ot : ByteArray) (fr tt : Int) (da : Option Addr) (dn dc : Nat) (v : PV) (va : Option Addr) (vc : Nat) (w : World) (hv : RdR w.heap.size w va v.mp) (hvn : va = none → vc = 0) (hvx : NoX X9 va v.mp) (po : Int) :
  Calls Tryz.prog 44 #[viewA x a c0, opA ⟨5, nm, ot, fr, tt⟩ da dn dc, volA v va vc] w fun e w' => VlQ X9 w (turP x ⟨5, nm, ot, fr, tt⟩ po v) e w' := by
 obtain ⟨P, hP⟩ : ∃ P, P = w.heap.size := ⟨_, rfl⟩
 obtain ⟨O, hOe⟩ : ∃ O, O = w.heap.size + 1 := ⟨_, rfl⟩
 obtain ⟨V, hVe⟩ : ∃ V, V = w.heap.size + 1 + 1 := ⟨_, rfl⟩
 obtain ⟨R, hRe⟩ : ∃ R, R = w.heap.size + 1 + 1 + 1 := ⟨_, rfl⟩
 obtain ⟨W1, hW1⟩ : ∃ W1, W1 = (((w.alloc (.cells #[.int .i64 x.cp, .int .i64 x.fr, .int .i64 x.nx, .slice a x.vs.length c0] 24)).alloc (.cells #[.int .i64 5, .string nm, .string ot, .int .i64 fr, .int .i64 tt, .slice da dn dc] 42)).alloc (.cells #[.string v.nm, .int .i64 v.id, .int .i64 v.sz, .int .i64 v.og, .int .i64 v.kd, .bool v.pt, .slice va v.mp.length vc] 38)).alloc (.cells #[.string ⟨#[]⟩, .int .i64 0, .int .i64 0, .int .i64 0, .int .i64 0, .bool false, .slice none 0 0] 38) := ⟨_, rfl⟩
 have b1 : Below w.heap.size w W1 := by rw [hW1]; exact ((two_below _ _ _).trans ((below1 _ _).mono (by simp only [World.size_alloc]; omega))).trans ((below1 _ _).mono (by simp only [World.size_alloc]; omega))
 have hV : VwB W1 P x (.slice a x.vs.length c0) := by
  unfold VwB
  rw [hW1, hP, Below.heap_alloc _ _ _ (by simp only [World.size_alloc]; omega), Below.heap_alloc _ _ _ (by simp only [World.size_alloc]; omega), Below.heap_alloc _ _ _ (by simp)]
  exact heap_new _ _
 have hO : W1.heap[O]? = some (.cells #[.int .i64 5, .string nm, .string ot, .int .i64 fr, .int .i64 tt, .slice da dn dc] 42 (0, 0)) := by
  have := heap_new (w.alloc (.cells #[.int .i64 x.cp, .int .i64 x.fr, .int .i64 x.nx, .slice a x.vs.length c0] 24)) (.cells #[.int .i64 5, .string nm, .string ot, .int .i64 fr, .int .i64 tt, .slice da dn dc] 42)
  rw [World.size_alloc, ← hOe] at this
  rw [hW1, Below.heap_alloc _ _ _ (by simp only [World.size_alloc]; omega), Below.heap_alloc _ _ _ (by simp only [World.size_alloc]; omega)]
  exact this
 have hVb : VoB W1 V v (.slice va v.mp.length vc) := by
  have := heap_new ((w.alloc (.cells #[.int .i64 x.cp, .int .i64 x.fr, .int .i64 x.nx, .slice a x.vs.length c0] 24)).alloc (.cells #[.int .i64 5, .string nm, .string ot, .int .i64 fr, .int .i64 tt, .slice da dn dc] 42)) (.cells #[.string v.nm, .int .i64 v.id, .int .i64 v.sz, .int .i64 v.og, .int .i64 v.kd, .bool v.pt, .slice va v.mp.length vc] 38)
  rw [World.size_alloc, World.size_alloc, ← hVe] at this
  unfold VoB
  rw [hW1, Below.heap_alloc _ _ _ (by simp only [World.size_alloc]; omega)]
  exact this
 have hRb : VoB W1 R PV0 (.slice none 0 0) := by
  have := heap_new (((w.alloc (.cells #[.int .i64 x.cp, .int .i64 x.fr, .int .i64 x.nx, .slice a x.vs.length c0] 24)).alloc (.cells #[.int .i64 5, .string nm, .string ot, .int .i64 fr, .int .i64 tt, .slice da dn dc] 42)).alloc (.cells #[.string v.nm, .int .i64 v.id, .int .i64 v.sz, .int .i64 v.og, .int .i64 v.kd, .bool v.pt, .slice va v.mp.length vc] 38)) (.cells #[.string ⟨#[]⟩, .int .i64 0, .int .i64 0, .int .i64 0, .int .i64 0, .bool false, .slice none 0 0] 38)
  rw [World.size_alloc, World.size_alloc, World.size_alloc, ← hRe, ← hW1] at this
  exact this
 have HB1 := hid b1
 have HV := hid hV
 have HRb := hid hRb
 have HVb := hid hVb
 have HW1 := hid hW1
 have HPO := hid (And.intro hP.symm (And.intro hOe.symm (And.intro hVe.symm hRe.symm)))
 have HVR : Hid (w.heap.size ≤ V ∧ V + 1 = R) := hid (by omega)
 have HOc : Hid (∀ u, Below W1.heap.size W1 u → u.cell? ⟨O, 0, none⟩ = some (.int .i64 5) ∧ u.cell? ⟨O, 1, none⟩ = some (.string nm) ∧ u.cell? ⟨O, 2, none⟩ = some (.string ot) ∧ u.cell? ⟨O, 3, none⟩ = some (.int .i64 fr) ∧ u.cell? ⟨O, 4, none⟩ = some (.int .i64 tt)) := hid (fun u hu => by
  have := (hu.block O (Array.getElem?_eq_some_iff.1 hO).1).trans hO
  simp [World.cell?, this])
 obtain ⟨c0', c1, c2, c3, c4⟩ := HOc.out W1 (Below.refl _ _)
 obtain ⟨⟨x0, x1, x2, x3, x4, x5, x6⟩, xf⟩ := hVb.cs
 obtain ⟨⟨r0, r1, r2, r3, r4, r5, r6⟩, rf⟩ := hRb.cs
 obtain ⟨⟨p0, p1, p2, p3⟩, _⟩ := hV.cs
 rw [hW1] at c0' c1 c2 c3 c4
 have HFIN : Hid (∀ z, z = ((((w.alloc (.cells #[.int .i64 x.cp, .int .i64 x.fr, .int .i64 x.nx, .slice a x.vs.length c0] 24)).alloc (.cells #[.int .i64 5, .string nm, .string ot, .int .i64 fr, .int .i64 tt, .slice da dn dc] 42)).alloc (.cells #[.string ot, .int .i64 v.id, .int .i64 v.sz, .int .i64 v.og, .int .i64 v.kd, .bool v.pt, .slice va v.mp.length vc] 38)).alloc (.cells #[.string ot, .int .i64 v.id, .int .i64 v.sz, .int .i64 v.og, .int .i64 v.kd, .bool v.pt, .slice va v.mp.length vc] 38)) → VoB z (w.heap.size + 1 + 1 + 1) (setNm v ot) (.slice va v.mp.length vc) ∧ VlQ X9 w (turP x ⟨5, nm, ot, fr, tt⟩ po v) (.returned (.agg #[.string ot, .int .i64 v.id, .int .i64 v.sz, .int .i64 v.og, .int .i64 v.kd, .bool v.pt, .slice va v.mp.length vc])) z) := hid (by
  rintro z rfl
  have hBz : Below w.heap.size w ((((w.alloc (.cells #[.int .i64 x.cp, .int .i64 x.fr, .int .i64 x.nx, .slice a x.vs.length c0] 24)).alloc (.cells #[.int .i64 5, .string nm, .string ot, .int .i64 fr, .int .i64 tt, .slice da dn dc] 42)).alloc (.cells #[.string ot, .int .i64 v.id, .int .i64 v.sz, .int .i64 v.og, .int .i64 v.kd, .bool v.pt, .slice va v.mp.length vc] 38)).alloc (.cells #[.string ot, .int .i64 v.id, .int .i64 v.sz, .int .i64 v.og, .int .i64 v.kd, .bool v.pt, .slice va v.mp.length vc] 38)) := ((two_below _ _ _).trans ((below1 _ _).mono (by simp only [World.size_alloc]; omega))).trans ((below1 _ _).mono (by simp only [World.size_alloc]; omega))
  have hE : turP x ⟨5, nm, ot, fr, tt⟩ po v = setNm v ot := by unfold turP; rw [if_pos (show ((⟨5, nm, ot, fr, tt⟩ : OW)).k = 5 from rfl)]
  rw [hE]
  refine ⟨?_, va, vc, rfl, (hv.below hBz).mono hBz.size, hvn, hvx, hBz⟩
  have := heap_new (((w.alloc (.cells #[.int .i64 x.cp, .int .i64 x.fr, .int .i64 x.nx, .slice a x.vs.length c0] 24)).alloc (.cells #[.int .i64 5, .string nm, .string ot, .int .i64 fr, .int .i64 tt, .slice da dn dc] 42)).alloc (.cells #[.string ot, .int .i64 v.id, .int .i64 v.sz, .int .i64 v.og, .int .i64 v.kd, .bool v.pt, .slice va v.mp.length vc] 38)) (.cells #[.string ot, .int .i64 v.id, .int .i64 v.sz, .int .i64 v.og, .int .i64 v.kd, .bool v.pt, .slice va v.mp.length vc] 38)
  rw [World.size_alloc, World.size_alloc, World.size_alloc] at this
  exact this)
 rw [hW1, hVe] at x0 x1 x2 x3 x4 x5 x6 xf
 rw [hW1, hRe] at r0 r1 r2 r3 r4 r5 r6 rf
 rw [hOe] at c0' c1 c2 c3 c4
 rw [hW1, hP] at p0 p1 p2 p3
 clear hP hOe hVe hRe hW1 b1 hV hO hVb hRb hv HW1 HV HRb HVb HOc HB1 HPO HVR
 dsimp only [viewA, opA, volA] at *
 go_enter Tryz.func44, Tryz.ntmps44
 go_wp2_with fail
 exact bodyPost_ret (results_row1 rfl _ _ (w.heap.size + 1 + 1 + 1) 38 _ (0, 0) _ rfl (HFIN.out _ rfl).1 Tryz.underlying38 rfl (by kernel_rfl)) rfl (HFIN.out _ rfl).2
set_option maxRecDepth 100000 in
set_option maxHeartbeats 8000000 in
theorem turned_7 (X9 : Nat → Prop) (x : VW) (a : Option Addr) (c0 : Nat) (nm ot : ByteArray) (fr tt : Int) (da : Option Addr) (dn dc : Nat) (v : PV) (va : Option Addr) (vc : Nat) (w : World) (hl : x.vs.length ≤ 16777216) (hR : RdVX X9 w.heap.size w a x.vs) (i : Nat) (hi : i < x.vs.length) (hpo : plcF x.vs ot 0 = (i : Int)) :
  Calls Tryz.prog 44 #[viewA x a c0, opA ⟨7, nm, ot, fr, tt⟩ da dn dc, volA v va vc] w fun e w' => VlQ X9 w (turP x ⟨7, nm, ot, fr, tt⟩ (i : Int) v) e w' := by
 obtain ⟨P, hP⟩ : ∃ P, P = w.heap.size := ⟨_, rfl⟩
 obtain ⟨O, hOe⟩ : ∃ O, O = w.heap.size + 1 := ⟨_, rfl⟩
 obtain ⟨V, hVe⟩ : ∃ V, V = w.heap.size + 1 + 1 := ⟨_, rfl⟩
 obtain ⟨R, hRe⟩ : ∃ R, R = w.heap.size + 1 + 1 + 1 := ⟨_, rfl⟩
 obtain ⟨W1, hW1⟩ : ∃ W1, W1 = (((w.alloc (.cells #[.int .i64 x.cp, .int .i64 x.fr, .int .i64 x.nx, .slice a x.vs.length c0] 24)).alloc (.cells #[.int .i64 7, .string nm, .string ot, .int .i64 fr, .int .i64 tt, .slice da dn dc] 42)).alloc (.cells #[.string v.nm, .int .i64 v.id, .int .i64 v.sz, .int .i64 v.og, .int .i64 v.kd, .bool v.pt, .slice va v.mp.length vc] 38)).alloc (.cells #[.string ⟨#[]⟩, .int .i64 0, .int .i64 0, .int .i64 0, .int .i64 0, .bool false, .slice none 0 0] 38) := ⟨_, rfl⟩
 have b1 : Below w.heap.size w W1 := by rw [hW1]; exact ((two_below _ _ _).trans ((below1 _ _).mono (by simp only [World.size_alloc]; omega))).trans ((below1 _ _).mono (by simp only [World.size_alloc]; omega))
 have hV : VwB W1 P x (.slice a x.vs.length c0) := by
  unfold VwB
  rw [hW1, hP, Below.heap_alloc _ _ _ (by simp only [World.size_alloc]; omega), Below.heap_alloc _ _ _ (by simp only [World.size_alloc]; omega), Below.heap_alloc _ _ _ (by simp)]
  exact heap_new _ _
 have hO : W1.heap[O]? = some (.cells #[.int .i64 7, .string nm, .string ot, .int .i64 fr, .int .i64 tt, .slice da dn dc] 42 (0, 0)) := by
  have := heap_new (w.alloc (.cells #[.int .i64 x.cp, .int .i64 x.fr, .int .i64 x.nx, .slice a x.vs.length c0] 24)) (.cells #[.int .i64 7, .string nm, .string ot, .int .i64 fr, .int .i64 tt, .slice da dn dc] 42)
  rw [World.size_alloc, ← hOe] at this
  rw [hW1, Below.heap_alloc _ _ _ (by simp only [World.size_alloc]; omega), Below.heap_alloc _ _ _ (by simp only [World.size_alloc]; omega)]
  exact this
 have hVb : VoB W1 V v (.slice va v.mp.length vc) := by
  have := heap_new ((w.alloc (.cells #[.int .i64 x.cp, .int .i64 x.fr, .int .i64 x.nx, .slice a x.vs.length c0] 24)).alloc (.cells #[.int .i64 7, .string nm, .string ot, .int .i64 fr, .int .i64 tt, .slice da dn dc] 42)) (.cells #[.string v.nm, .int .i64 v.id, .int .i64 v.sz, .int .i64 v.og, .int .i64 v.kd, .bool v.pt, .slice va v.mp.length vc] 38)
  rw [World.size_alloc, World.size_alloc, ← hVe] at this
  unfold VoB
  rw [hW1, Below.heap_alloc _ _ _ (by simp only [World.size_alloc]; omega)]
  exact this
 have hRb : VoB W1 R PV0 (.slice none 0 0) := by
  have := heap_new (((w.alloc (.cells #[.int .i64 x.cp, .int .i64 x.fr, .int .i64 x.nx, .slice a x.vs.length c0] 24)).alloc (.cells #[.int .i64 7, .string nm, .string ot, .int .i64 fr, .int .i64 tt, .slice da dn dc] 42)).alloc (.cells #[.string v.nm, .int .i64 v.id, .int .i64 v.sz, .int .i64 v.og, .int .i64 v.kd, .bool v.pt, .slice va v.mp.length vc] 38)) (.cells #[.string ⟨#[]⟩, .int .i64 0, .int .i64 0, .int .i64 0, .int .i64 0, .bool false, .slice none 0 0] 38)
  rw [World.size_alloc, World.size_alloc, World.size_alloc, ← hRe, ← hW1] at this
  exact this
 have HB1 := hid b1
 have HV := hid hV
 have HRb := hid hRb
 have HVb := hid hVb
 have HW1 := hid hW1
 have HPO := hid (And.intro hP.symm (And.intro hOe.symm (And.intro hVe.symm hRe.symm)))
 have HVR : Hid (w.heap.size ≤ V ∧ V + 1 = R) := hid (by omega)
 have HOc : Hid (∀ u, Below W1.heap.size W1 u → u.cell? ⟨O, 0, none⟩ = some (.int .i64 7) ∧ u.cell? ⟨O, 1, none⟩ = some (.string nm) ∧ u.cell? ⟨O, 2, none⟩ = some (.string ot) ∧ u.cell? ⟨O, 3, none⟩ = some (.int .i64 fr) ∧ u.cell? ⟨O, 4, none⟩ = some (.int .i64 tt)) := hid (fun u hu => by
  have := (hu.block O (Array.getElem?_eq_some_iff.1 hO).1).trans hO
  simp [World.cell?, this])
 obtain ⟨c0', c1, c2, c3, c4⟩ := HOc.out W1 (Below.refl _ _)
 obtain ⟨⟨x0, x1, x2, x3, x4, x5, x6⟩, xf⟩ := hVb.cs
 obtain ⟨⟨r0, r1, r2, r3, r4, r5, r6⟩, rf⟩ := hRb.cs
 obtain ⟨⟨p0, p1, p2, p3⟩, _⟩ := hV.cs
 rw [hW1] at c0' c1 c2 c3 c4
 obtain ⟨g, off, rfl, hgl, _, hc⟩ := hR.resolve_left (fun e => by rw [e] at hi; simp at hi)
 obtain ⟨ma, mc, hVC, hRm, hmn, hmx⟩ := hc i hi
 have hE : turP x ⟨7, nm, ot, fr, tt⟩ (i : Int) v = ⟨v.nm, v.id, x.vs[i].sz, v.og, v.kd, v.pt, x.vs[i].mp⟩ := by
  unfold turP
  rw [if_neg (by show ¬ ((7 : Int) = 5); decide), if_pos (show ((⟨7, nm, ot, fr, tt⟩ : OW)).k = 7 from rfl), volAt_eq hi]
  rfl
 have HFn := hid (fun u (hu : Below W1.heap.size W1 u) => by
  have := find_any x (some ⟨g, off, none⟩) c0 ot u hl ((hR.rdV.below (b1.trans (hu.mono b1.size))).mono (b1.trans (hu.mono b1.size)).size)
  rw [hpo] at this
  exact this)
 obtain ⟨s, hs⟩ : ∃ s, s = x.vs[i] := ⟨_, rfl⟩
 rw [← hs] at hE hVC hRm hmx
 have HS : Hid (∀ u, Below W1.heap.size W1 u → (fun y => (y.cell? ⟨P, 0, none⟩ = some (.int .i64 x.cp) ∧ y.cell? ⟨P, 1, none⟩ = some (.int .i64 x.fr) ∧ y.cell? ⟨P, 2, none⟩ = some (.int .i64 x.nx) ∧ y.cell? ⟨P, 3, none⟩ = some (.slice (some ⟨g, off, none⟩) x.vs.length c0)) ∧ y.cell? ⟨O, 2, none⟩ = some (.string ot) ∧ (y.cell? ⟨g, off + i * 7, none⟩ = some (.string s.nm) ∧ y.cell? ⟨g, off + i * 7 + 1, none⟩ = some (.int .i64 s.id) ∧ y.cell? ⟨g, off + i * 7 + 2, none⟩ = some (.int .i64 s.sz) ∧ y.cell? ⟨g, off + i * 7 + 3, none⟩ = some (.int .i64 s.og) ∧ y.cell? ⟨g, off + i * 7 + 4, none⟩ = some (.int .i64 s.kd) ∧ y.cell? ⟨g, off + i * 7 + 5, none⟩ = some (.bool s.pt) ∧ y.cell? ⟨g, off + i * 7 + 6, none⟩ = some (.slice ma s.mp.length mc))) u) := hid (fun u hu => ⟨(HV.out.keep (hu.block P HV.out.lt)).cs.1, (HOc.out u hu).2.2.1, hVC.below (b1.trans (hu.mono b1.size)) hgl⟩)
 have HE := hid hE
 have HRm := hid hRm
 have HMN := hid hmn
 have HMX := hid hmx
 have hi1 : (i : Int) < (x.vs.length : Int) := by omega
 clear hP hOe hVe hRe hW1 b1 hV hO hVb hRb hR hl hE hRm hmn hmx hs hVC hc hgl hpo hi x0 x1 x2 x3 x4 x5 x6 xf r0 r1 r2 r3 r4 r5 r6 rf p0 p1 p2 p3
 dsimp only [viewA, opA, volA] at *
 have mixed : Tryz.prog.follows Departure.mixedOrders = true := by kernel_rfl
 go_enter Tryz.func44, Tryz.ntmps44
 go_wp2_with fail
 rw [← HW1.out]
 try rw [HPO.out.2.2.2]
 try rw [HPO.out.2.2.1]
 try rw [HPO.out.2.1]
 try rw [HPO.out.1]
 refine wp_region_last (S := (fun y => (y.cell? ⟨P, 0, none⟩ = some (.int .i64 x.cp) ∧ y.cell? ⟨P, 1, none⟩ = some (.int .i64 x.fr) ∧ y.cell? ⟨P, 2, none⟩ = some (.int .i64 x.nx) ∧ y.cell? ⟨P, 3, none⟩ = some (.slice (some ⟨g, off, none⟩) x.vs.length c0)) ∧ y.cell? ⟨O, 2, none⟩ = some (.string ot) ∧ (y.cell? ⟨g, off + i * 7, none⟩ = some (.string s.nm) ∧ y.cell? ⟨g, off + i * 7 + 1, none⟩ = some (.int .i64 s.id) ∧ y.cell? ⟨g, off + i * 7 + 2, none⟩ = some (.int .i64 s.sz) ∧ y.cell? ⟨g, off + i * 7 + 3, none⟩ = some (.int .i64 s.og) ∧ y.cell? ⟨g, off + i * 7 + 4, none⟩ = some (.int .i64 s.kd) ∧ y.cell? ⟨g, off + i * 7 + 5, none⟩ = some (.bool s.pt) ∧ y.cell? ⟨g, off + i * 7 + 6, none⟩ = some (.slice ma s.mp.length mc)))) 9 9 (by kernel_rfl) (by kernel_rfl) (by kernel_rfl) ((HS.out _ (below_dr (Below.refl _ _)))) (fun hSS => ?_)
 refine Ti 0 rfl ?_
 refine Ti 1 rfl ?_
 refine Ti 2 rfl ?_
 refine Ti 3 rfl ?_
 try simp only [Act.put, zA, zB, zC]
 refine Ti 4 rfl ?_
 try simp only [Act.put, zA, zB, zC]
 refine Rr 5 8 rfl rfl (fun K9 hK9 => ?_) (fun K9 hK9 => ?_)
 ·go_simp
  go_at_call 42
  refine (HFn.out _ (below_dr (Below.refl _ _))).mono ?_
  rintro e w2 ⟨rfl, hb2⟩
  have hb2 : Below W1.heap.size W1 w2 := (below_dr (Below.refl _ _)).trans hb2
  obtain ⟨W3, hW3⟩ : ∃ W3, W3 = w2.alloc (.cells #[.string ⟨#[]⟩, .int .i64 0, .int .i64 0, .int .i64 0, .int .i64 0, .bool false, .slice none 0 0] 38) := ⟨_, rfl⟩
  have hb3 : Below W1.heap.size W1 W3 := hb2.trans (by rw [hW3]; exact (below1 _ _).mono hb2.size)
  have hX : VoB W3 w2.heap.size PV0 (.slice none 0 0) := by rw [hW3]; exact heap_new _ _
  obtain ⟨X, hXe⟩ : ∃ X, X = w2.heap.size := ⟨_, rfl⟩
  have hXl : W1.heap.size ≤ X := by rw [hXe]; exact hb2.size
  rw [← hXe] at hX
  have HXE := hid hXe
  have HW3 := hid hW3
  have HB3 := hid hb3
  have HX := hid hX
  have hS2 := HS.out _ hb2
  refine hK9.out _ _ hS2 (fun hSS => ?_)
  try simp only [Act.put, zA, zB, zC]
  clear hXe hb3 hb2 hW3 hS2 hX
  refine Ti 6 rfl ?_
  refine Ti 7 rfl ?_
  try simp only [Act.put, zA, zB, zC]
  refine Ri 8 rfl (fun K9 hK9 => ?_)
  go_simp
  rw [← HW3.out, ← HXE.out]
  refine hK9.out _ _ (HS.out _ HB3.out) (fun hSS => ?_)
  try simp only [Act.put, zA, zB, zC]
  obtain ⟨⟨g0, g1, g2, g3, g4, g5, g6⟩, z0⟩ := HX.out.cs
  refine Dn ?_
  refine last_step (L := 9) (o := ({ dst := none, op := Op.store 38 (Operand.tmp 7) (Operand.tmp 56), type := 0, pos := _, after := _, guard := none } : Oper)) rfl (fun K9 hK9 => ?_)
  go_simp
  refine hK9.out _ _ ?_
  try simp only [Act.put, zA, zB, zC]
  have hZ4 : But (fun q => q = X) W3 (put7 W3 X s (.slice ma s.mp.length mc)) := but_put7 _ _ _ _
  have hZX : VoB (put7 W3 X s (.slice ma s.mp.length mc)) X s (.slice ma s.mp.length mc) := HX.out.put7
  obtain ⟨Z, hZ⟩ : ∃ Z, Z = put7 W3 X s (.slice ma s.mp.length mc) := ⟨_, rfl⟩
  rw [← hZ] at hZ4 hZX
  have hbZ : Below W1.heap.size W1 Z := HB3.out.trans (hZ4.below HB3.out.size (fun q hq e => by omega))
  have hV3 : VoB Z V v (.slice va v.mp.length vc) := HVb.out.keep (hbZ.block _ HVb.out.lt)
  have hR3 : VoB Z R PV0 (.slice none 0 0) := HRb.out.keep (hbZ.block _ HRb.out.lt)
  unfold put7 at hZ
  rw [← hZ]
  clear hZ hSS g0 g1 g2 g3 g4 g5 g6 z0
  obtain ⟨W5, hW5⟩ : ∃ W5, W5 = (Z.setCell ⟨V, 2, none⟩ (.int .i64 s.sz)).setCell ⟨V, 6, none⟩ (.slice ma s.mp.length mc) := ⟨_, rfl⟩
  have e4 : But (fun q => q = V) Z W5 := by rw [hW5]; exact ((But.refl (fun q => q = V) Z).setCell (p := ⟨V, 2, none⟩) rfl _).setCell (p := ⟨V, 6, none⟩) rfl _
  have hbw : Below w.heap.size w Z := HB1.out.trans (hbZ.mono HB1.out.size)
  have hb5 : Below w.heap.size w W5 := hbw.trans (e4.below hbw.size (fun q hq e => by have := HVR.out.1; omega))
  have hR5 : VoB W5 R PV0 (.slice none 0 0) := hR3.keep (e4.block _ hR3.lt (by have := HVR.out.2; omega))
  have HFIN : Hid (∀ u, u = put7 W5 R ⟨v.nm, v.id, s.sz, v.og, v.kd, v.pt, s.mp⟩ (.slice ma s.mp.length mc) → VoB u R ⟨v.nm, v.id, s.sz, v.og, v.kd, v.pt, s.mp⟩ (.slice ma s.mp.length mc) ∧ VlQ X9 w (turP x ⟨7, nm, ot, fr, tt⟩ (i : Int) v) (.returned (.agg #[.string v.nm, .int .i64 v.id, .int .i64 s.sz, .int .i64 v.og, .int .i64 v.kd, .bool v.pt, .slice ma s.mp.length mc])) u) := hid (by
   rintro u rfl
   have hbt := but_put7 W5 R ⟨v.nm, v.id, s.sz, v.og, v.kd, v.pt, s.mp⟩ (.slice ma s.mp.length mc)
   have hBz := hb5.trans (hbt.below hb5.size (fun q hq e => by have := HVR.out; omega))
   rw [HE.out]
   exact ⟨hR5.put7, ma, mc, rfl, (HRm.out.below hBz).mono hBz.size, HMN.out, HMX.out, hBz⟩)
  obtain ⟨⟨y0, y1, y2, y3, y4, y5, y6⟩, _⟩ := hZX.cs
  obtain ⟨⟨x0, x1, x2, x3, x4, x5, x6⟩, xf⟩ := hV3.cs
  obtain ⟨⟨r0, r1, r2, r3, r4, r5, r6⟩, rf⟩ := hR3.cs
  have hVR : ¬ (V = R) := by have := HVR.out; omega
  have hRV : ¬ (R = V) := fun e => hVR e.symm
  have hVX : ¬ (V = X) := by have := HVb.out.lt; omega
  have hXV : ¬ (X = V) := fun e => hVX e.symm
  rw [hW5] at HFIN
  clear hV3 hR3 hW5 e4 hbw hb5 hR5 hZ4 hZX hbZ HX HB3
  go_wp2_with fail
  exact bodyPost_ret (results_row1 rfl _ _ R 38 _ (0, 0) _ rfl (HFIN.out _ rfl).1 Tryz.underlying38 rfl (by kernel_rfl)) rfl (HFIN.out _ rfl).2
 ·go_simp
  obtain ⟨W2, hW2⟩ : ∃ W2, W2 = (W1.alloc (.cells #[.string ⟨#[]⟩, .int .i64 0, .int .i64 0, .int .i64 0, .int .i64 0, .bool false, .slice none 0 0] 38)).drew := ⟨_, rfl⟩
  obtain ⟨X, hXe⟩ : ∃ X, X = W1.heap.size := ⟨_, rfl⟩
  have hXl : W1.heap.size ≤ X := by rw [hXe]; exact Nat.le_refl _
  have hb1 : Below W1.heap.size W1 W2 := by rw [hW2]; exact below_dr (below1 _ _)
  have hX0 : VoB W2 X PV0 (.slice none 0 0) := by rw [hW2, hXe]; exact heap_new _ _
  rw [← hW2]
  try rw [← hXe]
  have HXE := hid hXe
  have HW2 := hid hW2
  have HB1' := hid hb1
  have HX0 := hid hX0
  refine hK9.out _ _ (HS.out _ hb1) (fun hSS => ?_)
  try simp only [Act.put, zA, zB, zC]
  clear hXe hW2 hb1 hX0
  refine Ri 5 rfl (fun K9 hK9 => ?_)
  go_simp
  go_at_call 42
  refine (HFn.out _ HB1'.out).mono ?_
  rintro e W3 ⟨rfl, hb3'⟩
  have hX : VoB W3 X PV0 (.slice none 0 0) := HX0.out.keep (hb3'.block _ HX0.out.lt)
  have hb3 : Below W1.heap.size W1 W3 := HB1'.out.trans (hb3'.mono HB1'.out.size)
  have HB3 := hid hb3
  have HX := hid hX
  clear hb3' hb3 hX
  refine hK9.out _ _ (HS.out _ HB3.out) (fun hSS => ?_)
  try simp only [Act.put, zA, zB, zC]
  refine Ti 6 rfl ?_
  refine Ti 7 rfl ?_
  try simp only [Act.put, zA, zB, zC]
  obtain ⟨⟨g0, g1, g2, g3, g4, g5, g6⟩, z0⟩ := HX.out.cs
  refine Dn ?_
  refine last_step (L := 9) (o := ({ dst := none, op := Op.store 38 (Operand.tmp 7) (Operand.tmp 56), type := 0, pos := _, after := _, guard := none } : Oper)) rfl (fun K9 hK9 => ?_)
  go_simp
  refine hK9.out _ _ ?_
  try simp only [Act.put, zA, zB, zC]
  have hZ4 : But (fun q => q = X) W3 (put7 W3 X s (.slice ma s.mp.length mc)) := but_put7 _ _ _ _
  have hZX : VoB (put7 W3 X s (.slice ma s.mp.length mc)) X s (.slice ma s.mp.length mc) := HX.out.put7
  obtain ⟨Z, hZ⟩ : ∃ Z, Z = put7 W3 X s (.slice ma s.mp.length mc) := ⟨_, rfl⟩
  rw [← hZ] at hZ4 hZX
  have hbZ : Below W1.heap.size W1 Z := HB3.out.trans (hZ4.below HB3.out.size (fun q hq e => by omega))
  have hV3 : VoB Z V v (.slice va v.mp.length vc) := HVb.out.keep (hbZ.block _ HVb.out.lt)
  have hR3 : VoB Z R PV0 (.slice none 0 0) := HRb.out.keep (hbZ.block _ HRb.out.lt)
  unfold put7 at hZ
  rw [← hZ]
  clear hZ hSS g0 g1 g2 g3 g4 g5 g6 z0
  obtain ⟨W5, hW5⟩ : ∃ W5, W5 = (Z.setCell ⟨V, 2, none⟩ (.int .i64 s.sz)).setCell ⟨V, 6, none⟩ (.slice ma s.mp.length mc) := ⟨_, rfl⟩
  have e4 : But (fun q => q = V) Z W5 := by rw [hW5]; exact ((But.refl (fun q => q = V) Z).setCell (p := ⟨V, 2, none⟩) rfl _).setCell (p := ⟨V, 6, none⟩) rfl _
  have hbw : Below w.heap.size w Z := HB1.out.trans (hbZ.mono HB1.out.size)
  have hb5 : Below w.heap.size w W5 := hbw.trans (e4.below hbw.size (fun q hq e => by have := HVR.out.1; omega))
  have hR5 : VoB W5 R PV0 (.slice none 0 0) := hR3.keep (e4.block _ hR3.lt (by have := HVR.out.2; omega))
  have HFIN : Hid (∀ u, u = put7 W5 R ⟨v.nm, v.id, s.sz, v.og, v.kd, v.pt, s.mp⟩ (.slice ma s.mp.length mc) → VoB u R ⟨v.nm, v.id, s.sz, v.og, v.kd, v.pt, s.mp⟩ (.slice ma s.mp.length mc) ∧ VlQ X9 w (turP x ⟨7, nm, ot, fr, tt⟩ (i : Int) v) (.returned (.agg #[.string v.nm, .int .i64 v.id, .int .i64 s.sz, .int .i64 v.og, .int .i64 v.kd, .bool v.pt, .slice ma s.mp.length mc])) u) := hid (by
   rintro u rfl
   have hbt := but_put7 W5 R ⟨v.nm, v.id, s.sz, v.og, v.kd, v.pt, s.mp⟩ (.slice ma s.mp.length mc)
   have hBz := hb5.trans (hbt.below hb5.size (fun q hq e => by have := HVR.out; omega))
   rw [HE.out]
   exact ⟨hR5.put7, ma, mc, rfl, (HRm.out.below hBz).mono hBz.size, HMN.out, HMX.out, hBz⟩)
  obtain ⟨⟨y0, y1, y2, y3, y4, y5, y6⟩, _⟩ := hZX.cs
  obtain ⟨⟨x0, x1, x2, x3, x4, x5, x6⟩, xf⟩ := hV3.cs
  obtain ⟨⟨r0, r1, r2, r3, r4, r5, r6⟩, rf⟩ := hR3.cs
  have hVR : ¬ (V = R) := by have := HVR.out; omega
  have hRV : ¬ (R = V) := fun e => hVR e.symm
  have hVX : ¬ (V = X) := by have := HVb.out.lt; omega
  have hXV : ¬ (X = V) := fun e => hVX e.symm
  rw [hW5] at HFIN
  clear hV3 hR3 hW5 e4 hbw hb5 hR5 hZ4 hZX hbZ HX HB3
  go_wp2_with fail
  exact bodyPost_ret (results_row1 rfl _ _ R 38 _ (0, 0) _ rfl (HFIN.out _ rfl).1 Tryz.underlying38 rfl (by kernel_rfl)) rfl (HFIN.out _ rfl).2
set_option maxRecDepth 100000 in
set_option maxHeartbeats 8000000 in
theorem turned_8 (X9 : Nat → Prop) (x : VW) (a : Option Addr) (c0 : Nat) (nm ot : ByteArray) (fr tt : Int) (da : Option Addr) (dn dc : Nat) (v : PV) (va : Option Addr) (vc : Nat) (w : World) (hv : RdR w.heap.size w va v.mp) (_hvn : va = none → vc = 0) (hX : ∀ q, X9 q → q < w.heap.size) (po : Int) (hNF : NF (-1) v.mp v.sz) (hlen : v.mp.length ≤ 16777216) (f n : Nat) (hf : fr = (f : Int)) (hn : v.sz = (n : Int)) (hft : f < n) (hn2 : n ≤ 262144) :
  Calls Tryz.prog 44 #[viewA x a c0, opA ⟨8, nm, ot, fr, tt⟩ da dn dc, volA v va vc] w fun e w' => VlQ X9 w (turP x ⟨8, nm, ot, fr, tt⟩ po v) e w' := by
 obtain ⟨P, hP⟩ : ∃ P, P = w.heap.size := ⟨_, rfl⟩
 obtain ⟨O, hOe⟩ : ∃ O, O = w.heap.size + 1 := ⟨_, rfl⟩
 obtain ⟨V, hVe⟩ : ∃ V, V = w.heap.size + 1 + 1 := ⟨_, rfl⟩
 obtain ⟨R, hRe⟩ : ∃ R, R = w.heap.size + 1 + 1 + 1 := ⟨_, rfl⟩
 obtain ⟨W1, hW1⟩ : ∃ W1, W1 = (((w.alloc (.cells #[.int .i64 x.cp, .int .i64 x.fr, .int .i64 x.nx, .slice a x.vs.length c0] 24)).alloc (.cells #[.int .i64 8, .string nm, .string ot, .int .i64 fr, .int .i64 tt, .slice da dn dc] 42)).alloc (.cells #[.string v.nm, .int .i64 v.id, .int .i64 v.sz, .int .i64 v.og, .int .i64 v.kd, .bool v.pt, .slice va v.mp.length vc] 38)).alloc (.cells #[.string ⟨#[]⟩, .int .i64 0, .int .i64 0, .int .i64 0, .int .i64 0, .bool false, .slice none 0 0] 38) := ⟨_, rfl⟩
 have b1 : Below w.heap.size w W1 := by rw [hW1]; exact ((two_below _ _ _).trans ((below1 _ _).mono (by simp only [World.size_alloc]; omega))).trans ((below1 _ _).mono (by simp only [World.size_alloc]; omega))
 have hV : VwB W1 P x (.slice a x.vs.length c0) := by
  unfold VwB
  rw [hW1, hP, Below.heap_alloc _ _ _ (by simp only [World.size_alloc]; omega), Below.heap_alloc _ _ _ (by simp only [World.size_alloc]; omega), Below.heap_alloc _ _ _ (by simp)]
  exact heap_new _ _
 have hO : W1.heap[O]? = some (.cells #[.int .i64 8, .string nm, .string ot, .int .i64 fr, .int .i64 tt, .slice da dn dc] 42 (0, 0)) := by
  have := heap_new (w.alloc (.cells #[.int .i64 x.cp, .int .i64 x.fr, .int .i64 x.nx, .slice a x.vs.length c0] 24)) (.cells #[.int .i64 8, .string nm, .string ot, .int .i64 fr, .int .i64 tt, .slice da dn dc] 42)
  rw [World.size_alloc, ← hOe] at this
  rw [hW1, Below.heap_alloc _ _ _ (by simp only [World.size_alloc]; omega), Below.heap_alloc _ _ _ (by simp only [World.size_alloc]; omega)]
  exact this
 have hVb : VoB W1 V v (.slice va v.mp.length vc) := by
  have := heap_new ((w.alloc (.cells #[.int .i64 x.cp, .int .i64 x.fr, .int .i64 x.nx, .slice a x.vs.length c0] 24)).alloc (.cells #[.int .i64 8, .string nm, .string ot, .int .i64 fr, .int .i64 tt, .slice da dn dc] 42)) (.cells #[.string v.nm, .int .i64 v.id, .int .i64 v.sz, .int .i64 v.og, .int .i64 v.kd, .bool v.pt, .slice va v.mp.length vc] 38)
  rw [World.size_alloc, World.size_alloc, ← hVe] at this
  unfold VoB
  rw [hW1, Below.heap_alloc _ _ _ (by simp only [World.size_alloc]; omega)]
  exact this
 have hRb : VoB W1 R PV0 (.slice none 0 0) := by
  have := heap_new (((w.alloc (.cells #[.int .i64 x.cp, .int .i64 x.fr, .int .i64 x.nx, .slice a x.vs.length c0] 24)).alloc (.cells #[.int .i64 8, .string nm, .string ot, .int .i64 fr, .int .i64 tt, .slice da dn dc] 42)).alloc (.cells #[.string v.nm, .int .i64 v.id, .int .i64 v.sz, .int .i64 v.og, .int .i64 v.kd, .bool v.pt, .slice va v.mp.length vc] 38)) (.cells #[.string ⟨#[]⟩, .int .i64 0, .int .i64 0, .int .i64 0, .int .i64 0, .bool false, .slice none 0 0] 38)
  rw [World.size_alloc, World.size_alloc, World.size_alloc, ← hRe, ← hW1] at this
  exact this
 have HB1 := hid b1
 have HV := hid hV
 have HRb := hid hRb
 have HVb := hid hVb
 have HW1 := hid hW1
 have HPO := hid (And.intro hP.symm (And.intro hOe.symm (And.intro hVe.symm hRe.symm)))
 have HVR : Hid (w.heap.size ≤ V ∧ V + 1 = R) := hid (by omega)
 have HOc : Hid (∀ u, Below W1.heap.size W1 u → u.cell? ⟨O, 0, none⟩ = some (.int .i64 8) ∧ u.cell? ⟨O, 1, none⟩ = some (.string nm) ∧ u.cell? ⟨O, 2, none⟩ = some (.string ot) ∧ u.cell? ⟨O, 3, none⟩ = some (.int .i64 fr) ∧ u.cell? ⟨O, 4, none⟩ = some (.int .i64 tt)) := hid (fun u hu => by
  have := (hu.block O (Array.getElem?_eq_some_iff.1 hO).1).trans hO
  simp [World.cell?, this])
 obtain ⟨c0', c1, c2, c3, c4⟩ := HOc.out W1 (Below.refl _ _)
 obtain ⟨⟨x0, x1, x2, x3, x4, x5, x6⟩, xf⟩ := hVb.cs
 obtain ⟨⟨r0, r1, r2, r3, r4, r5, r6⟩, rf⟩ := hRb.cs
 obtain ⟨⟨p0, p1, p2, p3⟩, _⟩ := hV.cs
 rw [hW1] at c0' c1 c2 c3 c4
 obtain ⟨t, htt⟩ : ∃ t, t = f + 1 := ⟨_, rfl⟩
 have hto : (t : Int) = (if (8 : Int) = 8 then wrap64 (fr + 1) else tt) := by rw [if_pos rfl, hf, htt]; unfold wrap64; omega
 have hft : f ≤ t := by omega
 have htn : t ≤ n := by omega
 have HT := hid (told_any va vc n v.mp v.sz W1 hNF hlen hn2 (by omega) ((hv.below b1).mono b1.size))
 rw [← hn] at HT
 obtain ⟨F, hF⟩ : ∃ F, F = setF (tolF v.mp) (f : Int) (t : Int) true := ⟨_, rfl⟩
 obtain ⟨rs, hrs⟩ : ∃ rs, rs = redT F n := ⟨_, rfl⟩
 have HRd := hid (fun G u (h : BlB u G F n) => read_any G n F u hn2 h)
 have HE : Hid (turP x ⟨8, nm, ot, fr, tt⟩ po v = ⟨v.nm, v.id, v.sz, v.og, v.kd, v.pt, rs⟩) := hid (by
  unfold turP
  rw [if_neg (by show ¬ ((8 : Int) = 5); decide), if_neg (by show ¬ ((8 : Int) = 7); decide), if_neg (by show ¬ ((8 : Int) = 4); decide)]
  show setMp v (redT (setF (tolF v.mp) fr (if (8 : Int) = 8 then wrap64 (fr + 1) else tt) (decide ((8 : Int) ≠ 9))) v.sz.toNat) = _
  rw [← hto, hf, show decide ((8 : Int) ≠ 9) = true by decide, ← hF, show v.sz.toNat = n by omega, ← hrs]
  rfl)
 rw [← hrs] at HRd
 have HS0 : Hid (∀ u G, BlB u G (tolF v.mp) n → BlB u G (setF (tolF v.mp) (f : Int) (f : Int) true) n) := hid (fun u G h => h.congr (fun j _ => (setF_start _ _ _ j).symm))
 have HSt : Hid (∀ u G k, f ≤ k → BlB u G (setF (tolF v.mp) (f : Int) (k : Int) true) n → BlB (u.setCell ⟨G, k, none⟩ (.bool true)) G (setF (tolF v.mp) (f : Int) ((k + 1 : Nat) : Int) true) n) := hid (fun u G k hk h => (h.set k true).congr (fun j _ => setF_step _ f k true hk j))
 have HFe : Hid (∀ u G, BlB u G (setF (tolF v.mp) (f : Int) (t : Int) true) n → BlB u G F n) := hid (fun u G h => by rw [hF]; exact h)
 have HFF := hid hf
 have HN := hid hn
 have HNN := hid hn2
 have HTN := hid (And.intro hft htn)
 have HTO := hid htt
 have HXX := hid hX
 have hvz : v.sz = (n : Int) := hn
 rw [hW1, hVe] at x0 x1 x2 x3 x4 x5 x6 xf
 rw [hW1, hRe] at r0 r1 r2 r3 r4 r5 r6 rf
 rw [hOe] at c0' c1 c2 c3 c4
 rw [hW1, hP] at p0 p1 p2 p3
 clear hP hOe hVe hRe hW1 b1 hV hO hVb hRb hv hrs hNF hlen hn2 hf hn hft htn htt hto hF hvz hX
 dsimp only [viewA, opA, volA] at *
 go_enter Tryz.func44, Tryz.ntmps44
 go_wp2_with fail
 rw [← HW1.out]
 try rw [HPO.out.2.2.2]
 try rw [HPO.out.2.2.1]
 try rw [HPO.out.2.1]
 try rw [HPO.out.1]
 refine HT.out.mono ?_
 rintro e W2 ⟨G, rfl, hBl, hG, hb2⟩
 have HS2 := hid (HS0.out W2 G hBl)
 have HB2 := hid hb2
 have HG := hid hG
 clear hBl hb2 hG HT HS0 x0 x1 x2 x3 x4 x5 x6 xf r0 r1 r2 r3 r4 r5 r6 rf c0' c1 c2 c3 c4 p0 p1 p2 p3
 obtain ⟨c0', c1, c2, c3, c4⟩ := HOc.out W2 HB2.out
 go_wp2_with fail
 go_loopw [10] (fun kv wr => ∃ k : Nat, f ≤ k ∧ k ≤ t ∧ kv = .int .i64 (k : Int) ∧ BlB wr G (setF (tolF v.mp) (f : Int) (k : Int) true) n ∧ Below W1.heap.size W1 wr) (fun kv _ => t - (intOf kv).toNat)
 case atStart => exact ⟨f, Nat.le_refl _, HTN.out.1, by rw [HFF.out], HS2.out, HB2.out⟩
 case round =>
  obtain ⟨k, hk1, hk2, rfl, hBk, hbk⟩ := hrel
  have hn2 := HNN.out
  have hto := HTO.out
  clear c0' c1 c2 c3 c4
  obtain ⟨c0', c1, c2, c3, c4⟩ := HOc.out wr hbk
  by_cases hlt : k < t
  ·have hkn : k < n := by have := HTN.out; omega
   have l1 : (k : Int) < (t : Int) := by omega
   have l2 : (k : Int) < v.sz := by rw [HN.out]; omega
   have l3 : (k : Int) < (n : Int) := by omega
   have l4 : (k : Int) < wrap64 (fr + 1) := by rw [HFF.out]; unfold wrap64; omega
   have l5 : (k : Int) < IntKind.i64.wrap (fr + 1) := by rw [HFF.out, IntKind.wrap_i64]; omega
   have hfz := hBk.fz k
   have hck := hBk.cell hkn
   have HQ := hid (HSt.out wr G k hk1 hBk)
   have HQb : Hid (Below W1.heap.size W1 (wr.setCell ⟨G, k, none⟩ (.bool true))) := hid (hbk.setCell (p := ⟨G, k, none⟩) HG.out _)
   clear hBk hbk hto
   go_wp2_with fail
   go_roundw
   case rel => exact ⟨k + 1, by omega, by omega, by go_num, HQ.out, HQb.out⟩
   case measure => simp [intOf]; omega
  ·have ekt : k = t := by omega
   have l1 : ¬ (k : Int) < (t : Int) := by omega
   have l4 : ¬ (k : Int) < wrap64 (fr + 1) := by rw [HFF.out]; unfold wrap64; have := HTN.out; omega
   have l5 : ¬ (k : Int) < IntKind.i64.wrap (fr + 1) := by rw [HFF.out, IntKind.wrap_i64]; have := HTN.out; omega
   have HR2 := hid (HRd.out G wr (HFe.out wr G (by rw [ekt] at hBk; exact hBk)))
   have HBk := hid hbk
   clear hBk hbk hto ekt HRd
   go_wp2_with fail
   refine HR2.out.mono ?_
   rintro e W3 ⟨z, rfl, hz, hb3'⟩
   have hb3 : Below W1.heap.size W1 W3 := HBk.out.trans (hb3'.mono HBk.out.size)
   have hbS := HBk.out.size
   clear c0' c1 c2 c3 c4
   obtain ⟨za, zc, rfl, _, _⟩ := hz.rd
   have hV3 : VoB W3 V v (.slice va v.mp.length vc) := HVb.out.keep (hb3.block _ HVb.out.lt)
   have hR3 : VoB W3 R PV0 (.slice none 0 0) := HRb.out.keep (hb3.block _ HRb.out.lt)
   obtain ⟨c0', c1, c2, c3, c4⟩ := HOc.out W3 hb3
   obtain ⟨W5, hW5⟩ : ∃ W5, W5 = W3.setCell ⟨V, 6, none⟩ (.slice za rs.length zc) := ⟨_, rfl⟩
   have e4 : But (fun q => q = V) W3 W5 := by rw [hW5]; exact (But.refl (fun q => q = V) W3).setCell (p := ⟨V, 6, none⟩) rfl _
   have hbw : Below w.heap.size w W3 := HB1.out.trans (hb3.mono HB1.out.size)
   have hb5 : Below w.heap.size w W5 := hbw.trans (e4.below hbw.size (fun q hq e => by have := HVR.out.1; omega))
   have hR5 : VoB W5 R PV0 (.slice none 0 0) := hR3.keep (e4.block _ hR3.lt (by have := HVR.out.2; omega))
   have HFIN : Hid (∀ u, u = put7 W5 R ⟨v.nm, v.id, v.sz, v.og, v.kd, v.pt, rs⟩ (.slice za rs.length zc) → VoB u R ⟨v.nm, v.id, v.sz, v.og, v.kd, v.pt, rs⟩ (.slice za rs.length zc) ∧ VlQ X9 w (turP x ⟨8, nm, ot, fr, tt⟩ po v) (.returned (.agg #[.string v.nm, .int .i64 v.id, .int .i64 v.sz, .int .i64 v.og, .int .i64 v.kd, .bool v.pt, .slice za rs.length zc])) u) := hid (by
    rintro u rfl
    have hbt := but_put7 W5 R ⟨v.nm, v.id, v.sz, v.og, v.kd, v.pt, rs⟩ (.slice za rs.length zc)
    have hBz := hb5.trans (hbt.below hb5.size (fun q hq e => by have := HVR.out; omega))
    obtain ⟨a', c', e', h1, h2⟩ := OwR.rd (own_keep hz (fun q hq => by
     obtain ⟨q1, q2, _⟩ := own_blk hz hq
     have := HRb.out.lt
     have := HVR.out
     have := e4.size
     exact (hbt.block q (by omega) (by omega)).trans (e4.block q q2 (by omega))))
    simp only [Value.slice.injEq, true_and] at e'
    obtain ⟨rfl, rfl⟩ := e'
    rw [HE.out]
    refine ⟨hR5.put7, za, zc, rfl, h1, h2, ?_, hBz⟩
    rcases own_form hz with ⟨_, q⟩ | ⟨q1, _, e1, e2⟩
    ·exact .inl (List.eq_nil_of_length_eq_zero q)
    ·refine .inr fun ad had q => ?_
     have q2 := (own_blk hz e2).1
     have q3 := HXX.out _ q
     have q4 := HB1.out.size
     simp only [Value.slice.injEq] at e1
     rw [had] at e1
     have e3 := e1.1
     simp only [Option.some.injEq] at e3
     rw [e3] at q3
     dsimp only at q3
     omega)
   obtain ⟨⟨x0, x1, x2, x3, x4, x5, x6⟩, xf⟩ := hV3.cs
   obtain ⟨⟨r0, r1, r2, r3, r4, r5, r6⟩, rf⟩ := hR3.cs
   have hVR : ¬ (V = R) := by have := HVR.out; omega
   have hRV : ¬ (R = V) := fun e => hVR e.symm
   have hVO : ¬ (V = O) := by have := HPO.out; omega
   have hOV : ¬ (O = V) := fun e => hVO e.symm
   rw [hW5] at HFIN
   clear hV3 hR3 hW5 e4 hbw hb5 hR5
   clear hz hb3 hb3' hbS
   go_wp2_with fail
   exact bodyPost_ret (results_row1 rfl _ _ R 38 _ (0, 0) _ rfl (HFIN.out _ rfl).1 Tryz.underlying38 rfl (by kernel_rfl)) rfl (HFIN.out _ rfl).2
set_option maxRecDepth 100000 in
set_option maxHeartbeats 8000000 in
theorem turned_9 (X9 : Nat → Prop) (x : VW) (a : Option Addr) (c0 : Nat) (nm ot : ByteArray) (fr tt : Int) (da : Option Addr) (dn dc : Nat) (v : PV) (va : Option Addr) (vc : Nat) (w : World) (hv : RdR w.heap.size w va v.mp) (_hvn : va = none → vc = 0) (hX : ∀ q, X9 q → q < w.heap.size) (po : Int) (hNF : NF (-1) v.mp v.sz) (hlen : v.mp.length ≤ 16777216) (f t n : Nat) (hf : fr = (f : Int)) (htt : tt = (t : Int)) (hn : v.sz = (n : Int)) (hft : f ≤ t) (htn : t ≤ n) (hn2 : n ≤ 262144) :
  Calls Tryz.prog 44 #[viewA x a c0, opA ⟨9, nm, ot, fr, tt⟩ da dn dc, volA v va vc] w fun e w' => VlQ X9 w (turP x ⟨9, nm, ot, fr, tt⟩ po v) e w' := by
 obtain ⟨P, hP⟩ : ∃ P, P = w.heap.size := ⟨_, rfl⟩
 obtain ⟨O, hOe⟩ : ∃ O, O = w.heap.size + 1 := ⟨_, rfl⟩
 obtain ⟨V, hVe⟩ : ∃ V, V = w.heap.size + 1 + 1 := ⟨_, rfl⟩
 obtain ⟨R, hRe⟩ : ∃ R, R = w.heap.size + 1 + 1 + 1 := ⟨_, rfl⟩
 obtain ⟨W1, hW1⟩ : ∃ W1, W1 = (((w.alloc (.cells #[.int .i64 x.cp, .int .i64 x.fr, .int .i64 x.nx, .slice a x.vs.length c0] 24)).alloc (.cells #[.int .i64 9, .string nm, .string ot, .int .i64 fr, .int .i64 tt, .slice da dn dc] 42)).alloc (.cells #[.string v.nm, .int .i64 v.id, .int .i64 v.sz, .int .i64 v.og, .int .i64 v.kd, .bool v.pt, .slice va v.mp.length vc] 38)).alloc (.cells #[.string ⟨#[]⟩, .int .i64 0, .int .i64 0, .int .i64 0, .int .i64 0, .bool false, .slice none 0 0] 38) := ⟨_, rfl⟩
 have b1 : Below w.heap.size w W1 := by rw [hW1]; exact ((two_below _ _ _).trans ((below1 _ _).mono (by simp only [World.size_alloc]; omega))).trans ((below1 _ _).mono (by simp only [World.size_alloc]; omega))
 have hV : VwB W1 P x (.slice a x.vs.length c0) := by
  unfold VwB
  rw [hW1, hP, Below.heap_alloc _ _ _ (by simp only [World.size_alloc]; omega), Below.heap_alloc _ _ _ (by simp only [World.size_alloc]; omega), Below.heap_alloc _ _ _ (by simp)]
  exact heap_new _ _
 have hO : W1.heap[O]? = some (.cells #[.int .i64 9, .string nm, .string ot, .int .i64 fr, .int .i64 tt, .slice da dn dc] 42 (0, 0)) := by
  have := heap_new (w.alloc (.cells #[.int .i64 x.cp, .int .i64 x.fr, .int .i64 x.nx, .slice a x.vs.length c0] 24)) (.cells #[.int .i64 9, .string nm, .string ot, .int .i64 fr, .int .i64 tt, .slice da dn dc] 42)
  rw [World.size_alloc, ← hOe] at this
  rw [hW1, Below.heap_alloc _ _ _ (by simp only [World.size_alloc]; omega), Below.heap_alloc _ _ _ (by simp only [World.size_alloc]; omega)]
  exact this
 have hVb : VoB W1 V v (.slice va v.mp.length vc) := by
  have := heap_new ((w.alloc (.cells #[.int .i64 x.cp, .int .i64 x.fr, .int .i64 x.nx, .slice a x.vs.length c0] 24)).alloc (.cells #[.int .i64 9, .string nm, .string ot, .int .i64 fr, .int .i64 tt, .slice da dn dc] 42)) (.cells #[.string v.nm, .int .i64 v.id, .int .i64 v.sz, .int .i64 v.og, .int .i64 v.kd, .bool v.pt, .slice va v.mp.length vc] 38)
  rw [World.size_alloc, World.size_alloc, ← hVe] at this
  unfold VoB
  rw [hW1, Below.heap_alloc _ _ _ (by simp only [World.size_alloc]; omega)]
  exact this
 have hRb : VoB W1 R PV0 (.slice none 0 0) := by
  have := heap_new (((w.alloc (.cells #[.int .i64 x.cp, .int .i64 x.fr, .int .i64 x.nx, .slice a x.vs.length c0] 24)).alloc (.cells #[.int .i64 9, .string nm, .string ot, .int .i64 fr, .int .i64 tt, .slice da dn dc] 42)).alloc (.cells #[.string v.nm, .int .i64 v.id, .int .i64 v.sz, .int .i64 v.og, .int .i64 v.kd, .bool v.pt, .slice va v.mp.length vc] 38)) (.cells #[.string ⟨#[]⟩, .int .i64 0, .int .i64 0, .int .i64 0, .int .i64 0, .bool false, .slice none 0 0] 38)
  rw [World.size_alloc, World.size_alloc, World.size_alloc, ← hRe, ← hW1] at this
  exact this
 have HB1 := hid b1
 have HV := hid hV
 have HRb := hid hRb
 have HVb := hid hVb
 have HW1 := hid hW1
 have HPO := hid (And.intro hP.symm (And.intro hOe.symm (And.intro hVe.symm hRe.symm)))
 have HVR : Hid (w.heap.size ≤ V ∧ V + 1 = R) := hid (by omega)
 have HOc : Hid (∀ u, Below W1.heap.size W1 u → u.cell? ⟨O, 0, none⟩ = some (.int .i64 9) ∧ u.cell? ⟨O, 1, none⟩ = some (.string nm) ∧ u.cell? ⟨O, 2, none⟩ = some (.string ot) ∧ u.cell? ⟨O, 3, none⟩ = some (.int .i64 fr) ∧ u.cell? ⟨O, 4, none⟩ = some (.int .i64 tt)) := hid (fun u hu => by
  have := (hu.block O (Array.getElem?_eq_some_iff.1 hO).1).trans hO
  simp [World.cell?, this])
 obtain ⟨c0', c1, c2, c3, c4⟩ := HOc.out W1 (Below.refl _ _)
 obtain ⟨⟨x0, x1, x2, x3, x4, x5, x6⟩, xf⟩ := hVb.cs
 obtain ⟨⟨r0, r1, r2, r3, r4, r5, r6⟩, rf⟩ := hRb.cs
 obtain ⟨⟨p0, p1, p2, p3⟩, _⟩ := hV.cs
 rw [hW1] at c0' c1 c2 c3 c4
 have hto : (t : Int) = (if (9 : Int) = 8 then wrap64 (fr + 1) else tt) := by rw [if_neg (by decide), htt]
 have HT := hid (told_any va vc n v.mp v.sz W1 hNF hlen hn2 (by omega) ((hv.below b1).mono b1.size))
 rw [← hn] at HT
 obtain ⟨F, hF⟩ : ∃ F, F = setF (tolF v.mp) (f : Int) (t : Int) false := ⟨_, rfl⟩
 obtain ⟨rs, hrs⟩ : ∃ rs, rs = redT F n := ⟨_, rfl⟩
 have HRd := hid (fun G u (h : BlB u G F n) => read_any G n F u hn2 h)
 have HE : Hid (turP x ⟨9, nm, ot, fr, tt⟩ po v = ⟨v.nm, v.id, v.sz, v.og, v.kd, v.pt, rs⟩) := hid (by
  unfold turP
  rw [if_neg (by show ¬ ((9 : Int) = 5); decide), if_neg (by show ¬ ((9 : Int) = 7); decide), if_neg (by show ¬ ((9 : Int) = 4); decide)]
  show setMp v (redT (setF (tolF v.mp) fr (if (9 : Int) = 8 then wrap64 (fr + 1) else tt) (decide ((9 : Int) ≠ 9))) v.sz.toNat) = _
  rw [← hto, hf, show decide ((9 : Int) ≠ 9) = false by decide, ← hF, show v.sz.toNat = n by omega, ← hrs]
  rfl)
 rw [← hrs] at HRd
 have HS0 : Hid (∀ u G, BlB u G (tolF v.mp) n → BlB u G (setF (tolF v.mp) (f : Int) (f : Int) false) n) := hid (fun u G h => h.congr (fun j _ => (setF_start _ _ _ j).symm))
 have HSt : Hid (∀ u G k, f ≤ k → BlB u G (setF (tolF v.mp) (f : Int) (k : Int) false) n → BlB (u.setCell ⟨G, k, none⟩ (.bool false)) G (setF (tolF v.mp) (f : Int) ((k + 1 : Nat) : Int) false) n) := hid (fun u G k hk h => (h.set k false).congr (fun j _ => setF_step _ f k false hk j))
 have HFe : Hid (∀ u G, BlB u G (setF (tolF v.mp) (f : Int) (t : Int) false) n → BlB u G F n) := hid (fun u G h => by rw [hF]; exact h)
 have HFF := hid hf
 have HN := hid hn
 have HNN := hid hn2
 have HTN := hid (And.intro hft htn)
 have HTO := hid htt
 have HXX := hid hX
 have hvz : v.sz = (n : Int) := hn
 rw [hW1, hVe] at x0 x1 x2 x3 x4 x5 x6 xf
 rw [hW1, hRe] at r0 r1 r2 r3 r4 r5 r6 rf
 rw [hOe] at c0' c1 c2 c3 c4
 rw [hW1, hP] at p0 p1 p2 p3
 clear hP hOe hVe hRe hW1 b1 hV hO hVb hRb hv hrs hNF hlen hn2 hf hn hft htn htt hto hF hvz hX
 dsimp only [viewA, opA, volA] at *
 go_enter Tryz.func44, Tryz.ntmps44
 go_wp2_with fail
 rw [← HW1.out]
 try rw [HPO.out.2.2.2]
 try rw [HPO.out.2.2.1]
 try rw [HPO.out.2.1]
 try rw [HPO.out.1]
 refine HT.out.mono ?_
 rintro e W2 ⟨G, rfl, hBl, hG, hb2⟩
 have HS2 := hid (HS0.out W2 G hBl)
 have HB2 := hid hb2
 have HG := hid hG
 clear hBl hb2 hG HT HS0 x0 x1 x2 x3 x4 x5 x6 xf r0 r1 r2 r3 r4 r5 r6 rf c0' c1 c2 c3 c4 p0 p1 p2 p3
 obtain ⟨c0', c1, c2, c3, c4⟩ := HOc.out W2 HB2.out
 go_wp2_with fail
 go_loopw [10] (fun kv wr => ∃ k : Nat, f ≤ k ∧ k ≤ t ∧ kv = .int .i64 (k : Int) ∧ BlB wr G (setF (tolF v.mp) (f : Int) (k : Int) false) n ∧ Below W1.heap.size W1 wr) (fun kv _ => t - (intOf kv).toNat)
 case atStart => exact ⟨f, Nat.le_refl _, HTN.out.1, by rw [HFF.out], HS2.out, HB2.out⟩
 case round =>
  obtain ⟨k, hk1, hk2, rfl, hBk, hbk⟩ := hrel
  have hn2 := HNN.out
  have hto := HTO.out
  clear c0' c1 c2 c3 c4
  obtain ⟨c0', c1, c2, c3, c4⟩ := HOc.out wr hbk
  by_cases hlt : k < t
  ·have hkn : k < n := by have := HTN.out; omega
   have l1 : (k : Int) < (t : Int) := by omega
   have l2 : (k : Int) < v.sz := by rw [HN.out]; omega
   have l3 : (k : Int) < (n : Int) := by omega
   have l4 : (k : Int) < tt := by omega
   have hfz := hBk.fz k
   have hck := hBk.cell hkn
   have HQ := hid (HSt.out wr G k hk1 hBk)
   have HQb : Hid (Below W1.heap.size W1 (wr.setCell ⟨G, k, none⟩ (.bool false))) := hid (hbk.setCell (p := ⟨G, k, none⟩) HG.out _)
   clear hBk hbk hto
   go_wp2_with fail
   go_roundw
   case rel => exact ⟨k + 1, by omega, by omega, by go_num, HQ.out, HQb.out⟩
   case measure => simp [intOf]; omega
  ·have ekt : k = t := by omega
   have l1 : ¬ (k : Int) < (t : Int) := by omega
   have l4 : ¬ (k : Int) < tt := by omega
   have HR2 := hid (HRd.out G wr (HFe.out wr G (by rw [ekt] at hBk; exact hBk)))
   have HBk := hid hbk
   clear hBk hbk hto ekt HRd
   go_wp2_with fail
   refine HR2.out.mono ?_
   rintro e W3 ⟨z, rfl, hz, hb3'⟩
   have hb3 : Below W1.heap.size W1 W3 := HBk.out.trans (hb3'.mono HBk.out.size)
   have hbS := HBk.out.size
   clear c0' c1 c2 c3 c4
   obtain ⟨za, zc, rfl, _, _⟩ := hz.rd
   have hV3 : VoB W3 V v (.slice va v.mp.length vc) := HVb.out.keep (hb3.block _ HVb.out.lt)
   have hR3 : VoB W3 R PV0 (.slice none 0 0) := HRb.out.keep (hb3.block _ HRb.out.lt)
   obtain ⟨c0', c1, c2, c3, c4⟩ := HOc.out W3 hb3
   obtain ⟨W5, hW5⟩ : ∃ W5, W5 = W3.setCell ⟨V, 6, none⟩ (.slice za rs.length zc) := ⟨_, rfl⟩
   have e4 : But (fun q => q = V) W3 W5 := by rw [hW5]; exact (But.refl (fun q => q = V) W3).setCell (p := ⟨V, 6, none⟩) rfl _
   have hbw : Below w.heap.size w W3 := HB1.out.trans (hb3.mono HB1.out.size)
   have hb5 : Below w.heap.size w W5 := hbw.trans (e4.below hbw.size (fun q hq e => by have := HVR.out.1; omega))
   have hR5 : VoB W5 R PV0 (.slice none 0 0) := hR3.keep (e4.block _ hR3.lt (by have := HVR.out.2; omega))
   have HFIN : Hid (∀ u, u = put7 W5 R ⟨v.nm, v.id, v.sz, v.og, v.kd, v.pt, rs⟩ (.slice za rs.length zc) → VoB u R ⟨v.nm, v.id, v.sz, v.og, v.kd, v.pt, rs⟩ (.slice za rs.length zc) ∧ VlQ X9 w (turP x ⟨9, nm, ot, fr, tt⟩ po v) (.returned (.agg #[.string v.nm, .int .i64 v.id, .int .i64 v.sz, .int .i64 v.og, .int .i64 v.kd, .bool v.pt, .slice za rs.length zc])) u) := hid (by
    rintro u rfl
    have hbt := but_put7 W5 R ⟨v.nm, v.id, v.sz, v.og, v.kd, v.pt, rs⟩ (.slice za rs.length zc)
    have hBz := hb5.trans (hbt.below hb5.size (fun q hq e => by have := HVR.out; omega))
    obtain ⟨a', c', e', h1, h2⟩ := OwR.rd (own_keep hz (fun q hq => by
     obtain ⟨q1, q2, _⟩ := own_blk hz hq
     have := HRb.out.lt
     have := HVR.out
     have := e4.size
     exact (hbt.block q (by omega) (by omega)).trans (e4.block q q2 (by omega))))
    simp only [Value.slice.injEq, true_and] at e'
    obtain ⟨rfl, rfl⟩ := e'
    rw [HE.out]
    refine ⟨hR5.put7, za, zc, rfl, h1, h2, ?_, hBz⟩
    rcases own_form hz with ⟨_, q⟩ | ⟨q1, _, e1, e2⟩
    ·exact .inl (List.eq_nil_of_length_eq_zero q)
    ·refine .inr fun ad had q => ?_
     have q2 := (own_blk hz e2).1
     have q3 := HXX.out _ q
     have q4 := HB1.out.size
     simp only [Value.slice.injEq] at e1
     rw [had] at e1
     have e3 := e1.1
     simp only [Option.some.injEq] at e3
     rw [e3] at q3
     dsimp only at q3
     omega)
   obtain ⟨⟨x0, x1, x2, x3, x4, x5, x6⟩, xf⟩ := hV3.cs
   obtain ⟨⟨r0, r1, r2, r3, r4, r5, r6⟩, rf⟩ := hR3.cs
   have hVR : ¬ (V = R) := by have := HVR.out; omega
   have hRV : ¬ (R = V) := fun e => hVR e.symm
   have hVO : ¬ (V = O) := by have := HPO.out; omega
   have hOV : ¬ (O = V) := fun e => hVO e.symm
   rw [hW5] at HFIN
   clear hV3 hR3 hW5 e4 hbw hb5 hR5
   clear hz hb3 hb3' hbS
   go_wp2_with fail
   exact bodyPost_ret (results_row1 rfl _ _ R 38 _ (0, 0) _ rfl (HFIN.out _ rfl).1 Tryz.underlying38 rfl (by kernel_rfl)) rfl (HFIN.out _ rfl).2
set_option maxRecDepth 100000 in
set_option maxHeartbeats 8000000 in
theorem turned_10 (X9 : Nat → Prop) (x : VW) (a : Option Addr) (c0 : Nat) (nm ot : ByteArray) (fr tt : Int) (da : Option Addr) (dn dc : Nat) (v : PV) (va : Option Addr) (vc : Nat) (w : World) (hv : RdR w.heap.size w va v.mp) (_hvn : va = none → vc = 0) (hX : ∀ q, X9 q → q < w.heap.size) (po : Int) (hNF : NF (-1) v.mp v.sz) (hlen : v.mp.length ≤ 16777216) (f t n : Nat) (hf : fr = (f : Int)) (htt : tt = (t : Int)) (hn : v.sz = (n : Int)) (hft : f ≤ t) (htn : t ≤ n) (hn2 : n ≤ 262144) :
  Calls Tryz.prog 44 #[viewA x a c0, opA ⟨10, nm, ot, fr, tt⟩ da dn dc, volA v va vc] w fun e w' => VlQ X9 w (turP x ⟨10, nm, ot, fr, tt⟩ po v) e w' := by
 obtain ⟨P, hP⟩ : ∃ P, P = w.heap.size := ⟨_, rfl⟩
 obtain ⟨O, hOe⟩ : ∃ O, O = w.heap.size + 1 := ⟨_, rfl⟩
 obtain ⟨V, hVe⟩ : ∃ V, V = w.heap.size + 1 + 1 := ⟨_, rfl⟩
 obtain ⟨R, hRe⟩ : ∃ R, R = w.heap.size + 1 + 1 + 1 := ⟨_, rfl⟩
 obtain ⟨W1, hW1⟩ : ∃ W1, W1 = (((w.alloc (.cells #[.int .i64 x.cp, .int .i64 x.fr, .int .i64 x.nx, .slice a x.vs.length c0] 24)).alloc (.cells #[.int .i64 10, .string nm, .string ot, .int .i64 fr, .int .i64 tt, .slice da dn dc] 42)).alloc (.cells #[.string v.nm, .int .i64 v.id, .int .i64 v.sz, .int .i64 v.og, .int .i64 v.kd, .bool v.pt, .slice va v.mp.length vc] 38)).alloc (.cells #[.string ⟨#[]⟩, .int .i64 0, .int .i64 0, .int .i64 0, .int .i64 0, .bool false, .slice none 0 0] 38) := ⟨_, rfl⟩
 have b1 : Below w.heap.size w W1 := by rw [hW1]; exact ((two_below _ _ _).trans ((below1 _ _).mono (by simp only [World.size_alloc]; omega))).trans ((below1 _ _).mono (by simp only [World.size_alloc]; omega))
 have hV : VwB W1 P x (.slice a x.vs.length c0) := by
  unfold VwB
  rw [hW1, hP, Below.heap_alloc _ _ _ (by simp only [World.size_alloc]; omega), Below.heap_alloc _ _ _ (by simp only [World.size_alloc]; omega), Below.heap_alloc _ _ _ (by simp)]
  exact heap_new _ _
 have hO : W1.heap[O]? = some (.cells #[.int .i64 10, .string nm, .string ot, .int .i64 fr, .int .i64 tt, .slice da dn dc] 42 (0, 0)) := by
  have := heap_new (w.alloc (.cells #[.int .i64 x.cp, .int .i64 x.fr, .int .i64 x.nx, .slice a x.vs.length c0] 24)) (.cells #[.int .i64 10, .string nm, .string ot, .int .i64 fr, .int .i64 tt, .slice da dn dc] 42)
  rw [World.size_alloc, ← hOe] at this
  rw [hW1, Below.heap_alloc _ _ _ (by simp only [World.size_alloc]; omega), Below.heap_alloc _ _ _ (by simp only [World.size_alloc]; omega)]
  exact this
 have hVb : VoB W1 V v (.slice va v.mp.length vc) := by
  have := heap_new ((w.alloc (.cells #[.int .i64 x.cp, .int .i64 x.fr, .int .i64 x.nx, .slice a x.vs.length c0] 24)).alloc (.cells #[.int .i64 10, .string nm, .string ot, .int .i64 fr, .int .i64 tt, .slice da dn dc] 42)) (.cells #[.string v.nm, .int .i64 v.id, .int .i64 v.sz, .int .i64 v.og, .int .i64 v.kd, .bool v.pt, .slice va v.mp.length vc] 38)
  rw [World.size_alloc, World.size_alloc, ← hVe] at this
  unfold VoB
  rw [hW1, Below.heap_alloc _ _ _ (by simp only [World.size_alloc]; omega)]
  exact this
 have hRb : VoB W1 R PV0 (.slice none 0 0) := by
  have := heap_new (((w.alloc (.cells #[.int .i64 x.cp, .int .i64 x.fr, .int .i64 x.nx, .slice a x.vs.length c0] 24)).alloc (.cells #[.int .i64 10, .string nm, .string ot, .int .i64 fr, .int .i64 tt, .slice da dn dc] 42)).alloc (.cells #[.string v.nm, .int .i64 v.id, .int .i64 v.sz, .int .i64 v.og, .int .i64 v.kd, .bool v.pt, .slice va v.mp.length vc] 38)) (.cells #[.string ⟨#[]⟩, .int .i64 0, .int .i64 0, .int .i64 0, .int .i64 0, .bool false, .slice none 0 0] 38)
  rw [World.size_alloc, World.size_alloc, World.size_alloc, ← hRe, ← hW1] at this
  exact this
 have HB1 := hid b1
 have HV := hid hV
 have HRb := hid hRb
 have HVb := hid hVb
 have HW1 := hid hW1
 have HPO := hid (And.intro hP.symm (And.intro hOe.symm (And.intro hVe.symm hRe.symm)))
 have HVR : Hid (w.heap.size ≤ V ∧ V + 1 = R) := hid (by omega)
 have HOc : Hid (∀ u, Below W1.heap.size W1 u → u.cell? ⟨O, 0, none⟩ = some (.int .i64 10) ∧ u.cell? ⟨O, 1, none⟩ = some (.string nm) ∧ u.cell? ⟨O, 2, none⟩ = some (.string ot) ∧ u.cell? ⟨O, 3, none⟩ = some (.int .i64 fr) ∧ u.cell? ⟨O, 4, none⟩ = some (.int .i64 tt)) := hid (fun u hu => by
  have := (hu.block O (Array.getElem?_eq_some_iff.1 hO).1).trans hO
  simp [World.cell?, this])
 obtain ⟨c0', c1, c2, c3, c4⟩ := HOc.out W1 (Below.refl _ _)
 obtain ⟨⟨x0, x1, x2, x3, x4, x5, x6⟩, xf⟩ := hVb.cs
 obtain ⟨⟨r0, r1, r2, r3, r4, r5, r6⟩, rf⟩ := hRb.cs
 obtain ⟨⟨p0, p1, p2, p3⟩, _⟩ := hV.cs
 rw [hW1] at c0' c1 c2 c3 c4
 have hto : (t : Int) = (if (10 : Int) = 8 then wrap64 (fr + 1) else tt) := by rw [if_neg (by decide), htt]
 have HT := hid (told_any va vc n v.mp v.sz W1 hNF hlen hn2 (by omega) ((hv.below b1).mono b1.size))
 rw [← hn] at HT
 obtain ⟨F, hF⟩ : ∃ F, F = setF (tolF v.mp) (f : Int) (t : Int) true := ⟨_, rfl⟩
 obtain ⟨rs, hrs⟩ : ∃ rs, rs = redT F n := ⟨_, rfl⟩
 have HRd := hid (fun G u (h : BlB u G F n) => read_any G n F u hn2 h)
 have HE : Hid (turP x ⟨10, nm, ot, fr, tt⟩ po v = ⟨v.nm, v.id, v.sz, v.og, v.kd, v.pt, rs⟩) := hid (by
  unfold turP
  rw [if_neg (by show ¬ ((10 : Int) = 5); decide), if_neg (by show ¬ ((10 : Int) = 7); decide), if_neg (by show ¬ ((10 : Int) = 4); decide)]
  show setMp v (redT (setF (tolF v.mp) fr (if (10 : Int) = 8 then wrap64 (fr + 1) else tt) (decide ((10 : Int) ≠ 9))) v.sz.toNat) = _
  rw [← hto, hf, show decide ((10 : Int) ≠ 9) = true by decide, ← hF, show v.sz.toNat = n by omega, ← hrs]
  rfl)
 rw [← hrs] at HRd
 have HS0 : Hid (∀ u G, BlB u G (tolF v.mp) n → BlB u G (setF (tolF v.mp) (f : Int) (f : Int) true) n) := hid (fun u G h => h.congr (fun j _ => (setF_start _ _ _ j).symm))
 have HSt : Hid (∀ u G k, f ≤ k → BlB u G (setF (tolF v.mp) (f : Int) (k : Int) true) n → BlB (u.setCell ⟨G, k, none⟩ (.bool true)) G (setF (tolF v.mp) (f : Int) ((k + 1 : Nat) : Int) true) n) := hid (fun u G k hk h => (h.set k true).congr (fun j _ => setF_step _ f k true hk j))
 have HFe : Hid (∀ u G, BlB u G (setF (tolF v.mp) (f : Int) (t : Int) true) n → BlB u G F n) := hid (fun u G h => by rw [hF]; exact h)
 have HFF := hid hf
 have HN := hid hn
 have HNN := hid hn2
 have HTN := hid (And.intro hft htn)
 have HTO := hid htt
 have HXX := hid hX
 have hvz : v.sz = (n : Int) := hn
 rw [hW1, hVe] at x0 x1 x2 x3 x4 x5 x6 xf
 rw [hW1, hRe] at r0 r1 r2 r3 r4 r5 r6 rf
 rw [hOe] at c0' c1 c2 c3 c4
 rw [hW1, hP] at p0 p1 p2 p3
 clear hP hOe hVe hRe hW1 b1 hV hO hVb hRb hv hrs hNF hlen hn2 hf hn hft htn htt hto hF hvz hX
 dsimp only [viewA, opA, volA] at *
 go_enter Tryz.func44, Tryz.ntmps44
 go_wp2_with fail
 rw [← HW1.out]
 try rw [HPO.out.2.2.2]
 try rw [HPO.out.2.2.1]
 try rw [HPO.out.2.1]
 try rw [HPO.out.1]
 refine HT.out.mono ?_
 rintro e W2 ⟨G, rfl, hBl, hG, hb2⟩
 have HS2 := hid (HS0.out W2 G hBl)
 have HB2 := hid hb2
 have HG := hid hG
 clear hBl hb2 hG HT HS0 x0 x1 x2 x3 x4 x5 x6 xf r0 r1 r2 r3 r4 r5 r6 rf c0' c1 c2 c3 c4 p0 p1 p2 p3
 obtain ⟨c0', c1, c2, c3, c4⟩ := HOc.out W2 HB2.out
 go_wp2_with fail
 go_loopw [10] (fun kv wr => ∃ k : Nat, f ≤ k ∧ k ≤ t ∧ kv = .int .i64 (k : Int) ∧ BlB wr G (setF (tolF v.mp) (f : Int) (k : Int) true) n ∧ Below W1.heap.size W1 wr) (fun kv _ => t - (intOf kv).toNat)
 case atStart => exact ⟨f, Nat.le_refl _, HTN.out.1, by rw [HFF.out], HS2.out, HB2.out⟩
 case round =>
  obtain ⟨k, hk1, hk2, rfl, hBk, hbk⟩ := hrel
  have hn2 := HNN.out
  have hto := HTO.out
  clear c0' c1 c2 c3 c4
  obtain ⟨c0', c1, c2, c3, c4⟩ := HOc.out wr hbk
  by_cases hlt : k < t
  ·have hkn : k < n := by have := HTN.out; omega
   have l1 : (k : Int) < (t : Int) := by omega
   have l2 : (k : Int) < v.sz := by rw [HN.out]; omega
   have l3 : (k : Int) < (n : Int) := by omega
   have l4 : (k : Int) < tt := by omega
   have hfz := hBk.fz k
   have hck := hBk.cell hkn
   have HQ := hid (HSt.out wr G k hk1 hBk)
   have HQb : Hid (Below W1.heap.size W1 (wr.setCell ⟨G, k, none⟩ (.bool true))) := hid (hbk.setCell (p := ⟨G, k, none⟩) HG.out _)
   clear hBk hbk hto
   go_wp2_with fail
   go_roundw
   case rel => exact ⟨k + 1, by omega, by omega, by go_num, HQ.out, HQb.out⟩
   case measure => simp [intOf]; omega
  ·have ekt : k = t := by omega
   have l1 : ¬ (k : Int) < (t : Int) := by omega
   have l4 : ¬ (k : Int) < tt := by omega
   have HR2 := hid (HRd.out G wr (HFe.out wr G (by rw [ekt] at hBk; exact hBk)))
   have HBk := hid hbk
   clear hBk hbk hto ekt HRd
   go_wp2_with fail
   refine HR2.out.mono ?_
   rintro e W3 ⟨z, rfl, hz, hb3'⟩
   have hb3 : Below W1.heap.size W1 W3 := HBk.out.trans (hb3'.mono HBk.out.size)
   have hbS := HBk.out.size
   clear c0' c1 c2 c3 c4
   obtain ⟨za, zc, rfl, _, _⟩ := hz.rd
   have hV3 : VoB W3 V v (.slice va v.mp.length vc) := HVb.out.keep (hb3.block _ HVb.out.lt)
   have hR3 : VoB W3 R PV0 (.slice none 0 0) := HRb.out.keep (hb3.block _ HRb.out.lt)
   obtain ⟨c0', c1, c2, c3, c4⟩ := HOc.out W3 hb3
   obtain ⟨W5, hW5⟩ : ∃ W5, W5 = W3.setCell ⟨V, 6, none⟩ (.slice za rs.length zc) := ⟨_, rfl⟩
   have e4 : But (fun q => q = V) W3 W5 := by rw [hW5]; exact (But.refl (fun q => q = V) W3).setCell (p := ⟨V, 6, none⟩) rfl _
   have hbw : Below w.heap.size w W3 := HB1.out.trans (hb3.mono HB1.out.size)
   have hb5 : Below w.heap.size w W5 := hbw.trans (e4.below hbw.size (fun q hq e => by have := HVR.out.1; omega))
   have hR5 : VoB W5 R PV0 (.slice none 0 0) := hR3.keep (e4.block _ hR3.lt (by have := HVR.out.2; omega))
   have HFIN : Hid (∀ u, u = put7 W5 R ⟨v.nm, v.id, v.sz, v.og, v.kd, v.pt, rs⟩ (.slice za rs.length zc) → VoB u R ⟨v.nm, v.id, v.sz, v.og, v.kd, v.pt, rs⟩ (.slice za rs.length zc) ∧ VlQ X9 w (turP x ⟨10, nm, ot, fr, tt⟩ po v) (.returned (.agg #[.string v.nm, .int .i64 v.id, .int .i64 v.sz, .int .i64 v.og, .int .i64 v.kd, .bool v.pt, .slice za rs.length zc])) u) := hid (by
    rintro u rfl
    have hbt := but_put7 W5 R ⟨v.nm, v.id, v.sz, v.og, v.kd, v.pt, rs⟩ (.slice za rs.length zc)
    have hBz := hb5.trans (hbt.below hb5.size (fun q hq e => by have := HVR.out; omega))
    obtain ⟨a', c', e', h1, h2⟩ := OwR.rd (own_keep hz (fun q hq => by
     obtain ⟨q1, q2, _⟩ := own_blk hz hq
     have := HRb.out.lt
     have := HVR.out
     have := e4.size
     exact (hbt.block q (by omega) (by omega)).trans (e4.block q q2 (by omega))))
    simp only [Value.slice.injEq, true_and] at e'
    obtain ⟨rfl, rfl⟩ := e'
    rw [HE.out]
    refine ⟨hR5.put7, za, zc, rfl, h1, h2, ?_, hBz⟩
    rcases own_form hz with ⟨_, q⟩ | ⟨q1, _, e1, e2⟩
    ·exact .inl (List.eq_nil_of_length_eq_zero q)
    ·refine .inr fun ad had q => ?_
     have q2 := (own_blk hz e2).1
     have q3 := HXX.out _ q
     have q4 := HB1.out.size
     simp only [Value.slice.injEq] at e1
     rw [had] at e1
     have e3 := e1.1
     simp only [Option.some.injEq] at e3
     rw [e3] at q3
     dsimp only at q3
     omega)
   obtain ⟨⟨x0, x1, x2, x3, x4, x5, x6⟩, xf⟩ := hV3.cs
   obtain ⟨⟨r0, r1, r2, r3, r4, r5, r6⟩, rf⟩ := hR3.cs
   have hVR : ¬ (V = R) := by have := HVR.out; omega
   have hRV : ¬ (R = V) := fun e => hVR e.symm
   have hVO : ¬ (V = O) := by have := HPO.out; omega
   have hOV : ¬ (O = V) := fun e => hVO e.symm
   rw [hW5] at HFIN
   clear hV3 hR3 hW5 e4 hbw hb5 hR5
   clear hz hb3 hb3' hbS
   go_wp2_with fail
   exact bodyPost_ret (results_row1 rfl _ _ R 38 _ (0, 0) _ rfl (HFIN.out _ rfl).1 Tryz.underlying38 rfl (by kernel_rfl)) rfl (HFIN.out _ rfl).2
end Go.Proofs.YtddddfankeepkaaGreatDoor
