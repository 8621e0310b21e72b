import Derived.Test.YtddddfankeepkaaGreatDoorF37
import Derived.Test.YtddddfankeepkaaGreatDoorF10
namespace Go.Proofs.YtddddfankeepkaaGreatDoor
open Go.RowKit
def VlQ (X : Nat → Prop) (w : World) (v : PV) (e : Ending) (w' : World) : Prop := ∃ a c, e = .returned (volA v a c) ∧ RdR w'.heap.size w' a v.mp ∧ (a = none → c = 0) ∧ NoX X a v.mp ∧ Below w.heap.size w w'
set_option maxRecDepth 100000 in
set_option maxHeartbeats 8000000 in
theorem made_1 (X9 : Nat → Prop) (x : VW) (a : Option Addr) (c0 : Nat) (nm ot : ByteArray) (fr tt : Int) (da : Option Addr) (dn dc : Nat) (w : World) :
  Calls Tryz.prog 41 #[viewA x a c0, opA ⟨1, nm, ot, fr, tt⟩ da dn dc] w fun e w' => VlQ X9 w (madP x ⟨1, nm, ot, fr, tt⟩ (plcF x.vs ot 0)) e w' := by
 obtain ⟨P, hP⟩ : ∃ P, P = w.heap.size := ⟨_, rfl⟩
 obtain ⟨O, hOe⟩ : ∃ O, O = w.heap.size + 1 := ⟨_, rfl⟩
 obtain ⟨R, hRe⟩ : ∃ R, R = w.heap.size + 1 + 1 := ⟨_, rfl⟩
 obtain ⟨W1, hW1⟩ : ∃ W1, W1 = ((w.alloc (.cells #[.int .i64 x.cp, .int .i64 x.fr, .int .i64 x.nx, .slice a x.vs.length c0] 24)).alloc (.cells #[.int .i64 1, .string nm, .string ot, .int .i64 fr, .int .i64 tt, .slice da dn dc] 42)).alloc (.cells #[.string ⟨#[]⟩, .int .i64 0, .int .i64 0, .int .i64 0, .int .i64 0, .bool false, .slice none 0 0] 38) := ⟨_, rfl⟩
 have b1 : Below w.heap.size w W1 := by rw [hW1]; exact (two_below _ _ _).trans ((below1 _ _).mono (by simp only [World.size_alloc]; omega))
 have hV : VwB W1 P x (.slice a x.vs.length c0) := by
  unfold VwB
  rw [hW1, hP, Below.heap_alloc _ _ _ (by simp only [World.size_alloc]; omega), Below.heap_alloc _ _ _ (by simp)]
  exact heap_new _ _
 have hO : W1.heap[O]? = some (.cells #[.int .i64 1, .string nm, .string ot, .int .i64 fr, .int .i64 tt, .slice da dn dc] 42 (0, 0)) := by
  have := heap_new (w.alloc (.cells #[.int .i64 x.cp, .int .i64 x.fr, .int .i64 x.nx, .slice a x.vs.length c0] 24)) (.cells #[.int .i64 1, .string nm, .string ot, .int .i64 fr, .int .i64 tt, .slice da dn dc] 42)
  rw [World.size_alloc, ← hOe] at this
  rw [hW1, Below.heap_alloc _ _ _ (by simp only [World.size_alloc]; omega)]
  exact this
 have hRb : VoB W1 R PV0 (.slice none 0 0) := by
  have := heap_new ((w.alloc (.cells #[.int .i64 x.cp, .int .i64 x.fr, .int .i64 x.nx, .slice a x.vs.length c0] 24)).alloc (.cells #[.int .i64 1, .string nm, .string ot, .int .i64 fr, .int .i64 tt, .slice da dn dc] 42)) (.cells #[.string ⟨#[]⟩, .int .i64 0, .int .i64 0, .int .i64 0, .int .i64 0, .bool false, .slice none 0 0] 38)
  rw [World.size_alloc, World.size_alloc, ← hRe, ← hW1] at this
  exact this
 have HB1 := hid b1
 have HV := hid hV
 have HRb := hid hRb
 have HW1 := hid hW1
 have HPO := hid (And.intro hP.symm (And.intro hOe.symm hRe.symm))
 have HRl : Hid (w.heap.size ≤ R) := hid (by omega)
 have HOc : Hid (∀ u, Below W1.heap.size W1 u → u.cell? ⟨O, 0, none⟩ = some (.int .i64 1) ∧ u.cell? ⟨O, 1, none⟩ = some (.string nm) ∧ u.cell? ⟨O, 2, none⟩ = some (.string ot) ∧ u.cell? ⟨O, 3, none⟩ = some (.int .i64 fr) ∧ u.cell? ⟨O, 4, none⟩ = some (.int .i64 tt)) := hid (fun u hu => by
  have := (hu.block O (Array.getElem?_eq_some_iff.1 hO).1).trans hO
  simp [World.cell?, this])
 obtain ⟨c0', c1, c2, c3, c4⟩ := HOc.out W1 (Below.refl _ _)
 obtain ⟨⟨p0, p1, p2, p3⟩, _⟩ := hV.cs
 obtain ⟨⟨r0, r1, r2, r3, r4, r5, r6⟩, f0⟩ := hRb.cs
 have HFIN : Hid (∀ z, z = ((w.alloc (.cells #[.int .i64 x.cp, .int .i64 x.fr, .int .i64 x.nx, .slice a x.vs.length c0] 24)).alloc (.cells #[.int .i64 1, .string nm, .string ot, .int .i64 fr, .int .i64 tt, .slice da dn dc] 42)).alloc (.cells #[.string nm, .int .i64 x.nx, .int .i64 tt, .int .i64 0, .int .i64 0, .bool false, .slice none 0 0] 38) → VoB z (w.heap.size + 1 + 1) ⟨nm, x.nx, tt, 0, 0, false, []⟩ (.slice none 0 0) ∧ VlQ X9 w (madP x ⟨1, nm, ot, fr, tt⟩ (plcF x.vs ot 0)) (.returned (.agg #[.string nm, .int .i64 x.nx, .int .i64 tt, .int .i64 0, .int .i64 0, .bool false, .slice none 0 0])) z) := hid (by
  rintro z rfl
  have hBz : Below w.heap.size w (((w.alloc (.cells #[.int .i64 x.cp, .int .i64 x.fr, .int .i64 x.nx, .slice a x.vs.length c0] 24)).alloc (.cells #[.int .i64 1, .string nm, .string ot, .int .i64 fr, .int .i64 tt, .slice da dn dc] 42)).alloc (.cells #[.string nm, .int .i64 x.nx, .int .i64 tt, .int .i64 0, .int .i64 0, .bool false, .slice none 0 0] 38)) := (two_below _ _ _).trans ((below1 _ _).mono (by simp only [World.size_alloc]; omega))
  have hE : madP x ⟨1, nm, ot, fr, tt⟩ (plcF x.vs ot 0) = ⟨nm, x.nx, tt, 0, 0, false, []⟩ := by unfold madP; rw [if_pos (show ((⟨1, nm, ot, fr, tt⟩ : OW)).k = 1 from rfl)]
  rw [hE]
  refine ⟨?_, none, 0, rfl, .inl rfl, fun _ => rfl, .inl rfl, hBz⟩
  have := heap_new ((w.alloc (.cells #[.int .i64 x.cp, .int .i64 x.fr, .int .i64 x.nx, .slice a x.vs.length c0] 24)).alloc (.cells #[.int .i64 1, .string nm, .string ot, .int .i64 fr, .int .i64 tt, .slice da dn dc] 42)) (.cells #[.string nm, .int .i64 x.nx, .int .i64 tt, .int .i64 0, .int .i64 0, .bool false, .slice none 0 0] 38)
  rw [World.size_alloc, World.size_alloc] at this
  exact this)
 rw [hW1] at c0' c1 c2 c3 c4 p0 p1 p2 p3
 clear hP hOe hRe hW1 b1 hV hO hRb HW1 HV HRb HOc HB1 HPO HRl
 dsimp only [viewA, opA] at *
 go_enter Tryz.func41, Tryz.ntmps41
 go_wp2_with fail
 exact bodyPost_ret (results_row1 rfl _ _ (w.heap.size + 1 + 1) 38 _ (0, 0) _ rfl (HFIN.out _ rfl).1 Tryz.underlying38 rfl (by kernel_rfl)) rfl (HFIN.out _ rfl).2
set_option maxRecDepth 100000 in
set_option maxHeartbeats 8000000 in
theorem made_2 (X9 : Nat → Prop) (x : VW) (a : Option Addr) (c0 : Nat) (nm ot : ByteArray) (fr tt : Int) (da : Option Addr) (dn dc : Nat) (w : World) (hl : x.vs.length ≤ 16777216) (hR : RdVX X9 w.heap.size w a x.vs) (i : Nat) (hi : i < x.vs.length) (hpo : plcF x.vs ot 0 = (i : Int)) :
  Calls Tryz.prog 41 #[viewA x a c0, opA ⟨2, nm, ot, fr, tt⟩ da dn dc] w fun e w' => VlQ X9 w (madP x ⟨2, nm, ot, fr, tt⟩ (i : Int)) e w' := by
 obtain ⟨P, hP⟩ : ∃ P, P = w.heap.size := ⟨_, rfl⟩
 obtain ⟨O, hOe⟩ : ∃ O, O = w.heap.size + 1 := ⟨_, rfl⟩
 obtain ⟨R, hRe⟩ : ∃ R, R = w.heap.size + 1 + 1 := ⟨_, rfl⟩
 obtain ⟨W1, hW1⟩ : ∃ W1, W1 = ((w.alloc (.cells #[.int .i64 x.cp, .int .i64 x.fr, .int .i64 x.nx, .slice a x.vs.length c0] 24)).alloc (.cells #[.int .i64 2, .string nm, .string ot, .int .i64 fr, .int .i64 tt, .slice da dn dc] 42)).alloc (.cells #[.string ⟨#[]⟩, .int .i64 0, .int .i64 0, .int .i64 0, .int .i64 0, .bool false, .slice none 0 0] 38) := ⟨_, rfl⟩
 have b1 : Below w.heap.size w W1 := by rw [hW1]; exact (two_below _ _ _).trans ((below1 _ _).mono (by simp only [World.size_alloc]; omega))
 have hV : VwB W1 P x (.slice a x.vs.length c0) := by
  unfold VwB
  rw [hW1, hP, Below.heap_alloc _ _ _ (by simp only [World.size_alloc]; omega), Below.heap_alloc _ _ _ (by simp)]
  exact heap_new _ _
 have hO : W1.heap[O]? = some (.cells #[.int .i64 2, .string nm, .string ot, .int .i64 fr, .int .i64 tt, .slice da dn dc] 42 (0, 0)) := by
  have := heap_new (w.alloc (.cells #[.int .i64 x.cp, .int .i64 x.fr, .int .i64 x.nx, .slice a x.vs.length c0] 24)) (.cells #[.int .i64 2, .string nm, .string ot, .int .i64 fr, .int .i64 tt, .slice da dn dc] 42)
  rw [World.size_alloc, ← hOe] at this
  rw [hW1, Below.heap_alloc _ _ _ (by simp only [World.size_alloc]; omega)]
  exact this
 have hRb : VoB W1 R PV0 (.slice none 0 0) := by
  have := heap_new ((w.alloc (.cells #[.int .i64 x.cp, .int .i64 x.fr, .int .i64 x.nx, .slice a x.vs.length c0] 24)).alloc (.cells #[.int .i64 2, .string nm, .string ot, .int .i64 fr, .int .i64 tt, .slice da dn dc] 42)) (.cells #[.string ⟨#[]⟩, .int .i64 0, .int .i64 0, .int .i64 0, .int .i64 0, .bool false, .slice none 0 0] 38)
  rw [World.size_alloc, World.size_alloc, ← hRe, ← hW1] at this
  exact this
 have HB1 := hid b1
 have HV := hid hV
 have HRb := hid hRb
 have HW1 := hid hW1
 have HPO := hid (And.intro hP.symm (And.intro hOe.symm hRe.symm))
 have HRl : Hid (w.heap.size ≤ R) := hid (by omega)
 have HOc : Hid (∀ u, Below W1.heap.size W1 u → u.cell? ⟨O, 0, none⟩ = some (.int .i64 2) ∧ u.cell? ⟨O, 1, none⟩ = some (.string nm) ∧ u.cell? ⟨O, 2, none⟩ = some (.string ot) ∧ u.cell? ⟨O, 3, none⟩ = some (.int .i64 fr) ∧ u.cell? ⟨O, 4, none⟩ = some (.int .i64 tt)) := hid (fun u hu => by
  have := (hu.block O (Array.getElem?_eq_some_iff.1 hO).1).trans hO
  simp [World.cell?, this])
 obtain ⟨g, off, rfl, hgl, _, hc⟩ := hR.resolve_left (fun e => by rw [e] at hi; simp at hi)
 obtain ⟨ma, mc, hVC, hRm, hmn, hmx⟩ := hc i hi
 have hE : madP x ⟨2, nm, ot, fr, tt⟩ (i : Int) = ⟨nm, x.nx, x.vs[i].sz, x.vs[i].id, 1, false, x.vs[i].mp⟩ := by unfold madP; rw [if_neg (by show ¬ ((2 : Int) = 1); decide), volAt_eq hi]; rfl
 have HFn := hid (fun u (hu : Below W1.heap.size W1 u) => by
  have := find_any x (some ⟨g, off, none⟩) c0 ot u hl ((hR.rdV.below (b1.trans (hu.mono b1.size))).mono (b1.trans (hu.mono b1.size)).size)
  rw [hpo] at this
  exact this)
 obtain ⟨s, hs⟩ : ∃ s, s = x.vs[i] := ⟨_, rfl⟩
 rw [← hs] at hE hVC hRm hmx
 have HS : Hid (∀ u, Below W1.heap.size W1 u → (fun y => (y.cell? ⟨P, 0, none⟩ = some (.int .i64 x.cp) ∧ y.cell? ⟨P, 1, none⟩ = some (.int .i64 x.fr) ∧ y.cell? ⟨P, 2, none⟩ = some (.int .i64 x.nx) ∧ y.cell? ⟨P, 3, none⟩ = some (.slice (some ⟨g, off, none⟩) x.vs.length c0)) ∧ y.cell? ⟨O, 2, none⟩ = some (.string ot) ∧ (y.cell? ⟨g, off + i * 7, none⟩ = some (.string s.nm) ∧ y.cell? ⟨g, off + i * 7 + 1, none⟩ = some (.int .i64 s.id) ∧ y.cell? ⟨g, off + i * 7 + 2, none⟩ = some (.int .i64 s.sz) ∧ y.cell? ⟨g, off + i * 7 + 3, none⟩ = some (.int .i64 s.og) ∧ y.cell? ⟨g, off + i * 7 + 4, none⟩ = some (.int .i64 s.kd) ∧ y.cell? ⟨g, off + i * 7 + 5, none⟩ = some (.bool s.pt) ∧ y.cell? ⟨g, off + i * 7 + 6, none⟩ = some (.slice ma s.mp.length mc))) u) := hid (fun u hu => ⟨(HV.out.keep (hu.block P HV.out.lt)).cs.1, (HOc.out u hu).2.2.1, hVC.below (b1.trans (hu.mono b1.size)) hgl⟩)
 have HE := hid hE
 have HRm := hid hRm
 have HMN := hid hmn
 have HMX := hid hmx
 have hi1 : (i : Int) < (x.vs.length : Int) := by omega
 obtain ⟨c0', c1, c2, c3, c4⟩ := HOc.out W1 (Below.refl _ _)
 rw [hW1] at c0' c1 c2 c3 c4
 clear hP hOe hRe hW1 b1 hV hO hRb hR hl hE hRm hmn hmx hs hVC hc hgl hpo hi
 dsimp only [viewA, opA] at *
 have mixed : Tryz.prog.follows Departure.mixedOrders = true := by kernel_rfl
 go_enter Tryz.func41, Tryz.ntmps41
 go_wp2_with fail
 rw [← HW1.out]
 try rw [HPO.out.2.2]
 try rw [HPO.out.2.1]
 try rw [HPO.out.1]
 refine wp_region_last (S := (fun y => (y.cell? ⟨P, 0, none⟩ = some (.int .i64 x.cp) ∧ y.cell? ⟨P, 1, none⟩ = some (.int .i64 x.fr) ∧ y.cell? ⟨P, 2, none⟩ = some (.int .i64 x.nx) ∧ y.cell? ⟨P, 3, none⟩ = some (.slice (some ⟨g, off, none⟩) x.vs.length c0)) ∧ y.cell? ⟨O, 2, none⟩ = some (.string ot) ∧ (y.cell? ⟨g, off + i * 7, none⟩ = some (.string s.nm) ∧ y.cell? ⟨g, off + i * 7 + 1, none⟩ = some (.int .i64 s.id) ∧ y.cell? ⟨g, off + i * 7 + 2, none⟩ = some (.int .i64 s.sz) ∧ y.cell? ⟨g, off + i * 7 + 3, none⟩ = some (.int .i64 s.og) ∧ y.cell? ⟨g, off + i * 7 + 4, none⟩ = some (.int .i64 s.kd) ∧ y.cell? ⟨g, off + i * 7 + 5, none⟩ = some (.bool s.pt) ∧ y.cell? ⟨g, off + i * 7 + 6, none⟩ = some (.slice ma s.mp.length mc)))) 9 9 (by kernel_rfl) (by kernel_rfl) (by kernel_rfl) ((HS.out _ (below_dr (Below.refl _ _)))) (fun hSS => ?_)
 refine Ti 0 rfl ?_
 refine Ti 1 rfl ?_
 refine Ti 2 rfl ?_
 refine Ti 3 rfl ?_
 try simp only [Act.put, zA, zB, zC]
 refine Ti 4 rfl ?_
 try simp only [Act.put, zA, zB, zC]
 refine Rr 5 8 rfl rfl (fun K9 hK9 => ?_) (fun K9 hK9 => ?_)
 ·go_simp
  go_at_call 42
  refine (HFn.out _ (below_dr (Below.refl _ _))).mono ?_
  rintro e w2 ⟨rfl, hb2⟩
  have hb2 : Below W1.heap.size W1 w2 := (below_dr (Below.refl _ _)).trans hb2
  obtain ⟨W3, hW3⟩ : ∃ W3, W3 = w2.alloc (.cells #[.string ⟨#[]⟩, .int .i64 0, .int .i64 0, .int .i64 0, .int .i64 0, .bool false, .slice none 0 0] 38) := ⟨_, rfl⟩
  have hb3 : Below W1.heap.size W1 W3 := hb2.trans (by rw [hW3]; exact (below1 _ _).mono hb2.size)
  have hX : VoB W3 w2.heap.size PV0 (.slice none 0 0) := by rw [hW3]; exact heap_new _ _
  obtain ⟨X, hXe⟩ : ∃ X, X = w2.heap.size := ⟨_, rfl⟩
  have hXl : W1.heap.size ≤ X := by rw [hXe]; exact hb2.size
  rw [← hXe] at hX
  have HXE := hid hXe
  have HW3 := hid hW3
  have HB3 := hid hb3
  have HX := hid hX
  have hS2 := HS.out _ hb2
  refine hK9.out _ _ hS2 (fun hSS => ?_)
  try simp only [Act.put, zA, zB, zC]
  clear hXe hb3 hb2 hW3 hS2 hX
  refine Ti 6 rfl ?_
  refine Ti 7 rfl ?_
  try simp only [Act.put, zA, zB, zC]
  refine Ri 8 rfl (fun K9 hK9 => ?_)
  go_simp
  rw [← HW3.out, ← HXE.out]
  refine hK9.out _ _ (HS.out _ HB3.out) (fun hSS => ?_)
  try simp only [Act.put, zA, zB, zC]
  obtain ⟨⟨g0, g1, g2, g3, g4, g5, g6⟩, z0⟩ := HX.out.cs
  refine Dn ?_
  refine last_step (L := 9) (o := ({ dst := none, op := Op.store 38 (Operand.tmp 5) (Operand.tmp 24), type := 0, pos := _, after := _, guard := none } : Oper)) rfl (fun K9 hK9 => ?_)
  go_simp
  refine hK9.out _ _ ?_
  try simp only [Act.put, zA, zB, zC]
  have hZ4 : But (fun q => q = X) W3 (put7 W3 X s (.slice ma s.mp.length mc)) := but_put7 _ _ _ _
  have hZX : VoB (put7 W3 X s (.slice ma s.mp.length mc)) X s (.slice ma s.mp.length mc) := HX.out.put7
  obtain ⟨Z, hZ⟩ : ∃ Z, Z = put7 W3 X s (.slice ma s.mp.length mc) := ⟨_, rfl⟩
  rw [← hZ] at hZ4 hZX
  have hbZ : Below W1.heap.size W1 Z := HB3.out.trans (hZ4.below HB3.out.size (fun q hq e => by omega))
  have HZX := hid hZX
  have HBZ := hid hbZ
  unfold put7 at hZ
  rw [← hZ]
  clear hZ hZ4 hZX hbZ hSS g0 g1 g2 g3 g4 g5 g6 z0
  obtain ⟨⟨p0, p1, p2, p3⟩, _, _⟩ := HS.out _ HBZ.out
  obtain ⟨o0, o1, o2, o3, o4⟩ := HOc.out _ HBZ.out
  obtain ⟨⟨x0, x1, x2, x3, x4, x5, x6⟩, _⟩ := HZX.out.cs
  obtain ⟨W4, hW4⟩ : ∃ W4, W4 = Z.alloc (.cells #[.string nm, .int .i64 x.nx, .int .i64 s.sz, .int .i64 s.id, .int .i64 0, .bool false, .slice ma s.mp.length mc] 38) := ⟨_, rfl⟩
  obtain ⟨Y, hY⟩ : ∃ Y, Y = Z.heap.size := ⟨_, rfl⟩
  have hYl : W1.heap.size ≤ Y := by rw [hY]; exact HBZ.out.size
  have hb4 : Below W1.heap.size W1 W4 := by rw [hW4]; exact HBZ.out.trans ((below1 _ _).mono HBZ.out.size)
  have hY4 : VoB W4 Y ⟨nm, x.nx, s.sz, s.id, 0, false, s.mp⟩ (.slice ma s.mp.length mc) := by rw [hW4, hY]; exact heap_new _ _
  obtain ⟨q0, q1, q2, q3, q4⟩ := HOc.out _ hb4
  obtain ⟨W5, hW5⟩ : ∃ W5, W5 = Z.alloc (.cells #[.string nm, .int .i64 x.nx, .int .i64 s.sz, .int .i64 s.id, .int .i64 1, .bool false, .slice ma s.mp.length mc] 38) := ⟨_, rfl⟩
  have hb5 : Below W1.heap.size W1 W5 := by rw [hW5]; exact HBZ.out.trans ((below1 _ _).mono HBZ.out.size)
  have hY5 : VoB W5 Y ⟨nm, x.nx, s.sz, s.id, 1, false, s.mp⟩ (.slice ma s.mp.length mc) := by rw [hW5, hY]; exact heap_new _ _
  have hR5 : VoB W5 R PV0 (.slice none 0 0) := HRb.out.keep (hb5.block _ HRb.out.lt)
  have HFIN : Hid (∀ z, z = put7 W5 R ⟨nm, x.nx, s.sz, s.id, 1, false, s.mp⟩ (.slice ma s.mp.length mc) → VoB z R ⟨nm, x.nx, s.sz, s.id, 1, false, s.mp⟩ (.slice ma s.mp.length mc) ∧ VlQ X9 w (madP x ⟨2, nm, ot, fr, tt⟩ (i : Int)) (.returned (.agg #[.string nm, .int .i64 x.nx, .int .i64 s.sz, .int .i64 s.id, .int .i64 1, .bool false, .slice ma s.mp.length mc])) z) := hid (by
   rintro z rfl
   have hbt := but_put7 W5 R ⟨nm, x.nx, s.sz, s.id, 1, false, s.mp⟩ (.slice ma s.mp.length mc)
   have hB5 : Below w.heap.size w W5 := HB1.out.trans (hb5.mono HB1.out.size)
   have hBz := hB5.trans (hbt.below hB5.size (fun q hq e => by have := HRl.out; omega))
   rw [HE.out]
   exact ⟨hR5.put7, ma, mc, rfl, (HRm.out.below hBz).mono hBz.size, HMN.out, HMX.out, hBz⟩)
  have hd := hY5.cs
  have hr := hR5.cs
  have hRX : ¬ (R = Z.heap.size) := by have := HRb.out.lt; have := HBZ.out.size; omega
  have hXR : ¬ (Z.heap.size = R) := fun e => hRX e.symm
  obtain ⟨⟨t0, t1, t2, t3, t4, t5, t6⟩, l0⟩ := (HRb.out.keep (HBZ.out.block _ HRb.out.lt)).cs
  obtain ⟨⟨d0, d1, d2, d3, d4, d5, d6⟩, e0⟩ := hd
  obtain ⟨⟨r0, r1, r2, r3, r4, r5, r6⟩, f0⟩ := hr
  rw [hW5, hY] at d0 d1 d2 d3 d4 d5 d6
  rw [hW5] at r0 r1 r2 r3 r4 r5 r6 f0
  rw [hW4] at q0
  rw [hW5] at HFIN
  clear hW4 hW5 hY hYl hb4 hb5 hY4 hY5 hR5 HX HB3 HZX
  go_wp2_with fail
  exact bodyPost_ret (results_row1 rfl _ _ R 38 _ (0, 0) _ rfl (HFIN.out _ rfl).1 Tryz.underlying38 rfl (by kernel_rfl)) rfl (HFIN.out _ rfl).2
 ·go_simp
  obtain ⟨W2, hW2⟩ : ∃ W2, W2 = (W1.alloc (.cells #[.string ⟨#[]⟩, .int .i64 0, .int .i64 0, .int .i64 0, .int .i64 0, .bool false, .slice none 0 0] 38)).drew := ⟨_, rfl⟩
  obtain ⟨X, hXe⟩ : ∃ X, X = W1.heap.size := ⟨_, rfl⟩
  have hXl : W1.heap.size ≤ X := by rw [hXe]; exact Nat.le_refl _
  have hb1 : Below W1.heap.size W1 W2 := by rw [hW2]; exact below_dr (below1 _ _)
  have hX0 : VoB W2 X PV0 (.slice none 0 0) := by rw [hW2, hXe]; exact heap_new _ _
  rw [← hW2]
  try rw [← hXe]
  have HXE := hid hXe
  have HW2 := hid hW2
  have HB1' := hid hb1
  have HX0 := hid hX0
  refine hK9.out _ _ (HS.out _ hb1) (fun hSS => ?_)
  try simp only [Act.put, zA, zB, zC]
  clear hXe hW2 hb1 hX0
  refine Ri 5 rfl (fun K9 hK9 => ?_)
  go_simp
  go_at_call 42
  refine (HFn.out _ HB1'.out).mono ?_
  rintro e W3 ⟨rfl, hb3'⟩
  have hX : VoB W3 X PV0 (.slice none 0 0) := HX0.out.keep (hb3'.block _ HX0.out.lt)
  have hb3 : Below W1.heap.size W1 W3 := HB1'.out.trans (hb3'.mono HB1'.out.size)
  have HB3 := hid hb3
  have HX := hid hX
  clear hb3' hb3 hX
  refine hK9.out _ _ (HS.out _ HB3.out) (fun hSS => ?_)
  try simp only [Act.put, zA, zB, zC]
  refine Ti 6 rfl ?_
  refine Ti 7 rfl ?_
  try simp only [Act.put, zA, zB, zC]
  obtain ⟨⟨g0, g1, g2, g3, g4, g5, g6⟩, z0⟩ := HX.out.cs
  refine Dn ?_
  refine last_step (L := 9) (o := ({ dst := none, op := Op.store 38 (Operand.tmp 5) (Operand.tmp 24), type := 0, pos := _, after := _, guard := none } : Oper)) rfl (fun K9 hK9 => ?_)
  go_simp
  refine hK9.out _ _ ?_
  try simp only [Act.put, zA, zB, zC]
  have hZ4 : But (fun q => q = X) W3 (put7 W3 X s (.slice ma s.mp.length mc)) := but_put7 _ _ _ _
  have hZX : VoB (put7 W3 X s (.slice ma s.mp.length mc)) X s (.slice ma s.mp.length mc) := HX.out.put7
  obtain ⟨Z, hZ⟩ : ∃ Z, Z = put7 W3 X s (.slice ma s.mp.length mc) := ⟨_, rfl⟩
  rw [← hZ] at hZ4 hZX
  have hbZ : Below W1.heap.size W1 Z := HB3.out.trans (hZ4.below HB3.out.size (fun q hq e => by omega))
  have HZX := hid hZX
  have HBZ := hid hbZ
  unfold put7 at hZ
  rw [← hZ]
  clear hZ hZ4 hZX hbZ hSS g0 g1 g2 g3 g4 g5 g6 z0
  obtain ⟨⟨p0, p1, p2, p3⟩, _, _⟩ := HS.out _ HBZ.out
  obtain ⟨o0, o1, o2, o3, o4⟩ := HOc.out _ HBZ.out
  obtain ⟨⟨x0, x1, x2, x3, x4, x5, x6⟩, _⟩ := HZX.out.cs
  obtain ⟨W4, hW4⟩ : ∃ W4, W4 = Z.alloc (.cells #[.string nm, .int .i64 x.nx, .int .i64 s.sz, .int .i64 s.id, .int .i64 0, .bool false, .slice ma s.mp.length mc] 38) := ⟨_, rfl⟩
  obtain ⟨Y, hY⟩ : ∃ Y, Y = Z.heap.size := ⟨_, rfl⟩
  have hYl : W1.heap.size ≤ Y := by rw [hY]; exact HBZ.out.size
  have hb4 : Below W1.heap.size W1 W4 := by rw [hW4]; exact HBZ.out.trans ((below1 _ _).mono HBZ.out.size)
  have hY4 : VoB W4 Y ⟨nm, x.nx, s.sz, s.id, 0, false, s.mp⟩ (.slice ma s.mp.length mc) := by rw [hW4, hY]; exact heap_new _ _
  obtain ⟨q0, q1, q2, q3, q4⟩ := HOc.out _ hb4
  obtain ⟨W5, hW5⟩ : ∃ W5, W5 = Z.alloc (.cells #[.string nm, .int .i64 x.nx, .int .i64 s.sz, .int .i64 s.id, .int .i64 1, .bool false, .slice ma s.mp.length mc] 38) := ⟨_, rfl⟩
  have hb5 : Below W1.heap.size W1 W5 := by rw [hW5]; exact HBZ.out.trans ((below1 _ _).mono HBZ.out.size)
  have hY5 : VoB W5 Y ⟨nm, x.nx, s.sz, s.id, 1, false, s.mp⟩ (.slice ma s.mp.length mc) := by rw [hW5, hY]; exact heap_new _ _
  have hR5 : VoB W5 R PV0 (.slice none 0 0) := HRb.out.keep (hb5.block _ HRb.out.lt)
  have HFIN : Hid (∀ z, z = put7 W5 R ⟨nm, x.nx, s.sz, s.id, 1, false, s.mp⟩ (.slice ma s.mp.length mc) → VoB z R ⟨nm, x.nx, s.sz, s.id, 1, false, s.mp⟩ (.slice ma s.mp.length mc) ∧ VlQ X9 w (madP x ⟨2, nm, ot, fr, tt⟩ (i : Int)) (.returned (.agg #[.string nm, .int .i64 x.nx, .int .i64 s.sz, .int .i64 s.id, .int .i64 1, .bool false, .slice ma s.mp.length mc])) z) := hid (by
   rintro z rfl
   have hbt := but_put7 W5 R ⟨nm, x.nx, s.sz, s.id, 1, false, s.mp⟩ (.slice ma s.mp.length mc)
   have hB5 : Below w.heap.size w W5 := HB1.out.trans (hb5.mono HB1.out.size)
   have hBz := hB5.trans (hbt.below hB5.size (fun q hq e => by have := HRl.out; omega))
   rw [HE.out]
   exact ⟨hR5.put7, ma, mc, rfl, (HRm.out.below hBz).mono hBz.size, HMN.out, HMX.out, hBz⟩)
  have hd := hY5.cs
  have hr := hR5.cs
  have hRX : ¬ (R = Z.heap.size) := by have := HRb.out.lt; have := HBZ.out.size; omega
  have hXR : ¬ (Z.heap.size = R) := fun e => hRX e.symm
  obtain ⟨⟨t0, t1, t2, t3, t4, t5, t6⟩, l0⟩ := (HRb.out.keep (HBZ.out.block _ HRb.out.lt)).cs
  obtain ⟨⟨d0, d1, d2, d3, d4, d5, d6⟩, e0⟩ := hd
  obtain ⟨⟨r0, r1, r2, r3, r4, r5, r6⟩, f0⟩ := hr
  rw [hW5, hY] at d0 d1 d2 d3 d4 d5 d6
  rw [hW5] at r0 r1 r2 r3 r4 r5 r6 f0
  rw [hW4] at q0
  rw [hW5] at HFIN
  clear hW4 hW5 hY hYl hb4 hb5 hY4 hY5 hR5 HX HB3 HZX
  go_wp2_with fail
  exact bodyPost_ret (results_row1 rfl _ _ R 38 _ (0, 0) _ rfl (HFIN.out _ rfl).1 Tryz.underlying38 rfl (by kernel_rfl)) rfl (HFIN.out _ rfl).2
set_option maxRecDepth 100000 in
set_option maxHeartbeats 8000000 in
theorem made_3 (X9 : Nat → Prop) (x : VW) (a : Option Addr) (c0 : Nat) (nm ot : ByteArray) (fr tt : Int) (da : Option Addr) (dn dc : Nat) (w : World) (hl : x.vs.length ≤ 16777216) (hR : RdVX X9 w.heap.size w a x.vs) (i : Nat) (hi : i < x.vs.length) (hpo : plcF x.vs ot 0 = (i : Int)) :
  Calls Tryz.prog 41 #[viewA x a c0, opA ⟨3, nm, ot, fr, tt⟩ da dn dc] w fun e w' => VlQ X9 w (madP x ⟨3, nm, ot, fr, tt⟩ (i : Int)) e w' := by
 obtain ⟨P, hP⟩ : ∃ P, P = w.heap.size := ⟨_, rfl⟩
 obtain ⟨O, hOe⟩ : ∃ O, O = w.heap.size + 1 := ⟨_, rfl⟩
 obtain ⟨R, hRe⟩ : ∃ R, R = w.heap.size + 1 + 1 := ⟨_, rfl⟩
 obtain ⟨W1, hW1⟩ : ∃ W1, W1 = ((w.alloc (.cells #[.int .i64 x.cp, .int .i64 x.fr, .int .i64 x.nx, .slice a x.vs.length c0] 24)).alloc (.cells #[.int .i64 3, .string nm, .string ot, .int .i64 fr, .int .i64 tt, .slice da dn dc] 42)).alloc (.cells #[.string ⟨#[]⟩, .int .i64 0, .int .i64 0, .int .i64 0, .int .i64 0, .bool false, .slice none 0 0] 38) := ⟨_, rfl⟩
 have b1 : Below w.heap.size w W1 := by rw [hW1]; exact (two_below _ _ _).trans ((below1 _ _).mono (by simp only [World.size_alloc]; omega))
 have hV : VwB W1 P x (.slice a x.vs.length c0) := by
  unfold VwB
  rw [hW1, hP, Below.heap_alloc _ _ _ (by simp only [World.size_alloc]; omega), Below.heap_alloc _ _ _ (by simp)]
  exact heap_new _ _
 have hO : W1.heap[O]? = some (.cells #[.int .i64 3, .string nm, .string ot, .int .i64 fr, .int .i64 tt, .slice da dn dc] 42 (0, 0)) := by
  have := heap_new (w.alloc (.cells #[.int .i64 x.cp, .int .i64 x.fr, .int .i64 x.nx, .slice a x.vs.length c0] 24)) (.cells #[.int .i64 3, .string nm, .string ot, .int .i64 fr, .int .i64 tt, .slice da dn dc] 42)
  rw [World.size_alloc, ← hOe] at this
  rw [hW1, Below.heap_alloc _ _ _ (by simp only [World.size_alloc]; omega)]
  exact this
 have hRb : VoB W1 R PV0 (.slice none 0 0) := by
  have := heap_new ((w.alloc (.cells #[.int .i64 x.cp, .int .i64 x.fr, .int .i64 x.nx, .slice a x.vs.length c0] 24)).alloc (.cells #[.int .i64 3, .string nm, .string ot, .int .i64 fr, .int .i64 tt, .slice da dn dc] 42)) (.cells #[.string ⟨#[]⟩, .int .i64 0, .int .i64 0, .int .i64 0, .int .i64 0, .bool false, .slice none 0 0] 38)
  rw [World.size_alloc, World.size_alloc, ← hRe, ← hW1] at this
  exact this
 have HB1 := hid b1
 have HV := hid hV
 have HRb := hid hRb
 have HW1 := hid hW1
 have HPO := hid (And.intro hP.symm (And.intro hOe.symm hRe.symm))
 have HRl : Hid (w.heap.size ≤ R) := hid (by omega)
 have HOc : Hid (∀ u, Below W1.heap.size W1 u → u.cell? ⟨O, 0, none⟩ = some (.int .i64 3) ∧ u.cell? ⟨O, 1, none⟩ = some (.string nm) ∧ u.cell? ⟨O, 2, none⟩ = some (.string ot) ∧ u.cell? ⟨O, 3, none⟩ = some (.int .i64 fr) ∧ u.cell? ⟨O, 4, none⟩ = some (.int .i64 tt)) := hid (fun u hu => by
  have := (hu.block O (Array.getElem?_eq_some_iff.1 hO).1).trans hO
  simp [World.cell?, this])
 obtain ⟨g, off, rfl, hgl, _, hc⟩ := hR.resolve_left (fun e => by rw [e] at hi; simp at hi)
 obtain ⟨ma, mc, hVC, hRm, hmn, hmx⟩ := hc i hi
 have hE : madP x ⟨3, nm, ot, fr, tt⟩ (i : Int) = ⟨nm, x.nx, x.vs[i].sz, x.vs[i].id, 0, false, x.vs[i].mp⟩ := by unfold madP; rw [if_neg (by show ¬ ((3 : Int) = 1); decide), volAt_eq hi]; rfl
 have HFn := hid (fun u (hu : Below W1.heap.size W1 u) => by
  have := find_any x (some ⟨g, off, none⟩) c0 ot u hl ((hR.rdV.below (b1.trans (hu.mono b1.size))).mono (b1.trans (hu.mono b1.size)).size)
  rw [hpo] at this
  exact this)
 obtain ⟨s, hs⟩ : ∃ s, s = x.vs[i] := ⟨_, rfl⟩
 rw [← hs] at hE hVC hRm hmx
 have HS : Hid (∀ u, Below W1.heap.size W1 u → (fun y => (y.cell? ⟨P, 0, none⟩ = some (.int .i64 x.cp) ∧ y.cell? ⟨P, 1, none⟩ = some (.int .i64 x.fr) ∧ y.cell? ⟨P, 2, none⟩ = some (.int .i64 x.nx) ∧ y.cell? ⟨P, 3, none⟩ = some (.slice (some ⟨g, off, none⟩) x.vs.length c0)) ∧ y.cell? ⟨O, 2, none⟩ = some (.string ot) ∧ (y.cell? ⟨g, off + i * 7, none⟩ = some (.string s.nm) ∧ y.cell? ⟨g, off + i * 7 + 1, none⟩ = some (.int .i64 s.id) ∧ y.cell? ⟨g, off + i * 7 + 2, none⟩ = some (.int .i64 s.sz) ∧ y.cell? ⟨g, off + i * 7 + 3, none⟩ = some (.int .i64 s.og) ∧ y.cell? ⟨g, off + i * 7 + 4, none⟩ = some (.int .i64 s.kd) ∧ y.cell? ⟨g, off + i * 7 + 5, none⟩ = some (.bool s.pt) ∧ y.cell? ⟨g, off + i * 7 + 6, none⟩ = some (.slice ma s.mp.length mc))) u) := hid (fun u hu => ⟨(HV.out.keep (hu.block P HV.out.lt)).cs.1, (HOc.out u hu).2.2.1, hVC.below (b1.trans (hu.mono b1.size)) hgl⟩)
 have HE := hid hE
 have HRm := hid hRm
 have HMN := hid hmn
 have HMX := hid hmx
 have hi1 : (i : Int) < (x.vs.length : Int) := by omega
 obtain ⟨c0', c1, c2, c3, c4⟩ := HOc.out W1 (Below.refl _ _)
 rw [hW1] at c0' c1 c2 c3 c4
 clear hP hOe hRe hW1 b1 hV hO hRb hR hl hE hRm hmn hmx hs hVC hc hgl hpo hi
 dsimp only [viewA, opA] at *
 have mixed : Tryz.prog.follows Departure.mixedOrders = true := by kernel_rfl
 go_enter Tryz.func41, Tryz.ntmps41
 go_wp2_with fail
 rw [← HW1.out]
 try rw [HPO.out.2.2]
 try rw [HPO.out.2.1]
 try rw [HPO.out.1]
 refine wp_region_last (S := (fun y => (y.cell? ⟨P, 0, none⟩ = some (.int .i64 x.cp) ∧ y.cell? ⟨P, 1, none⟩ = some (.int .i64 x.fr) ∧ y.cell? ⟨P, 2, none⟩ = some (.int .i64 x.nx) ∧ y.cell? ⟨P, 3, none⟩ = some (.slice (some ⟨g, off, none⟩) x.vs.length c0)) ∧ y.cell? ⟨O, 2, none⟩ = some (.string ot) ∧ (y.cell? ⟨g, off + i * 7, none⟩ = some (.string s.nm) ∧ y.cell? ⟨g, off + i * 7 + 1, none⟩ = some (.int .i64 s.id) ∧ y.cell? ⟨g, off + i * 7 + 2, none⟩ = some (.int .i64 s.sz) ∧ y.cell? ⟨g, off + i * 7 + 3, none⟩ = some (.int .i64 s.og) ∧ y.cell? ⟨g, off + i * 7 + 4, none⟩ = some (.int .i64 s.kd) ∧ y.cell? ⟨g, off + i * 7 + 5, none⟩ = some (.bool s.pt) ∧ y.cell? ⟨g, off + i * 7 + 6, none⟩ = some (.slice ma s.mp.length mc)))) 9 9 (by kernel_rfl) (by kernel_rfl) (by kernel_rfl) ((HS.out _ (below_dr (Below.refl _ _)))) (fun hSS => ?_)
 refine Ti 0 rfl ?_
 refine Ti 1 rfl ?_
 try simp only [Act.put, zA, zB, zC]
 refine Ti 2 rfl ?_
 refine Ti 3 rfl ?_
 refine Ti 4 rfl ?_
 try simp only [Act.put, zA, zB, zC]
 refine Rr 5 8 rfl rfl (fun K9 hK9 => ?_) (fun K9 hK9 => ?_)
 ·go_simp
  go_at_call 42
  refine (HFn.out _ (below_dr (Below.refl _ _))).mono ?_
  rintro e w2 ⟨rfl, hb2⟩
  have hb2 : Below W1.heap.size W1 w2 := (below_dr (Below.refl _ _)).trans hb2
  obtain ⟨W3, hW3⟩ : ∃ W3, W3 = w2.alloc (.cells #[.string ⟨#[]⟩, .int .i64 0, .int .i64 0, .int .i64 0, .int .i64 0, .bool false, .slice none 0 0] 38) := ⟨_, rfl⟩
  have hb3 : Below W1.heap.size W1 W3 := hb2.trans (by rw [hW3]; exact (below1 _ _).mono hb2.size)
  have hX : VoB W3 w2.heap.size PV0 (.slice none 0 0) := by rw [hW3]; exact heap_new _ _
  obtain ⟨X, hXe⟩ : ∃ X, X = w2.heap.size := ⟨_, rfl⟩
  have hXl : W1.heap.size ≤ X := by rw [hXe]; exact hb2.size
  rw [← hXe] at hX
  have HXE := hid hXe
  have HW3 := hid hW3
  have HB3 := hid hb3
  have HX := hid hX
  have hS2 := HS.out _ hb2
  refine hK9.out _ _ hS2 (fun hSS => ?_)
  try simp only [Act.put, zA, zB, zC]
  clear hXe hb3 hb2 hW3 hS2 hX
  refine Ti 6 rfl ?_
  refine Ti 7 rfl ?_
  try simp only [Act.put, zA, zB, zC]
  refine Ri 8 rfl (fun K9 hK9 => ?_)
  go_simp
  rw [← HW3.out, ← HXE.out]
  refine hK9.out _ _ (HS.out _ HB3.out) (fun hSS => ?_)
  try simp only [Act.put, zA, zB, zC]
  obtain ⟨⟨g0, g1, g2, g3, g4, g5, g6⟩, z0⟩ := HX.out.cs
  refine Dn ?_
  refine last_step (L := 9) (o := ({ dst := none, op := Op.store 38 (Operand.tmp 5) (Operand.tmp 24), type := 0, pos := _, after := _, guard := none } : Oper)) rfl (fun K9 hK9 => ?_)
  go_simp
  refine hK9.out _ _ ?_
  try simp only [Act.put, zA, zB, zC]
  have hZ4 : But (fun q => q = X) W3 (put7 W3 X s (.slice ma s.mp.length mc)) := but_put7 _ _ _ _
  have hZX : VoB (put7 W3 X s (.slice ma s.mp.length mc)) X s (.slice ma s.mp.length mc) := HX.out.put7
  obtain ⟨Z, hZ⟩ : ∃ Z, Z = put7 W3 X s (.slice ma s.mp.length mc) := ⟨_, rfl⟩
  rw [← hZ] at hZ4 hZX
  have hbZ : Below W1.heap.size W1 Z := HB3.out.trans (hZ4.below HB3.out.size (fun q hq e => by omega))
  have HZX := hid hZX
  have HBZ := hid hbZ
  unfold put7 at hZ
  rw [← hZ]
  clear hZ hZ4 hZX hbZ hSS g0 g1 g2 g3 g4 g5 g6 z0
  obtain ⟨⟨p0, p1, p2, p3⟩, _, _⟩ := HS.out _ HBZ.out
  obtain ⟨o0, o1, o2, o3, o4⟩ := HOc.out _ HBZ.out
  obtain ⟨⟨x0, x1, x2, x3, x4, x5, x6⟩, _⟩ := HZX.out.cs
  obtain ⟨W4, hW4⟩ : ∃ W4, W4 = Z.alloc (.cells #[.string nm, .int .i64 x.nx, .int .i64 s.sz, .int .i64 s.id, .int .i64 0, .bool false, .slice ma s.mp.length mc] 38) := ⟨_, rfl⟩
  obtain ⟨Y, hY⟩ : ∃ Y, Y = Z.heap.size := ⟨_, rfl⟩
  have hYl : W1.heap.size ≤ Y := by rw [hY]; exact HBZ.out.size
  have hb4 : Below W1.heap.size W1 W4 := by rw [hW4]; exact HBZ.out.trans ((below1 _ _).mono HBZ.out.size)
  have hY4 : VoB W4 Y ⟨nm, x.nx, s.sz, s.id, 0, false, s.mp⟩ (.slice ma s.mp.length mc) := by rw [hW4, hY]; exact heap_new _ _
  obtain ⟨q0, q1, q2, q3, q4⟩ := HOc.out _ hb4
  obtain ⟨W5, hW5⟩ : ∃ W5, W5 = Z.alloc (.cells #[.string nm, .int .i64 x.nx, .int .i64 s.sz, .int .i64 s.id, .int .i64 0, .bool false, .slice ma s.mp.length mc] 38) := ⟨_, rfl⟩
  have hb5 : Below W1.heap.size W1 W5 := by rw [hW5]; exact HBZ.out.trans ((below1 _ _).mono HBZ.out.size)
  have hY5 : VoB W5 Y ⟨nm, x.nx, s.sz, s.id, 0, false, s.mp⟩ (.slice ma s.mp.length mc) := by rw [hW5, hY]; exact heap_new _ _
  have hR5 : VoB W5 R PV0 (.slice none 0 0) := HRb.out.keep (hb5.block _ HRb.out.lt)
  have HFIN : Hid (∀ z, z = put7 W5 R ⟨nm, x.nx, s.sz, s.id, 0, false, s.mp⟩ (.slice ma s.mp.length mc) → VoB z R ⟨nm, x.nx, s.sz, s.id, 0, false, s.mp⟩ (.slice ma s.mp.length mc) ∧ VlQ X9 w (madP x ⟨3, nm, ot, fr, tt⟩ (i : Int)) (.returned (.agg #[.string nm, .int .i64 x.nx, .int .i64 s.sz, .int .i64 s.id, .int .i64 0, .bool false, .slice ma s.mp.length mc])) z) := hid (by
   rintro z rfl
   have hbt := but_put7 W5 R ⟨nm, x.nx, s.sz, s.id, 0, false, s.mp⟩ (.slice ma s.mp.length mc)
   have hB5 : Below w.heap.size w W5 := HB1.out.trans (hb5.mono HB1.out.size)
   have hBz := hB5.trans (hbt.below hB5.size (fun q hq e => by have := HRl.out; omega))
   rw [HE.out]
   exact ⟨hR5.put7, ma, mc, rfl, (HRm.out.below hBz).mono hBz.size, HMN.out, HMX.out, hBz⟩)
  have hd := hY5.cs
  have hr := hR5.cs
  have hRX : ¬ (R = Z.heap.size) := by have := HRb.out.lt; have := HBZ.out.size; omega
  have hXR : ¬ (Z.heap.size = R) := fun e => hRX e.symm
  obtain ⟨⟨t0, t1, t2, t3, t4, t5, t6⟩, l0⟩ := (HRb.out.keep (HBZ.out.block _ HRb.out.lt)).cs
  obtain ⟨⟨d0, d1, d2, d3, d4, d5, d6⟩, e0⟩ := hd
  obtain ⟨⟨r0, r1, r2, r3, r4, r5, r6⟩, f0⟩ := hr
  rw [hW5, hY] at d0 d1 d2 d3 d4 d5 d6
  rw [hW5] at r0 r1 r2 r3 r4 r5 r6 f0
  rw [hW4] at q0
  rw [hW5] at HFIN
  clear hW4 hW5 hY hYl hb4 hb5 hY4 hY5 hR5 HX HB3 HZX
  go_wp2_with fail
  exact bodyPost_ret (results_row1 rfl _ _ R 38 _ (0, 0) _ rfl (HFIN.out _ rfl).1 Tryz.underlying38 rfl (by kernel_rfl)) rfl (HFIN.out _ rfl).2
 ·go_simp
  obtain ⟨W2, hW2⟩ : ∃ W2, W2 = (W1.alloc (.cells #[.string ⟨#[]⟩, .int .i64 0, .int .i64 0, .int .i64 0, .int .i64 0, .bool false, .slice none 0 0] 38)).drew := ⟨_, rfl⟩
  obtain ⟨X, hXe⟩ : ∃ X, X = W1.heap.size := ⟨_, rfl⟩
  have hXl : W1.heap.size ≤ X := by rw [hXe]; exact Nat.le_refl _
  have hb1 : Below W1.heap.size W1 W2 := by rw [hW2]; exact below_dr (below1 _ _)
  have hX0 : VoB W2 X PV0 (.slice none 0 0) := by rw [hW2, hXe]; exact heap_new _ _
  rw [← hW2]
  try rw [← hXe]
  have HXE := hid hXe
  have HW2 := hid hW2
  have HB1' := hid hb1
  have HX0 := hid hX0
  refine hK9.out _ _ (HS.out _ hb1) (fun hSS => ?_)
  try simp only [Act.put, zA, zB, zC]
  clear hXe hW2 hb1 hX0
  refine Ri 5 rfl (fun K9 hK9 => ?_)
  go_simp
  go_at_call 42
  refine (HFn.out _ HB1'.out).mono ?_
  rintro e W3 ⟨rfl, hb3'⟩
  have hX : VoB W3 X PV0 (.slice none 0 0) := HX0.out.keep (hb3'.block _ HX0.out.lt)
  have hb3 : Below W1.heap.size W1 W3 := HB1'.out.trans (hb3'.mono HB1'.out.size)
  have HB3 := hid hb3
  have HX := hid hX
  clear hb3' hb3 hX
  refine hK9.out _ _ (HS.out _ HB3.out) (fun hSS => ?_)
  try simp only [Act.put, zA, zB, zC]
  refine Ti 6 rfl ?_
  try simp only [Act.put, zA, zB, zC]
  refine Ti 7 rfl ?_
  try simp only [Act.put, zA, zB, zC]
  obtain ⟨⟨g0, g1, g2, g3, g4, g5, g6⟩, z0⟩ := HX.out.cs
  refine Dn ?_
  refine last_step (L := 9) (o := ({ dst := none, op := Op.store 38 (Operand.tmp 5) (Operand.tmp 24), type := 0, pos := _, after := _, guard := none } : Oper)) rfl (fun K9 hK9 => ?_)
  go_simp
  refine hK9.out _ _ ?_
  try simp only [Act.put, zA, zB, zC]
  have hZ4 : But (fun q => q = X) W3 (put7 W3 X s (.slice ma s.mp.length mc)) := but_put7 _ _ _ _
  have hZX : VoB (put7 W3 X s (.slice ma s.mp.length mc)) X s (.slice ma s.mp.length mc) := HX.out.put7
  obtain ⟨Z, hZ⟩ : ∃ Z, Z = put7 W3 X s (.slice ma s.mp.length mc) := ⟨_, rfl⟩
  rw [← hZ] at hZ4 hZX
  have hbZ : Below W1.heap.size W1 Z := HB3.out.trans (hZ4.below HB3.out.size (fun q hq e => by omega))
  have HZX := hid hZX
  have HBZ := hid hbZ
  unfold put7 at hZ
  rw [← hZ]
  clear hZ hZ4 hZX hbZ hSS g0 g1 g2 g3 g4 g5 g6 z0
  obtain ⟨⟨p0, p1, p2, p3⟩, _, _⟩ := HS.out _ HBZ.out
  obtain ⟨o0, o1, o2, o3, o4⟩ := HOc.out _ HBZ.out
  obtain ⟨⟨x0, x1, x2, x3, x4, x5, x6⟩, _⟩ := HZX.out.cs
  obtain ⟨W4, hW4⟩ : ∃ W4, W4 = Z.alloc (.cells #[.string nm, .int .i64 x.nx, .int .i64 s.sz, .int .i64 s.id, .int .i64 0, .bool false, .slice ma s.mp.length mc] 38) := ⟨_, rfl⟩
  obtain ⟨Y, hY⟩ : ∃ Y, Y = Z.heap.size := ⟨_, rfl⟩
  have hYl : W1.heap.size ≤ Y := by rw [hY]; exact HBZ.out.size
  have hb4 : Below W1.heap.size W1 W4 := by rw [hW4]; exact HBZ.out.trans ((below1 _ _).mono HBZ.out.size)
  have hY4 : VoB W4 Y ⟨nm, x.nx, s.sz, s.id, 0, false, s.mp⟩ (.slice ma s.mp.length mc) := by rw [hW4, hY]; exact heap_new _ _
  obtain ⟨q0, q1, q2, q3, q4⟩ := HOc.out _ hb4
  obtain ⟨W5, hW5⟩ : ∃ W5, W5 = Z.alloc (.cells #[.string nm, .int .i64 x.nx, .int .i64 s.sz, .int .i64 s.id, .int .i64 0, .bool false, .slice ma s.mp.length mc] 38) := ⟨_, rfl⟩
  have hb5 : Below W1.heap.size W1 W5 := by rw [hW5]; exact HBZ.out.trans ((below1 _ _).mono HBZ.out.size)
  have hY5 : VoB W5 Y ⟨nm, x.nx, s.sz, s.id, 0, false, s.mp⟩ (.slice ma s.mp.length mc) := by rw [hW5, hY]; exact heap_new _ _
  have hR5 : VoB W5 R PV0 (.slice none 0 0) := HRb.out.keep (hb5.block _ HRb.out.lt)
  have HFIN : Hid (∀ z, z = put7 W5 R ⟨nm, x.nx, s.sz, s.id, 0, false, s.mp⟩ (.slice ma s.mp.length mc) → VoB z R ⟨nm, x.nx, s.sz, s.id, 0, false, s.mp⟩ (.slice ma s.mp.length mc) ∧ VlQ X9 w (madP x ⟨3, nm, ot, fr, tt⟩ (i : Int)) (.returned (.agg #[.string nm, .int .i64 x.nx, .int .i64 s.sz, .int .i64 s.id, .int .i64 0, .bool false, .slice ma s.mp.length mc])) z) := hid (by
   rintro z rfl
   have hbt := but_put7 W5 R ⟨nm, x.nx, s.sz, s.id, 0, false, s.mp⟩ (.slice ma s.mp.length mc)
   have hB5 : Below w.heap.size w W5 := HB1.out.trans (hb5.mono HB1.out.size)
   have hBz := hB5.trans (hbt.below hB5.size (fun q hq e => by have := HRl.out; omega))
   rw [HE.out]
   exact ⟨hR5.put7, ma, mc, rfl, (HRm.out.below hBz).mono hBz.size, HMN.out, HMX.out, hBz⟩)
  have hd := hY5.cs
  have hr := hR5.cs
  have hRX : ¬ (R = Z.heap.size) := by have := HRb.out.lt; have := HBZ.out.size; omega
  have hXR : ¬ (Z.heap.size = R) := fun e => hRX e.symm
  obtain ⟨⟨t0, t1, t2, t3, t4, t5, t6⟩, l0⟩ := (HRb.out.keep (HBZ.out.block _ HRb.out.lt)).cs
  obtain ⟨⟨d0, d1, d2, d3, d4, d5, d6⟩, e0⟩ := hd
  obtain ⟨⟨r0, r1, r2, r3, r4, r5, r6⟩, f0⟩ := hr
  rw [hW5, hY] at d0 d1 d2 d3 d4 d5 d6
  rw [hW5] at r0 r1 r2 r3 r4 r5 r6 f0
  rw [hW4] at q0
  rw [hW5] at HFIN
  clear hW4 hW5 hY hYl hb4 hb5 hY4 hY5 hR5 HX HB3 HZX
  go_wp2_with fail
  exact bodyPost_ret (results_row1 rfl _ _ R 38 _ (0, 0) _ rfl (HFIN.out _ rfl).1 Tryz.underlying38 rfl (by kernel_rfl)) rfl (HFIN.out _ rfl).2
end Go.Proofs.YtddddfankeepkaaGreatDoor
