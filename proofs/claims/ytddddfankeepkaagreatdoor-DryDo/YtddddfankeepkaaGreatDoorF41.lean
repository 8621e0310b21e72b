import Derived.Test.YtddddfankeepkaaGreatDoorF40
import Derived.Test.YtddddfankeepkaaGreatDoorF10
namespace Go.Proofs.YtddddfankeepkaaGreatDoor
open Go.RowKit
theorem RdVX.sup {X X' : Nat → Prop} {B : Nat} {w : World} {a : Option Addr} {vs : List PV} (h : RdVX X B w a vs) (hX : ∀ q, X' q → X q ∨ B ≤ q) : RdVX X' B w a vs := by
 rcases h with h | ⟨b, off, e, hb, hn, hc⟩
 ·exact .inl h
 ·refine .inr ⟨b, off, e, hb, fun q => (hX _ q).elim hn (fun q => by omega), fun j hj => ?_⟩
  obtain ⟨a', c', h1, h2, h3, h4⟩ := hc j hj
  refine ⟨a', c', h1, h2, h3, ?_⟩
  rcases h4 with h4 | h4
  ·exact .inl h4
  ·rcases h2 with h2 | ⟨b2, off2, e2, hb2, _⟩
   ·exact .inl h2
   ·refine .inr fun ad had q => (hX _ q).elim (h4 ad had) (fun q => ?_)
    rw [e2] at had
    cases had
    dsimp only at q
    omega
theorem turnedX (X : Nat → Prop) (x : VW) (g off c0 : Nat) (o : OW) (da : Option Addr) (n dn dc : Nat) (k : Nat) (hk : k < x.vs.length) (va : Option Addr) (vc : Nat) (w : World) (hM : MayP x) (hT : tkE x o n = 0) (hp : plcF x.vs o.nm 0 = (k : Int)) (h1 : mkK o.k = false) (h6 : o.k ≠ 6) (h11 : o.k ≠ 11) (hR : RdVX X w.heap.size w (some ⟨g, off, none⟩) x.vs) (hV : VolC w g (off + k * 7) x.vs[k] va vc) (hX : ∀ q, X q → q < w.heap.size) :
  Calls Tryz.prog 44 #[viewA x (some ⟨g, off, none⟩) c0, opA o da dn dc, volA x.vs[k] va vc] w fun e w' => VlQ X w (turP x o (plcF x.vs o.ot 0) x.vs[k]) e w' := by
 obtain ⟨b, of', e, hb, _, hc⟩ := hR.resolve_left (fun e => by rw [e] at hk; simp at hk)
 simp only [Option.some.injEq, Addr.mk.injEq, and_true] at e
 obtain ⟨rfl, rfl⟩ := e
 obtain ⟨a', c', ⟨_, _, _, _, _, _, q6⟩, hv, hn, hx⟩ := hc k hk
 obtain ⟨_, _, _, _, _, _, v6⟩ := hV
 rw [q6] at v6
 simp only [Option.some.injEq, Value.slice.injEq, true_and] at v6
 obtain ⟨rfl, rfl⟩ := v6
 exact turned_any X x _ c0 o da n dn dc k hk _ _ w hM hT hp h1 h6 h11 hR hv hn hx hX
def DoD (X : Nat → Prop) (w : World) (y : VW) (t : Int) (e : Ending) (w' : World) : Prop := ∃ a c, e = .returned (.tuple #[viewA y a c, .int .i64 t]) ∧ RdVX X w'.heap.size w' a y.vs ∧ (a = none → c = 0) ∧ Below w.heap.size w w'
set_option maxRecDepth 100000 in
set_option maxHeartbeats 8000000 in
theorem do_E (x : VW) (a : Option Addr) (c0 : Nat) (o : OW) (da : Option Addr) (dn dc : Nat) (w : World) (hM : MayP x) (hok : okW o) (X0 : Nat → Prop) (hX0 : ∀ q, X0 q → q < w.heap.size) (hR0 : RdVX X0 w.heap.size w a x.vs) (hz : tkE x o dn ≠ 0) :
  Calls Tryz.prog 20 #[viewA x a c0, opA o da dn dc] w fun e w' => DoD X0 w (VW0) (tkE x o dn) e w' := by
 have hR := hR0.rdV
 obtain ⟨P, hP⟩ : ∃ P, P = w.heap.size := ⟨_, rfl⟩
 obtain ⟨O, hOe⟩ : ∃ O, O = w.heap.size + 1 := ⟨_, rfl⟩
 obtain ⟨R, hRe⟩ : ∃ R, R = w.heap.size + 1 + 1 := ⟨_, rfl⟩
 obtain ⟨W1, hW1⟩ : ∃ W1, W1 = ((w.alloc (.cells #[.int .i64 x.cp, .int .i64 x.fr, .int .i64 x.nx, .slice a x.vs.length c0] 24)).alloc (.cells #[.int .i64 o.k, .string o.nm, .string o.ot, .int .i64 o.fr, .int .i64 o.tt, .slice da dn dc] 42)).alloc (.cells #[.int .i64 0, .int .i64 0, .int .i64 0, .slice none 0 0] 24) := ⟨_, rfl⟩
 have b1 : Below w.heap.size w W1 := by rw [hW1]; exact (two_below _ _ _).trans ((below1 _ _).mono (by simp only [World.size_alloc]; omega))
 have hV : VwB W1 P x (.slice a x.vs.length c0) := by
  unfold VwB
  rw [hW1, hP, Below.heap_alloc _ _ _ (by simp only [World.size_alloc]; omega), Below.heap_alloc _ _ _ (by simp)]
  exact heap_new _ _
 have hO : W1.heap[O]? = some (.cells #[.int .i64 o.k, .string o.nm, .string o.ot, .int .i64 o.fr, .int .i64 o.tt, .slice da dn dc] 42 (0, 0)) := by
  have := heap_new (w.alloc (.cells #[.int .i64 x.cp, .int .i64 x.fr, .int .i64 x.nx, .slice a x.vs.length c0] 24)) (.cells #[.int .i64 o.k, .string o.nm, .string o.ot, .int .i64 o.fr, .int .i64 o.tt, .slice da dn dc] 42)
  rw [World.size_alloc, ← hOe] at this
  rw [hW1, Below.heap_alloc _ _ _ (by simp only [World.size_alloc]; omega)]
  exact this
 have hRb : VwB W1 R VW0 (.slice none 0 0) := by
  have := heap_new ((w.alloc (.cells #[.int .i64 x.cp, .int .i64 x.fr, .int .i64 x.nx, .slice a x.vs.length c0] 24)).alloc (.cells #[.int .i64 o.k, .string o.nm, .string o.ot, .int .i64 o.fr, .int .i64 o.tt, .slice da dn dc] 42)) (.cells #[.int .i64 0, .int .i64 0, .int .i64 0, .slice none 0 0] 24)
  rw [World.size_alloc, World.size_alloc, ← hRe, ← hW1] at this
  exact this
 have hl : x.vs.length ≤ 16777000 := by have := hM.len; omega
 have HB1 := hid b1
 have HV := hid hV
 have HRb := hid hRb
 have HW1 := hid hW1
 have HPO := hid (And.intro hP.symm (And.intro hOe.symm hRe.symm))
 have HPR : Hid (w.heap.size = P ∧ P + 1 = O ∧ O + 1 = R) := hid (by omega)
 have HOc : Hid (∀ u, Below W1.heap.size W1 u → u.cell? ⟨O, 0, none⟩ = some (.int .i64 o.k) ∧ u.cell? ⟨O, 1, none⟩ = some (.string o.nm) ∧ u.cell? ⟨O, 2, none⟩ = some (.string o.ot) ∧ u.cell? ⟨O, 3, none⟩ = some (.int .i64 o.fr) ∧ u.cell? ⟨O, 4, none⟩ = some (.int .i64 o.tt) ∧ u.cell? ⟨O, 5, none⟩ = some (.slice da dn dc)) := hid (fun u hu => by
  have := (hu.block O (Array.getElem?_eq_some_iff.1 hO).1).trans hO
  simp [World.cell?, this])
 have hR1 := (hR.below b1).mono b1.size
 have HRf := hid (refused_any x a c0 o da dn dc W1 hM hok hR1)
 have HR1 := hid hR1
 have HR0 := hid hR0
 obtain ⟨X, hXd⟩ : ∃ X : Nat → Prop, X = fun q => X0 q ∨ (w.heap.size ≤ q ∧ q < W1.heap.size) := ⟨_, rfl⟩
 have HXd := hid hXd
 have HX1 : Hid (∀ q, X q → q < W1.heap.size) := hid (fun q hq => by rw [hXd] at hq; exact hq.elim (fun h => by have := hX0 q h; have := b1.size; omega) (fun h => h.2))
 have HXS : Hid (∀ q, X0 q → X q) := hid (fun q hq => by rw [hXd]; exact .inl hq)
 have HXP : Hid (X P ∧ X R) := hid (by have h1 := hV.lt; have h2 := hRb.lt; rw [hXd]; exact ⟨.inr ⟨by omega, h1⟩, .inr ⟨by omega, h2⟩⟩)
 have HR9 : Hid (RdVX X W1.heap.size W1 a x.vs) := hid (((hR0.sup (fun q hq => by rw [hXd] at hq; exact hq.imp id (fun h => h.1))).below b1).mono b1.size)
 obtain ⟨c0', c1, c2, c3, c4, c5⟩ := HOc.out W1 (Below.refl _ _)
 obtain ⟨⟨p0, p1, p2, p3⟩, _⟩ := hV.cs
 rw [hW1] at c0' c1 c2 c3 c4 c5 p0 p1 p2 p3
 obtain ⟨z, hzz⟩ : ∃ z, z = tkE x o dn := ⟨_, rfl⟩
 rw [← hzz] at HRf hz
 rw [← hzz]
 have hz2 : ¬ z = 0 := hz
 have hz3 : (z != 0) = true := by simpa using hz
 clear hP hOe hRe hW1 b1 hV hO hRb hR hR1 hM hok hXd hR0 hX0 hzz hl hz HR1 HR0
 dsimp only [viewA, opA] at *
 go_enter Tryz.func20, Tryz.ntmps20
 go_wp2_with fail
 rw [← HW1.out]
 try rw [HPO.out.2.2]
 try rw [HPO.out.2.1]
 try rw [HPO.out.1]
 refine HRf.out.mono ?_
 rintro e w2 ⟨rfl, hb2⟩
 clear c0' c1 c2 c3 c4 c5 p0 p1 p2 p3
 obtain ⟨c0', c1, c2, c3, c4, c5⟩ := HOc.out w2 hb2
 have hV2 := HV.out.keep (hb2.block _ HV.out.lt)
 have hR2 := HRb.out.keep (hb2.block _ HRb.out.lt)
 obtain ⟨⟨p0, p1, p2, p3⟩, pf⟩ := hV2.cs
 obtain ⟨⟨r0, r1, r2, r3⟩, rf⟩ := hR2.cs
 have hbF : Below w.heap.size w w2 := HB1.out.trans (hb2.mono HB1.out.size)
 have hRF := hR2
 have HFIN : Hid (∀ yw, yw = put4 w2 R VW0 (.slice none 0 0) → VwB yw R VW0 (.slice none 0 0) ∧ DoD X0 w VW0 z (.returned (.tuple #[.agg #[.int .i64 (VW0 : VW).cp, .int .i64 (VW0 : VW).fr, .int .i64 (VW0 : VW).nx, .slice none 0 0], .int .i64 z])) yw) := hid (by
  rintro yw rfl
  have bt := but_put4 w2 R VW0 (.slice none 0 0)
  have hB : Below w.heap.size w w2 := hbF
  have hBy := hB.trans (bt.below hB.size (fun q hq e => by have := HPR.out; omega))
  refine ⟨hRF.put4, ?_⟩
  exact ⟨none, 0, rfl, .inl rfl, fun _ => rfl, hBy⟩)
 have rf0 := rf 0
 have rf1 := rf 1
 have rf2 := rf 2
 have rf3 := rf 3
 clear hbF hRF hV2 hR2 hb2
 dsimp only [VW0] at r0 r1 r2 r3
 go_wp2_with fail
 exact bodyPost_ret (results_row_tmp rfl _ _ R 24 _ (0, 0) _ (.int .i64 z) rfl rfl (HFIN.out _ rfl).1 Tryz.underlying24 rfl (by kernel_rfl)) rfl (HFIN.out _ rfl).2
set_option maxRecDepth 100000 in
set_option maxHeartbeats 8000000 in
theorem do_L (x : VW) (a : Option Addr) (c0 : Nat) (nm ot : ByteArray) (fr tt : Int) (da : Option Addr) (dn dc : Nat) (w : World) (hM : MayP x) (hok : okW ⟨11, nm, ot, fr, tt⟩) (X0 : Nat → Prop) (hX0 : ∀ q, X0 q → q < w.heap.size) (hR0 : RdVX X0 w.heap.size w a x.vs) (ha : a = none → c0 = 0) (hz : tkE x ⟨11, nm, ot, fr, tt⟩ dn = 0) :
  Calls Tryz.prog 20 #[viewA x a c0, opA ⟨11, nm, ot, fr, tt⟩ da dn dc] w fun e w' => DoD X0 w (refX x ⟨11, nm, ot, fr, tt⟩) 0 e w' := by
 have hR := hR0.rdV
 obtain ⟨P, hP⟩ : ∃ P, P = w.heap.size := ⟨_, rfl⟩
 obtain ⟨O, hOe⟩ : ∃ O, O = w.heap.size + 1 := ⟨_, rfl⟩
 obtain ⟨R, hRe⟩ : ∃ R, R = w.heap.size + 1 + 1 := ⟨_, rfl⟩
 obtain ⟨W1, hW1⟩ : ∃ W1, W1 = ((w.alloc (.cells #[.int .i64 x.cp, .int .i64 x.fr, .int .i64 x.nx, .slice a x.vs.length c0] 24)).alloc (.cells #[.int .i64 11, .string nm, .string ot, .int .i64 fr, .int .i64 tt, .slice da dn dc] 42)).alloc (.cells #[.int .i64 0, .int .i64 0, .int .i64 0, .slice none 0 0] 24) := ⟨_, rfl⟩
 have b1 : Below w.heap.size w W1 := by rw [hW1]; exact (two_below _ _ _).trans ((below1 _ _).mono (by simp only [World.size_alloc]; omega))
 have hV : VwB W1 P x (.slice a x.vs.length c0) := by
  unfold VwB
  rw [hW1, hP, Below.heap_alloc _ _ _ (by simp only [World.size_alloc]; omega), Below.heap_alloc _ _ _ (by simp)]
  exact heap_new _ _
 have hO : W1.heap[O]? = some (.cells #[.int .i64 11, .string nm, .string ot, .int .i64 fr, .int .i64 tt, .slice da dn dc] 42 (0, 0)) := by
  have := heap_new (w.alloc (.cells #[.int .i64 x.cp, .int .i64 x.fr, .int .i64 x.nx, .slice a x.vs.length c0] 24)) (.cells #[.int .i64 11, .string nm, .string ot, .int .i64 fr, .int .i64 tt, .slice da dn dc] 42)
  rw [World.size_alloc, ← hOe] at this
  rw [hW1, Below.heap_alloc _ _ _ (by simp only [World.size_alloc]; omega)]
  exact this
 have hRb : VwB W1 R VW0 (.slice none 0 0) := by
  have := heap_new ((w.alloc (.cells #[.int .i64 x.cp, .int .i64 x.fr, .int .i64 x.nx, .slice a x.vs.length c0] 24)).alloc (.cells #[.int .i64 11, .string nm, .string ot, .int .i64 fr, .int .i64 tt, .slice da dn dc] 42)) (.cells #[.int .i64 0, .int .i64 0, .int .i64 0, .slice none 0 0] 24)
  rw [World.size_alloc, World.size_alloc, ← hRe, ← hW1] at this
  exact this
 have hl : x.vs.length ≤ 16777000 := by have := hM.len; omega
 have HB1 := hid b1
 have HV := hid hV
 have HRb := hid hRb
 have HW1 := hid hW1
 have HPO := hid (And.intro hP.symm (And.intro hOe.symm hRe.symm))
 have HPR : Hid (w.heap.size = P ∧ P + 1 = O ∧ O + 1 = R) := hid (by omega)
 have HOc : Hid (∀ u, Below W1.heap.size W1 u → u.cell? ⟨O, 0, none⟩ = some (.int .i64 11) ∧ u.cell? ⟨O, 1, none⟩ = some (.string nm) ∧ u.cell? ⟨O, 2, none⟩ = some (.string ot) ∧ u.cell? ⟨O, 3, none⟩ = some (.int .i64 fr) ∧ u.cell? ⟨O, 4, none⟩ = some (.int .i64 tt) ∧ u.cell? ⟨O, 5, none⟩ = some (.slice da dn dc)) := hid (fun u hu => by
  have := (hu.block O (Array.getElem?_eq_some_iff.1 hO).1).trans hO
  simp [World.cell?, this])
 have hR1 := (hR.below b1).mono b1.size
 have HRf := hid (refused_any x a c0 ⟨11, nm, ot, fr, tt⟩ da dn dc W1 hM hok hR1)
 have HR1 := hid hR1
 have HR0 := hid hR0
 obtain ⟨X, hXd⟩ : ∃ X : Nat → Prop, X = fun q => X0 q ∨ (w.heap.size ≤ q ∧ q < W1.heap.size) := ⟨_, rfl⟩
 have HXd := hid hXd
 have HX1 : Hid (∀ q, X q → q < W1.heap.size) := hid (fun q hq => by rw [hXd] at hq; exact hq.elim (fun h => by have := hX0 q h; have := b1.size; omega) (fun h => h.2))
 have HXS : Hid (∀ q, X0 q → X q) := hid (fun q hq => by rw [hXd]; exact .inl hq)
 have HXP : Hid (X P ∧ X R) := hid (by have h1 := hV.lt; have h2 := hRb.lt; rw [hXd]; exact ⟨.inr ⟨by omega, h1⟩, .inr ⟨by omega, h2⟩⟩)
 have HR9 : Hid (RdVX X W1.heap.size W1 a x.vs) := hid (((hR0.sup (fun q hq => by rw [hXd] at hq; exact hq.imp id (fun h => h.1))).below b1).mono b1.size)
 obtain ⟨c0', c1, c2, c3, c4, c5⟩ := HOc.out W1 (Below.refl _ _)
 obtain ⟨⟨p0, p1, p2, p3⟩, _⟩ := hV.cs
 rw [hW1] at c0' c1 c2 c3 c4 c5 p0 p1 p2 p3
 have hE : refX x ⟨11, nm, ot, fr, tt⟩ = ⟨tt, x.fr, x.nx, x.vs⟩ := by unfold refX; rw [if_pos (show ((⟨11, nm, ot, fr, tt⟩ : OW)).k = 11 from rfl)]
 rw [hz] at HRf
 rw [hE]
 have HA := hid ha
 clear hP hOe hRe hW1 b1 hV hO hRb hR hR1 hM hok hXd hR0 hX0 hl hz ha hE
 dsimp only [viewA, opA] at *
 go_enter Tryz.func20, Tryz.ntmps20
 go_wp2_with fail
 rw [← HW1.out]
 try rw [HPO.out.2.2]
 try rw [HPO.out.2.1]
 try rw [HPO.out.1]
 refine HRf.out.mono ?_
 rintro e w2 ⟨rfl, hb2⟩
 clear c0' c1 c2 c3 c4 c5 p0 p1 p2 p3
 obtain ⟨c0', c1, c2, c3, c4, c5⟩ := HOc.out w2 hb2
 have hV2 := HV.out.keep (hb2.block _ HV.out.lt)
 have hR2 := HRb.out.keep (hb2.block _ HRb.out.lt)
 obtain ⟨⟨p0, p1, p2, p3⟩, pf⟩ := hV2.cs
 obtain ⟨⟨r0, r1, r2, r3⟩, rf⟩ := hR2.cs
 obtain ⟨w3, hw3⟩ : ∃ w3, w3 = w2.setCell ⟨P, 0, none⟩ (.int .i64 tt) := ⟨_, rfl⟩
 have e3 : But (fun q => q = P) w2 w3 := by rw [hw3]; exact (But.refl (fun q => q = P) w2).setCell (p := ⟨P, 0, none⟩) rfl _
 have hbw : Below w.heap.size w w2 := HB1.out.trans (hb2.mono HB1.out.size)
 have hbF : Below w.heap.size w w3 := hbw.trans (e3.below hbw.size (fun q hq e => by have := HPR.out; omega))
 have hRF : VwB w3 R VW0 (.slice none 0 0) := hR2.keep (e3.block _ hR2.lt (by have := HPR.out; omega))
 have HFIN : Hid (∀ yw, yw = put4 w3 R ⟨tt, x.fr, x.nx, x.vs⟩ (.slice a x.vs.length c0) → VwB yw R ⟨tt, x.fr, x.nx, x.vs⟩ (.slice a x.vs.length c0) ∧ DoD X0 w ⟨tt, x.fr, x.nx, x.vs⟩ 0 (.returned (.tuple #[.agg #[.int .i64 (⟨tt, x.fr, x.nx, x.vs⟩ : VW).cp, .int .i64 (⟨tt, x.fr, x.nx, x.vs⟩ : VW).fr, .int .i64 (⟨tt, x.fr, x.nx, x.vs⟩ : VW).nx, .slice a x.vs.length c0], .int .i64 0])) yw) := hid (by
  rintro yw rfl
  have bt := but_put4 w3 R ⟨tt, x.fr, x.nx, x.vs⟩ (.slice a x.vs.length c0)
  have hB : Below w.heap.size w w3 := hbF
  have hBy := hB.trans (bt.below hB.size (fun q hq e => by have := HPR.out; omega))
  refine ⟨hRF.put4, ?_⟩
  exact ⟨a, c0, rfl, (HR0.out.below hBy).mono hBy.size, HA.out, hBy⟩)
 have rf0 := rf 0
 have rf1 := rf 1
 have rf2 := rf 2
 have rf3 := rf 3
 have hPR : ¬ (P = R) := by have := HPR.out; omega
 have hRP : ¬ (R = P) := fun e => hPR e.symm
 rw [hw3] at HFIN
 clear hbF hRF hV2 hR2 hb2 hw3 e3 hbw
 dsimp only [VW0] at r0 r1 r2 r3
 go_wp2_with fail
 exact bodyPost_ret (results_row_tmp rfl _ _ R 24 _ (0, 0) _ (.int .i64 0) rfl rfl (HFIN.out _ rfl).1 Tryz.underlying24 rfl (by kernel_rfl)) rfl (HFIN.out _ rfl).2
set_option maxRecDepth 100000 in
set_option maxHeartbeats 8000000 in
theorem do_D (x : VW) (a : Option Addr) (c0 : Nat) (nm ot : ByteArray) (fr tt : Int) (da : Option Addr) (dn dc : Nat) (w : World) (hM : MayP x) (hok : okW ⟨6, nm, ot, fr, tt⟩) (X0 : Nat → Prop) (hX0 : ∀ q, X0 q → q < w.heap.size) (hR0 : RdVX X0 w.heap.size w a x.vs) (k : Nat) (hp : plcF x.vs nm 0 = (k : Int)) (hz : tkE x ⟨6, nm, ot, fr, tt⟩ dn = 0) :
  Calls Tryz.prog 20 #[viewA x a c0, opA ⟨6, nm, ot, fr, tt⟩ da dn dc] w fun e w' => DoD X0 w (refX x ⟨6, nm, ot, fr, tt⟩) 0 e w' := by
 have hR := hR0.rdV
 obtain ⟨P, hP⟩ : ∃ P, P = w.heap.size := ⟨_, rfl⟩
 obtain ⟨O, hOe⟩ : ∃ O, O = w.heap.size + 1 := ⟨_, rfl⟩
 obtain ⟨R, hRe⟩ : ∃ R, R = w.heap.size + 1 + 1 := ⟨_, rfl⟩
 obtain ⟨W1, hW1⟩ : ∃ W1, W1 = ((w.alloc (.cells #[.int .i64 x.cp, .int .i64 x.fr, .int .i64 x.nx, .slice a x.vs.length c0] 24)).alloc (.cells #[.int .i64 6, .string nm, .string ot, .int .i64 fr, .int .i64 tt, .slice da dn dc] 42)).alloc (.cells #[.int .i64 0, .int .i64 0, .int .i64 0, .slice none 0 0] 24) := ⟨_, rfl⟩
 have b1 : Below w.heap.size w W1 := by rw [hW1]; exact (two_below _ _ _).trans ((below1 _ _).mono (by simp only [World.size_alloc]; omega))
 have hV : VwB W1 P x (.slice a x.vs.length c0) := by
  unfold VwB
  rw [hW1, hP, Below.heap_alloc _ _ _ (by simp only [World.size_alloc]; omega), Below.heap_alloc _ _ _ (by simp)]
  exact heap_new _ _
 have hO : W1.heap[O]? = some (.cells #[.int .i64 6, .string nm, .string ot, .int .i64 fr, .int .i64 tt, .slice da dn dc] 42 (0, 0)) := by
  have := heap_new (w.alloc (.cells #[.int .i64 x.cp, .int .i64 x.fr, .int .i64 x.nx, .slice a x.vs.length c0] 24)) (.cells #[.int .i64 6, .string nm, .string ot, .int .i64 fr, .int .i64 tt, .slice da dn dc] 42)
  rw [World.size_alloc, ← hOe] at this
  rw [hW1, Below.heap_alloc _ _ _ (by simp only [World.size_alloc]; omega)]
  exact this
 have hRb : VwB W1 R VW0 (.slice none 0 0) := by
  have := heap_new ((w.alloc (.cells #[.int .i64 x.cp, .int .i64 x.fr, .int .i64 x.nx, .slice a x.vs.length c0] 24)).alloc (.cells #[.int .i64 6, .string nm, .string ot, .int .i64 fr, .int .i64 tt, .slice da dn dc] 42)) (.cells #[.int .i64 0, .int .i64 0, .int .i64 0, .slice none 0 0] 24)
  rw [World.size_alloc, World.size_alloc, ← hRe, ← hW1] at this
  exact this
 have hl : x.vs.length ≤ 16777000 := by have := hM.len; omega
 have HB1 := hid b1
 have HV := hid hV
 have HRb := hid hRb
 have HW1 := hid hW1
 have HPO := hid (And.intro hP.symm (And.intro hOe.symm hRe.symm))
 have HPR : Hid (w.heap.size = P ∧ P + 1 = O ∧ O + 1 = R) := hid (by omega)
 have HOc : Hid (∀ u, Below W1.heap.size W1 u → u.cell? ⟨O, 0, none⟩ = some (.int .i64 6) ∧ u.cell? ⟨O, 1, none⟩ = some (.string nm) ∧ u.cell? ⟨O, 2, none⟩ = some (.string ot) ∧ u.cell? ⟨O, 3, none⟩ = some (.int .i64 fr) ∧ u.cell? ⟨O, 4, none⟩ = some (.int .i64 tt) ∧ u.cell? ⟨O, 5, none⟩ = some (.slice da dn dc)) := hid (fun u hu => by
  have := (hu.block O (Array.getElem?_eq_some_iff.1 hO).1).trans hO
  simp [World.cell?, this])
 have hR1 := (hR.below b1).mono b1.size
 have HRf := hid (refused_any x a c0 ⟨6, nm, ot, fr, tt⟩ da dn dc W1 hM hok hR1)
 have HR1 := hid hR1
 have HR0 := hid hR0
 obtain ⟨X, hXd⟩ : ∃ X : Nat → Prop, X = fun q => X0 q ∨ (w.heap.size ≤ q ∧ q < W1.heap.size) := ⟨_, rfl⟩
 have HXd := hid hXd
 have HX1 : Hid (∀ q, X q → q < W1.heap.size) := hid (fun q hq => by rw [hXd] at hq; exact hq.elim (fun h => by have := hX0 q h; have := b1.size; omega) (fun h => h.2))
 have HXS : Hid (∀ q, X0 q → X q) := hid (fun q hq => by rw [hXd]; exact .inl hq)
 have HXP : Hid (X P ∧ X R) := hid (by have h1 := hV.lt; have h2 := hRb.lt; rw [hXd]; exact ⟨.inr ⟨by omega, h1⟩, .inr ⟨by omega, h2⟩⟩)
 have HR9 : Hid (RdVX X W1.heap.size W1 a x.vs) := hid (((hR0.sup (fun q hq => by rw [hXd] at hq; exact hq.imp id (fun h => h.1))).below b1).mono b1.size)
 obtain ⟨c0', c1, c2, c3, c4, c5⟩ := HOc.out W1 (Below.refl _ _)
 obtain ⟨⟨p0, p1, p2, p3⟩, _⟩ := hV.cs
 rw [hW1] at c0' c1 c2 c3 c4 c5 p0 p1 p2 p3
 have hE : refX x ⟨6, nm, ot, fr, tt⟩ = ⟨x.cp, x.fr, x.nx, x.vs.eraseIdx k⟩ := by
  unfold refX
  rw [if_neg (by show ¬ ((6 : Int) = 11); decide), if_neg (by show ¬ (mkK 6 = true); decide), if_pos (show ((⟨6, nm, ot, fr, tt⟩ : OW)).k = 6 from rfl), hp]
  rfl
 rw [hz] at HRf
 rw [hE]
 have HMk := hid (fun u => makes_any 6 (by decide) (by decide) u)
 have HFn := hid (fun u (hu : Below W1.heap.size W1 u) => by
  have := find_any x a c0 nm u (by omega) ((hR1.below hu).mono hu.size)
  rw [hp] at this
  exact this)
 have HWo := hid (fun u (hu : Below W1.heap.size W1 u) => without_any X a c0 k x.vs u (by omega) ((HR9.out.below hu).mono hu.size))
 clear hP hOe hRe hW1 b1 hV hO hRb hR hR1 hM hok hXd hR0 hX0 hl hz hE hp HR1 HR0 HR9
 dsimp only [viewA, opA] at *
 go_enter Tryz.func20, Tryz.ntmps20
 go_wp2_with fail
 rw [← HW1.out]
 try rw [HPO.out.2.2]
 try rw [HPO.out.2.1]
 try rw [HPO.out.1]
 refine HRf.out.mono ?_
 rintro e w2 ⟨rfl, hb2⟩
 clear c0' c1 c2 c3 c4 c5 p0 p1 p2 p3
 obtain ⟨c0', c1, c2, c3, c4, c5⟩ := HOc.out w2 hb2
 have hV2 := HV.out.keep (hb2.block _ HV.out.lt)
 have hR2 := HRb.out.keep (hb2.block _ HRb.out.lt)
 obtain ⟨⟨p0, p1, p2, p3⟩, pf⟩ := hV2.cs
 obtain ⟨⟨r0, r1, r2, r3⟩, rf⟩ := hR2.cs
 have HB2 := hid hb2
 have HMk2 := hid (HMk.out w2)
 clear hb2 hV2 hR2 r0 r1 r2 r3 rf pf HMk
 go_wp2_with fail
 refine HMk2.out.mono ?_
 rintro e w3 ⟨rfl, hw⟩
 have hw := hw.symm
 subst hw
 clear HMk2
 have HF2 := hid (HFn.out w2 HB2.out)
 clear HFn
 dsimp only [viewA] at *
 go_wp2_with fail
 refine HF2.out.mono ?_
 rintro e w4 ⟨rfl, hb4'⟩
 have hb4 : Below W1.heap.size W1 w4 := HB2.out.trans (hb4'.mono HB2.out.size)
 have HB4 := hid hb4
 have HW4 := hid (HWo.out w4 hb4)
 clear c0' c1 c2 c3 c4 c5 p0 p1 p2 p3 hb4 hb4' HF2 HWo
 obtain ⟨c0', c1, c2, c3, c4, c5⟩ := HOc.out w4 HB4.out
 obtain ⟨⟨p0, p1, p2, p3⟩, _⟩ := (HV.out.keep (HB4.out.block _ HV.out.lt)).cs
 go_wp2_with fail
 refine HW4.out.mono ?_
 rintro e w5 ⟨v5, rfl, ⟨us, hS⟩, hb5'⟩
 have hb5 : Below W1.heap.size W1 w5 := HB4.out.trans (hb5'.mono HB4.out.size)
 obtain ⟨ra, rc, rfl, hRR, hRn⟩ := hS.rd hb5'.size (fun q hq => by have := HX1.out q hq; have := HB4.out.size; omega)
 clear c0' c1 c2 c3 c4 c5 p0 p1 p2 p3
 obtain ⟨c0', c1, c2, c3, c4, c5⟩ := HOc.out w5 hb5
 have hV5 := HV.out.keep (hb5.block _ HV.out.lt)
 have hR5 := HRb.out.keep (hb5.block _ HRb.out.lt)
 obtain ⟨⟨p0, p1, p2, p3⟩, pf⟩ := hV5.cs
 obtain ⟨⟨r0, r1, r2, r3⟩, rf⟩ := hR5.cs
 have pf3 := pf 3
 obtain ⟨w6, hw6⟩ : ∃ w6, w6 = w5.setCell ⟨P, 3, none⟩ (.slice ra (x.vs.eraseIdx k).length rc) := ⟨_, rfl⟩
 have e6 : But (fun q => q = P) w5 w6 := by rw [hw6]; exact (But.refl (fun q => q = P) w5).setCell (p := ⟨P, 3, none⟩) rfl _
 have hbw : Below w.heap.size w w5 := HB1.out.trans (hb5.mono HB1.out.size)
 have hbF : Below w.heap.size w w6 := hbw.trans (e6.below hbw.size (fun q hq e => by have := HPR.out; omega))
 have hRF : VwB w6 R VW0 (.slice none 0 0) := hR5.keep (e6.block _ hR5.lt (by have := HPR.out; omega))
 have HFIN : Hid (∀ yw, yw = put4 w6 R ⟨x.cp, x.fr, x.nx, x.vs.eraseIdx k⟩ (.slice ra (x.vs.eraseIdx k).length rc) → VwB yw R ⟨x.cp, x.fr, x.nx, x.vs.eraseIdx k⟩ (.slice ra (x.vs.eraseIdx k).length rc) ∧ DoD X0 w ⟨x.cp, x.fr, x.nx, x.vs.eraseIdx k⟩ 0 (.returned (.tuple #[.agg #[.int .i64 (⟨x.cp, x.fr, x.nx, x.vs.eraseIdx k⟩ : VW).cp, .int .i64 (⟨x.cp, x.fr, x.nx, x.vs.eraseIdx k⟩ : VW).fr, .int .i64 (⟨x.cp, x.fr, x.nx, x.vs.eraseIdx k⟩ : VW).nx, .slice ra (x.vs.eraseIdx k).length rc], .int .i64 0])) yw) := hid (by
  rintro yw rfl
  have bt := but_put4 w6 R ⟨x.cp, x.fr, x.nx, x.vs.eraseIdx k⟩ (.slice ra (x.vs.eraseIdx k).length rc)
  have hB : Below w.heap.size w w6 := hbF
  have hBy := hB.trans (bt.below hB.size (fun q hq e => by have := HPR.out; omega))
  refine ⟨hRF.put4, ?_⟩
  refine ⟨ra, rc, rfl, (hRR.but (by have := e6.size; have := bt.size; omega) (fun q hq hn => ?_)).sup (fun q hq => .inl (HXS.out q hq)), hRn, hBy⟩
  have h1 := HXP.out
  have h6 := e6.size
  exact (bt.block q (by omega) (fun e => hn (by rw [e]; exact h1.2))).trans (e6.block q hq (fun e => hn (by rw [e]; exact h1.1))))
 have rf0 := rf 0
 have rf1 := rf 1
 have rf2 := rf 2
 have rf3 := rf 3
 have hPR : ¬ (P = R) := by have := HPR.out; omega
 have hRP : ¬ (R = P) := fun e => hPR e.symm
 rw [hw6] at HFIN
 clear hbF hRF hV5 hR5 hb5 hb5' hw6 e6 hbw hS hRR
 dsimp only [VW0] at r0 r1 r2 r3
 go_wp2_with fail
 exact bodyPost_ret (results_row_tmp rfl _ _ R 24 _ (0, 0) _ (.int .i64 0) rfl rfl (HFIN.out _ rfl).1 Tryz.underlying24 rfl (by kernel_rfl)) rfl (HFIN.out _ rfl).2
set_option maxRecDepth 100000 in
set_option maxHeartbeats 8000000 in
theorem do_M (x : VW) (a : Option Addr) (c0 : Nat) (o : OW) (da : Option Addr) (dn dc : Nat) (w : World) (hM : MayP x) (hok : okW o) (X0 : Nat → Prop) (hX0 : ∀ q, X0 q → q < w.heap.size) (hR0 : RdVX X0 w.heap.size w a x.vs) (hk : mkK o.k = true) (hz : tkE x o dn = 0) :
  Calls Tryz.prog 20 #[viewA x a c0, opA o da dn dc] w fun e w' => DoD X0 w (refX x o) 0 e w' := by
 have hR := hR0.rdV
 obtain ⟨P, hP⟩ : ∃ P, P = w.heap.size := ⟨_, rfl⟩
 obtain ⟨O, hOe⟩ : ∃ O, O = w.heap.size + 1 := ⟨_, rfl⟩
 obtain ⟨R, hRe⟩ : ∃ R, R = w.heap.size + 1 + 1 := ⟨_, rfl⟩
 obtain ⟨W1, hW1⟩ : ∃ W1, W1 = ((w.alloc (.cells #[.int .i64 x.cp, .int .i64 x.fr, .int .i64 x.nx, .slice a x.vs.length c0] 24)).alloc (.cells #[.int .i64 o.k, .string o.nm, .string o.ot, .int .i64 o.fr, .int .i64 o.tt, .slice da dn dc] 42)).alloc (.cells #[.int .i64 0, .int .i64 0, .int .i64 0, .slice none 0 0] 24) := ⟨_, rfl⟩
 have b1 : Below w.heap.size w W1 := by rw [hW1]; exact (two_below _ _ _).trans ((below1 _ _).mono (by simp only [World.size_alloc]; omega))
 have hV : VwB W1 P x (.slice a x.vs.length c0) := by
  unfold VwB
  rw [hW1, hP, Below.heap_alloc _ _ _ (by simp only [World.size_alloc]; omega), Below.heap_alloc _ _ _ (by simp)]
  exact heap_new _ _
 have hO : W1.heap[O]? = some (.cells #[.int .i64 o.k, .string o.nm, .string o.ot, .int .i64 o.fr, .int .i64 o.tt, .slice da dn dc] 42 (0, 0)) := by
  have := heap_new (w.alloc (.cells #[.int .i64 x.cp, .int .i64 x.fr, .int .i64 x.nx, .slice a x.vs.length c0] 24)) (.cells #[.int .i64 o.k, .string o.nm, .string o.ot, .int .i64 o.fr, .int .i64 o.tt, .slice da dn dc] 42)
  rw [World.size_alloc, ← hOe] at this
  rw [hW1, Below.heap_alloc _ _ _ (by simp only [World.size_alloc]; omega)]
  exact this
 have hRb : VwB W1 R VW0 (.slice none 0 0) := by
  have := heap_new ((w.alloc (.cells #[.int .i64 x.cp, .int .i64 x.fr, .int .i64 x.nx, .slice a x.vs.length c0] 24)).alloc (.cells #[.int .i64 o.k, .string o.nm, .string o.ot, .int .i64 o.fr, .int .i64 o.tt, .slice da dn dc] 42)) (.cells #[.int .i64 0, .int .i64 0, .int .i64 0, .slice none 0 0] 24)
  rw [World.size_alloc, World.size_alloc, ← hRe, ← hW1] at this
  exact this
 have hl : x.vs.length ≤ 16777000 := by have := hM.len; omega
 have HB1 := hid b1
 have HV := hid hV
 have HRb := hid hRb
 have HW1 := hid hW1
 have HPO := hid (And.intro hP.symm (And.intro hOe.symm hRe.symm))
 have HPR : Hid (w.heap.size = P ∧ P + 1 = O ∧ O + 1 = R) := hid (by omega)
 have HOc : Hid (∀ u, Below W1.heap.size W1 u → u.cell? ⟨O, 0, none⟩ = some (.int .i64 o.k) ∧ u.cell? ⟨O, 1, none⟩ = some (.string o.nm) ∧ u.cell? ⟨O, 2, none⟩ = some (.string o.ot) ∧ u.cell? ⟨O, 3, none⟩ = some (.int .i64 o.fr) ∧ u.cell? ⟨O, 4, none⟩ = some (.int .i64 o.tt) ∧ u.cell? ⟨O, 5, none⟩ = some (.slice da dn dc)) := hid (fun u hu => by
  have := (hu.block O (Array.getElem?_eq_some_iff.1 hO).1).trans hO
  simp [World.cell?, this])
 have hR1 := (hR.below b1).mono b1.size
 have HRf := hid (refused_any x a c0 o da dn dc W1 hM hok hR1)
 have HR1 := hid hR1
 have HR0 := hid hR0
 obtain ⟨X, hXd⟩ : ∃ X : Nat → Prop, X = fun q => X0 q ∨ (w.heap.size ≤ q ∧ q < W1.heap.size) := ⟨_, rfl⟩
 have HXd := hid hXd
 have HX1 : Hid (∀ q, X q → q < W1.heap.size) := hid (fun q hq => by rw [hXd] at hq; exact hq.elim (fun h => by have := hX0 q h; have := b1.size; omega) (fun h => h.2))
 have HXS : Hid (∀ q, X0 q → X q) := hid (fun q hq => by rw [hXd]; exact .inl hq)
 have HXP : Hid (X P ∧ X R) := hid (by have h1 := hV.lt; have h2 := hRb.lt; rw [hXd]; exact ⟨.inr ⟨by omega, h1⟩, .inr ⟨by omega, h2⟩⟩)
 have HR9 : Hid (RdVX X W1.heap.size W1 a x.vs) := hid (((hR0.sup (fun q hq => by rw [hXd] at hq; exact hq.imp id (fun h => h.1))).below b1).mono b1.size)
 obtain ⟨c0', c1, c2, c3, c4, c5⟩ := HOc.out W1 (Below.refl _ _)
 obtain ⟨⟨p0, p1, p2, p3⟩, _⟩ := hV.cs
 rw [hW1] at c0' c1 c2 c3 c4 c5 p0 p1 p2 p3
 obtain ⟨⟨k1, k2⟩, _, _⟩ := tk_ok hM hz
 have hk11 : ¬ o.k = 11 := by intro e; rw [e] at hk; exact absurd hk (by decide)
 obtain ⟨y, hy⟩ : ∃ y, y = madP x o (plcF x.vs o.ot 0) := ⟨_, rfl⟩
 have hw64 : wrap64 (x.nx + 1) = x.nx + 1 := by have h1 := hM.n1; have h2 := hM.n2; unfold wrap64; omega
 have hw64' : IntKind.i64.wrap (x.nx + 1) = x.nx + 1 := by have h1 := hM.n1; have h2 := hM.n2; rw [IntKind.wrap_i64]; omega
 have hE : refX x o = ⟨x.cp, x.fr, x.nx + 1, ladP x.vs y⟩ := by unfold refX; rw [if_neg hk11, if_pos hk, ← hy, hw64]
 rw [hE]
 have HMk := hid (fun u => makes_any o.k k1 k2 u)
 have HMd := hid (fun u (hu : Below W1.heap.size W1 u) => made_any X x a c0 o da dn dn dc u hM hz hk ((HR9.out.below hu).mono hu.size))
 rw [hz] at HRf
 rw [hk] at HMk
 rw [← hy] at HMd
 have HLd := hid (fun u ya yc (hu : Below W1.heap.size W1 u) (q1 : RdR u.heap.size u ya y.mp) (q2 : ya = none → yc = 0) (q3 : NoX X ya y.mp) => laid_any X a c0 x.vs y ya yc u (by omega) (fun q hq => by have := HX1.out q hq; have := hu.size; omega) ((HR9.out.below hu).mono hu.size) q1 q2 q3)
 have HSS : Hid (∀ u, Below W1.heap.size W1 u → (fun u => (u.cell? ⟨P, 0, none⟩ = some (.int .i64 x.cp) ∧ u.cell? ⟨P, 1, none⟩ = some (.int .i64 x.fr) ∧ u.cell? ⟨P, 2, none⟩ = some (.int .i64 x.nx) ∧ u.cell? ⟨P, 3, none⟩ = some (.slice a x.vs.length c0)) ∧ u.cell? ⟨O, 0, none⟩ = some (.int .i64 o.k) ∧ u.cell? ⟨O, 1, none⟩ = some (.string o.nm) ∧ u.cell? ⟨O, 2, none⟩ = some (.string o.ot) ∧ u.cell? ⟨O, 3, none⟩ = some (.int .i64 o.fr) ∧ u.cell? ⟨O, 4, none⟩ = some (.int .i64 o.tt) ∧ u.cell? ⟨O, 5, none⟩ = some (.slice da dn dc)) u) := hid (fun u hu => ⟨(HV.out.keep (hu.block P HV.out.lt)).cs.1, HOc.out u hu⟩)
 have hb11 : decide (o.k = 11) = false := decide_eq_false hk11
 clear hP hOe hRe hW1 b1 hV hO hRb hR hR1 hM hok hXd hR0 hX0 hl hz hE hy HR1 HR0 HR9 hk k1 k2
 dsimp only [volA] at HMd HLd
 have mixed : Tryz.prog.follows Departure.mixedOrders = true := by kernel_rfl
 dsimp only [viewA, opA] at *
 go_enter Tryz.func20, Tryz.ntmps20
 go_wp2_with fail
 rw [← HW1.out]
 try rw [HPO.out.2.2]
 try rw [HPO.out.2.1]
 try rw [HPO.out.1]
 refine HRf.out.mono ?_
 rintro e w2 ⟨rfl, hb2⟩
 clear c0' c1 c2 c3 c4 c5 p0 p1 p2 p3
 obtain ⟨c0', c1, c2, c3, c4, c5⟩ := HOc.out w2 hb2
 have hV2 := HV.out.keep (hb2.block _ HV.out.lt)
 have hR2 := HRb.out.keep (hb2.block _ HRb.out.lt)
 obtain ⟨⟨p0, p1, p2, p3⟩, pf⟩ := hV2.cs
 obtain ⟨⟨r0, r1, r2, r3⟩, rf⟩ := hR2.cs
 have HB2 := hid hb2
 have HMk2 := hid (HMk.out w2)
 clear hb2 hV2 hR2 r0 r1 r2 r3 rf pf HMk
 go_wp2_with fail
 refine HMk2.out.mono ?_
 rintro e w3 ⟨rfl, hw⟩
 have hw := hw.symm
 subst hw
 clear HMk2
 go_wp2_with fail
 clear p0 p1 p2 p3 c0' c1 c2 c3 c4 c5
 refine wp_region_last (S := (fun u => (u.cell? ⟨P, 0, none⟩ = some (.int .i64 x.cp) ∧ u.cell? ⟨P, 1, none⟩ = some (.int .i64 x.fr) ∧ u.cell? ⟨P, 2, none⟩ = some (.int .i64 x.nx) ∧ u.cell? ⟨P, 3, none⟩ = some (.slice a x.vs.length c0)) ∧ u.cell? ⟨O, 0, none⟩ = some (.int .i64 o.k) ∧ u.cell? ⟨O, 1, none⟩ = some (.string o.nm) ∧ u.cell? ⟨O, 2, none⟩ = some (.string o.ot) ∧ u.cell? ⟨O, 3, none⟩ = some (.int .i64 o.fr) ∧ u.cell? ⟨O, 4, none⟩ = some (.int .i64 o.tt) ∧ u.cell? ⟨O, 5, none⟩ = some (.slice da dn dc))) 7 7 (by kernel_rfl) (by kernel_rfl) (by kernel_rfl) (HSS.out _ (below_dr HB2.out)) (fun hSS => ?_)
 refine Ti 0 rfl ?_
 refine Ti 1 rfl ?_
 refine Ti 2 rfl ?_
 refine Ti 3 rfl ?_
 try simp only [Act.put, zA, zB, zC]
 refine Ri 4 rfl (fun K9 hK9 => ?_)
 go_simp
 go_at_call 41
 refine (HMd.out _ (below_dr HB2.out)).mono ?_
 rintro e w4 ⟨ya, yc, rfl, hy1, hy2, hy3, hb4'⟩
 have hb4 : Below W1.heap.size W1 w4 := (below_dr HB2.out).trans (hb4'.mono (below_dr HB2.out).size)
 have HB4 := hid hb4
 have HLx := hid (HLd.out w4 ya yc hb4 hy1 hy2 hy3)
 clear hy1 hy2 hy3 hb4 hb4'
 refine hK9.out _ _ (HSS.out _ HB4.out) (fun hSS => ?_)
 try simp only [Act.put, zA, zB, zC]
 refine Ri 5 rfl (fun K9 hK9 => ?_)
 go_simp
 go_at_call 40
 refine HLx.out.mono ?_
 rintro e w5 ⟨la, lc, rfl, hl1, hl2, hb5'⟩
 have hb5 : Below W1.heap.size W1 w5 := HB4.out.trans (hb5'.mono HB4.out.size)
 have hV5 := HV.out.keep (hb5.block _ HV.out.lt)
 have hR5 := HRb.out.keep (hb5.block _ HRb.out.lt)
 obtain ⟨⟨p0, p1, p2, p3⟩, pf⟩ := hV5.cs
 obtain ⟨⟨r0, r1, r2, r3⟩, rf⟩ := hR5.cs
 have pf3 := pf 3
 have pf2 := pf 2
 have HB5 := hid hb5
 have HL1 := hid hl1
 have HL2 := hid hl2
 have HV5 := hid hV5
 have HR5 := hid hR5
 clear hl1 hl2 hb5 hb5' hV5 hR5 HLx HB4
 refine hK9.out _ _ (HSS.out _ HB5.out) (fun hSS => ?_)
 try simp only [Act.put, zA, zB, zC]
 refine Ti 6 rfl ?_
 try simp only [Act.put, zA, zB, zC]
 refine Dn ?_
 refine last_step (L := 7) (o := ({ dst := none, op := Op.store 22 (Operand.tmp 33) (Operand.tmp 32), type := 0, pos := _, after := _, guard := none } : Oper)) rfl (fun K9 hK9 => ?_)
 go_simp
 refine hK9.out _ _ ?_
 try simp only [Act.put, zA, zB, zC]
 obtain ⟨w7, hw7⟩ : ∃ w7, w7 = (w5.setCell ⟨P, 3, none⟩ (.slice la (ladP x.vs y).length lc)).setCell ⟨P, 2, none⟩ (.int .i64 (x.nx + 1)) := ⟨_, rfl⟩
 have e6 : But (fun q => q = P) w5 w7 := by rw [hw7]; exact ((But.refl (fun q => q = P) w5).setCell (p := ⟨P, 3, none⟩) rfl _).setCell (p := ⟨P, 2, none⟩) rfl _
 have hbw : Below w.heap.size w w5 := HB1.out.trans (HB5.out.mono HB1.out.size)
 have hbF : Below w.heap.size w w7 := hbw.trans (e6.below hbw.size (fun q hq e => by have := HPR.out; omega))
 have hRF : VwB w7 R VW0 (.slice none 0 0) := HR5.out.keep (e6.block _ HR5.out.lt (by have := HPR.out; omega))
 have HFIN : Hid (∀ yw, yw = put4 w7 R ⟨x.cp, x.fr, x.nx + 1, ladP x.vs y⟩ (.slice la (ladP x.vs y).length lc) → VwB yw R ⟨x.cp, x.fr, x.nx + 1, ladP x.vs y⟩ (.slice la (ladP x.vs y).length lc) ∧ DoD X0 w ⟨x.cp, x.fr, x.nx + 1, ladP x.vs y⟩ 0 (.returned (.tuple #[.agg #[.int .i64 (⟨x.cp, x.fr, x.nx + 1, ladP x.vs y⟩ : VW).cp, .int .i64 (⟨x.cp, x.fr, x.nx + 1, ladP x.vs y⟩ : VW).fr, .int .i64 (⟨x.cp, x.fr, x.nx + 1, ladP x.vs y⟩ : VW).nx, .slice la (ladP x.vs y).length lc], .int .i64 0])) yw) := hid (by
  rintro yw rfl
  have bt := but_put4 w7 R ⟨x.cp, x.fr, x.nx + 1, ladP x.vs y⟩ (.slice la (ladP x.vs y).length lc)
  have hB : Below w.heap.size w w7 := hbF
  have hBy := hB.trans (bt.below hB.size (fun q hq e => by have := HPR.out; omega))
  refine ⟨hRF.put4, ?_⟩
  refine ⟨la, lc, rfl, (HL1.out.but (by have := e6.size; have := bt.size; omega) (fun q hq hn => ?_)).sup (fun q hq => .inl (HXS.out q hq)), HL2.out, hBy⟩
  have h1 := HXP.out
  have h6 := e6.size
  exact (bt.block q (by omega) (fun e => hn (by rw [e]; exact h1.2))).trans (e6.block q hq (fun e => hn (by rw [e]; exact h1.1))))
 have rf0 := rf 0
 have rf1 := rf 1
 have rf2 := rf 2
 have rf3 := rf 3
 have hPR : ¬ (P = R) := by have := HPR.out; omega
 have hRP : ¬ (R = P) := fun e => hPR e.symm
 rw [hw7] at HFIN
 clear hbF hRF hw7 e6 hbw
 dsimp only [VW0] at r0 r1 r2 r3
 go_wp2_with fail
 exact bodyPost_ret (results_row_tmp rfl _ _ R 24 _ (0, 0) _ (.int .i64 0) rfl rfl (HFIN.out _ rfl).1 Tryz.underlying24 rfl (by kernel_rfl)) rfl (HFIN.out _ rfl).2
set_option maxRecDepth 100000 in
set_option maxHeartbeats 8000000 in
theorem do_T (x : VW) (a : Option Addr) (c0 : Nat) (o : OW) (da : Option Addr) (dn dc : Nat) (w : World) (hM : MayP x) (hok : okW o) (X0 : Nat → Prop) (hX0 : ∀ q, X0 q → q < w.heap.size) (hR0 : RdVX X0 w.heap.size w a x.vs) (k : Nat) (hk : k < x.vs.length) (hp : plcF x.vs o.nm 0 = (k : Int)) (hm : mkK o.k = false) (h6 : o.k ≠ 6) (h11 : o.k ≠ 11) (hz : tkE x o dn = 0) :
  Calls Tryz.prog 20 #[viewA x a c0, opA o da dn dc] w fun e w' => DoD X0 w (refX x o) 0 e w' := by
 have hR := hR0.rdV
 obtain ⟨P, hP⟩ : ∃ P, P = w.heap.size := ⟨_, rfl⟩
 obtain ⟨O, hOe⟩ : ∃ O, O = w.heap.size + 1 := ⟨_, rfl⟩
 obtain ⟨R, hRe⟩ : ∃ R, R = w.heap.size + 1 + 1 := ⟨_, rfl⟩
 obtain ⟨W1, hW1⟩ : ∃ W1, W1 = ((w.alloc (.cells #[.int .i64 x.cp, .int .i64 x.fr, .int .i64 x.nx, .slice a x.vs.length c0] 24)).alloc (.cells #[.int .i64 o.k, .string o.nm, .string o.ot, .int .i64 o.fr, .int .i64 o.tt, .slice da dn dc] 42)).alloc (.cells #[.int .i64 0, .int .i64 0, .int .i64 0, .slice none 0 0] 24) := ⟨_, rfl⟩
 have b1 : Below w.heap.size w W1 := by rw [hW1]; exact (two_below _ _ _).trans ((below1 _ _).mono (by simp only [World.size_alloc]; omega))
 have hV : VwB W1 P x (.slice a x.vs.length c0) := by
  unfold VwB
  rw [hW1, hP, Below.heap_alloc _ _ _ (by simp only [World.size_alloc]; omega), Below.heap_alloc _ _ _ (by simp)]
  exact heap_new _ _
 have hO : W1.heap[O]? = some (.cells #[.int .i64 o.k, .string o.nm, .string o.ot, .int .i64 o.fr, .int .i64 o.tt, .slice da dn dc] 42 (0, 0)) := by
  have := heap_new (w.alloc (.cells #[.int .i64 x.cp, .int .i64 x.fr, .int .i64 x.nx, .slice a x.vs.length c0] 24)) (.cells #[.int .i64 o.k, .string o.nm, .string o.ot, .int .i64 o.fr, .int .i64 o.tt, .slice da dn dc] 42)
  rw [World.size_alloc, ← hOe] at this
  rw [hW1, Below.heap_alloc _ _ _ (by simp only [World.size_alloc]; omega)]
  exact this
 have hRb : VwB W1 R VW0 (.slice none 0 0) := by
  have := heap_new ((w.alloc (.cells #[.int .i64 x.cp, .int .i64 x.fr, .int .i64 x.nx, .slice a x.vs.length c0] 24)).alloc (.cells #[.int .i64 o.k, .string o.nm, .string o.ot, .int .i64 o.fr, .int .i64 o.tt, .slice da dn dc] 42)) (.cells #[.int .i64 0, .int .i64 0, .int .i64 0, .slice none 0 0] 24)
  rw [World.size_alloc, World.size_alloc, ← hRe, ← hW1] at this
  exact this
 have hl : x.vs.length ≤ 16777000 := by have := hM.len; omega
 have HB1 := hid b1
 have HV := hid hV
 have HRb := hid hRb
 have HW1 := hid hW1
 have HPO := hid (And.intro hP.symm (And.intro hOe.symm hRe.symm))
 have HPR : Hid (w.heap.size = P ∧ P + 1 = O ∧ O + 1 = R) := hid (by omega)
 have HOc : Hid (∀ u, Below W1.heap.size W1 u → u.cell? ⟨O, 0, none⟩ = some (.int .i64 o.k) ∧ u.cell? ⟨O, 1, none⟩ = some (.string o.nm) ∧ u.cell? ⟨O, 2, none⟩ = some (.string o.ot) ∧ u.cell? ⟨O, 3, none⟩ = some (.int .i64 o.fr) ∧ u.cell? ⟨O, 4, none⟩ = some (.int .i64 o.tt) ∧ u.cell? ⟨O, 5, none⟩ = some (.slice da dn dc)) := hid (fun u hu => by
  have := (hu.block O (Array.getElem?_eq_some_iff.1 hO).1).trans hO
  simp [World.cell?, this])
 have hR1 := (hR.below b1).mono b1.size
 have HRf := hid (refused_any x a c0 o da dn dc W1 hM hok hR1)
 have HR1 := hid hR1
 have HR0 := hid hR0
 obtain ⟨X, hXd⟩ : ∃ X : Nat → Prop, X = fun q => X0 q ∨ (w.heap.size ≤ q ∧ q < W1.heap.size) := ⟨_, rfl⟩
 have HXd := hid hXd
 have HX1 : Hid (∀ q, X q → q < W1.heap.size) := hid (fun q hq => by rw [hXd] at hq; exact hq.elim (fun h => by have := hX0 q h; have := b1.size; omega) (fun h => h.2))
 have HXS : Hid (∀ q, X0 q → X q) := hid (fun q hq => by rw [hXd]; exact .inl hq)
 have HXP : Hid (X P ∧ X R) := hid (by have h1 := hV.lt; have h2 := hRb.lt; rw [hXd]; exact ⟨.inr ⟨by omega, h1⟩, .inr ⟨by omega, h2⟩⟩)
 have HR9 : Hid (RdVX X W1.heap.size W1 a x.vs) := hid (((hR0.sup (fun q hq => by rw [hXd] at hq; exact hq.imp id (fun h => h.1))).below b1).mono b1.size)
 obtain ⟨c0', c1, c2, c3, c4, c5⟩ := HOc.out W1 (Below.refl _ _)
 obtain ⟨⟨p0, p1, p2, p3⟩, _⟩ := hV.cs
 rw [hW1] at c0' c1 c2 c3 c4 c5 p0 p1 p2 p3
 obtain ⟨⟨k1, k2⟩, _, _⟩ := tk_ok hM hz
 obtain ⟨y, hy⟩ : ∃ y, y = turP x o (plcF x.vs o.ot 0) x.vs[k] := ⟨_, rfl⟩
 have hE : refX x o = ⟨x.cp, x.fr, x.nx, ladP (x.vs.eraseIdx k) y⟩ := by
  unfold refX
  rw [if_neg h11, if_neg (by rw [hm]; simp), if_neg h6, hp, volAt_eq hk, ← hy]
  rfl
 rw [hE]
 have HER : Hid ((x.vs.eraseIdx k).length ≤ 16777000) := hid (by have := List.length_eraseIdx_le x.vs k; omega)
 have HMk := hid (fun u => makes_any o.k k1 k2 u)
 rw [hz] at HRf
 rw [hm] at HMk
 obtain ⟨g, off, rfl, hgl, hc⟩ := hR.resolve_left (fun e => by rw [e] at hk; simp at hk)
 obtain ⟨ma, mc, hVC, hRm, hmn⟩ := hc k hk
 have HTd := hid (fun u (X' : Nat → Prop) (hu : Below W1.heap.size W1 u) (q1 : ∀ q, X' q → q < u.heap.size) (q2 : RdVX X' u.heap.size u (some ⟨g, off, none⟩) x.vs) => turnedX X' x g off c0 o da dn dn dc k hk ma mc u hM hz hp hm h6 h11 q2 (hVC.below (b1.trans (hu.mono b1.size)) hgl) q1)
 rw [← hy] at HTd
 have HFn := hid (fun u (hu : Below W1.heap.size W1 u) => by
  have := find_any x (some ⟨g, off, none⟩) c0 o.nm u (by omega) ((hR1.below hu).mono hu.size)
  rw [hp] at this
  exact this)
 have HWo := hid (fun u (hu : Below W1.heap.size W1 u) => without_any X (some ⟨g, off, none⟩) c0 k x.vs u (by omega) ((HR9.out.below hu).mono hu.size))
 obtain ⟨s, hs⟩ : ∃ s, s = x.vs[k] := ⟨_, rfl⟩
 rw [← hs] at hVC HTd
 have HSS : Hid (∀ u, Below W1.heap.size W1 u → (fun u => (u.cell? ⟨P, 0, none⟩ = some (.int .i64 x.cp) ∧ u.cell? ⟨P, 1, none⟩ = some (.int .i64 x.fr) ∧ u.cell? ⟨P, 2, none⟩ = some (.int .i64 x.nx) ∧ u.cell? ⟨P, 3, none⟩ = some (.slice (some ⟨g, off, none⟩) x.vs.length c0)) ∧ (u.cell? ⟨O, 0, none⟩ = some (.int .i64 o.k) ∧ u.cell? ⟨O, 1, none⟩ = some (.string o.nm) ∧ u.cell? ⟨O, 2, none⟩ = some (.string o.ot) ∧ u.cell? ⟨O, 3, none⟩ = some (.int .i64 o.fr) ∧ u.cell? ⟨O, 4, none⟩ = some (.int .i64 o.tt) ∧ u.cell? ⟨O, 5, none⟩ = some (.slice da dn dc)) ∧ u.cell? ⟨g, off + k * 7, none⟩ = some (.string s.nm) ∧ u.cell? ⟨g, off + k * 7 + 1, none⟩ = some (.int .i64 s.id) ∧ u.cell? ⟨g, off + k * 7 + 2, none⟩ = some (.int .i64 s.sz) ∧ u.cell? ⟨g, off + k * 7 + 3, none⟩ = some (.int .i64 s.og) ∧ u.cell? ⟨g, off + k * 7 + 4, none⟩ = some (.int .i64 s.kd) ∧ u.cell? ⟨g, off + k * 7 + 5, none⟩ = some (.bool s.pt) ∧ u.cell? ⟨g, off + k * 7 + 6, none⟩ = some (.slice ma s.mp.length mc)) u) := hid (fun u hu => ⟨(HV.out.keep (hu.block P HV.out.lt)).cs.1, HOc.out u hu, hVC.below (b1.trans (hu.mono b1.size)) hgl⟩)
 have hk1 : (k : Int) < (x.vs.length : Int) := by omega
 have hb11 : decide (o.k = 11) = false := decide_eq_false h11
 have hb6 : decide (o.k = 6) = false := decide_eq_false h6
 clear hP hOe hRe hW1 b1 hV hO hRb hR hR1 hM hok hXd hR0 hX0 hl hz hE hy HR1 hm k1 k2 hk hp hc hVC hRm hmn hgl hs
 dsimp only [volA] at HTd
 have mixed : Tryz.prog.follows Departure.mixedOrders = true := by kernel_rfl
 dsimp only [viewA, opA] at *
 go_enter Tryz.func20, Tryz.ntmps20
 go_wp2_with fail
 rw [← HW1.out]
 try rw [HPO.out.2.2]
 try rw [HPO.out.2.1]
 try rw [HPO.out.1]
 refine HRf.out.mono ?_
 rintro e w2 ⟨rfl, hb2⟩
 clear c0' c1 c2 c3 c4 c5 p0 p1 p2 p3
 obtain ⟨c0', c1, c2, c3, c4, c5⟩ := HOc.out w2 hb2
 have hV2 := HV.out.keep (hb2.block _ HV.out.lt)
 have hR2 := HRb.out.keep (hb2.block _ HRb.out.lt)
 obtain ⟨⟨p0, p1, p2, p3⟩, pf⟩ := hV2.cs
 obtain ⟨⟨r0, r1, r2, r3⟩, rf⟩ := hR2.cs
 have HB2 := hid hb2
 have HMk2 := hid (HMk.out w2)
 clear hb2 hV2 hR2 r0 r1 r2 r3 rf pf HMk
 go_wp2_with fail
 refine HMk2.out.mono ?_
 rintro e w3 ⟨rfl, hw⟩
 have hw := hw.symm
 subst hw
 clear HMk2
 have HF2 := hid (HFn.out w2 HB2.out)
 clear HFn
 dsimp only [viewA] at *
 go_wp2_with fail
 refine HF2.out.mono ?_
 rintro e w4 ⟨rfl, hb4'⟩
 have hb4 : Below W1.heap.size W1 w4 := HB2.out.trans (hb4'.mono HB2.out.size)
 have HB4 := hid hb4
 have HW4 := hid (HWo.out w4 hb4)
 clear c0' c1 c2 c3 c4 c5 p0 p1 p2 p3 hb4 hb4' HF2 HWo
 obtain ⟨c0', c1, c2, c3, c4, c5⟩ := HOc.out w4 HB4.out
 obtain ⟨⟨p0, p1, p2, p3⟩, _⟩ := (HV.out.keep (HB4.out.block _ HV.out.lt)).cs
 go_wp2_with fail
 refine HW4.out.mono ?_
 rintro e w5 ⟨v5, rfl, ⟨us, hS⟩, hb5'⟩
 have hb5 : Below W1.heap.size W1 w5 := HB4.out.trans (hb5'.mono HB4.out.size)
 obtain ⟨ra, rc, rfl, hRR, hRn⟩ := hS.rd hb5'.size (fun q hq => by have := HX1.out q hq; have := HB4.out.size; omega)
 have HRR := hid hRR
 have HB5 := hid hb5
 clear c0' c1 c2 c3 c4 c5 p0 p1 p2 p3 hS hRR hRn hb5'
 obtain ⟨c0', c1, c2, c3, c4, c5⟩ := HOc.out w5 hb5
 clear hb5
 go_wp2_with fail
 clear c0' c1 c2 c3 c4 c5
 refine wp_region_last (S := (fun u => (u.cell? ⟨P, 0, none⟩ = some (.int .i64 x.cp) ∧ u.cell? ⟨P, 1, none⟩ = some (.int .i64 x.fr) ∧ u.cell? ⟨P, 2, none⟩ = some (.int .i64 x.nx) ∧ u.cell? ⟨P, 3, none⟩ = some (.slice (some ⟨g, off, none⟩) x.vs.length c0)) ∧ (u.cell? ⟨O, 0, none⟩ = some (.int .i64 o.k) ∧ u.cell? ⟨O, 1, none⟩ = some (.string o.nm) ∧ u.cell? ⟨O, 2, none⟩ = some (.string o.ot) ∧ u.cell? ⟨O, 3, none⟩ = some (.int .i64 o.fr) ∧ u.cell? ⟨O, 4, none⟩ = some (.int .i64 o.tt) ∧ u.cell? ⟨O, 5, none⟩ = some (.slice da dn dc)) ∧ u.cell? ⟨g, off + k * 7, none⟩ = some (.string s.nm) ∧ u.cell? ⟨g, off + k * 7 + 1, none⟩ = some (.int .i64 s.id) ∧ u.cell? ⟨g, off + k * 7 + 2, none⟩ = some (.int .i64 s.sz) ∧ u.cell? ⟨g, off + k * 7 + 3, none⟩ = some (.int .i64 s.og) ∧ u.cell? ⟨g, off + k * 7 + 4, none⟩ = some (.int .i64 s.kd) ∧ u.cell? ⟨g, off + k * 7 + 5, none⟩ = some (.bool s.pt) ∧ u.cell? ⟨g, off + k * 7 + 6, none⟩ = some (.slice ma s.mp.length mc))) 9 9 (by kernel_rfl) (by kernel_rfl) (by kernel_rfl) (HSS.out _ (below_dr HB5.out)) (fun hSS => ?_)
 refine Ti 0 rfl ?_
 try simp only [Act.put, zA, zB, zC]
 refine Ti 1 rfl ?_
 refine Ti 2 rfl ?_
 refine Ti 3 rfl ?_
 refine Ti 4 rfl ?_
 try simp only [Act.put, zA, zB, zC]
 refine Ti 5 rfl ?_
 refine Ti 6 rfl ?_
 try simp only [Act.put, zA, zB, zC]
 refine Rr 7 8 rfl rfl (fun K9 hK9 => ?_) (fun K9 hK9 => ?_)
 ·go_simp
  go_at_call 44
  refine (HTd.out _ X (below_dr HB5.out) (fun q hq => by have := HX1.out q hq; have := HB5.out.size; exact Nat.lt_of_lt_of_le (by omega) (Nat.le_refl w5.heap.size)) ((HR9.out.below (below_dr HB5.out)).mono (below_dr HB5.out).size)).mono ?_
  rintro e w6 ⟨ya, yc, rfl, hy1, hy2, hy3, hb6'⟩
  have hb56 : Below w5.heap.size w5 w6 := (below_dr (Below.refl _ _)).trans hb6'
  obtain ⟨w7, hw7⟩ : ∃ w7, w7 = w6.alloc (.cells #[.string ⟨#[]⟩, .int .i64 0, .int .i64 0, .int .i64 0, .int .i64 0, .bool false, .slice none 0 0] 38) := ⟨_, rfl⟩
  have hb67 : Below w6.heap.size w6 w7 := by rw [hw7]; exact below1 _ _
  have hb57 : Below w5.heap.size w5 w7 := hb56.trans (hb67.mono hb56.size)
  obtain ⟨Q, hQe⟩ : ∃ Q, Q = w6.heap.size := ⟨_, rfl⟩
  have hQ7 : VoB w7 Q PV0 (.slice none 0 0) := by rw [hw7, hQe]; exact heap_new _ _
  have hQl : w5.heap.size ≤ Q := by rw [hQe]; exact hb56.size
  have HYR : Hid (∀ u, (∀ q, q < w7.heap.size → q ≠ Q → u.heap[q]? = w7.heap[q]?) → w7.heap.size ≤ u.heap.size → RdR u.heap.size u ya y.mp) := hid (fun u h1 h2 => hy1.but (X := fun _ => False) (.inr fun _ _ h => h) (by have := hb67.size; omega) (fun q hq _ => (h1 q (by have := hb67.size; omega) (by omega)).trans (hb67.block q hq)))
  have HY2 := hid hy2
  have HY3 := hid hy3
  have HQ := hid hQ7
  have HQL := hid hQl
  have HB57 := hid hb57
  have HW7 := hid hw7
  have HQE := hid hQe
  have HB6 := hid (HB5.out.trans (hb56.mono HB5.out.size))
  refine hK9.out _ _ (HSS.out _ HB6.out) (fun hSS => ?_)
  try simp only [Act.put, zA, zB, zC]
  clear hy1 hy2 hy3 hb6' hb56 hb67 hb57 hQ7 hQl hw7 hQe
  refine Ri 8 rfl (fun K9 hK9 => ?_)
  go_simp
  rw [← HW7.out, ← HQE.out]
  refine hK9.out _ _ (HSS.out _ (HB5.out.trans (HB57.out.mono HB5.out.size))) (fun hSS => ?_)
  try simp only [Act.put, zA, zB, zC]
  obtain ⟨⟨g0, g1, g2, g3, g4, g5, g6⟩, z0⟩ := HQ.out.cs
  refine Dn ?_
  refine last_step (L := 9) (o := ({ dst := none, op := Op.store 38 (Operand.tmp 9) (Operand.tmp 60), type := 0, pos := _, after := _, guard := none } : Oper)) rfl (fun K9 hK9 => ?_)
  go_simp
  refine hK9.out _ _ ?_
  try simp only [Act.put, zA, zB, zC]
  obtain ⟨Z, hZ⟩ : ∃ Z, Z = put7 w7 Q y (.slice ya y.mp.length yc) := ⟨_, rfl⟩
  have hZ4 : But (fun q => q = Q) w7 Z := by rw [hZ]; exact but_put7 _ _ _ _
  have hZQ : VoB Z Q y (.slice ya y.mp.length yc) := by rw [hZ]; exact HQ.out.put7
  have hb5Z : Below w5.heap.size w5 Z := HB57.out.trans (hZ4.below HB57.out.size (fun q hq e => by have := HQL.out; omega))
  have HBZ := hid (HB5.out.trans (hb5Z.mono HB5.out.size))
  have HLx := hid (laid_any X ra rc (x.vs.eraseIdx k) y ya yc Z HER.out (fun q hq => by have := HX1.out q hq; have := HBZ.out.size; omega) ((HRR.out.below hb5Z).mono hb5Z.size) (HYR.out Z (fun q h1 h2 => hZ4.block q h1 h2) hZ4.size) HY2.out HY3.out)
  obtain ⟨⟨y0, y1, y2, y3, y4, y5, y6⟩, _⟩ := hZQ.cs
  unfold put7 at hZ
  rw [← hZ]
  clear hZ hZ4 hZQ hb5Z hSS g0 g1 g2 g3 g4 g5 g6 z0
  dsimp only [volA] at HLx
  go_wp2_with fail
  refine HLx.out.mono ?_
  rintro e w9 ⟨la, lc, rfl, hl1, hl2, hb9'⟩
  have hb9 : Below W1.heap.size W1 w9 := HBZ.out.trans (hb9'.mono HBZ.out.size)
  have hV9 := HV.out.keep (hb9.block _ HV.out.lt)
  have hR9 := HRb.out.keep (hb9.block _ HRb.out.lt)
  obtain ⟨⟨p0, p1, p2, p3⟩, pf⟩ := hV9.cs
  obtain ⟨⟨r0, r1, r2, r3⟩, rf⟩ := hR9.cs
  have pf3 := pf 3
  obtain ⟨w8, hw8⟩ : ∃ w8, w8 = w9.setCell ⟨P, 3, none⟩ (.slice la (ladP (x.vs.eraseIdx k) y).length lc) := ⟨_, rfl⟩
  have e6 : But (fun q => q = P) w9 w8 := by rw [hw8]; exact (But.refl (fun q => q = P) w9).setCell (p := ⟨P, 3, none⟩) rfl _
  have hbw : Below w.heap.size w w9 := HB1.out.trans (hb9.mono HB1.out.size)
  have hbF : Below w.heap.size w w8 := hbw.trans (e6.below hbw.size (fun q hq e => by have := HPR.out; omega))
  have hRF : VwB w8 R VW0 (.slice none 0 0) := hR9.keep (e6.block _ hR9.lt (by have := HPR.out; omega))
  have HFIN : Hid (∀ yw, yw = put4 w8 R ⟨x.cp, x.fr, x.nx, ladP (x.vs.eraseIdx k) y⟩ (.slice la (ladP (x.vs.eraseIdx k) y).length lc) → VwB yw R ⟨x.cp, x.fr, x.nx, ladP (x.vs.eraseIdx k) y⟩ (.slice la (ladP (x.vs.eraseIdx k) y).length lc) ∧ DoD X0 w ⟨x.cp, x.fr, x.nx, ladP (x.vs.eraseIdx k) y⟩ 0 (.returned (.tuple #[.agg #[.int .i64 (⟨x.cp, x.fr, x.nx, ladP (x.vs.eraseIdx k) y⟩ : VW).cp, .int .i64 (⟨x.cp, x.fr, x.nx, ladP (x.vs.eraseIdx k) y⟩ : VW).fr, .int .i64 (⟨x.cp, x.fr, x.nx, ladP (x.vs.eraseIdx k) y⟩ : VW).nx, .slice la (ladP (x.vs.eraseIdx k) y).length lc], .int .i64 0])) yw) := hid (by
   rintro yw rfl
   have bt := but_put4 w8 R ⟨x.cp, x.fr, x.nx, ladP (x.vs.eraseIdx k) y⟩ (.slice la (ladP (x.vs.eraseIdx k) y).length lc)
   have hB : Below w.heap.size w w8 := hbF
   have hBy := hB.trans (bt.below hB.size (fun q hq e => by have := HPR.out; omega))
   refine ⟨hRF.put4, ?_⟩
   refine ⟨la, lc, rfl, (hl1.but (by have := e6.size; have := bt.size; omega) (fun q hq hn => ?_)).sup (fun q hq => .inl (HXS.out q hq)), hl2, hBy⟩
   have h1 := HXP.out
   have h6 := e6.size
   exact (bt.block q (by omega) (fun e => hn (by rw [e]; exact h1.2))).trans (e6.block q hq (fun e => hn (by rw [e]; exact h1.1))))
  have rf0 := rf 0
  have rf1 := rf 1
  have rf2 := rf 2
  have rf3 := rf 3
  have hPR : ¬ (P = R) := by have := HPR.out; omega
  have hRP : ¬ (R = P) := fun e => hPR e.symm
  rw [hw8] at HFIN
  clear hbF hRF hV9 hR9 hb9 hb9' hw8 e6 hbw hl1
  dsimp only [VW0] at r0 r1 r2 r3
  go_wp2_with fail
  exact bodyPost_ret (results_row_tmp rfl _ _ R 24 _ (0, 0) _ (.int .i64 0) rfl rfl (HFIN.out _ rfl).1 Tryz.underlying24 rfl (by kernel_rfl)) rfl (HFIN.out _ rfl).2
 ·go_simp
  obtain ⟨w6, hw6⟩ : ∃ w6, w6 = (w5.alloc (.cells #[.string ⟨#[]⟩, .int .i64 0, .int .i64 0, .int .i64 0, .int .i64 0, .bool false, .slice none 0 0] 38)).drew := ⟨_, rfl⟩
  obtain ⟨Q, hQe⟩ : ∃ Q, Q = w5.heap.size := ⟨_, rfl⟩
  have hb56 : Below w5.heap.size w5 w6 := by rw [hw6]; exact below_dr (below1 _ _)
  have hQ6 : VoB w6 Q PV0 (.slice none 0 0) := by rw [hw6, hQe]; exact heap_new _ _
  have hQl : w5.heap.size ≤ Q := by omega
  rw [← hw6]
  try rw [← hQe]
  have HB56 := hid hb56
  have HQ6 := hid hQ6
  have HQL := hid hQl
  have HB6 := hid (HB5.out.trans (hb56.mono HB5.out.size))
  refine hK9.out _ _ (HSS.out _ HB6.out) (fun hSS => ?_)
  try simp only [Act.put, zA, zB, zC]
  clear hb56 hQ6 hQl hw6 hQe
  refine Ri 7 rfl (fun K9 hK9 => ?_)
  go_simp
  go_at_call 44
  refine (HTd.out w6 (fun q => X q ∨ q = Q) HB6.out (fun q hq => hq.elim (fun hq => by have := HX1.out q hq; have := HB6.out.size; omega) (fun hq => by rw [hq]; exact HQ6.out.lt)) (((HR0.out.sup (fun q hq => hq.elim (fun hq => by rw [HXd.out] at hq; exact hq.imp id (fun h => h.1)) (fun hq => .inr (by have := HQL.out; have := HB5.out.size; have := HB1.out.size; omega)))).below (HB1.out.trans (HB6.out.mono HB1.out.size))).mono (HB1.out.trans (HB6.out.mono HB1.out.size)).size)).mono ?_
  rintro e w7 ⟨ya, yc, rfl, hy1, hy2, hy3, hb7'⟩
  have hb57 : Below w5.heap.size w5 w7 := HB56.out.trans (hb7'.mono HB56.out.size)
  have hQ7 : VoB w7 Q PV0 (.slice none 0 0) := HQ6.out.keep (hb7'.block _ HQ6.out.lt)
  have HYR : Hid (∀ u, (∀ q, q < w7.heap.size → q ≠ Q → u.heap[q]? = w7.heap[q]?) → w7.heap.size ≤ u.heap.size → RdR u.heap.size u ya y.mp) := hid (fun u h1 h2 => hy1.but hy3 h2 (fun q hq hn => h1 q hq (fun e => hn (.inr e))))
  have HY2 := hid hy2
  have HY3 : Hid (NoX X ya y.mp) := hid (hy3.imp id (fun h ad had q => h ad had (.inl q)))
  have HQ := hid hQ7
  have HB57 := hid hb57
  clear hy1 hy2 hy3 hb7' hb57 hQ7
  refine hK9.out _ _ (HSS.out _ (HB5.out.trans (HB57.out.mono HB5.out.size))) (fun hSS => ?_)
  try simp only [Act.put, zA, zB, zC]
  obtain ⟨⟨g0, g1, g2, g3, g4, g5, g6⟩, z0⟩ := HQ.out.cs
  refine Dn ?_
  refine last_step (L := 9) (o := ({ dst := none, op := Op.store 38 (Operand.tmp 9) (Operand.tmp 60), type := 0, pos := _, after := _, guard := none } : Oper)) rfl (fun K9 hK9 => ?_)
  go_simp
  refine hK9.out _ _ ?_
  try simp only [Act.put, zA, zB, zC]
  obtain ⟨Z, hZ⟩ : ∃ Z, Z = put7 w7 Q y (.slice ya y.mp.length yc) := ⟨_, rfl⟩
  have hZ4 : But (fun q => q = Q) w7 Z := by rw [hZ]; exact but_put7 _ _ _ _
  have hZQ : VoB Z Q y (.slice ya y.mp.length yc) := by rw [hZ]; exact HQ.out.put7
  have hb5Z : Below w5.heap.size w5 Z := HB57.out.trans (hZ4.below HB57.out.size (fun q hq e => by have := HQL.out; omega))
  have HBZ := hid (HB5.out.trans (hb5Z.mono HB5.out.size))
  have HLx := hid (laid_any X ra rc (x.vs.eraseIdx k) y ya yc Z HER.out (fun q hq => by have := HX1.out q hq; have := HBZ.out.size; omega) ((HRR.out.below hb5Z).mono hb5Z.size) (HYR.out Z (fun q h1 h2 => hZ4.block q h1 h2) hZ4.size) HY2.out HY3.out)
  obtain ⟨⟨y0, y1, y2, y3, y4, y5, y6⟩, _⟩ := hZQ.cs
  unfold put7 at hZ
  rw [← hZ]
  clear hZ hZ4 hZQ hb5Z hSS g0 g1 g2 g3 g4 g5 g6 z0
  dsimp only [volA] at HLx
  go_wp2_with fail
  refine HLx.out.mono ?_
  rintro e w9 ⟨la, lc, rfl, hl1, hl2, hb9'⟩
  have hb9 : Below W1.heap.size W1 w9 := HBZ.out.trans (hb9'.mono HBZ.out.size)
  have hV9 := HV.out.keep (hb9.block _ HV.out.lt)
  have hR9 := HRb.out.keep (hb9.block _ HRb.out.lt)
  obtain ⟨⟨p0, p1, p2, p3⟩, pf⟩ := hV9.cs
  obtain ⟨⟨r0, r1, r2, r3⟩, rf⟩ := hR9.cs
  have pf3 := pf 3
  obtain ⟨w8, hw8⟩ : ∃ w8, w8 = w9.setCell ⟨P, 3, none⟩ (.slice la (ladP (x.vs.eraseIdx k) y).length lc) := ⟨_, rfl⟩
  have e6 : But (fun q => q = P) w9 w8 := by rw [hw8]; exact (But.refl (fun q => q = P) w9).setCell (p := ⟨P, 3, none⟩) rfl _
  have hbw : Below w.heap.size w w9 := HB1.out.trans (hb9.mono HB1.out.size)
  have hbF : Below w.heap.size w w8 := hbw.trans (e6.below hbw.size (fun q hq e => by have := HPR.out; omega))
  have hRF : VwB w8 R VW0 (.slice none 0 0) := hR9.keep (e6.block _ hR9.lt (by have := HPR.out; omega))
  have HFIN : Hid (∀ yw, yw = put4 w8 R ⟨x.cp, x.fr, x.nx, ladP (x.vs.eraseIdx k) y⟩ (.slice la (ladP (x.vs.eraseIdx k) y).length lc) → VwB yw R ⟨x.cp, x.fr, x.nx, ladP (x.vs.eraseIdx k) y⟩ (.slice la (ladP (x.vs.eraseIdx k) y).length lc) ∧ DoD X0 w ⟨x.cp, x.fr, x.nx, ladP (x.vs.eraseIdx k) y⟩ 0 (.returned (.tuple #[.agg #[.int .i64 (⟨x.cp, x.fr, x.nx, ladP (x.vs.eraseIdx k) y⟩ : VW).cp, .int .i64 (⟨x.cp, x.fr, x.nx, ladP (x.vs.eraseIdx k) y⟩ : VW).fr, .int .i64 (⟨x.cp, x.fr, x.nx, ladP (x.vs.eraseIdx k) y⟩ : VW).nx, .slice la (ladP (x.vs.eraseIdx k) y).length lc], .int .i64 0])) yw) := hid (by
   rintro yw rfl
   have bt := but_put4 w8 R ⟨x.cp, x.fr, x.nx, ladP (x.vs.eraseIdx k) y⟩ (.slice la (ladP (x.vs.eraseIdx k) y).length lc)
   have hB : Below w.heap.size w w8 := hbF
   have hBy := hB.trans (bt.below hB.size (fun q hq e => by have := HPR.out; omega))
   refine ⟨hRF.put4, ?_⟩
   refine ⟨la, lc, rfl, (hl1.but (by have := e6.size; have := bt.size; omega) (fun q hq hn => ?_)).sup (fun q hq => .inl (HXS.out q hq)), hl2, hBy⟩
   have h1 := HXP.out
   have h6 := e6.size
   exact (bt.block q (by omega) (fun e => hn (by rw [e]; exact h1.2))).trans (e6.block q hq (fun e => hn (by rw [e]; exact h1.1))))
  have rf0 := rf 0
  have rf1 := rf 1
  have rf2 := rf 2
  have rf3 := rf 3
  have hPR : ¬ (P = R) := by have := HPR.out; omega
  have hRP : ¬ (R = P) := fun e => hPR e.symm
  rw [hw8] at HFIN
  clear hbF hRF hV9 hR9 hb9 hb9' hw8 e6 hbw hl1
  dsimp only [VW0] at r0 r1 r2 r3
  go_wp2_with fail
  exact bodyPost_ret (results_row_tmp rfl _ _ R 24 _ (0, 0) _ (.int .i64 0) rfl rfl (HFIN.out _ rfl).1 Tryz.underlying24 rfl (by kernel_rfl)) rfl (HFIN.out _ rfl).2
end Go.Proofs.YtddddfankeepkaaGreatDoor
namespace Go.Proofs.YtddddfankeepkaaGreatDoor
open Go.RowKit
def doP (x : VW) (o : OW) (n : Nat) : VW := if tkE x o n = 0 then tkX x o else VW0
theorem do_any20 (x : VW) (a : Option Addr) (c0 : Nat) (o : OW) (da : Option Addr) (dn dc : Nat) (w : World) (hM : MayP x) (hok : okW o) (X0 : Nat → Prop) (hX0 : ∀ q, X0 q → q < w.heap.size) (hR : RdVX X0 w.heap.size w a x.vs) (ha : a = none → c0 = 0) :
  Calls Tryz.prog 20 #[viewA x a c0, opA o da dn dc] w fun e w' => DoD X0 w (doP x o dn) (tkE x o dn) e w' := by
 unfold doP
 by_cases hz : tkE x o dn = 0
 ·rw [if_pos hz, ← refX_eq hM hz, hz]
  obtain ⟨⟨k1, k2⟩, hN, _⟩ := tk_ok hM hz
  obtain ⟨hpn, _⟩ := nam_there hN
  by_cases h11 : o.k = 11
  ·obtain ⟨k, nm, ot, fr, tt⟩ := o
   dsimp only at h11
   subst h11
   exact do_L x a c0 nm ot fr tt da dn dc w hM hok X0 hX0 hR ha hz
  ·cases hm : mkK o.k
   ·obtain ⟨k, hk, hp, _⟩ := plc_there (hpn hm h11)
    by_cases h6 : o.k = 6
    ·obtain ⟨kk, nm, ot, fr, tt⟩ := o
     dsimp only at h6
     subst h6
     exact do_D x a c0 nm ot fr tt da dn dc w hM hok X0 hX0 hR k hp hz
    ·exact do_T x a c0 o da dn dc w hM hok X0 hX0 hR k hk hp hm h6 h11 hz
   ·exact do_M x a c0 o da dn dc w hM hok X0 hX0 hR hm hz
 ·rw [if_neg hz]
  exact do_E x a c0 o da dn dc w hM hok X0 hX0 hR hz
end Go.Proofs.YtddddfankeepkaaGreatDoor
