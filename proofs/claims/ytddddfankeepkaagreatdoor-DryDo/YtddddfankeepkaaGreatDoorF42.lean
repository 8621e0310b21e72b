import Derived.Test.YtddddfankeepkaaGreatDoorF36
import Derived.Test.YtddddfankeepkaaGreatDoorF35
import Derived.Test.YtddddfankeepkaaGreatDoorF13
import Derived.Test.YtddddfankeepkaaGreatDoorF04
import Derived.Test.YtddddfankeepkaaGreatDoorF25
import Derived.Test.YtddddfankeepkaaGreatDoorF41
namespace Go.Proofs.YtddddfankeepkaaGreatDoor
open Go.RowKit
def OpZ (w : World) (b : Nat) (o : PO) (v : Value) : Prop := w.heap[b]? = some (.cells #[.int .i64 o.k, .string o.nm, .string o.ot, .int .i64 o.fr, .int .i64 o.tt, v] 42 (0, 0))
theorem OpZ.lt {w : World} {b : Nat} {o : PO} {v : Value} (h : OpZ w b o v) : b < w.heap.size := (Array.getElem?_eq_some_iff.1 h).1
theorem OpZ.keep {w w' : World} {b : Nat} {o : PO} {v : Value} (h : OpZ w b o v) (hw : w'.heap[b]? = w.heap[b]?) : OpZ w' b o v := by unfold OpZ at *; rw [hw]; exact h
theorem OpZ.cs {w : World} {b : Nat} {o : PO} {v : Value} (h : OpZ w b o v) : (w.cell? ⟨b, 0, none⟩ = some (.int .i64 o.k) ∧ w.cell? ⟨b, 1, none⟩ = some (.string o.nm) ∧ w.cell? ⟨b, 2, none⟩ = some (.string o.ot) ∧ w.cell? ⟨b, 3, none⟩ = some (.int .i64 o.fr) ∧ w.cell? ⟨b, 4, none⟩ = some (.int .i64 o.tt) ∧ w.cell? ⟨b, 5, none⟩ = some v) ∧ ∀ i, w.frozen? ⟨b, i, none⟩ = false := by
 unfold OpZ at h
 simp [World.cell?, World.frozen?, h]
theorem OpZ.set5 {w : World} {b : Nat} {o : PO} {v : Value} (h : OpZ w b o v) (u : Value) : OpZ (w.setCell ⟨b, 5, none⟩ u) b o u := by
 unfold OpZ at *
 simp only [World.setCell, Array.getElem?_modify, if_true]
 rw [h]
 simp
theorem one_all (y : VW) (o : OW) (n : Nat) : allP y [(o, n)] 0 = (doP y o n, 0, tkE y o n) := by
 unfold allP doP
 split
 ·rename_i h; rw [h]; rfl
 ·rfl
theorem LentV.but {X : Nat → Prop} {w w' : World} {F : Nat} {gs : List Nat} {vs : List PV} (h : LentV w F gs vs) (hb : But X w w') (hF : ¬ X F) (hg : ∀ g ∈ gs, ¬ X g) : LentV w' F gs vs :=
 ⟨h.gl, h.fb.keep (hb.block _ h.fb.lt hF), fun i hi => (h.gb i hi).keep (hb.block _ (h.gb i hi).lt (hg _ (List.getElem_mem _))), h.nd, h.lo⟩
theorem LentV.there {w : World} {F : Nat} {gs : List Nat} {vs : List PV} (h : LentV w F gs vs) : F < w.heap.size ∧ ∀ g ∈ gs, g < w.heap.size := by
 refine ⟨h.fb.lt, fun g hg => ?_⟩
 obtain ⟨i, hi, rfl⟩ := List.mem_iff_getElem.1 hg
 exact (h.gb i (by have := h.gl; omega)).lt
theorem OwV.rdX {X : Nat → Prop} {B : Nat} {w : World} {v : Value} {os : List PV} {us : List Value} (h : OwV B w v os us) (hX : ∀ q, X q → q < B) : ∃ a c, v = .slice a os.length c ∧ RdVX X w.heap.size w a os ∧ (a = none → c = 0) := by
 rcases own_form h.row with ⟨rfl, hn⟩ | ⟨g, c, rfl, hg⟩
 ·exact ⟨none, 0, by rw [hn], .inl (List.eq_nil_of_length_eq_zero hn), fun _ => rfl⟩
 ·refine ⟨_, c, rfl, .inr ⟨g, 0, rfl, (own_blk h.row hg).2.1, fun q => by have := hX _ q; have := (own_blk h.row hg).1; omega, fun j hj => ?_⟩, fun h => by cases h⟩
  obtain ⟨a', c', e, hR, hn⟩ := (h.dat j hj).rd
  have hd := h.dat j hj
  rw [e] at hd
  have k := World.ownsRow.cells h.row hg
  have kk : ∀ i, i < 7 → ∀ u, (cells7 os[j] (us[j]'(by have := h.len; omega)))[i]? = some u → w.cell? ⟨g, 0 + j * 7 + i, none⟩ = some u := fun i hi u hu => by
   have := k (j * 7 + i) u (by rw [flatV_at os us h.len j hj i hi]; exact hu)
   rw [Addr.add_lit] at this
   simpa [Nat.add_assoc] using this
  rw [e] at kk
  refine ⟨a', c', ⟨kk 0 (by omega) _ rfl, kk 1 (by omega) _ rfl, kk 2 (by omega) _ rfl, kk 3 (by omega) _ rfl, kk 4 (by omega) _ rfl, kk 5 (by omega) _ rfl, kk 6 (by omega) _ rfl⟩, hR, hn, .inr fun ad had q => ?_⟩
  subst had
  have h1 := (own_blk hd (g := ad.block) rfl).1
  have := hX _ q
  omega
def XD (F : Nat) (gs : List Nat) (L P : Nat) (k : Nat) : Prop := k = F ∨ k ∈ gs ∨ k = L ∨ k = P
structure DdC (w5 : World) (F : Nat) (gs : List Nat) (L P : Nat) (o : PO) (W : World) (ys : List PV) : Prop where
 lv : LentV W F gs ys
 op : ∃ v, OpZ W P o v
 bt : But (XD F gs L P) w5 W
theorem DdC.next {w5 : World} {F : Nat} {gs : List Nat} {L P : Nat} {o : PO} {W W' : World} {ys : List PV} (h : DdC w5 F gs L P o W ys) (hb : Below W.heap.size W W') : DdC w5 F gs L P o W' ys := by
 obtain ⟨v, hv⟩ := h.op
 exact ⟨h.lv.next hb, ⟨v, hv.keep (hb.block _ hv.lt)⟩, h.bt.trans (But.of_below hb)⟩
theorem DdC.but {Y : Nat → Prop} {w5 : World} {F : Nat} {gs : List Nat} {L P : Nat} {o : PO} {W W' : World} {ys : List PV} (h : DdC w5 F gs L P o W ys) (hb : But Y W W') (hF : ¬ Y F) (hg : ∀ g ∈ gs, ¬ Y g) (hP : ¬ Y P) (hY : ∀ k, k < w5.heap.size → Y k → XD F gs L P k) : DdC w5 F gs L P o W' ys := by
 obtain ⟨v, hv⟩ := h.op
 exact ⟨h.lv.but hb hF hg, ⟨v, hv.keep (hb.block _ hv.lt hP)⟩, h.bt.comp hb hY⟩
theorem DdC.lay {w5 : World} {F : Nat} {gs : List Nat} {L P : Nat} {o : PO} {W W' : World} {ys ys' : List PV} (h : DdC w5 F gs L P o W ys) (hb : But (fun k => k = F ∨ k ∈ gs) W W') (hl : LentV W' F gs ys') (hP : ¬ (P = F ∨ P ∈ gs)) : DdC w5 F gs L P o W' ys' := by
 obtain ⟨v, hv⟩ := h.op
 exact ⟨hl, ⟨v, hv.keep (hb.block _ hv.lt hP)⟩, h.bt.comp hb (fun k _ hk => hk.elim (fun e => .inl e) (fun e => .inr (.inl e)))⟩
theorem DdC.set {w5 : World} {F : Nat} {gs : List Nat} {L P : Nat} {o : PO} {W W' : World} {ys : List PV} (h : DdC w5 F gs L P o W ys) (hP : ¬ (P = F ∨ P ∈ gs)) (u : Value) (hW : W' = W.setCell ⟨P, 5, none⟩ u) : DdC w5 F gs L P o W' ys ∧ OpZ W' P o u := by
 obtain ⟨v, hv⟩ := h.op
 have hb : But (fun k => k = P) W W' := by rw [hW]; exact (But.refl (fun k => k = P) W).setCell (p := ⟨P, 5, none⟩) rfl u
 have h5 : OpZ W' P o u := by rw [hW]; exact hv.set5 u
 exact ⟨⟨h.lv.but hb (fun e => hP (.inl e.symm)) (fun g hg e => hP (.inr (e ▸ hg))), ⟨u, h5⟩, h.bt.comp hb (fun k _ hk => .inr (.inr (.inr hk)))⟩, h5⟩
structure DdO (w w5 : World) (R O F : Nat) (gs : List Nat) (C L P : Nat) : Prop where
 r : R = w.heap.size
 o : O = w.heap.size + 1
 f : w.heap.size + 2 ≤ F
 fc : F < C
 g : ∀ g ∈ gs, F < g ∧ g < C
 l : L = C + 1
 p : P = C + 2
 s : w5.heap.size = C + 3
theorem DdO.x {w w5 : World} {R O F : Nat} {gs : List Nat} {C L P : Nat} (h : DdO w w5 R O F gs C L P) {k : Nat} (hk : XD F gs L P k) : w.heap.size + 2 ≤ k ∧ k ≠ C := by
 have := h.f
 have := h.fc
 have := h.l
 have := h.p
 rcases hk with rfl | hk | rfl | rfl
 ·omega
 ·have := h.g k hk
  omega
 ·omega
 ·omega
theorem DdO.pf {w w5 : World} {R O F : Nat} {gs : List Nat} {C L P : Nat} (h : DdO w w5 R O F gs C L P) : ¬ (P = F ∨ P ∈ gs) := by
 have := h.fc
 have := h.p
 rintro (e | e)
 ·omega
 ·have := h.g P e
  omega
theorem DdO.lf {w w5 : World} {R O F : Nat} {gs : List Nat} {C L P : Nat} (h : DdO w w5 R O F gs C L P) : ¬ (L = F ∨ L ∈ gs) := by
 have := h.fc
 have := h.l
 rintro (e | e)
 ·omega
 ·have := h.g L e
  omega
structure DdK (w : World) (R O C F : Nat) (x : VW) (a : Option Addr) (c0 : Nat) (o : PO) (da : Option Addr) (dc : Nat) (W : World) : Prop where
 v : VwB W R x (.slice a x.vs.length c0)
 c : VwB W C x (.slice (some ⟨F, 0, none⟩) x.vs.length (2 * x.vs.length + 70))
 op : OpZ W O o (.slice da o.da.length dc)
 rv : RdV W.heap.size W a x.vs
 rd : Rd w.heap.size W da o.da.length o.da
 gt : GT W
 bw : Below w.heap.size w W
theorem DdK.but {w w5 W : World} {R O F : Nat} {gs : List Nat} {C L P : Nat} {x : VW} {a : Option Addr} {c0 : Nat} {o : PO} {da : Option Addr} {dc : Nat} (hO : DdO w w5 R O F gs C L P) (h : DdK w R O C F x a c0 o da dc w5) (hb : But (XD F gs L P) w5 W) (h0 : GT w) (hv : RdV w.heap.size w a x.vs) : DdK w R O C F x a c0 o da dc W := by
 have n : ∀ k, k < w.heap.size + 2 ∨ k = C → ¬ XD F gs L P k := fun k hk q => by have := hO.x q; omega
 have bw := h.bw.trans (hb.below h.bw.size (fun k hk => n k (.inl (by omega))))
 have b5 := hb.below h.bw.size (fun k hk => n k (.inl (by omega)))
 exact ⟨h.v.keep (hb.block _ h.v.lt (n _ (.inl (by have := hO.r; omega)))), h.c.keep (hb.block _ h.c.lt (n _ (.inr rfl))), h.op.keep (hb.block _ h.op.lt (n _ (.inl (by have := hO.o; omega)))), (hv.below bw).mono bw.size, h.rd.below b5, h0.next bw, bw⟩
theorem Rd.rdN {B : Nat} {W : World} {a : Option Addr} {n : Nat} {zs : List Int} (h : Rd B W a n zs) (hB : B ≤ W.heap.size) {X : Nat → Prop} (hX : ∀ k, X k → B ≤ k) : RdN X W a n zs := RdN.of_rd h hB (fun k hk q => by have := hX k q; omega)
end Go.Proofs.YtddddfankeepkaaGreatDoor
namespace Go.Proofs.YtddddfankeepkaaGreatDoor
open Go.RowKit
set_option maxRecDepth 100000 in
set_option maxHeartbeats 8000000 in
theorem dddo_N (x : VW) (a : Option Addr) (c0 : Nat) (o : PO) (n : Nat) (da : Option Addr) (dc : Nat) (w : World) (hn : o.da.length = n) (ho : okO o) (hx : szV 1048576 1048576 x.vs) (hR : RdV w.heap.size w a x.vs) (hD : Rd w.heap.size w da o.da.length o.da) (hG : GT w) (hY : ∀ u, RdV u.heap.size u a x.vs → Calls Tryz.prog 8 #[viewA x a c0] u fun e w' => BoQ u false e w') :
  Calls Tryz.prog 4 #[viewA x a c0, opA o.ow da n dc] w fun e w' => BoQ w true e w' := by
 obtain ⟨R, hRe⟩ : ∃ R, R = w.heap.size := ⟨_, rfl⟩
 obtain ⟨O, hOe⟩ : ∃ O, O = w.heap.size + 1 := ⟨_, rfl⟩
 obtain ⟨W0, hW0⟩ : ∃ W0, W0 = (w.alloc (.cells #[.int .i64 x.cp, .int .i64 x.fr, .int .i64 x.nx, .slice a x.vs.length c0] 24)).alloc (.cells #[.int .i64 o.k, .string o.nm, .string o.ot, .int .i64 o.fr, .int .i64 o.tt, .slice da n dc] 42) := ⟨_, rfl⟩
 have b0 : Below w.heap.size w W0 := by rw [hW0]; exact two_below _ _ _
 have s0 : W0.heap.size = w.heap.size + 2 := by rw [hW0]; simp
 have hV : VwB W0 R x (.slice a x.vs.length c0) := by
  unfold VwB
  rw [hW0, hRe, Below.heap_alloc _ _ _ (by simp)]
  exact heap_new _ _
 have hO : OpZ W0 O o (.slice da n dc) := by
  have := heap_new (w.alloc (.cells #[.int .i64 x.cp, .int .i64 x.fr, .int .i64 x.nx, .slice a x.vs.length c0] 24)) (.cells #[.int .i64 o.k, .string o.nm, .string o.ot, .int .i64 o.fr, .int .i64 o.tt, .slice da n dc] 42)
  rw [World.size_alloc, ← hOe, ← hW0] at this
  exact this
 have hR0 := (hR.below b0).mono b0.size
 have hG0 := hG.next b0
 have HAW := hid (awake_any W0 hG0)
 have HMAY := hid (fun u (hu : Below W0.heap.size W0 u) => hY u ((hR0.below hu).mono hu.size))
 have HLE := hid (fun u (hu : Below W0.heap.size W0 u) => Lend_any x a c0 u (hx.shV (by omega) (by omega)) ((hR0.below hu).mono hu.size))
 have HV := hid hV
 have HO := hid hO
 have HB0 := hid b0
 have HS0 := hid s0
 have HRe := hid hRe.symm
 have HOe := hid hOe.symm
 have HW0 := hid hW0
 have HIN : Hid (o.da.length = n ∧ okO o ∧ szV 1048576 1048576 x.vs ∧ RdV w.heap.size w a x.vs ∧ Rd w.heap.size w da o.da.length o.da ∧ GT w) := ⟨hn, ho, hx, hR, hD, hG⟩
 clear hRe hOe hW0 b0 s0 hV hO hR0 hG0 hx hR hD hG hn ho hY
 dsimp only [viewA, opA, PO.ow] at *
 go_enter Tryz.func4, Tryz.ntmps4
 go_wp2_with fail
 rw [← HW0.out, HOe.out, HRe.out]
 refine HAW.out.mono ?_
 rintro e w1 ⟨rfl, hb1⟩
 have HB1 := hid hb1
 have HL1 := hid (HLE.out w1 hb1)
 clear hb1 HAW HLE HW0
 obtain ⟨⟨p0, p1, p2, p3⟩, _⟩ := (HV.out.keep (HB1.out.block R HV.out.lt)).cs
 go_wp2_with fail
 refine HL1.out.mono ?_
 rintro e w2 ⟨F, gs, rfl, hL2, hF2, hb2⟩
 have hb02 := HB1.out.trans (hb2.mono HB1.out.size)
 obtain ⟨C, hCe⟩ : ∃ C, C = w2.heap.size := ⟨_, rfl⟩
 obtain ⟨L, hLe⟩ : ∃ L, L = w2.heap.size + 1 := ⟨_, rfl⟩
 obtain ⟨P, hPe⟩ : ∃ P, P = w2.heap.size + 1 + 1 := ⟨_, rfl⟩
 obtain ⟨w3, hw3⟩ : ∃ w3, w3 = (w2.alloc (.cells #[.int .i64 x.cp, .int .i64 x.fr, .int .i64 x.nx, .slice (some ⟨F, 0, none⟩) x.vs.length (2 * x.vs.length + 70)] 24)).alloc (.cells #[.slice none 0 0, .int .i64 0] 44) := ⟨_, rfl⟩
 obtain ⟨w5, hw5⟩ : ∃ w5, w5 = w3.alloc (.cells #[.int .i64 o.k, .string o.nm, .string o.ot, .int .i64 o.fr, .int .i64 o.tt, .slice da n dc] 42) := ⟨_, rfl⟩
 have b23 : Below w2.heap.size w2 w3 := by rw [hw3]; exact two_below _ _ _
 have s3 : w3.heap.size = w2.heap.size + 2 := by rw [hw3]; simp
 have s5 : w5.heap.size = w2.heap.size + 3 := by rw [hw5, World.size_alloc, s3]
 have b25 : Below w2.heap.size w2 w5 := b23.trans (by rw [hw5]; exact (below1 _ _).mono b23.size)
 have hC5 : VwB w5 C x (.slice (some ⟨F, 0, none⟩) x.vs.length (2 * x.vs.length + 70)) := by
  unfold VwB
  rw [hw5, Below.heap_alloc _ _ _ (by omega), hw3, hCe, Below.heap_alloc _ _ _ (by simp)]
  exact heap_new _ _
 have hLn5 : Lnd w5 L (.slice none 0 0) 0 := by
  unfold Lnd
  rw [hw5, Below.heap_alloc _ _ _ (by omega)]
  have := heap_new (w2.alloc (.cells #[.int .i64 x.cp, .int .i64 x.fr, .int .i64 x.nx, .slice (some ⟨F, 0, none⟩) x.vs.length (2 * x.vs.length + 70)] 24)) (.cells #[.slice none 0 0, .int .i64 0] 44)
  rw [World.size_alloc, ← hLe, ← hw3] at this
  exact this
 have hP5 : OpZ w5 P o (.slice da n dc) := by
  have := heap_new w3 (.cells #[.int .i64 o.k, .string o.nm, .string o.ot, .int .i64 o.fr, .int .i64 o.tt, .slice da n dc] 42)
  rw [← hw5, s3, show w2.heap.size + 2 = P by omega] at this
  exact this
 have hb05 := hb02.trans (b25.mono hb02.size)
 have hth := hL2.there
 have HORD : Hid (DdO w w5 R O F gs C L P) := ⟨HRe.out.symm, HOe.out.symm, by have := HS0.out; have := HB1.out.size; omega, by omega, fun g hg => ⟨hL2.lo g hg, by have := hth.2 g hg; omega⟩, by omega, by omega, by omega⟩
 have HK5 : Hid (DdK w R O C F x a c0 o da dc w5) := by
  obtain ⟨k1, k2, k3, k4, k5, k6⟩ := HIN.out
  have bw := HB0.out.trans (hb05.mono HB0.out.size)
  exact ⟨HV.out.keep (hb05.block _ HV.out.lt), hC5, by rw [k1]; exact HO.out.keep (hb05.block _ HO.out.lt), (k4.below bw).mono bw.size, k5.below bw, k6.next bw, bw⟩
 have HC5 : Hid (DdC w5 F gs L P o w5 x.vs) := ⟨hL2.next b25, ⟨_, hP5⟩, But.refl _ _⟩
 have HLS : Hid (LS w5 L (.slice none 0 0)) := ⟨⟨_, hLn5⟩, .inl rfl⟩
 have HM5 := hid (HMAY.out w5 hb05)
 obtain ⟨⟨m0, m1, m2, m3, m4, m5⟩, _⟩ := (HO.out.keep (hb02.block O HO.out.lt)).cs
 have HS5 := hid s5
 have HW3 := hid hw3
 have HW5 := hid hw5
 have HCE := hid hCe.symm
 have HLE := hid hLe.symm
 have HPE := hid hPe.symm
 have hbx : Below W0.heap.size W0 (w2.alloc (.cells #[.int .i64 x.cp, .int .i64 x.fr, .int .i64 x.nx, .slice (some ⟨F, 0, none⟩) x.vs.length (2 * x.vs.length + 70)] 24)) := hb02.trans ((below1 _ _).mono hb02.size)
 have hby : Below W0.heap.size W0 w3 := hb02.trans (b23.mono hb02.size)
 obtain ⟨⟨n0, n1, n2, n3, n4, n5⟩, _⟩ := (HO.out.keep (hby.block O HO.out.lt)).cs
 rw [hw3] at n0 n1 n2 n3 n4 n5
 clear hCe hLe hPe hw3 hw5 b23 s3 s5 b25 hC5 hLn5 hP5 hb05 hth hb02 hb2 hF2 hL2 HMAY HL1 p0 p1 p2 p3 hbx hby
 obtain ⟨⟨p0, p1, p2, p3⟩, _⟩ := HK5.out.v.cs
 rw [HW5.out, HW3.out] at p0 p1 p2 p3
 go_wp2_with fail
 rw [← HW3.out, ← HW5.out, HPE.out, HLE.out, HCE.out]
 clear m0 m1 m2 m3 m4 m5 n0 n1 n2 n3 n4 n5 p0 p1 p2 p3 HW3 HW5 HCE HLE HPE HS5 HS0 HB0 HB1 HO HV HRe HOe
 refine HM5.out.mono ?_
 rintro e u2 ⟨rfl, hb5⟩
 obtain ⟨k1, ko, kx, kv, kd, kg⟩ := HIN.out
 have hK2 := HK5.out.but HORD.out (But.of_below hb5) kg kv
 have hC2 := HC5.out.next hb5
 have hS2 := HLS.out.but (But.of_below (X := fun _ => False) hb5) (fun _ _ h => h)
 have hXL : ∀ k, XL L (.slice none 0 0) k → k = L := by
  rintro k (e | e)
  ·exact e
  ·cases e
 have hrd := hK2.rd.rdN hK2.bw.size (X := XL L (.slice none 0 0)) (fun k hk => by rw [hXL k hk]; have := HORD.out.l; have := HORD.out.fc; have := HORD.out.f; omega)
 rw [k1] at hrd
 have H16 := hid (LLend_any L _ da n dc o.da u2 (by have := ko.da; omega) hS2 hrd)
 have hop := hK2.op
 rw [k1] at hop
 obtain ⟨⟨m0, m1, m2, m3, m4, m5⟩, _⟩ := hop.cs
 have HC2 := hid hC2
 have HXL := hid hXL
 clear hb5 hK2 hC2 hS2 hXL hrd hop k1 ko kx kv kd kg HM5 HLS HC5
 go_wp2_with fail
 refine H16.out.mono ?_
 rintro e u3 ⟨G, M, rfl, _, _, hbt⟩
 have hC3 := HC2.out.but hbt (fun q => HORD.out.lf (.inl (HXL.out _ q).symm)) (fun g hg q => HORD.out.lf (.inr (HXL.out _ q ▸ hg))) (fun q => by have := HXL.out _ q; have := HORD.out.l; have := HORD.out.p; omega) (fun k _ hk => .inr (.inr (.inl (HXL.out _ hk))))
 obtain ⟨u4, hu4⟩ : ∃ u4, u4 = u3.setCell ⟨P, 5, none⟩ (.slice (some ⟨G, 0, none⟩) n (2 * n + 70)) := ⟨_, rfl⟩
 obtain ⟨hC4, hop4⟩ := hC3.set HORD.out.pf _ hu4
 obtain ⟨v3, hv3⟩ := hC3.op
 obtain ⟨⟨_, _, _, _, _, q5⟩, qf⟩ := hv3.cs
 obtain ⟨k1, ko, kx, kv, kd, kg⟩ := HIN.out
 have hK4 := HK5.out.but HORD.out hC4.bt kg kv
 have H17 := hid (Do_any x (some ⟨F, 0, none⟩) (2 * x.vs.length + 70) o.ow (some ⟨G, 0, none⟩) n (2 * n + 70) u4 (kx.mono (by omega) (by omega)) hC4.lv.rd (fun e => by cases e) hK4.gt ko.w)
 dsimp only [viewA, opA, PO.ow] at H17
 obtain ⟨⟨m0, m1, m2, m3, m4, m5⟩, _⟩ := hop4.cs
 obtain ⟨⟨p0, p1, p2, p3⟩, _⟩ := hK4.c.cs
 have HB4 := hid hK4.bw
 have HU4 := hid hu4
 rw [hu4] at m0 m1 m2 m3 m4 m5 p0 p1 p2 p3
 clear hbt hC3 hu4 hC4 hop4 hv3 k1 ko kx kv kd kg hK4 H16 HC2 HXL HIN HK5 HORD
 go_wp2_with fail
 rw [← HU4.out]
 refine H17.out.mono ?_
 rintro e u5 ⟨a', c', us', rfl, _, _, hb6⟩
 have HB6 := hid (HB4.out.trans (hb6.mono HB4.out.size))
 clear hb6 H17 m0 m1 m2 m3 m4 m5 p0 p1 p2 p3 q5 qf
 go_wp2
 go_ret
 exact ⟨rfl, HB6.out⟩
end Go.Proofs.YtddddfankeepkaaGreatDoor
