import Derived.Test.YtddddfankeepkaaGreatDoorF42
import Derived.Test.YtddddfankeepkaaGreatDoorF10
import Derived.Test.YtddddfankeepkaaGreatDoorF43
namespace Go.Proofs.YtddddfankeepkaaGreatDoor
open Go.RowKit
def mpL (vs : List PV) : List Nat := vs.map (fun v => v.mp.length)
theorem trnX_mpL (x : VW) (t : Nat) : mpL (trnX x t).vs = mpL x.vs := by
 unfold mpL trnX
 dsimp only
 rw [List.map_set]
 by_cases h : x.vs.length / 2 < x.vs.length
 ·rw [trnV_mp, show midV x = x.vs[x.vs.length / 2] by simp [midV, List.getD_eq_getElem?_getD, h]]
  rw [show (x.vs[x.vs.length / 2]).mp.length = (x.vs.map (fun v => v.mp.length))[x.vs.length / 2]'(by simpa using h) by simp]
  exact List.set_getElem_self _
 ·rw [List.set_eq_of_length_le (by simpa using h)]
theorem mpL_at {a b : List PV} (h : mpL a = mpL b) (j : Nat) (h1 : j < a.length) (h2 : j < b.length) : a[j].mp.length = b[j].mp.length := by
 have e := congrArg (fun l => l[j]?) h
 simp only [mpL, List.getElem?_map, List.getElem?_eq_getElem h1, List.getElem?_eq_getElem h2, Option.map_some, Option.some.injEq] at e
 exact e
theorem mpL_len {a b : List PV} (h : mpL a = mpL b) : a.length = b.length := by
 have := congrArg List.length h
 simpa [mpL] using this
theorem doP_sh {y : VW} (hM : MayP y) (o : OW) (n : Nat) : shV (doP y o n).vs := by
 unfold doP
 split
 ·rename_i h
  exact (hM.tk h).szV.shV (by omega) (by omega)
 ·exact ⟨by simp [VW0], by simp [VW0]⟩
set_option maxRecDepth 100000 in
set_option maxHeartbeats 8000000 in
theorem dddo_Y (x : VW) (a : Option Addr) (c0 : Nat) (o : PO) (n : Nat) (da : Option Addr) (dc : Nat) (w : World) (hn : o.da.length = n) (ho : okO o) (hx : szV 1048576 1048576 x.vs) (hR : RdV w.heap.size w a x.vs) (hD : Rd w.heap.size w da o.da.length o.da) (hG : GT w) (hY : ∀ u, RdV u.heap.size u a x.vs → Calls Tryz.prog 8 #[viewA x a c0] u fun e w' => BoQ u true e w') (hM : MayP x) :
  Calls Tryz.prog 4 #[viewA x a c0, opA o.ow da n dc] w fun e w' => BoQ w true e w' := by
 have HMP := hid hM
 clear hM
 obtain ⟨R, hRe⟩ : ∃ R, R = w.heap.size := ⟨_, rfl⟩
 obtain ⟨O, hOe⟩ : ∃ O, O = w.heap.size + 1 := ⟨_, rfl⟩
 obtain ⟨W0, hW0⟩ : ∃ W0, W0 = (w.alloc (.cells #[.int .i64 x.cp, .int .i64 x.fr, .int .i64 x.nx, .slice a x.vs.length c0] 24)).alloc (.cells #[.int .i64 o.k, .string o.nm, .string o.ot, .int .i64 o.fr, .int .i64 o.tt, .slice da n dc] 42) := ⟨_, rfl⟩
 have b0 : Below w.heap.size w W0 := by rw [hW0]; exact two_below _ _ _
 have s0 : W0.heap.size = w.heap.size + 2 := by rw [hW0]; simp
 have hV : VwB W0 R x (.slice a x.vs.length c0) := by
  unfold VwB
  rw [hW0, hRe, Below.heap_alloc _ _ _ (by simp)]
  exact heap_new _ _
 have hO : OpZ W0 O o (.slice da n dc) := by
  have := heap_new (w.alloc (.cells #[.int .i64 x.cp, .int .i64 x.fr, .int .i64 x.nx, .slice a x.vs.length c0] 24)) (.cells #[.int .i64 o.k, .string o.nm, .string o.ot, .int .i64 o.fr, .int .i64 o.tt, .slice da n dc] 42)
  rw [World.size_alloc, ← hOe, ← hW0] at this
  exact this
 have hR0 := (hR.below b0).mono b0.size
 have hG0 := hG.next b0
 have HAW := hid (awake_any W0 hG0)
 have HMAY := hid (fun u (hu : Below W0.heap.size W0 u) => hY u ((hR0.below hu).mono hu.size))
 have HLE := hid (fun u (hu : Below W0.heap.size W0 u) => Lend_any x a c0 u (hx.shV (by omega) (by omega)) ((hR0.below hu).mono hu.size))
 have HV := hid hV
 have HO := hid hO
 have HB0 := hid b0
 have HS0 := hid s0
 have HRe := hid hRe.symm
 have HOe := hid hOe.symm
 have HW0 := hid hW0
 have HIN : Hid (o.da.length = n ∧ okO o ∧ szV 1048576 1048576 x.vs ∧ RdV w.heap.size w a x.vs ∧ Rd w.heap.size w da o.da.length o.da ∧ GT w) := ⟨hn, ho, hx, hR, hD, hG⟩
 clear hRe hOe hW0 b0 s0 hV hO hR0 hG0 hx hR hD hG hn ho hY
 dsimp only [viewA, opA, PO.ow] at *
 go_enter Tryz.func4, Tryz.ntmps4
 go_wp2_with fail
 rw [← HW0.out, HOe.out, HRe.out]
 refine HAW.out.mono ?_
 rintro e w1 ⟨rfl, hb1⟩
 have HB1 := hid hb1
 have HL1 := hid (HLE.out w1 hb1)
 clear hb1 HAW HLE HW0
 obtain ⟨⟨p0, p1, p2, p3⟩, _⟩ := (HV.out.keep (HB1.out.block R HV.out.lt)).cs
 go_wp2_with fail
 refine HL1.out.mono ?_
 rintro e w2 ⟨F, gs, rfl, hL2, hF2, hb2⟩
 have hb02 := HB1.out.trans (hb2.mono HB1.out.size)
 obtain ⟨C, hCe⟩ : ∃ C, C = w2.heap.size := ⟨_, rfl⟩
 obtain ⟨L, hLe⟩ : ∃ L, L = w2.heap.size + 1 := ⟨_, rfl⟩
 obtain ⟨P, hPe⟩ : ∃ P, P = w2.heap.size + 1 + 1 := ⟨_, rfl⟩
 obtain ⟨w3, hw3⟩ : ∃ w3, w3 = (w2.alloc (.cells #[.int .i64 x.cp, .int .i64 x.fr, .int .i64 x.nx, .slice (some ⟨F, 0, none⟩) x.vs.length (2 * x.vs.length + 70)] 24)).alloc (.cells #[.slice none 0 0, .int .i64 0] 44) := ⟨_, rfl⟩
 obtain ⟨w5, hw5⟩ : ∃ w5, w5 = w3.alloc (.cells #[.int .i64 o.k, .string o.nm, .string o.ot, .int .i64 o.fr, .int .i64 o.tt, .slice da n dc] 42) := ⟨_, rfl⟩
 have b23 : Below w2.heap.size w2 w3 := by rw [hw3]; exact two_below _ _ _
 have s3 : w3.heap.size = w2.heap.size + 2 := by rw [hw3]; simp
 have s5 : w5.heap.size = w2.heap.size + 3 := by rw [hw5, World.size_alloc, s3]
 have b25 : Below w2.heap.size w2 w5 := b23.trans (by rw [hw5]; exact (below1 _ _).mono b23.size)
 have hC5 : VwB w5 C x (.slice (some ⟨F, 0, none⟩) x.vs.length (2 * x.vs.length + 70)) := by
  unfold VwB
  rw [hw5, Below.heap_alloc _ _ _ (by omega), hw3, hCe, Below.heap_alloc _ _ _ (by simp)]
  exact heap_new _ _
 have hLn5 : Lnd w5 L (.slice none 0 0) 0 := by
  unfold Lnd
  rw [hw5, Below.heap_alloc _ _ _ (by omega)]
  have := heap_new (w2.alloc (.cells #[.int .i64 x.cp, .int .i64 x.fr, .int .i64 x.nx, .slice (some ⟨F, 0, none⟩) x.vs.length (2 * x.vs.length + 70)] 24)) (.cells #[.slice none 0 0, .int .i64 0] 44)
  rw [World.size_alloc, ← hLe, ← hw3] at this
  exact this
 have hP5 : OpZ w5 P o (.slice da n dc) := by
  have := heap_new w3 (.cells #[.int .i64 o.k, .string o.nm, .string o.ot, .int .i64 o.fr, .int .i64 o.tt, .slice da n dc] 42)
  rw [← hw5, s3, show w2.heap.size + 2 = P by omega] at this
  exact this
 have hb05 := hb02.trans (b25.mono hb02.size)
 have hth := hL2.there
 have HORD : Hid (DdO w w5 R O F gs C L P) := ⟨HRe.out.symm, HOe.out.symm, by have := HS0.out; have := HB1.out.size; omega, by omega, fun g hg => ⟨hL2.lo g hg, by have := hth.2 g hg; omega⟩, by omega, by omega, by omega⟩
 have HK5 : Hid (DdK w R O C F x a c0 o da dc w5) := by
  obtain ⟨k1, k2, k3, k4, k5, k6⟩ := HIN.out
  have bw := HB0.out.trans (hb05.mono HB0.out.size)
  exact ⟨HV.out.keep (hb05.block _ HV.out.lt), hC5, by rw [k1]; exact HO.out.keep (hb05.block _ HO.out.lt), (k4.below bw).mono bw.size, k5.below bw, k6.next bw, bw⟩
 have HC5 : Hid (DdC w5 F gs L P o w5 x.vs) := ⟨hL2.next b25, ⟨_, hP5⟩, But.refl _ _⟩
 have HLS : Hid (LS w5 L (.slice none 0 0)) := ⟨⟨_, hLn5⟩, .inl rfl⟩
 have HM5 := hid (HMAY.out w5 hb05)
 obtain ⟨⟨m0, m1, m2, m3, m4, m5⟩, _⟩ := (HO.out.keep (hb02.block O HO.out.lt)).cs
 have HS5 := hid s5
 have HW3 := hid hw3
 have HW5 := hid hw5
 have HCE := hid hCe.symm
 have HLE := hid hLe.symm
 have HPE := hid hPe.symm
 have hbx : Below W0.heap.size W0 (w2.alloc (.cells #[.int .i64 x.cp, .int .i64 x.fr, .int .i64 x.nx, .slice (some ⟨F, 0, none⟩) x.vs.length (2 * x.vs.length + 70)] 24)) := hb02.trans ((below1 _ _).mono hb02.size)
 have hby : Below W0.heap.size W0 w3 := hb02.trans (b23.mono hb02.size)
 obtain ⟨⟨n0, n1, n2, n3, n4, n5⟩, _⟩ := (HO.out.keep (hby.block O HO.out.lt)).cs
 rw [hw3] at n0 n1 n2 n3 n4 n5
 clear hCe hLe hPe hw3 hw5 b23 s3 s5 b25 hC5 hLn5 hP5 hb05 hth hb02 hb2 hF2 hL2 HMAY HL1 p0 p1 p2 p3 hbx hby
 obtain ⟨⟨p0, p1, p2, p3⟩, _⟩ := HK5.out.v.cs
 rw [HW5.out, HW3.out] at p0 p1 p2 p3
 go_wp2_with fail
 rw [← HW3.out, ← HW5.out, HPE.out, HLE.out, HCE.out]
 clear m0 m1 m2 m3 m4 m5 n0 n1 n2 n3 n4 n5 p0 p1 p2 p3 HW3 HW5 HCE HLE HPE HS5 HS0 HB0 HB1 HO HV HRe HOe
 refine HM5.out.mono ?_
 rintro e u2 ⟨rfl, hb5⟩
 have HST : Hid (DdC w5 F gs L P o u2 x.vs ∧ LS u2 L (.slice none 0 0)) := ⟨HC5.out.next hb5, HLS.out.but (But.of_below (X := fun _ => False) hb5) (fun _ _ h => h)⟩
 have HK := HK5
 clear hb5 HM5 HC5 HLS HK5
 have HMX : Hid (∀ y : VW, MayP y → szV 64 262145 y.vs) := fun y h => h.szV
 go_wp2_with fail
 go_loopw [8] (fun iv wr => ∃ (t : Nat) (ys : List PV) (bv : Value), iv = .int .i64 (t : Int) ∧ t ≤ 5 ∧ mpL ys = mpL x.vs ∧ DdC w5 F gs L P o wr ys ∧ LS wr L bv ∧ ∀ g, bv.ownBlock = some g → w5.heap.size ≤ g) (fun iv _ => 5 - (intOf iv).toNat)
 case atStart => exact ⟨0, x.vs, _, rfl, by omega, rfl, HST.out.1, HST.out.2, fun g hg => by cases hg⟩
 case round =>
  clear HST
  obtain ⟨t, ys, bv, rfl, ht, hmp, hC, hS, hbv⟩ := hrel
  generalize wr = wo at *
  obtain ⟨k1, ko, kx, kv, kd, kg⟩ := HIN.out
  have hK := HK.out.but HORD.out hC.bt kg kv
  by_cases p : t = 5
  ·have HD : Hid (BoQ w true (.returned (.bool true)) wo) := ⟨rfl, hK.bw⟩
   subst p
   clear ht hC hS hbv hmp hK
   go_wp2_with fail
   go_ret
   exact HD.out
  ·have ht4 : t ≤ 4 := by omega
   have qt : (t : Int) ≤ 4 := by omega
   have HT4 := hid (show t + 1 ≤ 5 by omega)
   have h18 := Turned_any x a c0 t ht4 wo HMP.out hK.rv
   have hMy := trnX_may HMP.out t
   have hl := trnX_len x t
   have hml := trnX_mpL x t
   obtain ⟨yv, hyv⟩ : ∃ yv, yv = (trnX x t).vs := ⟨_, rfl⟩
   have hye : trnX x t = ⟨x.cp, x.fr, x.nx, yv⟩ := by rw [hyv]; rfl
   rw [hye] at h18 hMy hl hml
   dsimp only at hl hml
   have HY : Hid (yv.length = x.vs.length ∧ MayP ⟨x.cp, x.fr, x.nx, yv⟩ ∧ mpL yv = mpL x.vs) := ⟨hl, hMy, hml⟩
   have H18 : Hid (Calls Tryz.prog 18 #[.agg #[.int .i64 x.cp, .int .i64 x.fr, .int .i64 x.nx, .slice a x.vs.length c0], .int .i64 (t : Int)] wo fun e w1 => ∃ a1 c1 us, e = .returned (.agg #[.int .i64 x.cp, .int .i64 x.fr, .int .i64 x.nx, .slice a1 x.vs.length c1]) ∧ OwV wo.heap.size w1 (.slice a1 x.vs.length c1) yv us ∧ Below wo.heap.size wo w1) := by
    refine h18.mono ?_
    rintro e w1 ⟨a1, c1, us, rfl, how, hb⟩
    dsimp only [viewA] at how ⊢
    rw [hl] at how ⊢
    exact ⟨a1, c1, us, rfl, how, hb⟩
   obtain ⟨⟨p0, p1, p2, p3⟩, _⟩ := hK.v.cs
   have HC := hid hC
   have HSL := hid hS
   have HBV := hid hbv
   have HMPL := hid hmp
   clear p ht ht4 h18 hMy hl hml hyv hye hK hC hS hbv hmp k1 ko kx kv kd kg
   go_wp2_with fail
   refine H18.out.mono ?_
   rintro e w1 ⟨a1, c1, us, rfl, how, hb1⟩
   obtain ⟨k1, ko, kx, kv, kd, kg⟩ := HIN.out
   obtain ⟨N, hN⟩ : ∃ N, N = w1.heap.size := ⟨_, rfl⟩
   obtain ⟨w2, hw2⟩ : ∃ w2, w2 = w1.alloc (.cells #[.int .i64 x.cp, .int .i64 x.fr, .int .i64 x.nx, .slice a1 x.vs.length c1] 24) := ⟨_, rfl⟩
   have b12 : Below w1.heap.size w1 w2 := by rw [hw2]; exact below1 _ _
   have hN2 : VwB w2 N ⟨x.cp, x.fr, x.nx, yv⟩ (.slice a1 x.vs.length c1) := by rw [hw2, hN]; exact heap_new _ _
   have bo2 := hb1.trans (b12.mono hb1.size)
   have hC2 := HC.out.next bo2
   have how2 := how.next b12
   have hK2 := HK.out.but HORD.out hC2.bt kg kv
   have hth := HC.out.lv.there
   have hNo : wo.heap.size ≤ N := by rw [hN]; exact hb1.size
   have h19 := Lay_any ⟨x.cp, x.fr, x.nx, ys⟩ ⟨x.cp, x.fr, x.nx, yv⟩ x.vs.length (2 * x.vs.length + 70) wo.heap.size F gs a1 c1 us w2 (mpL_len HMPL.out) HY.out.1 rfl (by have := HMP.out.len; omega) (fun j h1 h2 => mpL_at (HY.out.2.2.trans HMPL.out.symm) j h1 h2) hC2.lv how2 hth.1 hth.2 bo2.size
   have H19 := hid h19
   have HC2 := hid hC2
   have HN2 := hid hN2
   have HS2 := hid (HSL.out.but (But.of_below (X := fun _ => False) bo2) (fun _ _ h => h))
   have HXW : Hid (∀ k, XL L bv k → k < wo.heap.size ∧ (k = L ∨ w5.heap.size ≤ k)) := fun k hk => ⟨HSL.out.there hk, hk.elim .inl (fun e => .inr (HBV.out k e))⟩
   have HNO : Hid (wo.heap.size ≤ N ∧ w5.heap.size ≤ wo.heap.size ∧ wo.heap.size ≤ w2.heap.size) := ⟨hNo, HC.out.bt.size, bo2.size⟩
   obtain ⟨⟨p0, p1, p2, p3⟩, _⟩ := hK2.c.cs
   obtain ⟨⟨n0, n1, n2, n3⟩, _⟩ := hN2.cs
   have HW2 := hid hw2
   have HNe := hid hN
   rw [hw2] at p0 p1 p2 p3 n0 n1 n2 n3
   rw [hN] at n0 n1 n2 n3
   clear k1 ko kx kv kd kg hN hw2 b12 hN2 bo2 hC2 how2 hK2 hth hNo h19 how hb1 H18 HC HSL HBV HMPL
   go_wp2_with fail
   rw [← HW2.out, ← HNe.out]
   clear p0 p1 p2 p3 n0 n1 n2 n3 HW2 HNe
   refine H19.out.mono ?_
   rintro e w3 ⟨rfl, hlv3, how3, hbt3⟩
   obtain ⟨k1, ko, kx, kv, kd, kg⟩ := HIN.out
   have hC3 := HC2.out.lay hbt3 hlv3 HORD.out.pf
   have hN3 : VwB w3 N ⟨x.cp, x.fr, x.nx, yv⟩ (.slice a1 x.vs.length c1) := HN2.out.keep (hbt3.block N HN2.out.lt (fun q => by
    have h1 := HNO.out
    have h2 := HORD.out.s
    have h3 := HORD.out.fc
    rcases q with q | q
    ·omega
    ·have := HORD.out.g N q
     omega))
   have hS3 := HS2.out.but hbt3 (fun k hk q => by
    have h1 := (HXW.out k hk).2
    have h2 := HORD.out.s
    have h3 := HORD.out.fc
    have h4 := HORD.out.l
    rcases q with q | q
    ·omega
    ·have := HORD.out.g k q
     omega)
   have hK3 := HK.out.but HORD.out hC3.bt kg kv
   have hrd := hK3.rd.rdN hK3.bw.size (X := XL L bv) (fun k hk => by
    have h1 := (HXW.out k hk).2
    have h2 := HORD.out.s
    have h3 := HORD.out.fc
    have h4 := HORD.out.l
    have h5 := HORD.out.f
    omega)
   rw [k1] at hrd
   have H16 := hid (LLend_any L bv da n dc o.da w3 (by have := ko.da; omega) hS3 hrd)
   have hop := hK3.op
   rw [k1] at hop
   obtain ⟨⟨m0, m1, m2, m3, m4, m5⟩, _⟩ := hop.cs
   have HC3 := hid hC3
   have HN3 := hid hN3
   have HOW3 := hid how3
   have HNO3 : Hid (wo.heap.size ≤ w3.heap.size) := Nat.le_trans HNO.out.2.2 hbt3.size
   clear k1 ko kx kv kd kg hC3 hN3 hS3 hK3 hrd hop hlv3 how3 hbt3 H19 HC2 HN2 HS2
   go_wp2_with fail
   refine H16.out.mono ?_
   rintro e w4 ⟨G, M, rfl, hlent, hG, hbt4⟩
   obtain ⟨k1, ko, kx, kv, kd, kg⟩ := HIN.out
   have hGs : w5.heap.size ≤ G := by
    have h1 := HNO3.out
    have h2 := HNO.out
    rcases hG with hG | hG
    ·rcases (HXW.out G (.inr hG)).2 with e | e
     ·exact absurd e.symm hlent.ne
     ·exact e
    ·omega
   have hC4 := HC3.out.but hbt4 (fun q => by have h1 := (HXW.out _ q).2; have h2 := HORD.out.s; have h3 := HORD.out.fc; have h4 := HORD.out.l; omega) (fun g hg q => by have h1 := (HXW.out _ q).2; have h2 := HORD.out.s; have h3 := HORD.out.g g hg; have h4 := HORD.out.l; omega) (fun q => by have h1 := (HXW.out _ q).2; have h2 := HORD.out.s; have h4 := HORD.out.l; have h5 := HORD.out.p; omega) (fun k hk q => by
    rcases (HXW.out _ q).2 with e | e
    ·exact .inr (.inr (.inl e))
    ·omega)
   have hN4 : VwB w4 N ⟨x.cp, x.fr, x.nx, yv⟩ (.slice a1 x.vs.length c1) := HN3.out.keep (hbt4.block N HN3.out.lt (fun q => by have h1 := (HXW.out _ q).1; have h2 := HNO.out.1; omega))
   have how4 : OwV wo.heap.size w4 (.slice a1 x.vs.length c1) yv us := HOW3.out.keep (fun g h1 h2 => hbt4.block g h2 (fun q => by have := (HXW.out _ q).1; omega))
   obtain ⟨w6, hw6⟩ : ∃ w6, w6 = w4.setCell ⟨P, 5, none⟩ (.slice (some ⟨G, 0, none⟩) n (2 * n + 70)) := ⟨_, rfl⟩
   have hbt6 : But (fun k => k = P) w4 w6 := by rw [hw6]; exact (But.refl (fun k => k = P) w4).setCell (p := ⟨P, 5, none⟩) rfl _
   obtain ⟨hC6, hop6⟩ := hC4.set HORD.out.pf _ hw6
   have hPs : P < w5.heap.size := by have h2 := HORD.out.s; have h5 := HORD.out.p; omega
   have hN6 : VwB w6 N ⟨x.cp, x.fr, x.nx, yv⟩ (.slice a1 x.vs.length c1) := hN4.keep (hbt6.block N hN4.lt (fun q => by have h2 := HNO.out; omega))
   have how6 : OwV wo.heap.size w6 (.slice a1 x.vs.length c1) yv us := how4.keep (fun g h1 h2 => hbt6.block g h2 (fun q => by have := HNO.out; omega))
   have hlent6 := hlent.but hbt6 (fun q => by have h4 := HORD.out.l; have h5 := HORD.out.p; omega) (fun q => by omega)
   have hK6 := HK.out.but HORD.out hC6.bt kg kv
   have h17 := Do_any ⟨x.cp, x.fr, x.nx, yv⟩ (some ⟨F, 0, none⟩) (2 * x.vs.length + 70) o.ow (some ⟨G, 0, none⟩) n (2 * n + 70) w6 ((HMX.out _ HY.out.2.1).mono (by omega) (by omega)) hC6.lv.rd (fun e => by cases e) hK6.gt ko.w
   rw [one_all] at h17
   have hzs := doP_sh HY.out.2.1 o.ow n
   have h20 := fun (u : World) (X0 : Nat → Prop) (a3 : Option Addr) (c3 : Nat) (q1 : ∀ q, X0 q → q < u.heap.size) (q2 : RdVX X0 u.heap.size u a3 yv) (q3 : a3 = none → c3 = 0) => do_any20 ⟨x.cp, x.fr, x.nx, yv⟩ a3 c3 o.ow da n dc u HY.out.2.1 ko.w X0 q1 q2 q3
   obtain ⟨z, hz⟩ : ∃ z, z = doP ⟨x.cp, x.fr, x.nx, yv⟩ o.ow n := ⟨_, rfl⟩
   obtain ⟨q, hq⟩ : ∃ q, q = tkE ⟨x.cp, x.fr, x.nx, yv⟩ o.ow n := ⟨_, rfl⟩
   rw [← hz, ← hq] at h17 h20
   rw [← hz] at hzs
   obtain ⟨z0, z1, z2, zv⟩ := z
   dsimp only [viewA, opA, PO.ow] at h17 h20 hzs
   rw [HY.out.1] at h17 h20
   have H17 : Hid (Calls Tryz.prog 17 #[.agg #[.int .i64 x.cp, .int .i64 x.fr, .int .i64 x.nx, .slice (some ⟨F, 0, none⟩) x.vs.length (2 * x.vs.length + 70)], .agg #[.int .i64 o.k, .string o.nm, .string o.ot, .int .i64 o.fr, .int .i64 o.tt, .slice (some ⟨G, 0, none⟩) n (2 * n + 70)]] w6 fun e w7 => ∃ a2 c2 zl, e = .returned (.tuple #[.agg #[.int .i64 z0, .int .i64 z1, .int .i64 z2, .slice a2 zl c2], .int .i64 q]) ∧ zl = zv.length ∧ RdV w7.heap.size w7 a2 zv ∧ Below w6.heap.size w6 w7) := by
    refine h17.mono ?_
    rintro e w7 ⟨a2, c2, us2, rfl, ho2, _, hb7⟩
    obtain ⟨a9, c9, e9, hR9, _⟩ := ho2.rd
    simp only [Value.slice.injEq] at e9
    exact ⟨a2, c2, _, rfl, rfl, by rw [e9.1]; exact hR9, hb7⟩
   have H20 : Hid (∀ u, Below w6.heap.size w6 u → ∀ (X0 : Nat → Prop) (a3 : Option Addr) (c3 : Nat), (∀ q, X0 q → q < u.heap.size) → RdVX X0 u.heap.size u a3 yv → (a3 = none → c3 = 0) → Calls Tryz.prog 20 #[.agg #[.int .i64 x.cp, .int .i64 x.fr, .int .i64 x.nx, .slice a3 x.vs.length c3], .agg #[.int .i64 o.k, .string o.nm, .string o.ot, .int .i64 o.fr, .int .i64 o.tt, .slice da n dc]] u fun e u' => ∃ a4 c4 zl4, e = .returned (.tuple #[.agg #[.int .i64 z0, .int .i64 z1, .int .i64 z2, .slice a4 zl4 c4], .int .i64 q]) ∧ zl4 = zv.length ∧ RdVX X0 u'.heap.size u' a4 zv ∧ Below u.heap.size u u') := fun u _ X0 a3 c3 q1 q2 q3 => by
    refine (h20 u X0 a3 c3 q1 q2 q3).mono ?_
    rintro e u' ⟨a4, c4, rfl, h5, _, h6⟩
    exact ⟨a4, c4, _, rfl, rfl, h5, h6⟩
   have H13 : Hid (∀ W a1 c1' a3 c3, RdV W.heap.size W a1 zv → RdV W.heap.size W a3 zv → Calls Tryz.prog 13 #[.agg #[.int .i64 z0, .int .i64 z1, .int .i64 z2, .slice a1 zv.length c1'], .agg #[.int .i64 z0, .int .i64 z1, .int .i64 z2, .slice a3 zv.length c3]] W fun e w' => e = .returned (.bool true) ∧ Below W.heap.size W w') := fun W a1 c1' a3 c3 h1 h3 => SameView_yes ⟨z0, z1, z2, zv⟩ a1 a3 c1' c3 W hzs h1 h3
   have HSH := hid ((HMX.out _ HY.out.2.1).shV (by omega) (by omega))
   have HGG : Hid (¬ F = G ∧ ¬ G ∈ gs ∧ ¬ P = G ∧ w5.heap.size ≤ G) := ⟨fun e => by have h2 := HORD.out.s; have h3 := HORD.out.fc; omega, fun e => by have h2 := HORD.out.s; have h3 := HORD.out.g G e; omega, fun e => by omega, hGs⟩
   have HNB : Hid (n ≤ 16777216) := by have := ko.da; unfold Hid; omega
   have HE6 : Hid (∀ W, Below w6.heap.size w6 W → VwB W C ⟨x.cp, x.fr, x.nx, x.vs⟩ (.slice (some ⟨F, 0, none⟩) x.vs.length (2 * x.vs.length + 70)) ∧ VwB W N ⟨x.cp, x.fr, x.nx, yv⟩ (.slice a1 x.vs.length c1) ∧ OpZ W O o (.slice da n dc) ∧ DdC w5 F gs L P o W yv ∧ Lent W L G M n o.da ∧ OwV wo.heap.size W (.slice a1 x.vs.length c1) yv us ∧ RdN (fun k => k = L ∨ k = G) W da n o.da) := fun W hW => by
    obtain ⟨k1, ko, kx, kv, kd, kg⟩ := HIN.out
    have hCW := hC6.next hW
    have hKW := HK.out.but HORD.out hCW.bt kg kv
    have h1 := hKW.op
    have h2 := hKW.rd.rdN hKW.bw.size (X := fun k => k = L ∨ k = G) (fun k hk => by have h3 := HORD.out.fc; have h4 := HORD.out.l; have h5 := HORD.out.f; have h6 := HORD.out.s; omega)
    rw [k1] at h1 h2
    exact ⟨hKW.c, hN6.keep (hW.block N hN6.lt), h1, hCW, hlent6.below hW, how6.next hW, h2⟩
   obtain ⟨v4, hv4⟩ := hC4.op
   obtain ⟨⟨_, _, _, _, _, q5⟩, qf⟩ := hv4.cs
   obtain ⟨⟨m0, m1, m2, m3, m4, m5⟩, _⟩ := hop6.cs
   obtain ⟨⟨p0, p1, p2, p3⟩, _⟩ := hK6.c.cs
   have HW6 := hid hw6
   rw [hw6] at m0 m1 m2 m3 m4 m5 p0 p1 p2 p3
   clear k1 ko kx kv kd kg hGs hC4 hN4 how4 hw6 hbt6 hC6 hop6 hPs hN6 how6 hlent6 hK6 h17 hzs h20 hz hq hlent hG hbt4 hv4 H16 HC3 HN3 HOW3 HNO3 HXW
   go_wp2_with fail
   rw [← HW6.out]
   clear m0 m1 m2 m3 m4 m5 p0 p1 p2 p3 q5 qf HW6
   refine H17.out.mono ?_
   rintro e w7 ⟨a2, c2, zl, rfl, hzl, hrv2, hb7⟩
   obtain ⟨Gt, hGt⟩ : ∃ Gt, Gt = w7.heap.size := ⟨_, rfl⟩
   obtain ⟨w8, hw8⟩ : ∃ w8, w8 = w7.alloc (.cells #[.int .i64 z0, .int .i64 z1, .int .i64 z2, .slice a2 zl c2] 24) := ⟨_, rfl⟩
   have b78 : Below w7.heap.size w7 w8 := by rw [hw8]; exact below1 _ _
   have hV8 : VwB w8 Gt ⟨z0, z1, z2, zv⟩ (.slice a2 zl c2) := by rw [hw8, hGt]; exact heap_new _ _
   have b68 := hb7.trans (b78.mono hb7.size)
   have hr8 := (hrv2.below b78).mono b78.size
   have HEND : Hid (∀ W, Below w8.heap.size w8 W → VwB W Gt ⟨z0, z1, z2, zv⟩ (.slice a2 zl c2) ∧ RdV W.heap.size W a2 zv ∧ VwB W C ⟨x.cp, x.fr, x.nx, x.vs⟩ (.slice (some ⟨F, 0, none⟩) x.vs.length (2 * x.vs.length + 70)) ∧ VwB W N ⟨x.cp, x.fr, x.nx, yv⟩ (.slice a1 x.vs.length c1) ∧ OpZ W O o (.slice da n dc) ∧ DdC w5 F gs L P o W yv ∧ Lent W L G M n o.da ∧ RdV W.heap.size W a1 yv ∧ RdN (fun k => k = L ∨ k = G) W da n o.da) := fun W hW => by
    obtain ⟨e1, e2, e3, e4, e5, e6, e7⟩ := HE6.out W (b68.trans (hW.mono b68.size))
    obtain ⟨a9, c9, e9, hR9, _⟩ := e6.rd
    simp only [Value.slice.injEq] at e9
    exact ⟨hV8.keep (hW.block Gt hV8.lt), (hr8.below hW).mono hW.size, e1, e2, e3, e4, e5, by rw [e9.1]; exact hR9, e7⟩
   have H10 : Hid (∀ u, Below w8.heap.size w8 u → ∀ X0 : Nat → Prop, (∀ q, X0 q → q < u.heap.size) → Calls Tryz.prog 10 #[.agg #[.int .i64 x.cp, .int .i64 x.fr, .int .i64 x.nx, .slice a1 x.vs.length c1]] u fun e u' => ∃ a3 c3, e = .returned (.agg #[.int .i64 x.cp, .int .i64 x.fr, .int .i64 x.nx, .slice a3 x.vs.length c3]) ∧ RdVX X0 u'.heap.size u' a3 yv ∧ (a3 = none → c3 = 0) ∧ Below u.heap.size u u') := fun u hu X0 hX0 => by
    have h10 := CopyViewO_any ⟨x.cp, x.fr, x.nx, yv⟩ a1 c1 u HSH.out (HEND.out u hu).2.2.2.2.2.2.2.1
    dsimp only [viewA] at h10
    rw [HY.out.1] at h10
    refine h10.mono ?_
    rintro e u' ⟨a3, c3, us3, rfl, ho3, _, hb3⟩
    obtain ⟨a9, c9, e9, hR9, hn9⟩ := ho3.rdX hX0
    simp only [Value.slice.injEq] at e9
    rw [← e9.1, ← e9.2.2] at hn9
    exact ⟨a3, c3, rfl, by rw [e9.1]; exact hR9, hn9, hb3⟩
   have H20' : Hid (∀ u, Below w8.heap.size w8 u → ∀ (X0 : Nat → Prop) (a3 : Option Addr) (c3 : Nat), (∀ q, X0 q → q < u.heap.size) → RdVX X0 u.heap.size u a3 yv → (a3 = none → c3 = 0) → Calls Tryz.prog 20 #[.agg #[.int .i64 x.cp, .int .i64 x.fr, .int .i64 x.nx, .slice a3 x.vs.length c3], .agg #[.int .i64 o.k, .string o.nm, .string o.ot, .int .i64 o.fr, .int .i64 o.tt, .slice da n dc]] u fun e u' => ∃ a4 c4 zl4, e = .returned (.tuple #[.agg #[.int .i64 z0, .int .i64 z1, .int .i64 z2, .slice a4 zl4 c4], .int .i64 q]) ∧ zl4 = zv.length ∧ RdVX X0 u'.heap.size u' a4 zv ∧ Below u.heap.size u u') := fun u hu => H20.out u (b68.trans (hu.mono b68.size))
   have HS : Hid (∀ u, Below w8.heap.size w8 u → (fun y => (y.cell? ⟨N, 0, none⟩ = some (.int .i64 x.cp) ∧ y.cell? ⟨N, 1, none⟩ = some (.int .i64 x.fr) ∧ y.cell? ⟨N, 2, none⟩ = some (.int .i64 x.nx) ∧ y.cell? ⟨N, 3, none⟩ = some (.slice a1 x.vs.length c1)) ∧ (y.cell? ⟨O, 0, none⟩ = some (.int .i64 o.k) ∧ y.cell? ⟨O, 1, none⟩ = some (.string o.nm) ∧ y.cell? ⟨O, 2, none⟩ = some (.string o.ot) ∧ y.cell? ⟨O, 3, none⟩ = some (.int .i64 o.fr) ∧ y.cell? ⟨O, 4, none⟩ = some (.int .i64 o.tt) ∧ y.cell? ⟨O, 5, none⟩ = some (.slice da n dc))) u) := fun u hu => by
    obtain ⟨_, _, _, e4, e5, _⟩ := HEND.out u hu
    exact ⟨e4.cs.1, e5.cs.1⟩
   have HZL := hid hzl
   have HW8 := hid hw8
   have HGt := hid hGt
   clear H20
   have H20 := H20'
   clear H20' hGt hw8 b78 hV8 b68 hr8 hzl hrv2 hb7 H17 HE6
   have mixed : Tryz.prog.follows Departure.mixedOrders = true := by kernel_rfl
   go_upto_region 17 with fail
   rw [← HW8.out, ← HGt.out]
   clear HW8 HGt
   refine Gz (S := (fun y => (y.cell? ⟨N, 0, none⟩ = some (.int .i64 x.cp) ∧ y.cell? ⟨N, 1, none⟩ = some (.int .i64 x.fr) ∧ y.cell? ⟨N, 2, none⟩ = some (.int .i64 x.nx) ∧ y.cell? ⟨N, 3, none⟩ = some (.slice a1 x.vs.length c1)) ∧ (y.cell? ⟨O, 0, none⟩ = some (.int .i64 o.k) ∧ y.cell? ⟨O, 1, none⟩ = some (.string o.nm) ∧ y.cell? ⟨O, 2, none⟩ = some (.string o.ot) ∧ y.cell? ⟨O, 3, none⟩ = some (.int .i64 o.fr) ∧ y.cell? ⟨O, 4, none⟩ = some (.int .i64 o.tt) ∧ y.cell? ⟨O, 5, none⟩ = some (.slice da n dc)))) (HS.out _ (below_dr (Below.refl _ _))) (fun hSS => ?_)
   refine Ti 0 rfl ?_
   refine Ti 2 rfl ?_
   try simp only [Act.put, zA, zB, zC]
   refine Rr 1 7 rfl rfl (fun K9 hK9 => ?_) (fun K9 hK9 => ?_)
   ·go_simp
    go_at_call 10
    refine (H10.out _ (below_dr (Below.refl w8.heap.size w8)) (fun _ => False) (fun _ q => q.elim)).mono ?_
    rintro e w9 ⟨a3, c3, rfl, hr3, hn3, hb9⟩
    have hb9' : Below w8.heap.size w8 w9 := (below_dr (Below.refl w8.heap.size w8)).trans (hb9.mono (below_dr (Below.refl w8.heap.size w8)).size)
    have HR3 := hid hr3.rdV
    have HN3 := hid hn3
    have HB9 := hid hb9'
    refine hK9.out _ _ (HS.out _ hb9') (fun hSS => ?_)
    try simp only [Act.put, zA, zB, zC]
    clear hr3 hn3 hb9 hb9'
    refine Rr 3 7 rfl rfl (fun K9 hK9 => ?_) (fun K9 hK9 => ?_)
    ·go_simp
     go_at_call 20
     refine (H20.out _ HB9.out (fun _ => False) a3 c3 (fun _ q => q.elim) (RdVX.of HR3.out (fun _ q => q.elim)) HN3.out).mono ?_
     rintro e wa ⟨a4, c4, zl4, rfl, hzl4, hr4, hba⟩
     have hba' : Below w8.heap.size w8 wa := HB9.out.trans (hba.mono HB9.out.size)
     obtain ⟨X, hX⟩ : ∃ X, X = wa.heap.size := ⟨_, rfl⟩
     obtain ⟨wb, hwb⟩ : ∃ y, y = wa.alloc (.cells #[.int .i64 0, .int .i64 0, .int .i64 0, .slice none 0 0] 24) := ⟨_, rfl⟩
     have bwb : Below wa.heap.size wa wb := by rw [hwb]; exact below1 _ _
     have hX0 : VwB wb X VW0 (.slice none 0 0) := by rw [hwb, hX]; exact heap_new _ _
     have HR4 : Hid (RdVX (fun q => q = X) wb.heap.size wb a4 zv) := ((RdVX.of hr4.rdV (X := fun q => q = X) (fun q e => by omega)).below bwb).mono bwb.size
     have HB4 := hid (hba'.trans (bwb.mono hba'.size))
     have HXl : Hid (w8.heap.size ≤ X) := by rw [hX]; exact hba'.size
     have HZ4 := hid hzl4
     have HX := hid hX0
     have HWb := hid hwb
     have HXe := hid hX
     have HBa := hid hba'
     refine hK9.out _ _ (HS.out _ hba') (fun hSS => ?_)
     try simp only [Act.put, zA, zB, zC]
     clear hr4 hba hba' hX hwb bwb hX0 hzl4 HR3 HN3
     refine Ti 4 rfl ?_
     refine Ti 5 rfl ?_
     refine Ti 6 rfl ?_
     try simp only [Act.put, zA, zB, zC]
     refine Ri 7 rfl (fun K9 hK9 => ?_)
     go_simp
     rw [← HWb.out, ← HXe.out]
     refine hK9.out _ _ (HS.out _ HB4.out) (fun hSS => ?_)
     try simp only [Act.put, zA, zB, zC]
     clear HWb HXe HBa HB9
     obtain ⟨We, hWe⟩ : ∃ We, We = put4 wb X ⟨z0, z1, z2, zv⟩ (.slice a4 zl4 c4) := ⟨_, rfl⟩
     have hVe : VwB We X ⟨z0, z1, z2, zv⟩ (.slice a4 zl4 c4) := by rw [hWe]; exact HX.out.put4
     have hbe := but_put4 wb X ⟨z0, z1, z2, zv⟩ (.slice a4 zl4 c4)
     rw [← hWe] at hbe
     have hR4 : RdV We.heap.size We a4 zv := (HR4.out.but hbe.size (fun q hq hx => hbe.block q hq hx)).rdV
     have hBe : Below w8.heap.size w8 We := HB4.out.trans (hbe.below HB4.out.size (fun q hq e => by have := HXl.out; omega))
     have HVe := hid hVe
     have HRe := hid hR4
     have HBe := hid hBe
     obtain ⟨⟨_, _, _, _⟩, xf⟩ := HX.out.cs
     obtain ⟨⟨x0, x1, x2, x3⟩, _⟩ := HX.out.cs
     unfold put4 at hWe
     have HWe := hid hWe
     clear hWe hVe hbe hR4 hBe
     refine Ri 8 rfl (fun K9 hK9 => ?_)
     go_simp
     rw [← HWe.out]
     refine hK9.out _ _ (HS.out _ HBe.out) (fun hSS => ?_)
     try simp only [Act.put, zA, zB, zC]
     refine Ti 9 rfl ?_
     try simp only [Act.put, zA, zB, zC]
     refine Dn ?_
     clear x0 x1 x2 x3 xf hSS HWe HX HR4 HB4 HXl
     have HV8 := HEND.out We HBe.out
     obtain ⟨⟨g0, g1, g2, g3⟩, _⟩ := HV8.1.cs
     obtain ⟨⟨x0, x1, x2, x3⟩, _⟩ := HVe.out.cs
     have h13 := H13.out We a2 c2 a4 c4 HV8.2.1 HRe.out
     rw [← HZL.out] at h13
     rw [show Value.slice a4 zl c4 = Value.slice a4 zl4 c4 by rw [HZL.out, HZ4.out]] at h13
     have HSV := hid h13
     clear HV8 h13 HVe HRe HZL HZ4 H13 H10 H20
     go_wp2_with fail
     refine Calls.mono (Num_any _ _) ?_
     rintro e wq ⟨rfl, hw0⟩
     have hw0 := hw0.symm
     subst hw0
     go_wp2_with fail
     refine HSV.out.mono ?_
     rintro e Z6 ⟨rfl, hb6⟩
     have hb6' := HBe.out.trans (hb6.mono HBe.out.size)
     have HV8 := HEND.out Z6 hb6'
     obtain ⟨⟨r0, r1, r2, r3⟩, _⟩ := HV8.2.2.1.cs
     obtain ⟨⟨n0, n1, n2, n3⟩, _⟩ := HV8.2.2.2.1.cs
     have h21 := Back_yes ⟨x.cp, x.fr, x.nx, yv⟩ F gs a1 c1 Z6 HSH.out HV8.2.2.2.2.2.1.lv HV8.2.2.2.2.2.2.2.1
     dsimp only [viewA] at h21
     rw [HY.out.1] at h21
     have H21 := hid h21
     have HB6 := hid hb6'
     clear hb6 hb6' HV8 h21 HSV HBe g0 g1 g2 g3 x0 x1 x2 x3
     go_wp2_with fail
     refine H21.out.mono ?_
     rintro e Z7 ⟨rfl, hb7⟩
     have hb7' := HB6.out.trans (hb7.mono HB6.out.size)
     obtain ⟨_, _, _, _, hO7, hC7, hL7, _, hD7⟩ := HEND.out Z7 hb7'
     obtain ⟨⟨m0, m1, m2, m3, m4, m5⟩, _⟩ := hO7.cs
     have H22 := hid (LBack_any L G M da n dc o.da Z7 HNB.out hL7 hD7)
     have HC7 := hid hC7
     clear hb7 hb7' hO7 hC7 hL7 hD7 H21 HB6 r0 r1 r2 r3 n0 n1 n2 n3 HEND
     go_wp2_with fail
     refine H22.out.mono ?_
     rintro e Z8 ⟨rfl, hS8, hbt8⟩
     have hC8 := HC7.out.but hbt8 HGG.out.1 (fun g hg e => HGG.out.2.1 (e ▸ hg)) HGG.out.2.2.1 (fun k hk e => by have := HGG.out.2.2.2; omega)
     have HS8 := hid hS8
     have HC8 := hid hC8
     clear hS8 hbt8 hC8 H22 HC7 m0 m1 m2 m3 m4 m5
     go_wp2_with fail
     go_roundw
     case rel => exact ⟨t + 1, yv, _, by go_num, HT4.out, HY.out.2.2, HC8.out, HS8.out, fun g hg => by cases hg; exact HGG.out.2.2.2⟩
     case measure => have := HT4.out; simp only [intOf]; omega
    ·go_simp
     obtain ⟨X, hX⟩ : ∃ X, X = w9.heap.size := ⟨_, rfl⟩
     obtain ⟨wb, hwb⟩ : ∃ y, y = w9.alloc (.cells #[.int .i64 0, .int .i64 0, .int .i64 0, .slice none 0 0] 24) := ⟨_, rfl⟩
     have bwb : Below w9.heap.size w9 wb := by rw [hwb]; exact below1 _ _
     have hX0 : VwB wb X VW0 (.slice none 0 0) := by rw [hwb, hX]; exact heap_new _ _
     have HBb := hid (HB9.out.trans (bwb.mono HB9.out.size))
     have HXl : Hid (w8.heap.size ≤ X) := by rw [hX]; exact HB9.out.size
     have HR3' : Hid (RdVX (fun q => q = X) wb.heap.size wb a3 yv) := ((RdVX.of HR3.out (X := fun q => q = X) (fun q e => by omega)).below bwb).mono bwb.size
     clear HR3
     have HR3 := HR3'
     clear HR3'
     have HX0 := hid hX0
     rw [← hwb, ← hX]
     refine hK9.out _ _ (HS.out _ HBb.out) (fun hSS => ?_)
     try simp only [Act.put, zA, zB, zC]
     clear hX hwb bwb hX0
     refine Ri 3 rfl (fun K9 hK9 => ?_)
     go_simp
     go_at_call 20
     refine (H20.out _ HBb.out (fun q => q = X) a3 c3 (fun q e => by rw [e]; exact HX0.out.lt) HR3.out HN3.out).mono ?_
     rintro e wa ⟨a4, c4, zl4, rfl, hzl4, hr4, hba⟩
     have HX : Hid (VwB wa X VW0 (.slice none 0 0)) := HX0.out.keep (hba.block _ HX0.out.lt)
     have HR4 := hid hr4
     have HB4 := hid (HBb.out.trans (hba.mono HBb.out.size))
     have HZ4 := hid hzl4
     refine hK9.out _ _ (HS.out _ HB4.out) (fun hSS => ?_)
     try simp only [Act.put, zA, zB, zC]
     clear hr4 hba hzl4 HR3 HN3 HX0 HBb HB9
     refine Ti 4 rfl ?_
     try simp only [Act.put, zA, zB, zC]
     refine Ti 5 rfl ?_
     refine Ti 6 rfl ?_
     try simp only [Act.put, zA, zB, zC]
     obtain ⟨We, hWe⟩ : ∃ We, We = put4 wa X ⟨z0, z1, z2, zv⟩ (.slice a4 zl4 c4) := ⟨_, rfl⟩
     have hVe : VwB We X ⟨z0, z1, z2, zv⟩ (.slice a4 zl4 c4) := by rw [hWe]; exact HX.out.put4
     have hbe := but_put4 wa X ⟨z0, z1, z2, zv⟩ (.slice a4 zl4 c4)
     rw [← hWe] at hbe
     have hR4 : RdV We.heap.size We a4 zv := (HR4.out.but hbe.size (fun q hq hx => hbe.block q hq hx)).rdV
     have hBe : Below w8.heap.size w8 We := HB4.out.trans (hbe.below HB4.out.size (fun q hq e => by have := HXl.out; omega))
     have HVe := hid hVe
     have HRe := hid hR4
     have HBe := hid hBe
     obtain ⟨⟨_, _, _, _⟩, xf⟩ := HX.out.cs
     obtain ⟨⟨x0, x1, x2, x3⟩, _⟩ := HX.out.cs
     unfold put4 at hWe
     have HWe := hid hWe
     clear hWe hVe hbe hR4 hBe
     refine Ri 8 rfl (fun K9 hK9 => ?_)
     go_simp
     rw [← HWe.out]
     refine hK9.out _ _ (HS.out _ HBe.out) (fun hSS => ?_)
     try simp only [Act.put, zA, zB, zC]
     refine Ti 9 rfl ?_
     try simp only [Act.put, zA, zB, zC]
     refine Dn ?_
     clear x0 x1 x2 x3 xf hSS HWe HX HR4 HB4 HXl
     have HV8 := HEND.out We HBe.out
     obtain ⟨⟨g0, g1, g2, g3⟩, _⟩ := HV8.1.cs
     obtain ⟨⟨x0, x1, x2, x3⟩, _⟩ := HVe.out.cs
     have h13 := H13.out We a2 c2 a4 c4 HV8.2.1 HRe.out
     rw [← HZL.out] at h13
     rw [show Value.slice a4 zl c4 = Value.slice a4 zl4 c4 by rw [HZL.out, HZ4.out]] at h13
     have HSV := hid h13
     clear HV8 h13 HVe HRe HZL HZ4 H13 H10 H20
     go_wp2_with fail
     refine Calls.mono (Num_any _ _) ?_
     rintro e wq ⟨rfl, hw0⟩
     have hw0 := hw0.symm
     subst hw0
     go_wp2_with fail
     refine HSV.out.mono ?_
     rintro e Z6 ⟨rfl, hb6⟩
     have hb6' := HBe.out.trans (hb6.mono HBe.out.size)
     have HV8 := HEND.out Z6 hb6'
     obtain ⟨⟨r0, r1, r2, r3⟩, _⟩ := HV8.2.2.1.cs
     obtain ⟨⟨n0, n1, n2, n3⟩, _⟩ := HV8.2.2.2.1.cs
     have h21 := Back_yes ⟨x.cp, x.fr, x.nx, yv⟩ F gs a1 c1 Z6 HSH.out HV8.2.2.2.2.2.1.lv HV8.2.2.2.2.2.2.2.1
     dsimp only [viewA] at h21
     rw [HY.out.1] at h21
     have H21 := hid h21
     have HB6 := hid hb6'
     clear hb6 hb6' HV8 h21 HSV HBe g0 g1 g2 g3 x0 x1 x2 x3
     go_wp2_with fail
     refine H21.out.mono ?_
     rintro e Z7 ⟨rfl, hb7⟩
     have hb7' := HB6.out.trans (hb7.mono HB6.out.size)
     obtain ⟨_, _, _, _, hO7, hC7, hL7, _, hD7⟩ := HEND.out Z7 hb7'
     obtain ⟨⟨m0, m1, m2, m3, m4, m5⟩, _⟩ := hO7.cs
     have H22 := hid (LBack_any L G M da n dc o.da Z7 HNB.out hL7 hD7)
     have HC7 := hid hC7
     clear hb7 hb7' hO7 hC7 hL7 hD7 H21 HB6 r0 r1 r2 r3 n0 n1 n2 n3 HEND
     go_wp2_with fail
     refine H22.out.mono ?_
     rintro e Z8 ⟨rfl, hS8, hbt8⟩
     have hC8 := HC7.out.but hbt8 HGG.out.1 (fun g hg e => HGG.out.2.1 (e ▸ hg)) HGG.out.2.2.1 (fun k hk e => by have := HGG.out.2.2.2; omega)
     have HS8 := hid hS8
     have HC8 := hid hC8
     clear hS8 hbt8 hC8 H22 HC7 m0 m1 m2 m3 m4 m5
     go_wp2_with fail
     go_roundw
     case rel => exact ⟨t + 1, yv, _, by go_num, HT4.out, HY.out.2.2, HC8.out, HS8.out, fun g hg => by cases hg; exact HGG.out.2.2.2⟩
     case measure => have := HT4.out; simp only [intOf]; omega
   ·go_simp
    obtain ⟨X, hX⟩ : ∃ X, X = w8.heap.size := ⟨_, rfl⟩
    obtain ⟨wb, hwb⟩ : ∃ y, y = (w8.alloc (.cells #[.int .i64 0, .int .i64 0, .int .i64 0, .slice none 0 0] 24)).drew := ⟨_, rfl⟩
    have bwb : Below w8.heap.size w8 wb := by rw [hwb]; exact below_dr (below1 _ _)
    have hX0 : VwB wb X VW0 (.slice none 0 0) := by rw [hwb, hX]; exact heap_new _ _
    have HX00 := hid hX0
    have HBb0 := hid bwb
    have HXl : Hid (w8.heap.size ≤ X) := by rw [hX]; exact Nat.le_refl _
    rw [← hwb]
    try rw [← hX]
    refine hK9.out _ _ (HS.out _ HBb0.out) (fun hSS => ?_)
    try simp only [Act.put, zA, zB, zC]
    clear hX hwb bwb hX0
    refine Ri 1 rfl (fun K9 hK9 => ?_)
    go_simp
    go_at_call 10
    refine (H10.out _ HBb0.out (fun q => q = X) (fun q e => by rw [e]; exact HX00.out.lt)).mono ?_
    rintro e w9 ⟨a3, c3, rfl, hr3, hn3, hb9⟩
    have HBb := hid (HBb0.out.trans (hb9.mono HBb0.out.size))
    have HX0 : Hid (VwB w9 X VW0 (.slice none 0 0)) := HX00.out.keep (hb9.block _ HX00.out.lt)
    have HR3 := hid hr3
    have HN3 := hid hn3
    refine hK9.out _ _ (HS.out _ HBb.out) (fun hSS => ?_)
    try simp only [Act.put, zA, zB, zC]
    clear hr3 hn3 hb9 HX00 HBb0
    refine Ri 3 rfl (fun K9 hK9 => ?_)
    go_simp
    go_at_call 20
    refine (H20.out _ HBb.out (fun q => q = X) a3 c3 (fun q e => by rw [e]; exact HX0.out.lt) HR3.out HN3.out).mono ?_
    rintro e wa ⟨a4, c4, zl4, rfl, hzl4, hr4, hba⟩
    have HX : Hid (VwB wa X VW0 (.slice none 0 0)) := HX0.out.keep (hba.block _ HX0.out.lt)
    have HR4 := hid hr4
    have HB4 := hid (HBb.out.trans (hba.mono HBb.out.size))
    have HZ4 := hid hzl4
    refine hK9.out _ _ (HS.out _ HB4.out) (fun hSS => ?_)
    try simp only [Act.put, zA, zB, zC]
    clear hr4 hba hzl4 HR3 HN3 HX0 HBb
    refine Ti 4 rfl ?_
    refine Ti 5 rfl ?_
    refine Ti 6 rfl ?_
    try simp only [Act.put, zA, zB, zC]
    obtain ⟨We, hWe⟩ : ∃ We, We = put4 wa X ⟨z0, z1, z2, zv⟩ (.slice a4 zl4 c4) := ⟨_, rfl⟩
    have hVe : VwB We X ⟨z0, z1, z2, zv⟩ (.slice a4 zl4 c4) := by rw [hWe]; exact HX.out.put4
    have hbe := but_put4 wa X ⟨z0, z1, z2, zv⟩ (.slice a4 zl4 c4)
    rw [← hWe] at hbe
    have hR4 : RdV We.heap.size We a4 zv := (HR4.out.but hbe.size (fun q hq hx => hbe.block q hq hx)).rdV
    have hBe : Below w8.heap.size w8 We := HB4.out.trans (hbe.below HB4.out.size (fun q hq e => by have := HXl.out; omega))
    have HVe := hid hVe
    have HRe := hid hR4
    have HBe := hid hBe
    obtain ⟨⟨_, _, _, _⟩, xf⟩ := HX.out.cs
    obtain ⟨⟨x0, x1, x2, x3⟩, _⟩ := HX.out.cs
    unfold put4 at hWe
    have HWe := hid hWe
    clear hWe hVe hbe hR4 hBe
    refine Ri 8 rfl (fun K9 hK9 => ?_)
    go_simp
    rw [← HWe.out]
    refine hK9.out _ _ (HS.out _ HBe.out) (fun hSS => ?_)
    try simp only [Act.put, zA, zB, zC]
    refine Ti 9 rfl ?_
    try simp only [Act.put, zA, zB, zC]
    refine Dn ?_
    clear x0 x1 x2 x3 xf hSS HWe HX HR4 HB4 HXl
    have HV8 := HEND.out We HBe.out
    obtain ⟨⟨g0, g1, g2, g3⟩, _⟩ := HV8.1.cs
    obtain ⟨⟨x0, x1, x2, x3⟩, _⟩ := HVe.out.cs
    have h13 := H13.out We a2 c2 a4 c4 HV8.2.1 HRe.out
    rw [← HZL.out] at h13
    rw [show Value.slice a4 zl c4 = Value.slice a4 zl4 c4 by rw [HZL.out, HZ4.out]] at h13
    have HSV := hid h13
    clear HV8 h13 HVe HRe HZL HZ4 H13 H10 H20
    go_wp2_with fail
    refine Calls.mono (Num_any _ _) ?_
    rintro e wq ⟨rfl, hw0⟩
    have hw0 := hw0.symm
    subst hw0
    go_wp2_with fail
    refine HSV.out.mono ?_
    rintro e Z6 ⟨rfl, hb6⟩
    have hb6' := HBe.out.trans (hb6.mono HBe.out.size)
    have HV8 := HEND.out Z6 hb6'
    obtain ⟨⟨r0, r1, r2, r3⟩, _⟩ := HV8.2.2.1.cs
    obtain ⟨⟨n0, n1, n2, n3⟩, _⟩ := HV8.2.2.2.1.cs
    have h21 := Back_yes ⟨x.cp, x.fr, x.nx, yv⟩ F gs a1 c1 Z6 HSH.out HV8.2.2.2.2.2.1.lv HV8.2.2.2.2.2.2.2.1
    dsimp only [viewA] at h21
    rw [HY.out.1] at h21
    have H21 := hid h21
    have HB6 := hid hb6'
    clear hb6 hb6' HV8 h21 HSV HBe g0 g1 g2 g3 x0 x1 x2 x3
    go_wp2_with fail
    refine H21.out.mono ?_
    rintro e Z7 ⟨rfl, hb7⟩
    have hb7' := HB6.out.trans (hb7.mono HB6.out.size)
    obtain ⟨_, _, _, _, hO7, hC7, hL7, _, hD7⟩ := HEND.out Z7 hb7'
    obtain ⟨⟨m0, m1, m2, m3, m4, m5⟩, _⟩ := hO7.cs
    have H22 := hid (LBack_any L G M da n dc o.da Z7 HNB.out hL7 hD7)
    have HC7 := hid hC7
    clear hb7 hb7' hO7 hC7 hL7 hD7 H21 HB6 r0 r1 r2 r3 n0 n1 n2 n3 HEND
    go_wp2_with fail
    refine H22.out.mono ?_
    rintro e Z8 ⟨rfl, hS8, hbt8⟩
    have hC8 := HC7.out.but hbt8 HGG.out.1 (fun g hg e => HGG.out.2.1 (e ▸ hg)) HGG.out.2.2.1 (fun k hk e => by have := HGG.out.2.2.2; omega)
    have HS8 := hid hS8
    have HC8 := hid hC8
    clear hS8 hbt8 hC8 H22 HC7 m0 m1 m2 m3 m4 m5
    go_wp2_with fail
    go_roundw
    case rel => exact ⟨t + 1, yv, _, by go_num, HT4.out, HY.out.2.2, HC8.out, HS8.out, fun g hg => by cases hg; exact HGG.out.2.2.2⟩
    case measure => have := HT4.out; simp only [intOf]; omega
end Go.Proofs.YtddddfankeepkaaGreatDoor
