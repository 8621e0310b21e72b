import Derived.Test.YtddddfankeepkaaGreatDoorA21
import Derived.Test.YtddddfankeepkaaGreatDoorA22
/-
  DryThrough: the walk.
-/
namespace Go.Proofs.YtddddfankeepkaaGreatDoor
open Go.RowKit

theorem and_mask (k : Int) : 0 ≤ bits BinOp.and IntKind.i64 k 4611686018427387903 := by
  unfold bits
  simp only []
  rw [IntKind.wrap_i64]
  have h1 : (BitVec.ofInt IntKind.i64.bits k &&& BitVec.ofInt IntKind.i64.bits 4611686018427387903).toNat ≤ 4611686018427387903 := by
    rw [BitVec.toNat_and]
    exact Nat.and_le_right
  omega

set_option maxRecDepth 100000 in
set_option maxHeartbeats 8000000 in
theorem through_N (x : VW) (a : Option Addr) (c0 : Nat) (la bs : List PO) (n m : Nat) (z : Option Addr) (zc : Nat) (y : Option Addr) (yc : Nat) (k : Int) (w : World) (_hn : la.length = n) (_hm : bs.length = m) (_hl1 : n ≤ 2097152) (_hl2 : m ≤ 2097152) (hx : szV 16777216 16777216 x.vs) (hz : ∀ v ∈ x.vs, v.nm.size ≤ 16777216) (hR : RdV w.heap.size w a x.vs) (hA : RdO w.heap.size w z la) (hB : RdO w.heap.size w y bs) (hG : GT w) (hM : mayB x = false) :
    Calls Tryz.prog 3 #[viewA x a c0, .slice z n zc, .slice y m yc, .int .i64 k] w fun e w' => BoQ w true e w' := by
  obtain ⟨R, hRe⟩ : ∃ R, R = w.heap.size := ⟨_, rfl⟩
  obtain ⟨W0, hW0⟩ : ∃ W0, W0 = w.alloc (.cells #[.int .i64 x.cp, .int .i64 x.fr, .int .i64 x.nx, .slice a x.vs.length c0] 24) := ⟨_, rfl⟩
  have b0 : Below w.heap.size w W0 := by rw [hW0]; exact below1 _ _
  have hV : VwB W0 R x (.slice a x.vs.length c0) := by rw [hW0, hRe]; exact heap_new _ _
  have hR0 := (hR.below b0).mono b0.size
  have hA0 := (hA.below b0).mono b0.size
  have hB0 := (hB.below b0).mono b0.size
  have hG0 := hG.next b0
  have HAW := hid (awake_any W0 hG0)
  have HMAY := hid (fun u (hu : Below W0.heap.size W0 u) => May_any x a c0 u ((hR0.below hu).mono hu.size) hx.1 hz hx.2)
  have HV := hid hV
  have HB0 := hid b0
  have HRe := hid hRe.symm
  have HW0 := hid hW0
  rw [hM] at HMAY
  clear hRe hW0 b0 hV hR0 hR hA0 hB0 hG0 hG hA hB hx hz hM
  dsimp only [viewA] at *
  go_enter Tryz.func3, Tryz.ntmps3
  go_wp2_with fail
  rw [← HW0.out, HRe.out]
  refine HAW.out.mono ?_
  rintro e w1 ⟨rfl, hb1⟩
  have HB1 := hid hb1
  have HM1 := hid (HMAY.out w1 hb1)
  clear hb1 HAW HMAY HW0
  obtain ⟨⟨p0, p1, p2, p3⟩, _⟩ := (HV.out.keep (HB1.out.block R HV.out.lt)).cs
  go_wp2_with fail
  refine HM1.out.mono ?_
  rintro e w2 ⟨rfl, hb2⟩
  have HB2 := hid (HB1.out.trans (hb2.mono HB1.out.size))
  clear hb2 HM1 p0 p1 p2 p3
  go_wp2
  go_ret
  exact ⟨rfl, HB0.out.trans (HB2.out.mono HB0.out.size)⟩

set_option maxRecDepth 100000 in
set_option maxHeartbeats 8000000 in
theorem through_E (x : VW) (a : Option Addr) (c0 : Nat) (la bs : List PO) (n m : Nat) (z : Option Addr) (zc : Nat) (y : Option Addr) (yc : Nat) (k : Int) (w : World) (hn : la.length = n) (hm : bs.length = m) (hl1 : n ≤ 2097152) (hl2 : m ≤ 2097152) (hx : szV 16777216 16777216 x.vs) (hz : ∀ v ∈ x.vs, v.nm.size ≤ 16777216) (hR : RdV w.heap.size w a x.vs) (hA : RdO w.heap.size w z la) (hB : RdO w.heap.size w y bs) (hG : GT w) (hM : mayB x = true) (he : (allP x (la.map tow) 0).2.2 ≠ 0) :
    Calls Tryz.prog 3 #[viewA x a c0, .slice z n zc, .slice y m yc, .int .i64 k] w fun e w' => BoQ w true e w' := by
  obtain ⟨R, hRe⟩ : ∃ R, R = w.heap.size := ⟨_, rfl⟩
  obtain ⟨W0, hW0⟩ : ∃ W0, W0 = w.alloc (.cells #[.int .i64 x.cp, .int .i64 x.fr, .int .i64 x.nx, .slice a x.vs.length c0] 24) := ⟨_, rfl⟩
  have b0 : Below w.heap.size w W0 := by rw [hW0]; exact below1 _ _
  have hV : VwB W0 R x (.slice a x.vs.length c0) := by rw [hW0, hRe]; exact heap_new _ _
  have hR0 := (hR.below b0).mono b0.size
  have hA0 := (hA.below b0).mono b0.size
  have hB0 := (hB.below b0).mono b0.size
  have hG0 := hG.next b0
  have HAW := hid (awake_any W0 hG0)
  have HMAY := hid (fun u (hu : Below W0.heap.size W0 u) => May_any x a c0 u ((hR0.below hu).mono hu.size) hx.1 hz hx.2)
  have HV := hid hV
  have HB0 := hid b0
  have HRe := hid hRe.symm
  have HW0 := hid hW0
  rw [hM] at HMAY
  have hMP := (mayB_iff x).1 hM
  have HC6 := hid (fun u (hu : Below W0.heap.size W0 u) => cpB_any n m la bs z zc y yc u ((hA0.below hu).mono hu.size) ((hB0.below hu).mono hu.size) hn hm hl1 hl2)
  obtain ⟨j1, j2, j3, j4⟩ := joined_err (b := bs.map tow) he
  rw [← List.map_append] at j1
  rw [tow_len, hn] at j4
  have hC5 := fun u (hu : Below W0.heap.size W0 u) => cpA_any x a c0 la n z zc u hMP.szV ((hR0.below hu).mono hu.size) (hG0.next hu) ((hA0.below hu).mono hu.size) hn hl1
  have hC7 := fun u (hu : Below W0.heap.size W0 u) (z2 : Option Addr) (c2 : Nat) (hO : RdA u.heap.size u z2 ((la ++ bs).map tow)) => cpC_any x a c0 ((la ++ bs).map tow) (n + m) z2 c2 u hMP.szV ((hR0.below hu).mono hu.size) (hG0.next hu) hO (tow_ok (fun o ho => by
    rcases List.mem_append.1 ho with q | q
    · exact hA.1 o q
    · exact hB.1 o q)) (by rw [tow_len, List.length_append, hn, hm]) (by omega)
  rw [j1] at hC7
  clear j1
  generalize allP x (la.map tow) 0 = r1 at *
  obtain ⟨q, i1, e1⟩ := r1
  dsimp only at he j2 j3 j4
  obtain ⟨q0, q1, q2, qv⟩ := q
  obtain rfl : qv = [] := List.eq_nil_of_length_eq_zero j2
  have e0 : (e1 != 0) = true := by simpa using he
  have e00 : (e1 == 0) = false := by simpa using he
  have HC5 := hid hC5
  have HC7 := hid hC7
  clear hC5 hC7 hRe hW0 b0 hV hR0 hR hA0 hB0 hG0 hG hA hB hx hz hM hn hm hMP he
  dsimp only [viewA] at *
  go_enter Tryz.func3, Tryz.ntmps3
  go_wp2_with fail
  rw [← HW0.out, HRe.out]
  refine HAW.out.mono ?_
  rintro e w1 ⟨rfl, hb1⟩
  have HB1 := hid hb1
  have HM1 := hid (HMAY.out w1 hb1)
  clear hb1 HAW HMAY HW0
  obtain ⟨⟨p0, p1, p2, p3⟩, _⟩ := (HV.out.keep (HB1.out.block R HV.out.lt)).cs
  go_wp2_with fail
  refine HM1.out.mono ?_
  rintro e w2 ⟨rfl, hb2⟩
  have HB2 := hid (HB1.out.trans (hb2.mono HB1.out.size))
  clear hb2 HM1 p0 p1 p2 p3
  obtain ⟨⟨p0, p1, p2, p3⟩, _⟩ := (HV.out.keep (HB2.out.block R HV.out.lt)).cs
  have HC5 := hid (HC5.out w2 HB2.out)
  go_wp2_with fail
  refine HC5.out.mono ?_
  rintro e f1 ⟨af1, cf1, rfl, hD1⟩
  have HD1 := hid hD1
  clear hD1 HC5 p0 p1 p2 p3
  go_wp2_with fail
  refine HD1.out.mono ?_
  rintro e f2 ⟨zf2, cf2, rfl, hD2⟩
  have HD2 := hid hD2
  clear hD2 HD1
  go_wp2_with fail
  refine HD2.out.mono ?_
  rintro e d9 ⟨ad9, cd9, rfl, hr9, hn9, hb9⟩
  obtain ⟨X9, hX9⟩ : ∃ X, X = d9.heap.size := ⟨_, rfl⟩
  obtain ⟨W9, hW9⟩ : ∃ W, W = d9.alloc (.cells #[.int .i64 q0, .int .i64 q1, .int .i64 q2, .slice ad9 0 cd9] 24) := ⟨_, rfl⟩
  have bW9 : Below d9.heap.size d9 W9 := by rw [hW9]; exact below1 _ _
  have HV9 : Hid (VwB W9 X9 (⟨q0, q1, q2, []⟩ : VW) (.slice ad9 0 cd9)) := hid (by rw [hW9, hX9]; exact heap_new _ _)
  have hbk9 : Below w2.heap.size w2 W9 := hb9.trans (bW9.mono hb9.size)
  have HBW9 : Hid (Below W0.heap.size W0 W9) := hid (HB2.out.trans (hbk9.mono HB2.out.size))
  have HBK9 := hid hbk9
  have HQ9 := hid ((hr9.below bW9).mono bW9.size)
  have HX9 := hid hX9.symm
  have HW9 := hid hW9
  clear hX9 hW9 bW9 hbk9 hr9 hn9 hb9
  clear HD2
  have HC6 := hid (HC6.out W9 HBW9.out)
  go_wp2_with fail
  rw [← HW9.out, HX9.out]
  refine HC6.out.mono ?_
  rintro e h1 ⟨v1, rfl, hE1⟩
  have HE1 := hid hE1
  clear hE1 HC6 HW9 HX9
  go_wp2_with fail
  refine HE1.out.mono ?_
  rintro e h2 ⟨v2, rfl, z2, c2, h3, hrun, hO, hb3⟩
  have HO := hid hO
  have HB3 := hid (HBW9.out.trans (hb3.mono HBW9.out.size))
  have HBK3 := hid hb3
  have HC7 := hid (HC7.out h3 HB3.out z2 c2 HO.out)
  clear hO hb3 HE1 HO
  obtain ⟨⟨p0, p1, p2, p3⟩, _⟩ := (HV.out.keep (HB3.out.block R HV.out.lt)).cs
  go_wp2_with (at_builtin; refine Lib.wpList_append_run _ rfl _ _ _ _ rfl _ _ rfl rfl _ _ hrun ?_)
  refine HC7.out.mono ?_
  rintro e f3 ⟨af3, cf3, rfl, hD3⟩
  have HD3 := hid hD3
  clear hD3 HC7 hrun p0 p1 p2 p3
  go_wp2_with fail
  refine HD3.out.mono ?_
  rintro e d13 ⟨ad13, cd13, rfl, hr13, hn13, hb13⟩
  obtain ⟨X13, hX13⟩ : ∃ X, X = d13.heap.size := ⟨_, rfl⟩
  obtain ⟨W13, hW13⟩ : ∃ W, W = d13.alloc (.cells #[.int .i64 q0, .int .i64 q1, .int .i64 q2, .slice ad13 0 cd13] 24) := ⟨_, rfl⟩
  have bW13 : Below d13.heap.size d13 W13 := by rw [hW13]; exact below1 _ _
  have HV13 : Hid (VwB W13 X13 (⟨q0, q1, q2, []⟩ : VW) (.slice ad13 0 cd13)) := hid (by rw [hW13, hX13]; exact heap_new _ _)
  have hbk13 : Below h3.heap.size h3 W13 := hb13.trans (bW13.mono hb13.size)
  have HBW13 : Hid (Below W0.heap.size W0 W13) := hid (HB3.out.trans (hbk13.mono HB3.out.size))
  have HBK13 := hid hbk13
  have HQ13 := hid ((hr13.below bW13).mono bW13.size)
  have HX13 := hid hX13.symm
  have HW13 := hid hW13
  clear hX13 hW13 bW13 hbk13 hr13 hn13 hb13
  clear HD3
  go_wp2_with fail
  rw [← HW13.out, HX13.out]
  refine (Num_any _ _).mono ?_
  rintro e wn ⟨rfl, hwn⟩
  have hwn := hwn.symm
  subst hwn
  obtain ⟨⟨p0, p1, p2, p3⟩, _⟩ := HV13.out.cs
  clear HW13 HX13
  go_wp2
  go_ret
  exact ⟨rfl, HB0.out.trans (HBW13.out.mono HB0.out.size)⟩

set_option maxRecDepth 100000 in
set_option maxHeartbeats 8000000 in
theorem through_Z (x : VW) (a : Option Addr) (c0 : Nat) (la bs : List PO) (n m : Nat) (z : Option Addr) (zc : Nat) (y : Option Addr) (yc : Nat) (k : Int) (w : World) (hn : la.length = n) (hm : bs.length = m) (hl1 : n ≤ 2097152) (hl2 : m ≤ 2097152) (hx : szV 16777216 16777216 x.vs) (hz : ∀ v ∈ x.vs, v.nm.size ≤ 16777216) (hR : RdV w.heap.size w a x.vs) (hA : RdO w.heap.size w z la) (hB : RdO w.heap.size w y bs) (hG : GT w) (hM : mayB x = true) (he : (allP x (la.map tow) 0).2.2 = 0) (hf : (allP (allP x (la.map tow) 0).1 (bs.map tow) 0).2.2 ≠ 0) :
    Calls Tryz.prog 3 #[viewA x a c0, .slice z n zc, .slice y m yc, .int .i64 k] w fun e w' => BoQ w true e w' := by
  obtain ⟨R, hRe⟩ : ∃ R, R = w.heap.size := ⟨_, rfl⟩
  obtain ⟨W0, hW0⟩ : ∃ W0, W0 = w.alloc (.cells #[.int .i64 x.cp, .int .i64 x.fr, .int .i64 x.nx, .slice a x.vs.length c0] 24) := ⟨_, rfl⟩
  have b0 : Below w.heap.size w W0 := by rw [hW0]; exact below1 _ _
  have hV : VwB W0 R x (.slice a x.vs.length c0) := by rw [hW0, hRe]; exact heap_new _ _
  have hR0 := (hR.below b0).mono b0.size
  have hA0 := (hA.below b0).mono b0.size
  have hB0 := (hB.below b0).mono b0.size
  have hG0 := hG.next b0
  have HAW := hid (awake_any W0 hG0)
  have HMAY := hid (fun u (hu : Below W0.heap.size W0 u) => May_any x a c0 u ((hR0.below hu).mono hu.size) hx.1 hz hx.2)
  have HV := hid hV
  have HB0 := hid b0
  have HRe := hid hRe.symm
  have HW0 := hid hW0
  rw [hM] at HMAY
  have hMP := (mayB_iff x).1 hM
  have HC6 := hid (fun u (hu : Below W0.heap.size W0 u) => cpB_any n m la bs z zc y yc u ((hA0.below hu).mono hu.size) ((hB0.below hu).mono hu.size) hn hm hl1 hl2)
  obtain ⟨s1, s2, s3, s4⟩ := joined_ok (b := bs.map tow) he
  rw [← List.map_append] at s1 s2 s3 s4
  rw [tow_len, hn] at s3
  have hMQ := all_may (la.map tow) x 0 hMP he
  have hi1 := all_ok (la.map tow) x 0 he
  have hC5 := fun u (hu : Below W0.heap.size W0 u) => cpA_any x a c0 la n z zc u hMP.szV ((hR0.below hu).mono hu.size) (hG0.next hu) ((hA0.below hu).mono hu.size) hn hl1
  have hC7 := fun u (hu : Below W0.heap.size W0 u) (z2 : Option Addr) (c2 : Nat) (hO : RdA u.heap.size u z2 ((la ++ bs).map tow)) => cpC_any x a c0 ((la ++ bs).map tow) (n + m) z2 c2 u hMP.szV ((hR0.below hu).mono hu.size) (hG0.next hu) hO (tow_ok (fun o ho => by
    rcases List.mem_append.1 ho with q | q
    · exact hA.1 o q
    · exact hB.1 o q)) (by rw [tow_len, List.length_append, hn, hm]) (by omega)
  have hC10 := fun u (hu : Below W0.heap.size W0 u) (a9 : Option Addr) (c9 : Nat) (hq : RdV u.heap.size u a9 (allP x (la.map tow) 0).1.vs) => cpA_any (allP x (la.map tow) 0).1 a9 c9 bs m y yc u hMQ.szV hq (hG0.next hu) ((hB0.below hu).mono hu.size) hm hl2
  have hjb := all_err (bs.map tow) (allP x (la.map tow) 0).1 0 hf
  have hsg : shV (allP (allP x (la.map tow) 0).1 (bs.map tow) 0).1.vs := by rw [hjb.1]; exact ⟨by decide, fun v hv => by cases hv⟩
  rw [tow_len, hm] at hjb
  have hk := s3 hf
  generalize allP x ((la ++ bs).map tow) 0 = r2 at *
  generalize allP x (la.map tow) 0 = r1 at *
  obtain ⟨q, i1, e1⟩ := r1
  dsimp only at he hf hi1 hMQ s1 s2 s3 s4 hC10 hjb hk
  subst he
  subst hi1
  generalize allP q (bs.map tow) 0 = r3 at *
  obtain ⟨g', jz, f'⟩ := r3
  obtain ⟨g, kz, f⟩ := r2
  dsimp only at hf hsg s1 s2 s3 s4 hjb hk
  subst s1
  subst s2
  subst hk
  have e0 : (f != 0) = true := by simpa using hf
  have e00 : (f == 0) = false := by simpa using hf
  have hkw : wrap64 ((n : Int) + jz) = (n : Int) + jz := pw64 (by omega)
  have HC5 := hid hC5
  have HC7 := hid hC7
  have HC10 := hid hC10
  have HMQ := hid hMQ
  have HG0 := hid hG0
  have HTU := hid (fun (j : Nat) (hj : j < q.vs.length) u a9 c9 (hq : RdV u.heap.size u a9 q.vs) (hg : GT u) => turns_any q a9 c9 j u hMQ hj hq hg)
  have HMAY2 := hid (fun u a9 c9 (hq : RdV u.heap.size u a9 q.vs) => May_any q a9 c9 u hq (by have := hMQ.len; omega) hMQ.nmz (fun v hv => by have := (MayP.szV hMQ).2 v hv; omega))
  rw [(mayB_iff q).2 hMQ] at HMAY2
  have HSV := hid (fun u a9 c9 a8 c8 (hg : shV g.vs) (h1 : RdV u.heap.size u a9 g.vs) (h2 : RdV u.heap.size u a8 g.vs) => SameView_yes g a9 a8 c9 c8 u hg h1 h2)
  have HSG := hid hsg
  clear hC5 hC7 hC10 hRe hW0 b0 hV hR0 hR hA0 hB0 hG0 hG hA hB hx hz hM hn hm hMP hMQ hsg s3 s4 hf hjb
  dsimp only [viewA] at *
  go_enter Tryz.func3, Tryz.ntmps3
  go_wp2_with fail
  rw [← HW0.out, HRe.out]
  refine HAW.out.mono ?_
  rintro e w1 ⟨rfl, hb1⟩
  have HB1 := hid hb1
  have HM1 := hid (HMAY.out w1 hb1)
  clear hb1 HAW HMAY HW0
  obtain ⟨⟨p0, p1, p2, p3⟩, _⟩ := (HV.out.keep (HB1.out.block R HV.out.lt)).cs
  go_wp2_with fail
  refine HM1.out.mono ?_
  rintro e w2 ⟨rfl, hb2⟩
  have HB2 := hid (HB1.out.trans (hb2.mono HB1.out.size))
  clear hb2 HM1 p0 p1 p2 p3
  obtain ⟨⟨p0, p1, p2, p3⟩, _⟩ := (HV.out.keep (HB2.out.block R HV.out.lt)).cs
  have HC5 := hid (HC5.out w2 HB2.out)
  go_wp2_with fail
  refine HC5.out.mono ?_
  rintro e f1 ⟨af1, cf1, rfl, hD1⟩
  have HD1 := hid hD1
  clear hD1 HC5 p0 p1 p2 p3
  go_wp2_with fail
  refine HD1.out.mono ?_
  rintro e f2 ⟨zf2, cf2, rfl, hD2⟩
  have HD2 := hid hD2
  clear hD2 HD1
  go_wp2_with fail
  refine HD2.out.mono ?_
  rintro e d9 ⟨ad9, cd9, rfl, hr9, hn9, hb9⟩
  obtain ⟨X9, hX9⟩ : ∃ X, X = d9.heap.size := ⟨_, rfl⟩
  obtain ⟨W9, hW9⟩ : ∃ W, W = d9.alloc (.cells #[.int .i64 q.cp, .int .i64 q.fr, .int .i64 q.nx, .slice ad9 q.vs.length cd9] 24) := ⟨_, rfl⟩
  have bW9 : Below d9.heap.size d9 W9 := by rw [hW9]; exact below1 _ _
  have HV9 : Hid (VwB W9 X9 q (.slice ad9 q.vs.length cd9)) := hid (by rw [hW9, hX9]; exact heap_new _ _)
  have hbk9 : Below w2.heap.size w2 W9 := hb9.trans (bW9.mono hb9.size)
  have HBW9 : Hid (Below W0.heap.size W0 W9) := hid (HB2.out.trans (hbk9.mono HB2.out.size))
  have HBK9 := hid hbk9
  have HQ9 := hid ((hr9.below bW9).mono bW9.size)
  have HX9 := hid hX9.symm
  have HW9 := hid hW9
  clear hX9 hW9 bW9 hbk9 hr9 hn9 hb9
  clear HD2
  have HC6 := hid (HC6.out W9 HBW9.out)
  go_wp2_with fail
  rw [← HW9.out, HX9.out]
  refine HC6.out.mono ?_
  rintro e h1 ⟨v1, rfl, hE1⟩
  have HE1 := hid hE1
  clear hE1 HC6 HW9 HX9
  go_wp2_with fail
  refine HE1.out.mono ?_
  rintro e h2 ⟨v2, rfl, z2, c2, h3, hrun, hO, hb3⟩
  have HO := hid hO
  have HB3 := hid (HBW9.out.trans (hb3.mono HBW9.out.size))
  have HBK3 := hid hb3
  have HC7 := hid (HC7.out h3 HB3.out z2 c2 HO.out)
  clear hO hb3 HE1 HO
  obtain ⟨⟨p0, p1, p2, p3⟩, _⟩ := (HV.out.keep (HB3.out.block R HV.out.lt)).cs
  go_wp2_with (at_builtin; refine Lib.wpList_append_run _ rfl _ _ _ _ rfl _ _ rfl rfl _ _ hrun ?_)
  refine HC7.out.mono ?_
  rintro e f3 ⟨af3, cf3, rfl, hD3⟩
  have HD3 := hid hD3
  clear hD3 HC7 hrun p0 p1 p2 p3
  go_wp2_with fail
  refine HD3.out.mono ?_
  rintro e d13 ⟨ad13, cd13, rfl, hr13, hn13, hb13⟩
  obtain ⟨X13, hX13⟩ : ∃ X, X = d13.heap.size := ⟨_, rfl⟩
  obtain ⟨W13, hW13⟩ : ∃ W, W = d13.alloc (.cells #[.int .i64 g.cp, .int .i64 g.fr, .int .i64 g.nx, .slice ad13 g.vs.length cd13] 24) := ⟨_, rfl⟩
  have bW13 : Below d13.heap.size d13 W13 := by rw [hW13]; exact below1 _ _
  have HV13 : Hid (VwB W13 X13 g (.slice ad13 g.vs.length cd13)) := hid (by rw [hW13, hX13]; exact heap_new _ _)
  have hbk13 : Below h3.heap.size h3 W13 := hb13.trans (bW13.mono hb13.size)
  have HBW13 : Hid (Below W0.heap.size W0 W13) := hid (HB3.out.trans (hbk13.mono HB3.out.size))
  have HBK13 := hid hbk13
  have HQ13 := hid ((hr13.below bW13).mono bW13.size)
  have HX13 := hid hX13.symm
  have HW13 := hid hW13
  clear hX13 hW13 bW13 hbk13 hr13 hn13 hb13
  clear HD3
  go_wp2_with fail
  rw [← HW13.out, HX13.out]
  refine (Num_any _ _).mono ?_
  rintro e wn ⟨rfl, hwn⟩
  have hwn := hwn.symm
  subst hwn
  clear HW13 HX13
  have hk13 : Below W9.heap.size W9 W13 := HBK3.out.trans (HBK13.out.mono HBK3.out.size)
  have HK13 := hid hk13
  have HC10 := hid (HC10.out W13 HBW13.out ad9 cd9 ((HQ9.out.below hk13).mono hk13.size))
  obtain ⟨⟨p0, p1, p2, p3⟩, _⟩ := (HV9.out.keep (hk13.block X9 HV9.out.lt)).cs
  clear hk13
  go_wp2_with fail
  refine HC10.out.mono ?_
  rintro e f4 ⟨af4, cf4, rfl, hD4⟩
  have HD4 := hid hD4
  clear hD4 HC10 p0 p1 p2 p3
  go_wp2_with fail
  refine HD4.out.mono ?_
  rintro e f5 ⟨zf5, cf5, rfl, hD5⟩
  have HD5 := hid hD5
  clear hD5 HD4
  go_wp2_with fail
  refine HD5.out.mono ?_
  rintro e d16 ⟨ad16, cd16, rfl, hr16, hn16, hb16⟩
  obtain ⟨X16, hX16⟩ : ∃ X, X = d16.heap.size := ⟨_, rfl⟩
  obtain ⟨W16, hW16⟩ : ∃ W, W = d16.alloc (.cells #[.int .i64 g.cp, .int .i64 g.fr, .int .i64 g.nx, .slice ad16 g.vs.length cd16] 24) := ⟨_, rfl⟩
  have bW16 : Below d16.heap.size d16 W16 := by rw [hW16]; exact below1 _ _
  have HV16 : Hid (VwB W16 X16 g (.slice ad16 g.vs.length cd16)) := hid (by rw [hW16, hX16]; exact heap_new _ _)
  have hbk16 : Below W13.heap.size W13 W16 := hb16.trans (bW16.mono hb16.size)
  have HBW16 : Hid (Below W0.heap.size W0 W16) := hid (HBW13.out.trans (hbk16.mono HBW13.out.size))
  have HBK16 := hid hbk16
  have HQ16 := hid ((hr16.below bW16).mono bW16.size)
  have HX16 := hid hX16.symm
  have HW16 := hid hW16
  clear hX16 hW16 bW16 hbk16 hr16 hn16 hb16
  clear HD5
  have hk16 : Below W9.heap.size W9 W16 := HK13.out.trans (HBK16.out.mono HK13.out.size)
  have HK16 := hid hk16
  have HM2 := hid (HMAY2.out W16 ad9 cd9 ((HQ9.out.below hk16).mono hk16.size))
  obtain ⟨⟨p0, p1, p2, p3⟩, _⟩ := (HV9.out.keep (hk16.block X9 HV9.out.lt)).cs
  rw [HW16.out] at p0 p1 p2 p3
  clear hk16 HMAY2
  go_wp2_with fail
  rw [← HW16.out, HX16.out]
  refine HM2.out.mono ?_
  rintro e y1 ⟨rfl, hy1⟩
  have HY1 := hid hy1
  have HS := hid (HSV.out y1 ad16 cd16 ad13 cd13 HSG.out ((HQ16.out.below hy1).mono hy1.size) ((HQ13.out.below (HBK16.out.trans (hy1.mono HBK16.out.size))).mono (HBK16.out.trans (hy1.mono HBK16.out.size)).size))
  obtain ⟨⟨p0', p1', p2', p3'⟩, _⟩ := (HV16.out.keep (hy1.block X16 HV16.out.lt)).cs
  obtain ⟨⟨q0, q1, q2, q3⟩, _⟩ := (HV13.out.keep ((HBK16.out.trans (hy1.mono HBK16.out.size)).block X13 HV13.out.lt)).cs
  clear hy1 HM2 HW16 HX16 p0 p1 p2 p3 HSV
  go_wp2_with fail
  refine HS.out.mono ?_
  rintro e y2 ⟨rfl, hy2⟩
  have HY2 := hid (HY1.out.trans (hy2.mono HY1.out.size))
  clear hy2 HS p0' p1' p2' p3' q0 q1 q2 q3
  go_wp2_with fail
  refine (Num_any _ _).mono ?_
  rintro e wn ⟨rfl, hwn⟩
  have hwn := hwn.symm
  subst hwn
  go_wp2_with fail
  refine (Num_any _ _).mono ?_
  rintro e wn ⟨rfl, hwn⟩
  have hwn := hwn.symm
  subst hwn
  have hk2 : Below W9.heap.size W9 y2 := HK16.out.trans (HY2.out.mono HK16.out.size)
  have hq9 := (HQ9.out.below hk2).mono hk2.size
  have hB2 : Below W0.heap.size W0 y2 := HBW9.out.trans (hk2.mono HBW9.out.size)
  obtain ⟨⟨p0, p1, p2, p3⟩, _⟩ := (HV9.out.keep (hk2.block X9 HV9.out.lt)).cs
  have HQY := hid hq9
  have HX9l : Hid (X9 < y2.heap.size) := hid (Nat.lt_of_lt_of_le HV9.out.lt hk2.size)
  have HBY := hid hB2
  have HGY := hid (HG0.out.next hB2)
  clear hk2 hq9 hB2
  by_cases hq0 : q.vs.length = 0
  · rw [hq0] at p3
    go_wp2
    go_ret
    exact ⟨rfl, HB0.out.trans (HBY.out.mono HB0.out.size)⟩
  · obtain ⟨t, ht⟩ : ∃ t, t = bits BinOp.and IntKind.i64 k 4611686018427387903 := ⟨_, rfl⟩
    have ht0 : 0 ≤ t := by rw [ht]; exact and_mask k
    obtain ⟨j, hjt⟩ : ∃ j : Nat, t.tmod (q.vs.length : Int) = (j : Int) := ⟨(t.tmod (q.vs.length : Int)).toNat, by have := Int.tmod_nonneg (q.vs.length : Int) ht0; omega⟩
    have hj : j < q.vs.length := by
      have := Int.tmod_lt_of_pos t (show (0 : Int) < (q.vs.length : Int) by omega)
      omega
    have hjm : t % (q.vs.length : Int) = (j : Int) := by rw [← hjt, Int.tmod_eq_emod_of_nonneg ht0]
    obtain ⟨gq, off, rfl, hgl, hc⟩ := HQY.out.resolve_left (fun e => by rw [e] at hj; simp at hj)
    obtain ⟨ma, mc, ⟨pn, pn1⟩, pn2, pn3⟩ := hc j hj
    clear pn1 pn2 pn3
    have HT := hid (HTU.out j hj y2.drew _ cd9 HQY.out (HGY.out.next (below_drew _ _)))
    have pp3 := p3
    have HKEEP : Hid (∀ u, Below y2.heap.size y2.drew u → (u.cell? ⟨X9, 0, none⟩ = some (.int .i64 q.cp) ∧ u.cell? ⟨X9, 1, none⟩ = some (.int .i64 q.fr) ∧ u.cell? ⟨X9, 2, none⟩ = some (.int .i64 q.nx) ∧ u.cell? ⟨X9, 3, none⟩ = some (.slice (some ⟨gq, off, none⟩) q.vs.length cd9) ∧ u.cell? ⟨gq, off + j * 7, none⟩ = some (.string q.vs[j].nm))) := hid (fun u hu => ⟨(hu.cell (by exact HX9l.out)).trans p0, (hu.cell (by exact HX9l.out)).trans p1, (hu.cell (by exact HX9l.out)).trans p2, (hu.cell (by exact HX9l.out)).trans pp3, (hu.cell (by exact hgl)).trans pn⟩)
    clear pp3 hc HTU HQY HGY
    obtain ⟨nmq, hnq⟩ : ∃ s, s = q.vs[j].nm := ⟨_, rfl⟩
    rw [← hnq] at pn HT HKEEP
    clear hnq
    generalize q.vs.length = l at *
    have hl3 : ¬ (l : Int) = 0 := by omega
    have hl4 : ((l : Int) == 0) = false := by simp; omega
    have hjl : (j : Int) < (l : Int) := by omega
    have hr1 := hjt
    have hr2 := hjm
    have HBYH := hid (HB0.out.trans (HBY.out.mono HB0.out.size))
    have ht2 := ht.symm
    clear hjt hjm ht0 hgl ht
    go_wp2_with fail
    refine wp_region_held_drew (S := (fun u => (u.cell? ⟨X9, 0, none⟩ = some (.int .i64 q.cp) ∧ u.cell? ⟨X9, 1, none⟩ = some (.int .i64 q.fr) ∧ u.cell? ⟨X9, 2, none⟩ = some (.int .i64 q.nx) ∧ u.cell? ⟨X9, 3, none⟩ = some (.slice (some ⟨gq, off, none⟩) l cd9) ∧ u.cell? ⟨gq, off + j * 7, none⟩ = some (.string nmq)))) (by kernel_rfl) ⟨p0, p1, p2, p3, pn⟩ (fun hSS => ?_)
    refine wpAnyH_take (i := 0) (oi := ({ dst := some 130, op := Op.load 24 (Operand.tmp 9), type := 24, pos := _, after := _, guard := none } : Oper)) (v := ?_) rfl (by kernel_rfl) (by kernel_rfl) (by kernel_rfl) (fun _ _ _ h => h) (Or.inl ⟨by rfl, ?_⟩) hSS ?_
    rotate_left
    · intro w9 hSw
      (try dsimp only at hSw)
      (try go_split_ands)
      first | (go_simp; done) | (go_simp; with_reducible rfl)
    try simp only [Act.put, List.setIfInBounds_toArray, List.set_cons_zero, List.set_cons_succ]
    refine wpAnyH_take (i := 1) (oi := ({ dst := some 131, op := Op.fieldAddr 24 (Operand.tmp 9) 3, type := 0, pos := _, after := _, guard := none } : Oper)) (v := ?_) rfl (by kernel_rfl) (by kernel_rfl) (by kernel_rfl) (fun _ _ _ h => h) (Or.inl ⟨by rfl, ?_⟩) hSS ?_
    rotate_left
    · intro w9 hSw
      (try dsimp only at hSw)
      (try go_split_ands)
      first | (go_simp; done) | (go_simp; with_reducible rfl)
    try simp only [Act.put, List.setIfInBounds_toArray, List.set_cons_zero, List.set_cons_succ]
    refine wpAnyH_take (i := 2) (oi := ({ dst := some 132, op := Op.load 22 (Operand.tmp 131), type := 22, pos := _, after := _, guard := none } : Oper)) (v := ?_) rfl (by kernel_rfl) (by kernel_rfl) (by kernel_rfl) (fun _ _ _ h => h) (Or.inl ⟨by rfl, ?_⟩) hSS ?_
    rotate_left
    · intro w9 hSw
      (try dsimp only at hSw)
      (try go_split_ands)
      first | (go_simp; done) | (go_simp; with_reducible rfl)
    try simp only [Act.put, List.setIfInBounds_toArray, List.set_cons_zero, List.set_cons_succ]
    refine wpAnyH_take (i := 3) (oi := ({ dst := some 133, op := Op.move (Operand.tmp 3), type := 3, pos := _, after := _, guard := none } : Oper)) (v := ?_) rfl (by kernel_rfl) (by kernel_rfl) (by kernel_rfl) (fun _ _ _ h => h) (Or.inl ⟨by rfl, ?_⟩) hSS ?_
    rotate_left
    · intro w9 hSw
      (try dsimp only at hSw)
      (try go_split_ands)
      first | (go_simp; done) | (go_simp; with_reducible rfl)
    try simp only [Act.put, List.setIfInBounds_toArray, List.set_cons_zero, List.set_cons_succ]
    refine wpAnyH_take (i := 4) (oi := ({ dst := some 134, op := Op.binOp BinOp.and 3 (Operand.tmp 133) (Operand.const (Value.int IntKind.i64 4611686018427387903)) 3, type := 3, pos := _, after := _, guard := none } : Oper)) (v := .int .i64 t) rfl (by kernel_rfl) (by kernel_rfl) (by kernel_rfl) (fun _ _ _ h => h) (Or.inl ⟨by rfl, ?_⟩) hSS ?_
    · intro w9 hSw
      (try dsimp only at hSw)
      (try go_split_ands)
      first | (go_simp; done) | (go_simp; simp [ht2]; done)
    try simp only [Act.put, List.setIfInBounds_toArray, List.set_cons_zero, List.set_cons_succ]
    refine wpAnyH_take (i := 5) (oi := ({ dst := some 135, op := Op.fieldAddr 24 (Operand.tmp 9) 3, type := 0, pos := _, after := _, guard := none } : Oper)) (v := ?_) rfl (by kernel_rfl) (by kernel_rfl) (by kernel_rfl) (fun _ _ _ h => h) (Or.inl ⟨by rfl, ?_⟩) hSS ?_
    rotate_left
    · intro w9 hSw
      (try dsimp only at hSw)
      (try go_split_ands)
      first | (go_simp; done) | (go_simp; with_reducible rfl)
    try simp only [Act.put, List.setIfInBounds_toArray, List.set_cons_zero, List.set_cons_succ]
    refine wpAnyH_take (i := 6) (oi := ({ dst := some 136, op := Op.load 22 (Operand.tmp 135), type := 22, pos := _, after := _, guard := none } : Oper)) (v := ?_) rfl (by kernel_rfl) (by kernel_rfl) (by kernel_rfl) (fun _ _ _ h => h) (Or.inl ⟨by rfl, ?_⟩) hSS ?_
    rotate_left
    · intro w9 hSw
      (try dsimp only at hSw)
      (try go_split_ands)
      first | (go_simp; done) | (go_simp; with_reducible rfl)
    try simp only [Act.put, List.setIfInBounds_toArray, List.set_cons_zero, List.set_cons_succ]
    refine wpAnyH_take (i := 7) (oi := ({ dst := some 137, op := Op.call { callee := Callee.builtin Builtin.len, args := #[Operand.tmp 136], argTypes := #[22] }, type := 3, pos := _, after := _, guard := none } : Oper)) (v := ?_) rfl (by kernel_rfl) (by kernel_rfl) (by kernel_rfl) (fun _ _ _ h => h) (Or.inl ⟨by rfl, ?_⟩) hSS ?_
    rotate_left
    · intro w9 hSw
      (try dsimp only at hSw)
      (try go_split_ands)
      first | (go_simp; done) | (go_simp; with_reducible rfl)
    try simp only [Act.put, List.setIfInBounds_toArray, List.set_cons_zero, List.set_cons_succ]
    refine wpAnyH_take (i := 8) (oi := ({ dst := some 138, op := Op.binOp BinOp.rem 3 (Operand.tmp 134) (Operand.tmp 137) 3, type := 3, pos := _, after := _, guard := none } : Oper)) (v := .int .i64 (j : Int)) rfl (by kernel_rfl) (by kernel_rfl) (by kernel_rfl) (fun _ _ _ h => h) (Or.inl ⟨by rfl, ?_⟩) hSS ?_
    · intro w9 hSw
      (try dsimp only at hSw)
      (try go_split_ands)
      first | (go_simp; done) | (go_simp; simp [hr1, hr2]; done)
    try simp only [Act.put, List.setIfInBounds_toArray, List.set_cons_zero, List.set_cons_succ]
    refine wpAnyH_take (i := 9) (oi := ({ dst := some 139, op := Op.indexAddr 22 (Operand.tmp 132) (Operand.tmp 138), type := 0, pos := _, after := _, guard := none } : Oper)) (v := ?_) rfl (by kernel_rfl) (by kernel_rfl) (by kernel_rfl) (fun _ _ _ h => h) (Or.inl ⟨by rfl, ?_⟩) hSS ?_
    rotate_left
    · intro w9 hSw
      (try dsimp only at hSw)
      (try go_split_ands)
      first | (go_simp; done) | (go_simp; with_reducible rfl)
    try simp only [Act.put, List.setIfInBounds_toArray, List.set_cons_zero, List.set_cons_succ]
    refine wpAnyH_take (i := 10) (oi := ({ dst := some 140, op := Op.fieldAddr 38 (Operand.tmp 139) 0, type := 0, pos := _, after := _, guard := none } : Oper)) (v := ?_) rfl (by kernel_rfl) (by kernel_rfl) (by kernel_rfl) (fun _ _ _ h => h) (Or.inl ⟨by rfl, ?_⟩) hSS ?_
    rotate_left
    · intro w9 hSw
      (try dsimp only at hSw)
      (try go_split_ands)
      first | (go_simp; done) | (go_simp; with_reducible rfl)
    try simp only [Act.put, List.setIfInBounds_toArray, List.set_cons_zero, List.set_cons_succ]
    refine wpAnyH_take (i := 11) (oi := ({ dst := some 141, op := Op.load 9 (Operand.tmp 140), type := 9, pos := _, after := _, guard := none } : Oper)) (v := ?_) rfl (by kernel_rfl) (by kernel_rfl) (by kernel_rfl) (fun _ _ _ h => h) (Or.inl ⟨by rfl, ?_⟩) hSS ?_
    rotate_left
    · intro w9 hSw
      (try dsimp only at hSw)
      (try go_split_ands)
      first | (go_simp; done) | (go_simp; with_reducible rfl)
    try simp only [Act.put, List.setIfInBounds_toArray, List.set_cons_zero, List.set_cons_succ]
    refine wpAnyH_ready (rs := [12]) (by kernel_rfl) (by simp) (AllReadyH.cons (o := ({ dst := some 142, op := Op.call { callee := Callee.value (Operand.func 14), args := #[Operand.tmp 130, Operand.tmp 141], argTypes := #[24, 9] }, type := 4, pos := _, after := _, guard := none } : Oper)) rfl (fun K9 hK9 => ?_) AllReadyH.nil)
    go_simp
    go_at_call 14
    refine Calls.mono HT.out ?_
    rintro e y3 ⟨rfl, hy3⟩
    have HY3 := hid hy3
    clear hy3
    refine hK9.out _ _ (HKEEP.out _ HY3.out) (fun hSS => ?_)
    clear hK9 K9
    try simp only [Act.put, List.setIfInBounds_toArray, List.set_cons_zero, List.set_cons_succ]
    refine wpAnyH_take (i := 13) (oi := ({ dst := some 8, op := Op.assign (Operand.tmp 142), type := 4, pos := _, after := _, guard := none } : Oper)) (v := ?_) rfl (by kernel_rfl) (by kernel_rfl) (by kernel_rfl) (fun _ _ _ h => h) (Or.inl ⟨by rfl, ?_⟩) hSS ?_
    rotate_left
    · intro w9 hSw
      (try dsimp only at hSw)
      (try go_split_ands)
      first | (go_simp; done) | (go_simp; with_reducible rfl)
    try simp only [Act.put, List.setIfInBounds_toArray, List.set_cons_zero, List.set_cons_succ]
    refine wpAnyH_done (by kernel_rfl) ?_ _
    go_wp2_with fail
    go_ret
    exact ⟨rfl, HBYH.out.trans ((below_drew _ _).trans (HY3.out.mono (by exact HBYH.out.size)))⟩

set_option maxRecDepth 100000 in
set_option maxHeartbeats 8000000 in
theorem through_S (x : VW) (a : Option Addr) (c0 : Nat) (la bs : List PO) (n m : Nat) (z : Option Addr) (zc : Nat) (y : Option Addr) (yc : Nat) (k : Int) (w : World) (hn : la.length = n) (hm : bs.length = m) (hl1 : n ≤ 2097152) (hl2 : m ≤ 2097152) (hx : szV 16777216 16777216 x.vs) (hz : ∀ v ∈ x.vs, v.nm.size ≤ 16777216) (hR : RdV w.heap.size w a x.vs) (hA : RdO w.heap.size w z la) (hB : RdO w.heap.size w y bs) (hG : GT w) (hM : mayB x = true) (he : (allP x (la.map tow) 0).2.2 = 0) (hf : (allP (allP x (la.map tow) 0).1 (bs.map tow) 0).2.2 = 0) :
    Calls Tryz.prog 3 #[viewA x a c0, .slice z n zc, .slice y m yc, .int .i64 k] w fun e w' => BoQ w true e w' := by
  obtain ⟨R, hRe⟩ : ∃ R, R = w.heap.size := ⟨_, rfl⟩
  obtain ⟨W0, hW0⟩ : ∃ W0, W0 = w.alloc (.cells #[.int .i64 x.cp, .int .i64 x.fr, .int .i64 x.nx, .slice a x.vs.length c0] 24) := ⟨_, rfl⟩
  have b0 : Below w.heap.size w W0 := by rw [hW0]; exact below1 _ _
  have hV : VwB W0 R x (.slice a x.vs.length c0) := by rw [hW0, hRe]; exact heap_new _ _
  have hR0 := (hR.below b0).mono b0.size
  have hA0 := (hA.below b0).mono b0.size
  have hB0 := (hB.below b0).mono b0.size
  have hG0 := hG.next b0
  have HAW := hid (awake_any W0 hG0)
  have HMAY := hid (fun u (hu : Below W0.heap.size W0 u) => May_any x a c0 u ((hR0.below hu).mono hu.size) hx.1 hz hx.2)
  have HV := hid hV
  have HB0 := hid b0
  have HRe := hid hRe.symm
  have HW0 := hid hW0
  rw [hM] at HMAY
  have hMP := (mayB_iff x).1 hM
  have HC6 := hid (fun u (hu : Below W0.heap.size W0 u) => cpB_any n m la bs z zc y yc u ((hA0.below hu).mono hu.size) ((hB0.below hu).mono hu.size) hn hm hl1 hl2)
  obtain ⟨s1, s2, s3, s4⟩ := joined_ok (b := bs.map tow) he
  rw [← List.map_append] at s1 s2 s3 s4
  rw [tow_len, hn] at s3
  have hMQ := all_may (la.map tow) x 0 hMP he
  have hi1 := all_ok (la.map tow) x 0 he
  have hC5 := fun u (hu : Below W0.heap.size W0 u) => cpA_any x a c0 la n z zc u hMP.szV ((hR0.below hu).mono hu.size) (hG0.next hu) ((hA0.below hu).mono hu.size) hn hl1
  have hC7 := fun u (hu : Below W0.heap.size W0 u) (z2 : Option Addr) (c2 : Nat) (hO : RdA u.heap.size u z2 ((la ++ bs).map tow)) => cpC_any x a c0 ((la ++ bs).map tow) (n + m) z2 c2 u hMP.szV ((hR0.below hu).mono hu.size) (hG0.next hu) hO (tow_ok (fun o ho => by
    rcases List.mem_append.1 ho with q | q
    · exact hA.1 o q
    · exact hB.1 o q)) (by rw [tow_len, List.length_append, hn, hm]) (by omega)
  have hC10 := fun u (hu : Below W0.heap.size W0 u) (a9 : Option Addr) (c9 : Nat) (hq : RdV u.heap.size u a9 (allP x (la.map tow) 0).1.vs) => cpA_any (allP x (la.map tow) 0).1 a9 c9 bs m y yc u hMQ.szV hq (hG0.next hu) ((hB0.below hu).mono hu.size) hm hl2
  obtain ⟨t1, t2, t3⟩ := s4 hf
  have hsg : shV (allP (allP x (la.map tow) 0).1 (bs.map tow) 0).1.vs := (MayP.szV (all_may (bs.map tow) _ 0 hMQ hf)).shV (by omega) (by omega)
  generalize allP x ((la ++ bs).map tow) 0 = r2 at *
  generalize allP x (la.map tow) 0 = r1 at *
  obtain ⟨q, i1, e1⟩ := r1
  dsimp only at he hf hi1 hMQ s1 s2 s3 s4 hC10 t1 t2 t3
  subst he
  subst hi1
  generalize allP q (bs.map tow) 0 = r3 at *
  obtain ⟨g', jz, f'⟩ := r3
  obtain ⟨g, kz, f⟩ := r2
  dsimp only at hf hsg s1 s2 s3 s4 t1 t2 t3
  subst s1
  subst s2
  subst hf
  subst t2
  subst t3
  have HC5 := hid hC5
  have HC7 := hid hC7
  have HC10 := hid hC10
  have HMQ := hid hMQ
  have HG0 := hid hG0
  have HTU := hid (fun (j : Nat) (hj : j < q.vs.length) u a9 c9 (hq : RdV u.heap.size u a9 q.vs) (hg : GT u) => turns_any q a9 c9 j u hMQ hj hq hg)
  have HMAY2 := hid (fun u a9 c9 (hq : RdV u.heap.size u a9 q.vs) => May_any q a9 c9 u hq (by have := hMQ.len; omega) hMQ.nmz (fun v hv => by have := (MayP.szV hMQ).2 v hv; omega))
  rw [(mayB_iff q).2 hMQ] at HMAY2
  have HSV := hid (fun u a9 c9 a8 c8 (hg : shV g.vs) (h1 : RdV u.heap.size u a9 g.vs) (h2 : RdV u.heap.size u a8 g.vs) => SameView_yes g a9 a8 c9 c8 u hg h1 h2)
  have HSG := hid hsg
  clear hC5 hC7 hC10 hRe hW0 b0 hV hR0 hR hA0 hB0 hG0 hG hA hB hx hz hM hn hm hMP hMQ hsg s3 s4
  dsimp only [viewA] at *
  go_enter Tryz.func3, Tryz.ntmps3
  go_wp2_with fail
  rw [← HW0.out, HRe.out]
  refine HAW.out.mono ?_
  rintro e w1 ⟨rfl, hb1⟩
  have HB1 := hid hb1
  have HM1 := hid (HMAY.out w1 hb1)
  clear hb1 HAW HMAY HW0
  obtain ⟨⟨p0, p1, p2, p3⟩, _⟩ := (HV.out.keep (HB1.out.block R HV.out.lt)).cs
  go_wp2_with fail
  refine HM1.out.mono ?_
  rintro e w2 ⟨rfl, hb2⟩
  have HB2 := hid (HB1.out.trans (hb2.mono HB1.out.size))
  clear hb2 HM1 p0 p1 p2 p3
  obtain ⟨⟨p0, p1, p2, p3⟩, _⟩ := (HV.out.keep (HB2.out.block R HV.out.lt)).cs
  have HC5 := hid (HC5.out w2 HB2.out)
  go_wp2_with fail
  refine HC5.out.mono ?_
  rintro e f1 ⟨af1, cf1, rfl, hD1⟩
  have HD1 := hid hD1
  clear hD1 HC5 p0 p1 p2 p3
  go_wp2_with fail
  refine HD1.out.mono ?_
  rintro e f2 ⟨zf2, cf2, rfl, hD2⟩
  have HD2 := hid hD2
  clear hD2 HD1
  go_wp2_with fail
  refine HD2.out.mono ?_
  rintro e d9 ⟨ad9, cd9, rfl, hr9, hn9, hb9⟩
  obtain ⟨X9, hX9⟩ : ∃ X, X = d9.heap.size := ⟨_, rfl⟩
  obtain ⟨W9, hW9⟩ : ∃ W, W = d9.alloc (.cells #[.int .i64 q.cp, .int .i64 q.fr, .int .i64 q.nx, .slice ad9 q.vs.length cd9] 24) := ⟨_, rfl⟩
  have bW9 : Below d9.heap.size d9 W9 := by rw [hW9]; exact below1 _ _
  have HV9 : Hid (VwB W9 X9 q (.slice ad9 q.vs.length cd9)) := hid (by rw [hW9, hX9]; exact heap_new _ _)
  have hbk9 : Below w2.heap.size w2 W9 := hb9.trans (bW9.mono hb9.size)
  have HBW9 : Hid (Below W0.heap.size W0 W9) := hid (HB2.out.trans (hbk9.mono HB2.out.size))
  have HBK9 := hid hbk9
  have HQ9 := hid ((hr9.below bW9).mono bW9.size)
  have HX9 := hid hX9.symm
  have HW9 := hid hW9
  clear hX9 hW9 bW9 hbk9 hr9 hn9 hb9
  clear HD2
  have HC6 := hid (HC6.out W9 HBW9.out)
  go_wp2_with fail
  rw [← HW9.out, HX9.out]
  refine HC6.out.mono ?_
  rintro e h1 ⟨v1, rfl, hE1⟩
  have HE1 := hid hE1
  clear hE1 HC6 HW9 HX9
  go_wp2_with fail
  refine HE1.out.mono ?_
  rintro e h2 ⟨v2, rfl, z2, c2, h3, hrun, hO, hb3⟩
  have HO := hid hO
  have HB3 := hid (HBW9.out.trans (hb3.mono HBW9.out.size))
  have HBK3 := hid hb3
  have HC7 := hid (HC7.out h3 HB3.out z2 c2 HO.out)
  clear hO hb3 HE1 HO
  obtain ⟨⟨p0, p1, p2, p3⟩, _⟩ := (HV.out.keep (HB3.out.block R HV.out.lt)).cs
  go_wp2_with (at_builtin; refine Lib.wpList_append_run _ rfl _ _ _ _ rfl _ _ rfl rfl _ _ hrun ?_)
  refine HC7.out.mono ?_
  rintro e f3 ⟨af3, cf3, rfl, hD3⟩
  have HD3 := hid hD3
  clear hD3 HC7 hrun p0 p1 p2 p3
  go_wp2_with fail
  refine HD3.out.mono ?_
  rintro e d13 ⟨ad13, cd13, rfl, hr13, hn13, hb13⟩
  obtain ⟨X13, hX13⟩ : ∃ X, X = d13.heap.size := ⟨_, rfl⟩
  obtain ⟨W13, hW13⟩ : ∃ W, W = d13.alloc (.cells #[.int .i64 g.cp, .int .i64 g.fr, .int .i64 g.nx, .slice ad13 g.vs.length cd13] 24) := ⟨_, rfl⟩
  have bW13 : Below d13.heap.size d13 W13 := by rw [hW13]; exact below1 _ _
  have HV13 : Hid (VwB W13 X13 g (.slice ad13 g.vs.length cd13)) := hid (by rw [hW13, hX13]; exact heap_new _ _)
  have hbk13 : Below h3.heap.size h3 W13 := hb13.trans (bW13.mono hb13.size)
  have HBW13 : Hid (Below W0.heap.size W0 W13) := hid (HB3.out.trans (hbk13.mono HB3.out.size))
  have HBK13 := hid hbk13
  have HQ13 := hid ((hr13.below bW13).mono bW13.size)
  have HX13 := hid hX13.symm
  have HW13 := hid hW13
  clear hX13 hW13 bW13 hbk13 hr13 hn13 hb13
  clear HD3
  go_wp2_with fail
  rw [← HW13.out, HX13.out]
  refine (Num_any _ _).mono ?_
  rintro e wn ⟨rfl, hwn⟩
  have hwn := hwn.symm
  subst hwn
  clear HW13 HX13
  have hk13 : Below W9.heap.size W9 W13 := HBK3.out.trans (HBK13.out.mono HBK3.out.size)
  have HK13 := hid hk13
  have HC10 := hid (HC10.out W13 HBW13.out ad9 cd9 ((HQ9.out.below hk13).mono hk13.size))
  obtain ⟨⟨p0, p1, p2, p3⟩, _⟩ := (HV9.out.keep (hk13.block X9 HV9.out.lt)).cs
  clear hk13
  go_wp2_with fail
  refine HC10.out.mono ?_
  rintro e f4 ⟨af4, cf4, rfl, hD4⟩
  have HD4 := hid hD4
  clear hD4 HC10 p0 p1 p2 p3
  go_wp2_with fail
  refine HD4.out.mono ?_
  rintro e f5 ⟨zf5, cf5, rfl, hD5⟩
  have HD5 := hid hD5
  clear hD5 HD4
  go_wp2_with fail
  refine HD5.out.mono ?_
  rintro e d16 ⟨ad16, cd16, rfl, hr16, hn16, hb16⟩
  obtain ⟨X16, hX16⟩ : ∃ X, X = d16.heap.size := ⟨_, rfl⟩
  obtain ⟨W16, hW16⟩ : ∃ W, W = d16.alloc (.cells #[.int .i64 g.cp, .int .i64 g.fr, .int .i64 g.nx, .slice ad16 g.vs.length cd16] 24) := ⟨_, rfl⟩
  have bW16 : Below d16.heap.size d16 W16 := by rw [hW16]; exact below1 _ _
  have HV16 : Hid (VwB W16 X16 g (.slice ad16 g.vs.length cd16)) := hid (by rw [hW16, hX16]; exact heap_new _ _)
  have hbk16 : Below W13.heap.size W13 W16 := hb16.trans (bW16.mono hb16.size)
  have HBW16 : Hid (Below W0.heap.size W0 W16) := hid (HBW13.out.trans (hbk16.mono HBW13.out.size))
  have HBK16 := hid hbk16
  have HQ16 := hid ((hr16.below bW16).mono bW16.size)
  have HX16 := hid hX16.symm
  have HW16 := hid hW16
  clear hX16 hW16 bW16 hbk16 hr16 hn16 hb16
  clear HD5
  have hk16 : Below W9.heap.size W9 W16 := HK13.out.trans (HBK16.out.mono HK13.out.size)
  have HK16 := hid hk16
  have HM2 := hid (HMAY2.out W16 ad9 cd9 ((HQ9.out.below hk16).mono hk16.size))
  obtain ⟨⟨p0, p1, p2, p3⟩, _⟩ := (HV9.out.keep (hk16.block X9 HV9.out.lt)).cs
  rw [HW16.out] at p0 p1 p2 p3
  clear hk16 HMAY2
  go_wp2_with fail
  rw [← HW16.out, HX16.out]
  refine HM2.out.mono ?_
  rintro e y1 ⟨rfl, hy1⟩
  have HY1 := hid hy1
  have HS := hid (HSV.out y1 ad16 cd16 ad13 cd13 HSG.out ((HQ16.out.below hy1).mono hy1.size) ((HQ13.out.below (HBK16.out.trans (hy1.mono HBK16.out.size))).mono (HBK16.out.trans (hy1.mono HBK16.out.size)).size))
  obtain ⟨⟨p0', p1', p2', p3'⟩, _⟩ := (HV16.out.keep (hy1.block X16 HV16.out.lt)).cs
  obtain ⟨⟨q0, q1, q2, q3⟩, _⟩ := (HV13.out.keep ((HBK16.out.trans (hy1.mono HBK16.out.size)).block X13 HV13.out.lt)).cs
  clear hy1 HM2 HW16 HX16 p0 p1 p2 p3 HSV
  go_wp2_with fail
  refine HS.out.mono ?_
  rintro e y2 ⟨rfl, hy2⟩
  have HY2 := hid (HY1.out.trans (hy2.mono HY1.out.size))
  clear hy2 HS p0' p1' p2' p3' q0 q1 q2 q3
  go_wp2_with fail
  refine (Num_any _ _).mono ?_
  rintro e wn ⟨rfl, hwn⟩
  have hwn := hwn.symm
  subst hwn
  go_wp2_with fail
  refine (Num_any _ _).mono ?_
  rintro e wn ⟨rfl, hwn⟩
  have hwn := hwn.symm
  subst hwn
  have hk2 : Below W9.heap.size W9 y2 := HK16.out.trans (HY2.out.mono HK16.out.size)
  have hq9 := (HQ9.out.below hk2).mono hk2.size
  have hB2 : Below W0.heap.size W0 y2 := HBW9.out.trans (hk2.mono HBW9.out.size)
  obtain ⟨⟨p0, p1, p2, p3⟩, _⟩ := (HV9.out.keep (hk2.block X9 HV9.out.lt)).cs
  have HQY := hid hq9
  have HX9l : Hid (X9 < y2.heap.size) := hid (Nat.lt_of_lt_of_le HV9.out.lt hk2.size)
  have HBY := hid hB2
  have HGY := hid (HG0.out.next hB2)
  clear hk2 hq9 hB2
  by_cases hq0 : q.vs.length = 0
  · rw [hq0] at p3
    go_wp2
    go_ret
    exact ⟨rfl, HB0.out.trans (HBY.out.mono HB0.out.size)⟩
  · obtain ⟨t, ht⟩ : ∃ t, t = bits BinOp.and IntKind.i64 k 4611686018427387903 := ⟨_, rfl⟩
    have ht0 : 0 ≤ t := by rw [ht]; exact and_mask k
    obtain ⟨j, hjt⟩ : ∃ j : Nat, t.tmod (q.vs.length : Int) = (j : Int) := ⟨(t.tmod (q.vs.length : Int)).toNat, by have := Int.tmod_nonneg (q.vs.length : Int) ht0; omega⟩
    have hj : j < q.vs.length := by
      have := Int.tmod_lt_of_pos t (show (0 : Int) < (q.vs.length : Int) by omega)
      omega
    have hjm : t % (q.vs.length : Int) = (j : Int) := by rw [← hjt, Int.tmod_eq_emod_of_nonneg ht0]
    obtain ⟨gq, off, rfl, hgl, hc⟩ := HQY.out.resolve_left (fun e => by rw [e] at hj; simp at hj)
    obtain ⟨ma, mc, ⟨pn, pn1⟩, pn2, pn3⟩ := hc j hj
    clear pn1 pn2 pn3
    have HT := hid (HTU.out j hj y2.drew _ cd9 HQY.out (HGY.out.next (below_drew _ _)))
    have pp3 := p3
    have HKEEP : Hid (∀ u, Below y2.heap.size y2.drew u → (u.cell? ⟨X9, 0, none⟩ = some (.int .i64 q.cp) ∧ u.cell? ⟨X9, 1, none⟩ = some (.int .i64 q.fr) ∧ u.cell? ⟨X9, 2, none⟩ = some (.int .i64 q.nx) ∧ u.cell? ⟨X9, 3, none⟩ = some (.slice (some ⟨gq, off, none⟩) q.vs.length cd9) ∧ u.cell? ⟨gq, off + j * 7, none⟩ = some (.string q.vs[j].nm))) := hid (fun u hu => ⟨(hu.cell (by exact HX9l.out)).trans p0, (hu.cell (by exact HX9l.out)).trans p1, (hu.cell (by exact HX9l.out)).trans p2, (hu.cell (by exact HX9l.out)).trans pp3, (hu.cell (by exact hgl)).trans pn⟩)
    clear pp3 hc HTU HQY HGY
    obtain ⟨nmq, hnq⟩ : ∃ s, s = q.vs[j].nm := ⟨_, rfl⟩
    rw [← hnq] at pn HT HKEEP
    clear hnq
    generalize q.vs.length = l at *
    have hl3 : ¬ (l : Int) = 0 := by omega
    have hl4 : ((l : Int) == 0) = false := by simp; omega
    have hjl : (j : Int) < (l : Int) := by omega
    have hr1 := hjt
    have hr2 := hjm
    have HBYH := hid (HB0.out.trans (HBY.out.mono HB0.out.size))
    have ht2 := ht.symm
    clear hjt hjm ht0 hgl ht
    go_wp2_with fail
    refine wp_region_held_drew (S := (fun u => (u.cell? ⟨X9, 0, none⟩ = some (.int .i64 q.cp) ∧ u.cell? ⟨X9, 1, none⟩ = some (.int .i64 q.fr) ∧ u.cell? ⟨X9, 2, none⟩ = some (.int .i64 q.nx) ∧ u.cell? ⟨X9, 3, none⟩ = some (.slice (some ⟨gq, off, none⟩) l cd9) ∧ u.cell? ⟨gq, off + j * 7, none⟩ = some (.string nmq)))) (by kernel_rfl) ⟨p0, p1, p2, p3, pn⟩ (fun hSS => ?_)
    refine wpAnyH_take (i := 0) (oi := ({ dst := some 130, op := Op.load 24 (Operand.tmp 9), type := 24, pos := _, after := _, guard := none } : Oper)) (v := ?_) rfl (by kernel_rfl) (by kernel_rfl) (by kernel_rfl) (fun _ _ _ h => h) (Or.inl ⟨by rfl, ?_⟩) hSS ?_
    rotate_left
    · intro w9 hSw
      (try dsimp only at hSw)
      (try go_split_ands)
      first | (go_simp; done) | (go_simp; with_reducible rfl)
    try simp only [Act.put, List.setIfInBounds_toArray, List.set_cons_zero, List.set_cons_succ]
    refine wpAnyH_take (i := 1) (oi := ({ dst := some 131, op := Op.fieldAddr 24 (Operand.tmp 9) 3, type := 0, pos := _, after := _, guard := none } : Oper)) (v := ?_) rfl (by kernel_rfl) (by kernel_rfl) (by kernel_rfl) (fun _ _ _ h => h) (Or.inl ⟨by rfl, ?_⟩) hSS ?_
    rotate_left
    · intro w9 hSw
      (try dsimp only at hSw)
      (try go_split_ands)
      first | (go_simp; done) | (go_simp; with_reducible rfl)
    try simp only [Act.put, List.setIfInBounds_toArray, List.set_cons_zero, List.set_cons_succ]
    refine wpAnyH_take (i := 2) (oi := ({ dst := some 132, op := Op.load 22 (Operand.tmp 131), type := 22, pos := _, after := _, guard := none } : Oper)) (v := ?_) rfl (by kernel_rfl) (by kernel_rfl) (by kernel_rfl) (fun _ _ _ h => h) (Or.inl ⟨by rfl, ?_⟩) hSS ?_
    rotate_left
    · intro w9 hSw
      (try dsimp only at hSw)
      (try go_split_ands)
      first | (go_simp; done) | (go_simp; with_reducible rfl)
    try simp only [Act.put, List.setIfInBounds_toArray, List.set_cons_zero, List.set_cons_succ]
    refine wpAnyH_take (i := 3) (oi := ({ dst := some 133, op := Op.move (Operand.tmp 3), type := 3, pos := _, after := _, guard := none } : Oper)) (v := ?_) rfl (by kernel_rfl) (by kernel_rfl) (by kernel_rfl) (fun _ _ _ h => h) (Or.inl ⟨by rfl, ?_⟩) hSS ?_
    rotate_left
    · intro w9 hSw
      (try dsimp only at hSw)
      (try go_split_ands)
      first | (go_simp; done) | (go_simp; with_reducible rfl)
    try simp only [Act.put, List.setIfInBounds_toArray, List.set_cons_zero, List.set_cons_succ]
    refine wpAnyH_take (i := 4) (oi := ({ dst := some 134, op := Op.binOp BinOp.and 3 (Operand.tmp 133) (Operand.const (Value.int IntKind.i64 4611686018427387903)) 3, type := 3, pos := _, after := _, guard := none } : Oper)) (v := .int .i64 t) rfl (by kernel_rfl) (by kernel_rfl) (by kernel_rfl) (fun _ _ _ h => h) (Or.inl ⟨by rfl, ?_⟩) hSS ?_
    · intro w9 hSw
      (try dsimp only at hSw)
      (try go_split_ands)
      first | (go_simp; done) | (go_simp; simp [ht2]; done)
    try simp only [Act.put, List.setIfInBounds_toArray, List.set_cons_zero, List.set_cons_succ]
    refine wpAnyH_take (i := 5) (oi := ({ dst := some 135, op := Op.fieldAddr 24 (Operand.tmp 9) 3, type := 0, pos := _, after := _, guard := none } : Oper)) (v := ?_) rfl (by kernel_rfl) (by kernel_rfl) (by kernel_rfl) (fun _ _ _ h => h) (Or.inl ⟨by rfl, ?_⟩) hSS ?_
    rotate_left
    · intro w9 hSw
      (try dsimp only at hSw)
      (try go_split_ands)
      first | (go_simp; done) | (go_simp; with_reducible rfl)
    try simp only [Act.put, List.setIfInBounds_toArray, List.set_cons_zero, List.set_cons_succ]
    refine wpAnyH_take (i := 6) (oi := ({ dst := some 136, op := Op.load 22 (Operand.tmp 135), type := 22, pos := _, after := _, guard := none } : Oper)) (v := ?_) rfl (by kernel_rfl) (by kernel_rfl) (by kernel_rfl) (fun _ _ _ h => h) (Or.inl ⟨by rfl, ?_⟩) hSS ?_
    rotate_left
    · intro w9 hSw
      (try dsimp only at hSw)
      (try go_split_ands)
      first | (go_simp; done) | (go_simp; with_reducible rfl)
    try simp only [Act.put, List.setIfInBounds_toArray, List.set_cons_zero, List.set_cons_succ]
    refine wpAnyH_take (i := 7) (oi := ({ dst := some 137, op := Op.call { callee := Callee.builtin Builtin.len, args := #[Operand.tmp 136], argTypes := #[22] }, type := 3, pos := _, after := _, guard := none } : Oper)) (v := ?_) rfl (by kernel_rfl) (by kernel_rfl) (by kernel_rfl) (fun _ _ _ h => h) (Or.inl ⟨by rfl, ?_⟩) hSS ?_
    rotate_left
    · intro w9 hSw
      (try dsimp only at hSw)
      (try go_split_ands)
      first | (go_simp; done) | (go_simp; with_reducible rfl)
    try simp only [Act.put, List.setIfInBounds_toArray, List.set_cons_zero, List.set_cons_succ]
    refine wpAnyH_take (i := 8) (oi := ({ dst := some 138, op := Op.binOp BinOp.rem 3 (Operand.tmp 134) (Operand.tmp 137) 3, type := 3, pos := _, after := _, guard := none } : Oper)) (v := .int .i64 (j : Int)) rfl (by kernel_rfl) (by kernel_rfl) (by kernel_rfl) (fun _ _ _ h => h) (Or.inl ⟨by rfl, ?_⟩) hSS ?_
    · intro w9 hSw
      (try dsimp only at hSw)
      (try go_split_ands)
      first | (go_simp; done) | (go_simp; simp [hr1, hr2]; done)
    try simp only [Act.put, List.setIfInBounds_toArray, List.set_cons_zero, List.set_cons_succ]
    refine wpAnyH_take (i := 9) (oi := ({ dst := some 139, op := Op.indexAddr 22 (Operand.tmp 132) (Operand.tmp 138), type := 0, pos := _, after := _, guard := none } : Oper)) (v := ?_) rfl (by kernel_rfl) (by kernel_rfl) (by kernel_rfl) (fun _ _ _ h => h) (Or.inl ⟨by rfl, ?_⟩) hSS ?_
    rotate_left
    · intro w9 hSw
      (try dsimp only at hSw)
      (try go_split_ands)
      first | (go_simp; done) | (go_simp; with_reducible rfl)
    try simp only [Act.put, List.setIfInBounds_toArray, List.set_cons_zero, List.set_cons_succ]
    refine wpAnyH_take (i := 10) (oi := ({ dst := some 140, op := Op.fieldAddr 38 (Operand.tmp 139) 0, type := 0, pos := _, after := _, guard := none } : Oper)) (v := ?_) rfl (by kernel_rfl) (by kernel_rfl) (by kernel_rfl) (fun _ _ _ h => h) (Or.inl ⟨by rfl, ?_⟩) hSS ?_
    rotate_left
    · intro w9 hSw
      (try dsimp only at hSw)
      (try go_split_ands)
      first | (go_simp; done) | (go_simp; with_reducible rfl)
    try simp only [Act.put, List.setIfInBounds_toArray, List.set_cons_zero, List.set_cons_succ]
    refine wpAnyH_take (i := 11) (oi := ({ dst := some 141, op := Op.load 9 (Operand.tmp 140), type := 9, pos := _, after := _, guard := none } : Oper)) (v := ?_) rfl (by kernel_rfl) (by kernel_rfl) (by kernel_rfl) (fun _ _ _ h => h) (Or.inl ⟨by rfl, ?_⟩) hSS ?_
    rotate_left
    · intro w9 hSw
      (try dsimp only at hSw)
      (try go_split_ands)
      first | (go_simp; done) | (go_simp; with_reducible rfl)
    try simp only [Act.put, List.setIfInBounds_toArray, List.set_cons_zero, List.set_cons_succ]
    refine wpAnyH_ready (rs := [12]) (by kernel_rfl) (by simp) (AllReadyH.cons (o := ({ dst := some 142, op := Op.call { callee := Callee.value (Operand.func 14), args := #[Operand.tmp 130, Operand.tmp 141], argTypes := #[24, 9] }, type := 4, pos := _, after := _, guard := none } : Oper)) rfl (fun K9 hK9 => ?_) AllReadyH.nil)
    go_simp
    go_at_call 14
    refine Calls.mono HT.out ?_
    rintro e y3 ⟨rfl, hy3⟩
    have HY3 := hid hy3
    clear hy3
    refine hK9.out _ _ (HKEEP.out _ HY3.out) (fun hSS => ?_)
    clear hK9 K9
    try simp only [Act.put, List.setIfInBounds_toArray, List.set_cons_zero, List.set_cons_succ]
    refine wpAnyH_take (i := 13) (oi := ({ dst := some 8, op := Op.assign (Operand.tmp 142), type := 4, pos := _, after := _, guard := none } : Oper)) (v := ?_) rfl (by kernel_rfl) (by kernel_rfl) (by kernel_rfl) (fun _ _ _ h => h) (Or.inl ⟨by rfl, ?_⟩) hSS ?_
    rotate_left
    · intro w9 hSw
      (try dsimp only at hSw)
      (try go_split_ands)
      first | (go_simp; done) | (go_simp; with_reducible rfl)
    try simp only [Act.put, List.setIfInBounds_toArray, List.set_cons_zero, List.set_cons_succ]
    refine wpAnyH_done (by kernel_rfl) ?_ _
    go_wp2_with fail
    go_ret
    exact ⟨rfl, HBYH.out.trans ((below_drew _ _).trans (HY3.out.mono (by exact HBYH.out.size)))⟩
end Go.Proofs.YtddddfankeepkaaGreatDoor
