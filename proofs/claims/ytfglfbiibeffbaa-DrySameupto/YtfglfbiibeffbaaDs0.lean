/-
  DrySame.
-/
import Derived.Test.YtfglfbiibeffbaaVk0
import Derived.Deep.RegionHeld3
namespace Go.Proofs.Ytfglfbiibeffbaa
open Go.RowKit

theorem LentV.put {w w' : World} {F : Nat} {gs : List Nat} {vs : List PV} {X : Nat} {o : VW} {u : Value} (h : LentV w F gs vs) (hV : VwB w X o u) (bt : But (fun k => k = X) w w') : LentV w' F gs vs := by
  refine ⟨h.gl, h.fb.keep (bt.block _ h.fb.lt (fun e => ?_)), fun i hi => (h.gb i hi).keep (bt.block _ (h.gb i hi).lt (fun e => ?_))⟩
  · have h1 := h.fb.2
    unfold VwB at hV
    rw [e, hV] at h1
    simp at h1
  · have h1 := h.gb i hi
    unfold BlR at h1
    unfold VwB at hV
    rw [e, hV] at h1
    simp at h1
/-- behind the two Lends -/
structure DsE (w wz : World) (R Q X Y F F2 : Nat) (gs gs2 : List Nat) (x y : VW) (a a' : Option Addr) (c c' : Nat) : Prop where
  p : VwB wz R x (.slice a x.vs.length c)
  q : VwB wz Q y (.slice a' y.vs.length c')
  vx : VwB wz X x (.slice (some ⟨F, 0, none⟩) x.vs.length (2 * x.vs.length + 70))
  vy : VwB wz Y y (.slice (some ⟨F2, 0, none⟩) y.vs.length (2 * y.vs.length + 70))
  lx : LentV wz F gs x.vs
  ly : LentV wz F2 gs2 y.vs
  rx : RdV wz.heap.size wz a x.vs
  ry : RdV wz.heap.size wz a' y.vs
  bel : Below w.heap.size w wz
theorem DsE.next {w wz wi : World} {R Q X Y F F2 : Nat} {gs gs2 : List Nat} {x y : VW} {a a' : Option Addr} {c c' : Nat} (h : DsE w wz R Q X Y F F2 gs gs2 x y a a' c c') (hb : Below wz.heap.size wz wi) : DsE w wi R Q X Y F F2 gs gs2 x y a a' c c' :=
  ⟨h.p.keep (hb.block _ h.p.lt), h.q.keep (hb.block _ h.q.lt), h.vx.keep (hb.block _ h.vx.lt), h.vy.keep (hb.block _ h.vy.lt), h.lx.next hb, h.ly.next hb, (h.rx.below hb).mono hb.size, (h.ry.below hb).mono hb.size, h.bel.trans (hb.mono h.bel.size)⟩
/-- the two stores -/
theorem DsE.of {w U v : World} {R Q X Y F F2 : Nat} {gs gs2 : List Nat} {x y : VW} {a a' : Option Addr} {c c' : Nat} (hU : Below w.heap.size w U) (p : VwB U R x (.slice a x.vs.length c)) (q : VwB U Q y (.slice a' y.vs.length c')) (rx : RdV U.heap.size U a x.vs) (ry : RdV U.heap.size U a' y.vs)
    (hb : Below U.heap.size U v) (v5 : VwB v X VW0 nilS) (v6 : VwB v Y VW0 nilS) (h5 : U.heap.size ≤ X) (h6 : U.heap.size ≤ Y) (hXY : X ≠ Y) (lx : LentV v F gs x.vs) (ly : LentV v F2 gs2 y.vs) (y1 y2 : World)
    (hy1 : y1 = put4 v X x (.slice (some ⟨F, 0, none⟩) x.vs.length (2 * x.vs.length + 70))) (hy2 : y2 = put4 y1 Y y (.slice (some ⟨F2, 0, none⟩) y.vs.length (2 * y.vs.length + 70))) :
    VwB y1 Y VW0 nilS ∧ Below U.heap.size U y1 ∧ Below U.heap.size U y2 ∧ DsE w y2 R Q X Y F F2 gs gs2 x y a a' c c' := by
  have bt1 : But (fun k => k = X) v y1 := by rw [hy1]; exact but_put4 _ _ _ _
  have bt2 : But (fun k => k = Y) y1 y2 := by rw [hy2]; exact but_put4 _ _ _ _
  have k1 : VwB y1 Y VW0 nilS := v6.keep (bt1.block _ v6.lt (fun e => hXY e.symm))
  have k2 : VwB y1 X x (.slice (some ⟨F, 0, none⟩) x.vs.length (2 * x.vs.length + 70)) := by rw [hy1]; exact v5.put4
  have b1 : Below U.heap.size U y1 := hb.trans (bt1.below hb.size (fun k hk e => by omega))
  have b2 : Below U.heap.size U y2 := b1.trans (bt2.below b1.size (fun k hk e => by omega))
  exact ⟨k1, b1, b2, p.keep (b2.block _ p.lt), q.keep (b2.block _ q.lt), k2.keep (bt2.block _ k2.lt hXY), by rw [hy2]; exact k1.put4, (lx.put v5 bt1).put k1 bt2, (ly.put v5 bt1).put k1 bt2, (rx.below b2).mono b2.size, (ry.below b2).mono b2.size, hU.trans (b2.mono hU.size)⟩

set_option maxRecDepth 100000 in
set_option maxHeartbeats 16000000 in
theorem drySame_law (x y : VW) (a a' : Option Addr) (c c' : Nat) (w : World) (hl : shV x.vs) (hl' : shV y.vs) (hR : RdV w.heap.size w a x.vs) (hR' : RdV w.heap.size w a' y.vs) :
    Calls Try.prog 3 #[viewA x a c, viewA y a' c'] w fun e w' => e = .returned (.bool true) ∧ Below w.heap.size w w' := by
  obtain ⟨R, hRR⟩ : ∃ R, R = w.heap.size := ⟨_, rfl⟩
  obtain ⟨Q, hQQ⟩ : ∃ Q, Q = w.heap.size + 1 := ⟨_, rfl⟩
  obtain ⟨U, hU⟩ : ∃ U, U = (w.alloc (.cells #[.int .i64 x.cp, .int .i64 x.fr, .int .i64 x.nx, .slice a x.vs.length c] 24)).alloc (.cells #[.int .i64 y.cp, .int .i64 y.fr, .int .i64 y.nx, .slice a' y.vs.length c'] 24) := ⟨_, rfl⟩
  have bU : Below w.heap.size w U := by rw [hU]; exact two_below _ _ _
  have pU : VwB U R x (.slice a x.vs.length c) := by
    unfold VwB
    rw [hU, hRR, Below.heap_alloc _ _ _ (by simp)]
    exact heap_new _ _
  have qU : VwB U Q y (.slice a' y.vs.length c') := by
    have := heap_new (w.alloc (.cells #[.int .i64 x.cp, .int .i64 x.fr, .int .i64 x.nx, .slice a x.vs.length c] 24)) (.cells #[.int .i64 y.cp, .int .i64 y.fr, .int .i64 y.nx, .slice a' y.vs.length c'] 24)
    rw [World.size_alloc, ← hU, ← hQQ] at this
    exact this
  have rxU := (hR.below bU).mono bU.size
  have ryU := (hR'.below bU).mono bU.size
  have HCx : Hid (∀ v, Below U.heap.size U v → Calls Try.prog 4 #[.agg #[.int .i64 x.cp, .int .i64 x.fr, .int .i64 x.nx, .slice a x.vs.length c]] v fun e w' => ∃ F gs, e = .returned (.agg #[.int .i64 x.cp, .int .i64 x.fr, .int .i64 x.nx, .slice (some ⟨F, 0, none⟩) x.vs.length (2 * x.vs.length + 70)]) ∧ LentV w' F gs x.vs ∧ Below v.heap.size v w') := fun v hv => Lend_any x a c v hl ((rxU.below hv).mono hv.size)
  have HCy : Hid (∀ v, Below U.heap.size U v → Calls Try.prog 4 #[.agg #[.int .i64 y.cp, .int .i64 y.fr, .int .i64 y.nx, .slice a' y.vs.length c']] v fun e w' => ∃ F gs, e = .returned (.agg #[.int .i64 y.cp, .int .i64 y.fr, .int .i64 y.nx, .slice (some ⟨F, 0, none⟩) y.vs.length (2 * y.vs.length + 70)]) ∧ LentV w' F gs y.vs ∧ Below v.heap.size v w') := fun v hv => Lend_any y a' c' v hl' ((ryU.below hv).mono hv.size)
  have HPU := hid pU
  have HQU := hid qU
  have HEND : Hid (∀ (v : World) (X Y F F2 : Nat) (gs gs2 : List Nat) (y1 y2 : World), Below U.heap.size U v → VwB v X VW0 nilS → VwB v Y VW0 nilS → U.heap.size ≤ X → U.heap.size ≤ Y → X ≠ Y → LentV v F gs x.vs → LentV v F2 gs2 y.vs → y1 = put4 v X x (.slice (some ⟨F, 0, none⟩) x.vs.length (2 * x.vs.length + 70)) → y2 = put4 y1 Y y (.slice (some ⟨F2, 0, none⟩) y.vs.length (2 * y.vs.length + 70)) → VwB y1 Y VW0 nilS ∧ Below U.heap.size U y1 ∧ Below U.heap.size U y2 ∧ DsE w y2 R Q X Y F F2 gs gs2 x y a a' c c') := fun v X Y F F2 gs gs2 y1 y2 h1 h2 h3 h4 h5 h6 h7 h8 h9 h10 => DsE.of bU pU qU rxU ryU h1 h2 h3 h4 h5 h6 h7 h8 y1 y2 h9 h10
  have HE : Hid (w.heap.size = R ∧ w.heap.size + 1 = Q) := ⟨by omega, by omega⟩
  have HU := hid hU
  have HH := hid hl
  have HH' := hid hl'
  clear hU bU pU qU rxU ryU hRR hQQ hR hR' hl hl'
  dsimp only [viewA]
  go_enter Try.func3, Try.ntmps3
  go_wp2_with fail
  rw [← HU.out, HE.out.2, HE.out.1]
  rename_i K hK
  have HREST : Hid (∀ (wz : World) (X Y F F2 : Nat) (gs gs2 : List Nat), DsE w wz R Q X Y F F2 gs gs2 x y a a' c c' → K { tmps := #[.agg #[.int .i64 x.cp, .int .i64 x.fr, .int .i64 x.nx, .slice a x.vs.length c], .agg #[.int .i64 y.cp, .int .i64 y.fr, .int .i64 y.nx, .slice a' y.vs.length c'], .pointer (some ⟨R, 0, none⟩), .pointer (some ⟨Q, 0, none⟩), .bool false, .pointer (some ⟨X, 0, none⟩), .pointer (some ⟨Y, 0, none⟩), undef, undef, .agg #[.int .i64 x.cp, .int .i64 x.fr, .int .i64 x.nx, .slice a x.vs.length c], .agg #[.int .i64 x.cp, .int .i64 x.fr, .int .i64 x.nx, .slice (some ⟨F, 0, none⟩) x.vs.length (2 * x.vs.length + 70)], .agg #[.int .i64 y.cp, .int .i64 y.fr, .int .i64 y.nx, .slice a' y.vs.length c'], .agg #[.int .i64 y.cp, .int .i64 y.fr, .int .i64 y.nx, .slice (some ⟨F2, 0, none⟩) y.vs.length (2 * y.vs.length + 70)], undef, undef, undef, undef, undef, undef, undef, undef, undef, undef, undef, undef, undef, undef, undef, undef, undef, undef, undef, undef, undef, undef, undef, undef, undef, undef, undef, undef, undef, undef, undef, undef], defers := [] } wz) := by
    intro wz X Y F F2 gs gs2 hD
    refine hK _ _ ?_
    clear hK HEND HCx HCy HU HPU HQU
    have HD := hid hD
    obtain ⟨⟨p0, p1, p2, p3⟩, _⟩ := hD.p.cs
    obtain ⟨⟨q0, q1, q2, q3⟩, _⟩ := hD.q.cs
    obtain ⟨⟨x0, x1, x2, x3⟩, _⟩ := hD.vx.cs
    obtain ⟨⟨y0, y1, y2, y3⟩, _⟩ := hD.vy.cs
    have HC1 := hid (Same_any x y (some ⟨F, 0, none⟩) (some ⟨F2, 0, none⟩) (2 * x.vs.length + 70) (2 * y.vs.length + 70) wz HH.out hD.lx.rd hD.ly.rd)
    dsimp only [viewA] at HC1
    clear hD
    go_wp2_with fail
    refine HC1.out.mono ?_
    rintro e w1 ⟨b1, rfl, hb1, hw1⟩
    have hD1 := HD.out.next hw1
    have HI1 := hid hb1
    clear HC1 HD hb1 hw1 p0 p1 p2 p3 q0 q1 q2 q3 x0 x1 x2 x3 y0 y1 y2 y3
    have HD1 := hid hD1
    obtain ⟨⟨p0, p1, p2, p3⟩, _⟩ := hD1.p.cs
    have HC2 := hid (CopyView_any x a c w1 HH.out hD1.rx)
    dsimp only [viewA] at HC2
    clear hD1
    go_wp2_with fail
    refine HC2.out.mono ?_
    rintro e w2 ⟨a3, c3, rfl, hr3, _, hw2⟩
    have hD2 := HD1.out.next hw2
    obtain ⟨Z, hZ⟩ : ∃ Z, Z = w2.heap.size := ⟨_, rfl⟩
    obtain ⟨W3, hW3⟩ : ∃ W3, W3 = w2.alloc (.cells #[.int .i64 x.cp, .int .i64 y.fr, .int .i64 x.nx, .slice a3 x.vs.length c3] 24) := ⟨_, rfl⟩
    have hb3 : Below w2.heap.size w2 W3 := by rw [hW3]; exact below1 _ _
    have hD3 := hD2.next hb3
    have hr4 := (hr3.below hb3).mono hb3.size
    have hZ3 : VwB W3 Z ⟨x.cp, y.fr, x.nx, x.vs⟩ (.slice a3 x.vs.length c3) := by rw [hW3, hZ]; exact heap_new _ _
    clear HC2 hr3 hw2 p0 p1 p2 p3 HD1
    obtain ⟨⟨q0, q1, q2, q3⟩, _⟩ := hD2.q.cs
    obtain ⟨⟨x0, x1, x2, x3⟩, _⟩ := hD2.vx.cs
    have hQl := hD2.q.lt
    have hXl := hD2.vx.lt
    have HC3 := hid (Same_any x ⟨x.cp, y.fr, x.nx, x.vs⟩ (some ⟨F, 0, none⟩) a3 (2 * x.vs.length + 70) c3 W3 HH.out hD3.lx.rd hr4)
    dsimp only [viewA] at HC3
    have HD3 := hid hD3
    have HW3 := hid hW3
    have HZ := hid hZ
    clear hD2 hD3 hr4 hZ3 hW3 hZ hb3
    go_wp2_with fail
    rw [← HW3.out, ← HZ.out]
    refine HC3.out.mono ?_
    rintro e w4 ⟨b3, rfl, hb3, hw4⟩
    obtain rfl : b3 = true := hb3.2 ⟨rfl, rfl, rfl⟩
    have hD4 := HD3.out.next hw4
    clear HC3 HD3 HW3 HZ hb3 hw4 q0 q1 q2 q3 x0 x1 x2 x3 hQl hXl
    have HD4 := hid hD4
    obtain ⟨⟨p0, p1, p2, p3⟩, _⟩ := hD4.p.cs
    obtain ⟨⟨q0, q1, q2, q3⟩, _⟩ := hD4.q.cs
    have HC4 := hid (AlikeViews_any x y a a' c c' w4 HH.out hD4.rx hD4.ry)
    dsimp only [viewA] at HC4
    clear hD4
    go_wp2_with fail
    refine HC4.out.mono ?_
    rintro e w5 ⟨b4, rfl, hb4, hw5⟩
    obtain rfl : b4 = b1 := by
      have h1 := HI1.out
      cases b1 <;> cases b4 <;> simp_all
    have hD5 := HD4.out.next hw5
    clear HC4 HD4 hb4 hw5 p0 p1 p2 p3 q0 q1 q2 q3 HI1
    have HD5 := hid hD5
    obtain ⟨⟨p0, p1, p2, p3⟩, _⟩ := hD5.p.cs
    obtain ⟨⟨x0, x1, x2, x3⟩, _⟩ := hD5.vx.cs
    have HC5 := hid (Back_yes x F gs a c w5 HH.out hD5.lx hD5.rx)
    dsimp only [viewA] at HC5
    clear hD5
    go_wp2_with fail
    refine HC5.out.mono ?_
    rintro e w6 ⟨rfl, hw6⟩
    have hD6 := HD5.out.next hw6
    clear HC5 HD5 hw6 p0 p1 p2 p3 x0 x1 x2 x3
    have HD6 := hid hD6
    obtain ⟨⟨q0, q1, q2, q3⟩, _⟩ := hD6.q.cs
    obtain ⟨⟨y0, y1, y2, y3⟩, _⟩ := hD6.vy.cs
    have HC6 := hid (Back_yes y F2 gs2 a' c' w6 HH'.out hD6.ly hD6.ry)
    dsimp only [viewA] at HC6
    clear hD6
    go_wp2_with fail
    refine HC6.out.mono ?_
    rintro e w7 ⟨rfl, hw7⟩
    have HBF := hid (HD6.out.next hw7).bel
    clear HC6 HD6 hw7 q0 q1 q2 q3 y0 y1 y2 y3
    go_wp2_with fail
    go_ret
    exact ⟨rfl, HBF.out⟩
  obtain ⟨x0, hx0⟩ : ∃ x0, x0 = U.drew := ⟨_, rfl⟩
  have HBx0 : Hid (Below U.heap.size U x0) := hid (by rw [hx0]; exact below_drew _ _)
  refine wp_region_held_drew (S := fun w' => Below U.heap.size U w') (by kernel_rfl) (below_drew _ _) ?_
  rw [← hx0]
  intro hSS
  clear hx0 hK HU HE
  refine wpAnyH_take (i := 0) (oi := ({ dst := some 9, op := Op.load 24 (Operand.tmp 2), type := 24, pos := _, after := _, guard := none } : Oper)) (v := ?_) rfl (by kernel_rfl) (by kernel_rfl) (by kernel_rfl) (fun _ _ _ h => h) (Or.inl ⟨by rfl, ?_⟩) hSS ?_
  rotate_left
  · intro w9 hSw
    obtain ⟨⟨n0, n1, n2, n3⟩, _⟩ := (HPU.out.keep (hSw.block _ HPU.out.lt)).cs
    first | (go_simp; done) | (go_simp; with_reducible rfl)
  try simp only [Act.put, List.setIfInBounds_toArray, List.set_cons_zero, List.set_cons_succ]
  refine wpAnyH_take (i := 2) (oi := ({ dst := some 11, op := Op.load 24 (Operand.tmp 3), type := 24, pos := _, after := _, guard := none } : Oper)) (v := ?_) rfl (by kernel_rfl) (by kernel_rfl) (by kernel_rfl) (fun _ _ _ h => h) (Or.inl ⟨by rfl, ?_⟩) hSS ?_
  rotate_left
  · intro w9 hSw
    obtain ⟨⟨n0, n1, n2, n3⟩, _⟩ := (HQU.out.keep (hSw.block _ HQU.out.lt)).cs
    first | (go_simp; done) | (go_simp; with_reducible rfl)
  try simp only [Act.put, List.setIfInBounds_toArray, List.set_cons_zero, List.set_cons_succ]
  refine wpAnyH_ready (rs := [1, 4, 5]) (by kernel_rfl) (by simp) (AllReadyH.cons (o := ({ dst := some 10, op := Op.call { callee := Callee.value (Operand.func 4), args := #[Operand.tmp 9], argTypes := #[24] }, type := 24, pos := _, after := _, guard := none } : Oper)) rfl (fun K9 hK9 => ?_) (AllReadyH.cons (o := ({ dst := some 5, op := Op.alloc 24, type := 0, pos := _, after := _, guard := none } : Oper)) rfl (fun K9 hK9 => ?_) (AllReadyH.cons (o := ({ dst := some 6, op := Op.alloc 24, type := 0, pos := _, after := _, guard := none } : Oper)) rfl (fun K9 hK9 => ?_) AllReadyH.nil)))
  · clear hSS
    go_simp
    go_at_call 4
    refine Calls.mono (HCx.out _ HBx0.out) ?_
    rintro e x1 ⟨F, gs, rfl, hL, hb⟩
    have HBx1 : Hid (Below U.heap.size U x1) := hid (HBx0.out.trans (hb.mono HBx0.out.size))
    have LXx1 := hid hL
    clear hL hb
    refine hK9.out _ _ HBx1.out (fun hSS => ?_)
    clear hK9 K9
    try simp only [Act.put, List.setIfInBounds_toArray, List.set_cons_zero, List.set_cons_succ]
    refine wpAnyH_ready (rs := [3, 4, 5]) (by kernel_rfl) (by simp) (AllReadyH.cons (o := ({ dst := some 12, op := Op.call { callee := Callee.value (Operand.func 4), args := #[Operand.tmp 11], argTypes := #[24] }, type := 24, pos := _, after := _, guard := none } : Oper)) rfl (fun K9 hK9 => ?_) (AllReadyH.cons (o := ({ dst := some 5, op := Op.alloc 24, type := 0, pos := _, after := _, guard := none } : Oper)) rfl (fun K9 hK9 => ?_) (AllReadyH.cons (o := ({ dst := some 6, op := Op.alloc 24, type := 0, pos := _, after := _, guard := none } : Oper)) rfl (fun K9 hK9 => ?_) AllReadyH.nil)))
    · clear hSS
      go_simp
      go_at_call 4
      refine Calls.mono (HCy.out _ HBx1.out) ?_
      rintro e x2 ⟨F2, gs2, rfl, hL, hb⟩
      have HBx2 : Hid (Below U.heap.size U x2) := hid (HBx1.out.trans (hb.mono HBx1.out.size))
      have LXx2 := hid (LXx1.out.next hb)
      have LYx2 := hid hL
      clear hL hb
      refine hK9.out _ _ HBx2.out (fun hSS => ?_)
      clear hK9 K9
      try simp only [Act.put, List.setIfInBounds_toArray, List.set_cons_zero, List.set_cons_succ]
      refine wpAnyH_ready (rs := [4, 5]) (by kernel_rfl) (by simp) (AllReadyH.cons (o := ({ dst := some 5, op := Op.alloc 24, type := 0, pos := _, after := _, guard := none } : Oper)) rfl (fun K9 hK9 => ?_) (AllReadyH.cons (o := ({ dst := some 6, op := Op.alloc 24, type := 0, pos := _, after := _, guard := none } : Oper)) rfl (fun K9 hK9 => ?_) AllReadyH.nil))
      · clear hSS
        obtain ⟨x3, hy⟩ : ∃ y, y = x2.alloc (.cells #[.int .i64 0, .int .i64 0, .int .i64 0, .slice none 0 0] 24) := ⟨_, rfl⟩
        obtain ⟨X, hn⟩ : ∃ y, y = x2.heap.size := ⟨_, rfl⟩
        have hb : Below x2.heap.size x2 x3 := by rw [hy]; exact below1 _ _
        have HBx3 : Hid (Below U.heap.size U x3) := hid (HBx2.out.trans (hb.mono HBx2.out.size))
        have LXx3 := hid (LXx2.out.next hb)
        have LYx3 := hid (LYx2.out.next hb)
        have V5x3 : Hid (VwB x3 X VW0 nilS) := hid (by rw [hy, hn]; exact heap_new _ _)
        have HGX : Hid (U.heap.size ≤ X) := hid (by rw [hn]; exact HBx2.out.size)
        have HY := hid hy
        have HO := hid hn
        clear hy hn hb
        go_simp
        rw [← HY.out, ← HO.out]
        clear HY HO
        refine hK9.out _ _ HBx3.out (fun hSS => ?_)
        clear hK9 K9
        try simp only [Act.put, List.setIfInBounds_toArray, List.set_cons_zero, List.set_cons_succ]
        refine wpAnyH_ready (rs := [5]) (by kernel_rfl) (by simp) (AllReadyH.cons (o := ({ dst := some 6, op := Op.alloc 24, type := 0, pos := _, after := _, guard := none } : Oper)) rfl (fun K9 hK9 => ?_) AllReadyH.nil)
        · clear hSS
          obtain ⟨x4, hy⟩ : ∃ y, y = x3.alloc (.cells #[.int .i64 0, .int .i64 0, .int .i64 0, .slice none 0 0] 24) := ⟨_, rfl⟩
          obtain ⟨Y, hn⟩ : ∃ y, y = x3.heap.size := ⟨_, rfl⟩
          have hb : Below x3.heap.size x3 x4 := by rw [hy]; exact below1 _ _
          have HBx4 : Hid (Below U.heap.size U x4) := hid (HBx3.out.trans (hb.mono HBx3.out.size))
          have LXx4 := hid (LXx3.out.next hb)
          have LYx4 := hid (LYx3.out.next hb)
          have V5x4 := hid (V5x3.out.keep (hb.block _ V5x3.out.lt))
          have V6x4 : Hid (VwB x4 Y VW0 nilS) := hid (by rw [hy, hn]; exact heap_new _ _)
          have HGY : Hid (U.heap.size ≤ Y) := hid (by rw [hn]; exact HBx3.out.size)
          have HXY : Hid (X ≠ Y) := hid (by rw [hn]; exact Nat.ne_of_lt V5x3.out.lt)
          have HY := hid hy
          have HO := hid hn
          clear hy hn hb
          go_simp
          rw [← HY.out, ← HO.out]
          clear HY HO
          refine hK9.out _ _ HBx4.out (fun hSS => ?_)
          clear hK9 K9
          try simp only [Act.put, List.setIfInBounds_toArray, List.set_cons_zero, List.set_cons_succ]
          obtain ⟨y1, hy1⟩ : ∃ y1, y1 = put4 x4 X x (.slice (some ⟨F, 0, none⟩) x.vs.length (2 * x.vs.length + 70)) := ⟨_, rfl⟩
          obtain ⟨y2, hy2⟩ : ∃ y2, y2 = put4 y1 Y y (.slice (some ⟨F2, 0, none⟩) y.vs.length (2 * y.vs.length + 70)) := ⟨_, rfl⟩
          obtain ⟨k1, b1, b2, hD⟩ := HEND.out x4 X Y F F2 gs gs2 y1 y2 HBx4.out V5x4.out V6x4.out HGX.out HGY.out HXY.out LXx4.out LYx4.out hy1 hy2
          have HK1 := hid k1
          have HB1 := hid b1
          have HB2 := hid b2
          have HDD := hid hD
          have HY1 := hid hy1
          have HY2 := hid hy2
          clear k1 b1 b2 hD hy1 hy2
          refine wpAnyH_ready (rs := [6]) (by kernel_rfl) (by simp) (AllReadyH.cons (o := ({ dst := none, op := Op.store 24 (Operand.tmp 5) (Operand.tmp 10), type := 0, pos := _, after := _, guard := none } : Oper)) rfl (fun K9 hK9 => ?_) AllReadyH.nil)
          obtain ⟨⟨q0, q1, q2, q3⟩, qf⟩ := V5x4.out.cs
          have f0 := qf 0
          have f1 := qf 1
          have f2 := qf 2
          have f3 := qf 3
          go_simp
          (try unfold put4 at HY1)
          rw [← HY1.out]
          clear HY1 q0 q1 q2 q3 f0 f1 f2 f3 qf
          refine hK9.out _ _ HB1.out (fun hSS => ?_)
          clear hK9 K9
          try simp only [Act.put, List.setIfInBounds_toArray, List.set_cons_zero, List.set_cons_succ]
          refine wpAnyH_ready (rs := [7]) (by kernel_rfl) (by simp) (AllReadyH.cons (o := ({ dst := none, op := Op.store 24 (Operand.tmp 6) (Operand.tmp 12), type := 0, pos := _, after := _, guard := none } : Oper)) rfl (fun K9 hK9 => ?_) AllReadyH.nil)
          obtain ⟨⟨q0, q1, q2, q3⟩, qf⟩ := HK1.out.cs
          have f0 := qf 0
          have f1 := qf 1
          have f2 := qf 2
          have f3 := qf 3
          go_simp
          (try unfold put4 at HY2)
          rw [← HY2.out]
          clear HY2 q0 q1 q2 q3 f0 f1 f2 f3 qf
          refine hK9.out _ _ HB2.out (fun hSS => ?_)
          clear hK9 K9
          try simp only [Act.put, List.setIfInBounds_toArray, List.set_cons_zero, List.set_cons_succ]
          refine wpAnyH_done (by kernel_rfl) ?_ _
          exact HREST.out _ _ _ _ _ _ _ HDD.out
      · clear hSS
        obtain ⟨x5, hy⟩ : ∃ y, y = x2.alloc (.cells #[.int .i64 0, .int .i64 0, .int .i64 0, .slice none 0 0] 24) := ⟨_, rfl⟩
        obtain ⟨Y, hn⟩ : ∃ y, y = x2.heap.size := ⟨_, rfl⟩
        have hb : Below x2.heap.size x2 x5 := by rw [hy]; exact below1 _ _
        have HBx5 : Hid (Below U.heap.size U x5) := hid (HBx2.out.trans (hb.mono HBx2.out.size))
        have LXx5 := hid (LXx2.out.next hb)
        have LYx5 := hid (LYx2.out.next hb)
        have V6x5 : Hid (VwB x5 Y VW0 nilS) := hid (by rw [hy, hn]; exact heap_new _ _)
        have HGY : Hid (U.heap.size ≤ Y) := hid (by rw [hn]; exact HBx2.out.size)
        have HY := hid hy
        have HO := hid hn
        clear hy hn hb
        go_simp
        rw [← HY.out, ← HO.out]
        clear HY HO
        refine hK9.out _ _ HBx5.out (fun hSS => ?_)
        clear hK9 K9
        try simp only [Act.put, List.setIfInBounds_toArray, List.set_cons_zero, List.set_cons_succ]
        refine wpAnyH_ready (rs := [4]) (by kernel_rfl) (by simp) (AllReadyH.cons (o := ({ dst := some 5, op := Op.alloc 24, type := 0, pos := _, after := _, guard := none } : Oper)) rfl (fun K9 hK9 => ?_) AllReadyH.nil)
        · clear hSS
          obtain ⟨x6, hy⟩ : ∃ y, y = x5.alloc (.cells #[.int .i64 0, .int .i64 0, .int .i64 0, .slice none 0 0] 24) := ⟨_, rfl⟩
          obtain ⟨X, hn⟩ : ∃ y, y = x5.heap.size := ⟨_, rfl⟩
          have hb : Below x5.heap.size x5 x6 := by rw [hy]; exact below1 _ _
          have HBx6 : Hid (Below U.heap.size U x6) := hid (HBx5.out.trans (hb.mono HBx5.out.size))
          have LXx6 := hid (LXx5.out.next hb)
          have LYx6 := hid (LYx5.out.next hb)
          have V6x6 := hid (V6x5.out.keep (hb.block _ V6x5.out.lt))
          have V5x6 : Hid (VwB x6 X VW0 nilS) := hid (by rw [hy, hn]; exact heap_new _ _)
          have HGX : Hid (U.heap.size ≤ X) := hid (by rw [hn]; exact HBx5.out.size)
          have HXY : Hid (X ≠ Y) := hid (by rw [hn]; exact Nat.ne_of_gt V6x5.out.lt)
          have HY := hid hy
          have HO := hid hn
          clear hy hn hb
          go_simp
          rw [← HY.out, ← HO.out]
          clear HY HO
          refine hK9.out _ _ HBx6.out (fun hSS => ?_)
          clear hK9 K9
          try simp only [Act.put, List.setIfInBounds_toArray, List.set_cons_zero, List.set_cons_succ]
          obtain ⟨y1, hy1⟩ : ∃ y1, y1 = put4 x6 X x (.slice (some ⟨F, 0, none⟩) x.vs.length (2 * x.vs.length + 70)) := ⟨_, rfl⟩
          obtain ⟨y2, hy2⟩ : ∃ y2, y2 = put4 y1 Y y (.slice (some ⟨F2, 0, none⟩) y.vs.length (2 * y.vs.length + 70)) := ⟨_, rfl⟩
          obtain ⟨k1, b1, b2, hD⟩ := HEND.out x6 X Y F F2 gs gs2 y1 y2 HBx6.out V5x6.out V6x6.out HGX.out HGY.out HXY.out LXx6.out LYx6.out hy1 hy2
          have HK1 := hid k1
          have HB1 := hid b1
          have HB2 := hid b2
          have HDD := hid hD
          have HY1 := hid hy1
          have HY2 := hid hy2
          clear k1 b1 b2 hD hy1 hy2
          refine wpAnyH_ready (rs := [6]) (by kernel_rfl) (by simp) (AllReadyH.cons (o := ({ dst := none, op := Op.store 24 (Operand.tmp 5) (Operand.tmp 10), type := 0, pos := _, after := _, guard := none } : Oper)) rfl (fun K9 hK9 => ?_) AllReadyH.nil)
          obtain ⟨⟨q0, q1, q2, q3⟩, qf⟩ := V5x6.out.cs
          have f0 := qf 0
          have f1 := qf 1
          have f2 := qf 2
          have f3 := qf 3
          go_simp
          (try unfold put4 at HY1)
          rw [← HY1.out]
          clear HY1 q0 q1 q2 q3 f0 f1 f2 f3 qf
          refine hK9.out _ _ HB1.out (fun hSS => ?_)
          clear hK9 K9
          try simp only [Act.put, List.setIfInBounds_toArray, List.set_cons_zero, List.set_cons_succ]
          refine wpAnyH_ready (rs := [7]) (by kernel_rfl) (by simp) (AllReadyH.cons (o := ({ dst := none, op := Op.store 24 (Operand.tmp 6) (Operand.tmp 12), type := 0, pos := _, after := _, guard := none } : Oper)) rfl (fun K9 hK9 => ?_) AllReadyH.nil)
          obtain ⟨⟨q0, q1, q2, q3⟩, qf⟩ := HK1.out.cs
          have f0 := qf 0
          have f1 := qf 1
          have f2 := qf 2
          have f3 := qf 3
          go_simp
          (try unfold put4 at HY2)
          rw [← HY2.out]
          clear HY2 q0 q1 q2 q3 f0 f1 f2 f3 qf
          refine hK9.out _ _ HB2.out (fun hSS => ?_)
          clear hK9 K9
          try simp only [Act.put, List.setIfInBounds_toArray, List.set_cons_zero, List.set_cons_succ]
          refine wpAnyH_done (by kernel_rfl) ?_ _
          exact HREST.out _ _ _ _ _ _ _ HDD.out
    · clear hSS
      obtain ⟨x7, hy⟩ : ∃ y, y = x1.alloc (.cells #[.int .i64 0, .int .i64 0, .int .i64 0, .slice none 0 0] 24) := ⟨_, rfl⟩
      obtain ⟨X, hn⟩ : ∃ y, y = x1.heap.size := ⟨_, rfl⟩
      have hb : Below x1.heap.size x1 x7 := by rw [hy]; exact below1 _ _
      have HBx7 : Hid (Below U.heap.size U x7) := hid (HBx1.out.trans (hb.mono HBx1.out.size))
      have LXx7 := hid (LXx1.out.next hb)
      have V5x7 : Hid (VwB x7 X VW0 nilS) := hid (by rw [hy, hn]; exact heap_new _ _)
      have HGX : Hid (U.heap.size ≤ X) := hid (by rw [hn]; exact HBx1.out.size)
      have HY := hid hy
      have HO := hid hn
      clear hy hn hb
      go_simp
      rw [← HY.out, ← HO.out]
      clear HY HO
      refine hK9.out _ _ HBx7.out (fun hSS => ?_)
      clear hK9 K9
      try simp only [Act.put, List.setIfInBounds_toArray, List.set_cons_zero, List.set_cons_succ]
      refine wpAnyH_ready (rs := [3, 5]) (by kernel_rfl) (by simp) (AllReadyH.cons (o := ({ dst := some 12, op := Op.call { callee := Callee.value (Operand.func 4), args := #[Operand.tmp 11], argTypes := #[24] }, type := 24, pos := _, after := _, guard := none } : Oper)) rfl (fun K9 hK9 => ?_) (AllReadyH.cons (o := ({ dst := some 6, op := Op.alloc 24, type := 0, pos := _, after := _, guard := none } : Oper)) rfl (fun K9 hK9 => ?_) AllReadyH.nil))
      · clear hSS
        go_simp
        go_at_call 4
        refine Calls.mono (HCy.out _ HBx7.out) ?_
        rintro e x8 ⟨F2, gs2, rfl, hL, hb⟩
        have HBx8 : Hid (Below U.heap.size U x8) := hid (HBx7.out.trans (hb.mono HBx7.out.size))
        have LXx8 := hid (LXx7.out.next hb)
        have V5x8 := hid (V5x7.out.keep (hb.block _ V5x7.out.lt))
        have LYx8 := hid hL
        clear hL hb
        refine hK9.out _ _ HBx8.out (fun hSS => ?_)
        clear hK9 K9
        try simp only [Act.put, List.setIfInBounds_toArray, List.set_cons_zero, List.set_cons_succ]
        refine wpAnyH_ready (rs := [5]) (by kernel_rfl) (by simp) (AllReadyH.cons (o := ({ dst := some 6, op := Op.alloc 24, type := 0, pos := _, after := _, guard := none } : Oper)) rfl (fun K9 hK9 => ?_) AllReadyH.nil)
        · clear hSS
          obtain ⟨x9, hy⟩ : ∃ y, y = x8.alloc (.cells #[.int .i64 0, .int .i64 0, .int .i64 0, .slice none 0 0] 24) := ⟨_, rfl⟩
          obtain ⟨Y, hn⟩ : ∃ y, y = x8.heap.size := ⟨_, rfl⟩
          have hb : Below x8.heap.size x8 x9 := by rw [hy]; exact below1 _ _
          have HBx9 : Hid (Below U.heap.size U x9) := hid (HBx8.out.trans (hb.mono HBx8.out.size))
          have LXx9 := hid (LXx8.out.next hb)
          have LYx9 := hid (LYx8.out.next hb)
          have V5x9 := hid (V5x8.out.keep (hb.block _ V5x8.out.lt))
          have V6x9 : Hid (VwB x9 Y VW0 nilS) := hid (by rw [hy, hn]; exact heap_new _ _)
          have HGY : Hid (U.heap.size ≤ Y) := hid (by rw [hn]; exact HBx8.out.size)
          have HXY : Hid (X ≠ Y) := hid (by rw [hn]; exact Nat.ne_of_lt V5x8.out.lt)
          have HY := hid hy
          have HO := hid hn
          clear hy hn hb
          go_simp
          rw [← HY.out, ← HO.out]
          clear HY HO
          refine hK9.out _ _ HBx9.out (fun hSS => ?_)
          clear hK9 K9
          try simp only [Act.put, List.setIfInBounds_toArray, List.set_cons_zero, List.set_cons_succ]
          obtain ⟨y1, hy1⟩ : ∃ y1, y1 = put4 x9 X x (.slice (some ⟨F, 0, none⟩) x.vs.length (2 * x.vs.length + 70)) := ⟨_, rfl⟩
          obtain ⟨y2, hy2⟩ : ∃ y2, y2 = put4 y1 Y y (.slice (some ⟨F2, 0, none⟩) y.vs.length (2 * y.vs.length + 70)) := ⟨_, rfl⟩
          obtain ⟨k1, b1, b2, hD⟩ := HEND.out x9 X Y F F2 gs gs2 y1 y2 HBx9.out V5x9.out V6x9.out HGX.out HGY.out HXY.out LXx9.out LYx9.out hy1 hy2
          have HK1 := hid k1
          have HB1 := hid b1
          have HB2 := hid b2
          have HDD := hid hD
          have HY1 := hid hy1
          have HY2 := hid hy2
          clear k1 b1 b2 hD hy1 hy2
          refine wpAnyH_ready (rs := [6]) (by kernel_rfl) (by simp) (AllReadyH.cons (o := ({ dst := none, op := Op.store 24 (Operand.tmp 5) (Operand.tmp 10), type := 0, pos := _, after := _, guard := none } : Oper)) rfl (fun K9 hK9 => ?_) AllReadyH.nil)
          obtain ⟨⟨q0, q1, q2, q3⟩, qf⟩ := V5x9.out.cs
          have f0 := qf 0
          have f1 := qf 1
          have f2 := qf 2
          have f3 := qf 3
          go_simp
          (try unfold put4 at HY1)
          rw [← HY1.out]
          clear HY1 q0 q1 q2 q3 f0 f1 f2 f3 qf
          refine hK9.out _ _ HB1.out (fun hSS => ?_)
          clear hK9 K9
          try simp only [Act.put, List.setIfInBounds_toArray, List.set_cons_zero, List.set_cons_succ]
          refine wpAnyH_ready (rs := [7]) (by kernel_rfl) (by simp) (AllReadyH.cons (o := ({ dst := none, op := Op.store 24 (Operand.tmp 6) (Operand.tmp 12), type := 0, pos := _, after := _, guard := none } : Oper)) rfl (fun K9 hK9 => ?_) AllReadyH.nil)
          obtain ⟨⟨q0, q1, q2, q3⟩, qf⟩ := HK1.out.cs
          have f0 := qf 0
          have f1 := qf 1
          have f2 := qf 2
          have f3 := qf 3
          go_simp
          (try unfold put4 at HY2)
          rw [← HY2.out]
          clear HY2 q0 q1 q2 q3 f0 f1 f2 f3 qf
          refine hK9.out _ _ HB2.out (fun hSS => ?_)
          clear hK9 K9
          try simp only [Act.put, List.setIfInBounds_toArray, List.set_cons_zero, List.set_cons_succ]
          refine wpAnyH_done (by kernel_rfl) ?_ _
          exact HREST.out _ _ _ _ _ _ _ HDD.out
      · clear hSS
        obtain ⟨x10, hy⟩ : ∃ y, y = x7.alloc (.cells #[.int .i64 0, .int .i64 0, .int .i64 0, .slice none 0 0] 24) := ⟨_, rfl⟩
        obtain ⟨Y, hn⟩ : ∃ y, y = x7.heap.size := ⟨_, rfl⟩
        have hb : Below x7.heap.size x7 x10 := by rw [hy]; exact below1 _ _
        have HBx10 : Hid (Below U.heap.size U x10) := hid (HBx7.out.trans (hb.mono HBx7.out.size))
        have LXx10 := hid (LXx7.out.next hb)
        have V5x10 := hid (V5x7.out.keep (hb.block _ V5x7.out.lt))
        have V6x10 : Hid (VwB x10 Y VW0 nilS) := hid (by rw [hy, hn]; exact heap_new _ _)
        have HGY : Hid (U.heap.size ≤ Y) := hid (by rw [hn]; exact HBx7.out.size)
        have HXY : Hid (X ≠ Y) := hid (by rw [hn]; exact Nat.ne_of_lt V5x7.out.lt)
        have HY := hid hy
        have HO := hid hn
        clear hy hn hb
        go_simp
        rw [← HY.out, ← HO.out]
        clear HY HO
        refine hK9.out _ _ HBx10.out (fun hSS => ?_)
        clear hK9 K9
        try simp only [Act.put, List.setIfInBounds_toArray, List.set_cons_zero, List.set_cons_succ]
        refine wpAnyH_ready (rs := [3]) (by kernel_rfl) (by simp) (AllReadyH.cons (o := ({ dst := some 12, op := Op.call { callee := Callee.value (Operand.func 4), args := #[Operand.tmp 11], argTypes := #[24] }, type := 24, pos := _, after := _, guard := none } : Oper)) rfl (fun K9 hK9 => ?_) AllReadyH.nil)
        · clear hSS
          go_simp
          go_at_call 4
          refine Calls.mono (HCy.out _ HBx10.out) ?_
          rintro e x11 ⟨F2, gs2, rfl, hL, hb⟩
          have HBx11 : Hid (Below U.heap.size U x11) := hid (HBx10.out.trans (hb.mono HBx10.out.size))
          have LXx11 := hid (LXx10.out.next hb)
          have V5x11 := hid (V5x10.out.keep (hb.block _ V5x10.out.lt))
          have V6x11 := hid (V6x10.out.keep (hb.block _ V6x10.out.lt))
          have LYx11 := hid hL
          clear hL hb
          refine hK9.out _ _ HBx11.out (fun hSS => ?_)
          clear hK9 K9
          try simp only [Act.put, List.setIfInBounds_toArray, List.set_cons_zero, List.set_cons_succ]
          obtain ⟨y1, hy1⟩ : ∃ y1, y1 = put4 x11 X x (.slice (some ⟨F, 0, none⟩) x.vs.length (2 * x.vs.length + 70)) := ⟨_, rfl⟩
          obtain ⟨y2, hy2⟩ : ∃ y2, y2 = put4 y1 Y y (.slice (some ⟨F2, 0, none⟩) y.vs.length (2 * y.vs.length + 70)) := ⟨_, rfl⟩
          obtain ⟨k1, b1, b2, hD⟩ := HEND.out x11 X Y F F2 gs gs2 y1 y2 HBx11.out V5x11.out V6x11.out HGX.out HGY.out HXY.out LXx11.out LYx11.out hy1 hy2
          have HK1 := hid k1
          have HB1 := hid b1
          have HB2 := hid b2
          have HDD := hid hD
          have HY1 := hid hy1
          have HY2 := hid hy2
          clear k1 b1 b2 hD hy1 hy2
          refine wpAnyH_ready (rs := [6]) (by kernel_rfl) (by simp) (AllReadyH.cons (o := ({ dst := none, op := Op.store 24 (Operand.tmp 5) (Operand.tmp 10), type := 0, pos := _, after := _, guard := none } : Oper)) rfl (fun K9 hK9 => ?_) AllReadyH.nil)
          obtain ⟨⟨q0, q1, q2, q3⟩, qf⟩ := V5x11.out.cs
          have f0 := qf 0
          have f1 := qf 1
          have f2 := qf 2
          have f3 := qf 3
          go_simp
          (try unfold put4 at HY1)
          rw [← HY1.out]
          clear HY1 q0 q1 q2 q3 f0 f1 f2 f3 qf
          refine hK9.out _ _ HB1.out (fun hSS => ?_)
          clear hK9 K9
          try simp only [Act.put, List.setIfInBounds_toArray, List.set_cons_zero, List.set_cons_succ]
          refine wpAnyH_ready (rs := [7]) (by kernel_rfl) (by simp) (AllReadyH.cons (o := ({ dst := none, op := Op.store 24 (Operand.tmp 6) (Operand.tmp 12), type := 0, pos := _, after := _, guard := none } : Oper)) rfl (fun K9 hK9 => ?_) AllReadyH.nil)
          obtain ⟨⟨q0, q1, q2, q3⟩, qf⟩ := HK1.out.cs
          have f0 := qf 0
          have f1 := qf 1
          have f2 := qf 2
          have f3 := qf 3
          go_simp
          (try unfold put4 at HY2)
          rw [← HY2.out]
          clear HY2 q0 q1 q2 q3 f0 f1 f2 f3 qf
          refine hK9.out _ _ HB2.out (fun hSS => ?_)
          clear hK9 K9
          try simp only [Act.put, List.setIfInBounds_toArray, List.set_cons_zero, List.set_cons_succ]
          refine wpAnyH_done (by kernel_rfl) ?_ _
          exact HREST.out _ _ _ _ _ _ _ HDD.out
    · clear hSS
      obtain ⟨x12, hy⟩ : ∃ y, y = x1.alloc (.cells #[.int .i64 0, .int .i64 0, .int .i64 0, .slice none 0 0] 24) := ⟨_, rfl⟩
      obtain ⟨Y, hn⟩ : ∃ y, y = x1.heap.size := ⟨_, rfl⟩
      have hb : Below x1.heap.size x1 x12 := by rw [hy]; exact below1 _ _
      have HBx12 : Hid (Below U.heap.size U x12) := hid (HBx1.out.trans (hb.mono HBx1.out.size))
      have LXx12 := hid (LXx1.out.next hb)
      have V6x12 : Hid (VwB x12 Y VW0 nilS) := hid (by rw [hy, hn]; exact heap_new _ _)
      have HGY : Hid (U.heap.size ≤ Y) := hid (by rw [hn]; exact HBx1.out.size)
      have HY := hid hy
      have HO := hid hn
      clear hy hn hb
      go_simp
      rw [← HY.out, ← HO.out]
      clear HY HO
      refine hK9.out _ _ HBx12.out (fun hSS => ?_)
      clear hK9 K9
      try simp only [Act.put, List.setIfInBounds_toArray, List.set_cons_zero, List.set_cons_succ]
      refine wpAnyH_ready (rs := [3, 4]) (by kernel_rfl) (by simp) (AllReadyH.cons (o := ({ dst := some 12, op := Op.call { callee := Callee.value (Operand.func 4), args := #[Operand.tmp 11], argTypes := #[24] }, type := 24, pos := _, after := _, guard := none } : Oper)) rfl (fun K9 hK9 => ?_) (AllReadyH.cons (o := ({ dst := some 5, op := Op.alloc 24, type := 0, pos := _, after := _, guard := none } : Oper)) rfl (fun K9 hK9 => ?_) AllReadyH.nil))
      · clear hSS
        go_simp
        go_at_call 4
        refine Calls.mono (HCy.out _ HBx12.out) ?_
        rintro e x13 ⟨F2, gs2, rfl, hL, hb⟩
        have HBx13 : Hid (Below U.heap.size U x13) := hid (HBx12.out.trans (hb.mono HBx12.out.size))
        have LXx13 := hid (LXx12.out.next hb)
        have V6x13 := hid (V6x12.out.keep (hb.block _ V6x12.out.lt))
        have LYx13 := hid hL
        clear hL hb
        refine hK9.out _ _ HBx13.out (fun hSS => ?_)
        clear hK9 K9
        try simp only [Act.put, List.setIfInBounds_toArray, List.set_cons_zero, List.set_cons_succ]
        refine wpAnyH_ready (rs := [4]) (by kernel_rfl) (by simp) (AllReadyH.cons (o := ({ dst := some 5, op := Op.alloc 24, type := 0, pos := _, after := _, guard := none } : Oper)) rfl (fun K9 hK9 => ?_) AllReadyH.nil)
        · clear hSS
          obtain ⟨x14, hy⟩ : ∃ y, y = x13.alloc (.cells #[.int .i64 0, .int .i64 0, .int .i64 0, .slice none 0 0] 24) := ⟨_, rfl⟩
          obtain ⟨X, hn⟩ : ∃ y, y = x13.heap.size := ⟨_, rfl⟩
          have hb : Below x13.heap.size x13 x14 := by rw [hy]; exact below1 _ _
          have HBx14 : Hid (Below U.heap.size U x14) := hid (HBx13.out.trans (hb.mono HBx13.out.size))
          have LXx14 := hid (LXx13.out.next hb)
          have LYx14 := hid (LYx13.out.next hb)
          have V6x14 := hid (V6x13.out.keep (hb.block _ V6x13.out.lt))
          have V5x14 : Hid (VwB x14 X VW0 nilS) := hid (by rw [hy, hn]; exact heap_new _ _)
          have HGX : Hid (U.heap.size ≤ X) := hid (by rw [hn]; exact HBx13.out.size)
          have HXY : Hid (X ≠ Y) := hid (by rw [hn]; exact Nat.ne_of_gt V6x13.out.lt)
          have HY := hid hy
          have HO := hid hn
          clear hy hn hb
          go_simp
          rw [← HY.out, ← HO.out]
          clear HY HO
          refine hK9.out _ _ HBx14.out (fun hSS => ?_)
          clear hK9 K9
          try simp only [Act.put, List.setIfInBounds_toArray, List.set_cons_zero, List.set_cons_succ]
          obtain ⟨y1, hy1⟩ : ∃ y1, y1 = put4 x14 X x (.slice (some ⟨F, 0, none⟩) x.vs.length (2 * x.vs.length + 70)) := ⟨_, rfl⟩
          obtain ⟨y2, hy2⟩ : ∃ y2, y2 = put4 y1 Y y (.slice (some ⟨F2, 0, none⟩) y.vs.length (2 * y.vs.length + 70)) := ⟨_, rfl⟩
          obtain ⟨k1, b1, b2, hD⟩ := HEND.out x14 X Y F F2 gs gs2 y1 y2 HBx14.out V5x14.out V6x14.out HGX.out HGY.out HXY.out LXx14.out LYx14.out hy1 hy2
          have HK1 := hid k1
          have HB1 := hid b1
          have HB2 := hid b2
          have HDD := hid hD
          have HY1 := hid hy1
          have HY2 := hid hy2
          clear k1 b1 b2 hD hy1 hy2
          refine wpAnyH_ready (rs := [6]) (by kernel_rfl) (by simp) (AllReadyH.cons (o := ({ dst := none, op := Op.store 24 (Operand.tmp 5) (Operand.tmp 10), type := 0, pos := _, after := _, guard := none } : Oper)) rfl (fun K9 hK9 => ?_) AllReadyH.nil)
          obtain ⟨⟨q0, q1, q2, q3⟩, qf⟩ := V5x14.out.cs
          have f0 := qf 0
          have f1 := qf 1
          have f2 := qf 2
          have f3 := qf 3
          go_simp
          (try unfold put4 at HY1)
          rw [← HY1.out]
          clear HY1 q0 q1 q2 q3 f0 f1 f2 f3 qf
          refine hK9.out _ _ HB1.out (fun hSS => ?_)
          clear hK9 K9
          try simp only [Act.put, List.setIfInBounds_toArray, List.set_cons_zero, List.set_cons_succ]
          refine wpAnyH_ready (rs := [7]) (by kernel_rfl) (by simp) (AllReadyH.cons (o := ({ dst := none, op := Op.store 24 (Operand.tmp 6) (Operand.tmp 12), type := 0, pos := _, after := _, guard := none } : Oper)) rfl (fun K9 hK9 => ?_) AllReadyH.nil)
          obtain ⟨⟨q0, q1, q2, q3⟩, qf⟩ := HK1.out.cs
          have f0 := qf 0
          have f1 := qf 1
          have f2 := qf 2
          have f3 := qf 3
          go_simp
          (try unfold put4 at HY2)
          rw [← HY2.out]
          clear HY2 q0 q1 q2 q3 f0 f1 f2 f3 qf
          refine hK9.out _ _ HB2.out (fun hSS => ?_)
          clear hK9 K9
          try simp only [Act.put, List.setIfInBounds_toArray, List.set_cons_zero, List.set_cons_succ]
          refine wpAnyH_done (by kernel_rfl) ?_ _
          exact HREST.out _ _ _ _ _ _ _ HDD.out
      · clear hSS
        obtain ⟨x15, hy⟩ : ∃ y, y = x12.alloc (.cells #[.int .i64 0, .int .i64 0, .int .i64 0, .slice none 0 0] 24) := ⟨_, rfl⟩
        obtain ⟨X, hn⟩ : ∃ y, y = x12.heap.size := ⟨_, rfl⟩
        have hb : Below x12.heap.size x12 x15 := by rw [hy]; exact below1 _ _
        have HBx15 : Hid (Below U.heap.size U x15) := hid (HBx12.out.trans (hb.mono HBx12.out.size))
        have LXx15 := hid (LXx12.out.next hb)
        have V6x15 := hid (V6x12.out.keep (hb.block _ V6x12.out.lt))
        have V5x15 : Hid (VwB x15 X VW0 nilS) := hid (by rw [hy, hn]; exact heap_new _ _)
        have HGX : Hid (U.heap.size ≤ X) := hid (by rw [hn]; exact HBx12.out.size)
        have HXY : Hid (X ≠ Y) := hid (by rw [hn]; exact Nat.ne_of_gt V6x12.out.lt)
        have HY := hid hy
        have HO := hid hn
        clear hy hn hb
        go_simp
        rw [← HY.out, ← HO.out]
        clear HY HO
        refine hK9.out _ _ HBx15.out (fun hSS => ?_)
        clear hK9 K9
        try simp only [Act.put, List.setIfInBounds_toArray, List.set_cons_zero, List.set_cons_succ]
        refine wpAnyH_ready (rs := [3]) (by kernel_rfl) (by simp) (AllReadyH.cons (o := ({ dst := some 12, op := Op.call { callee := Callee.value (Operand.func 4), args := #[Operand.tmp 11], argTypes := #[24] }, type := 24, pos := _, after := _, guard := none } : Oper)) rfl (fun K9 hK9 => ?_) AllReadyH.nil)
        · clear hSS
          go_simp
          go_at_call 4
          refine Calls.mono (HCy.out _ HBx15.out) ?_
          rintro e x16 ⟨F2, gs2, rfl, hL, hb⟩
          have HBx16 : Hid (Below U.heap.size U x16) := hid (HBx15.out.trans (hb.mono HBx15.out.size))
          have LXx16 := hid (LXx15.out.next hb)
          have V5x16 := hid (V5x15.out.keep (hb.block _ V5x15.out.lt))
          have V6x16 := hid (V6x15.out.keep (hb.block _ V6x15.out.lt))
          have LYx16 := hid hL
          clear hL hb
          refine hK9.out _ _ HBx16.out (fun hSS => ?_)
          clear hK9 K9
          try simp only [Act.put, List.setIfInBounds_toArray, List.set_cons_zero, List.set_cons_succ]
          obtain ⟨y1, hy1⟩ : ∃ y1, y1 = put4 x16 X x (.slice (some ⟨F, 0, none⟩) x.vs.length (2 * x.vs.length + 70)) := ⟨_, rfl⟩
          obtain ⟨y2, hy2⟩ : ∃ y2, y2 = put4 y1 Y y (.slice (some ⟨F2, 0, none⟩) y.vs.length (2 * y.vs.length + 70)) := ⟨_, rfl⟩
          obtain ⟨k1, b1, b2, hD⟩ := HEND.out x16 X Y F F2 gs gs2 y1 y2 HBx16.out V5x16.out V6x16.out HGX.out HGY.out HXY.out LXx16.out LYx16.out hy1 hy2
          have HK1 := hid k1
          have HB1 := hid b1
          have HB2 := hid b2
          have HDD := hid hD
          have HY1 := hid hy1
          have HY2 := hid hy2
          clear k1 b1 b2 hD hy1 hy2
          refine wpAnyH_ready (rs := [6]) (by kernel_rfl) (by simp) (AllReadyH.cons (o := ({ dst := none, op := Op.store 24 (Operand.tmp 5) (Operand.tmp 10), type := 0, pos := _, after := _, guard := none } : Oper)) rfl (fun K9 hK9 => ?_) AllReadyH.nil)
          obtain ⟨⟨q0, q1, q2, q3⟩, qf⟩ := V5x16.out.cs
          have f0 := qf 0
          have f1 := qf 1
          have f2 := qf 2
          have f3 := qf 3
          go_simp
          (try unfold put4 at HY1)
          rw [← HY1.out]
          clear HY1 q0 q1 q2 q3 f0 f1 f2 f3 qf
          refine hK9.out _ _ HB1.out (fun hSS => ?_)
          clear hK9 K9
          try simp only [Act.put, List.setIfInBounds_toArray, List.set_cons_zero, List.set_cons_succ]
          refine wpAnyH_ready (rs := [7]) (by kernel_rfl) (by simp) (AllReadyH.cons (o := ({ dst := none, op := Op.store 24 (Operand.tmp 6) (Operand.tmp 12), type := 0, pos := _, after := _, guard := none } : Oper)) rfl (fun K9 hK9 => ?_) AllReadyH.nil)
          obtain ⟨⟨q0, q1, q2, q3⟩, qf⟩ := HK1.out.cs
          have f0 := qf 0
          have f1 := qf 1
          have f2 := qf 2
          have f3 := qf 3
          go_simp
          (try unfold put4 at HY2)
          rw [← HY2.out]
          clear HY2 q0 q1 q2 q3 f0 f1 f2 f3 qf
          refine hK9.out _ _ HB2.out (fun hSS => ?_)
          clear hK9 K9
          try simp only [Act.put, List.setIfInBounds_toArray, List.set_cons_zero, List.set_cons_succ]
          refine wpAnyH_done (by kernel_rfl) ?_ _
          exact HREST.out _ _ _ _ _ _ _ HDD.out
  · clear hSS
    obtain ⟨x17, hy⟩ : ∃ y, y = x0.alloc (.cells #[.int .i64 0, .int .i64 0, .int .i64 0, .slice none 0 0] 24) := ⟨_, rfl⟩
    obtain ⟨X, hn⟩ : ∃ y, y = x0.heap.size := ⟨_, rfl⟩
    have hb : Below x0.heap.size x0 x17 := by rw [hy]; exact below1 _ _
    have HBx17 : Hid (Below U.heap.size U x17) := hid (HBx0.out.trans (hb.mono HBx0.out.size))
    have V5x17 : Hid (VwB x17 X VW0 nilS) := hid (by rw [hy, hn]; exact heap_new _ _)
    have HGX : Hid (U.heap.size ≤ X) := hid (by rw [hn]; exact HBx0.out.size)
    have HY := hid hy
    have HO := hid hn
    clear hy hn hb
    go_simp
    rw [← HY.out, ← HO.out]
    clear HY HO
    refine hK9.out _ _ HBx17.out (fun hSS => ?_)
    clear hK9 K9
    try simp only [Act.put, List.setIfInBounds_toArray, List.set_cons_zero, List.set_cons_succ]
    refine wpAnyH_ready (rs := [1, 5]) (by kernel_rfl) (by simp) (AllReadyH.cons (o := ({ dst := some 10, op := Op.call { callee := Callee.value (Operand.func 4), args := #[Operand.tmp 9], argTypes := #[24] }, type := 24, pos := _, after := _, guard := none } : Oper)) rfl (fun K9 hK9 => ?_) (AllReadyH.cons (o := ({ dst := some 6, op := Op.alloc 24, type := 0, pos := _, after := _, guard := none } : Oper)) rfl (fun K9 hK9 => ?_) AllReadyH.nil))
    · clear hSS
      go_simp
      go_at_call 4
      refine Calls.mono (HCx.out _ HBx17.out) ?_
      rintro e x18 ⟨F, gs, rfl, hL, hb⟩
      have HBx18 : Hid (Below U.heap.size U x18) := hid (HBx17.out.trans (hb.mono HBx17.out.size))
      have V5x18 := hid (V5x17.out.keep (hb.block _ V5x17.out.lt))
      have LXx18 := hid hL
      clear hL hb
      refine hK9.out _ _ HBx18.out (fun hSS => ?_)
      clear hK9 K9
      try simp only [Act.put, List.setIfInBounds_toArray, List.set_cons_zero, List.set_cons_succ]
      refine wpAnyH_ready (rs := [3, 5]) (by kernel_rfl) (by simp) (AllReadyH.cons (o := ({ dst := some 12, op := Op.call { callee := Callee.value (Operand.func 4), args := #[Operand.tmp 11], argTypes := #[24] }, type := 24, pos := _, after := _, guard := none } : Oper)) rfl (fun K9 hK9 => ?_) (AllReadyH.cons (o := ({ dst := some 6, op := Op.alloc 24, type := 0, pos := _, after := _, guard := none } : Oper)) rfl (fun K9 hK9 => ?_) AllReadyH.nil))
      · clear hSS
        go_simp
        go_at_call 4
        refine Calls.mono (HCy.out _ HBx18.out) ?_
        rintro e x19 ⟨F2, gs2, rfl, hL, hb⟩
        have HBx19 : Hid (Below U.heap.size U x19) := hid (HBx18.out.trans (hb.mono HBx18.out.size))
        have LXx19 := hid (LXx18.out.next hb)
        have V5x19 := hid (V5x18.out.keep (hb.block _ V5x18.out.lt))
        have LYx19 := hid hL
        clear hL hb
        refine hK9.out _ _ HBx19.out (fun hSS => ?_)
        clear hK9 K9
        try simp only [Act.put, List.setIfInBounds_toArray, List.set_cons_zero, List.set_cons_succ]
        refine wpAnyH_ready (rs := [5]) (by kernel_rfl) (by simp) (AllReadyH.cons (o := ({ dst := some 6, op := Op.alloc 24, type := 0, pos := _, after := _, guard := none } : Oper)) rfl (fun K9 hK9 => ?_) AllReadyH.nil)
        · clear hSS
          obtain ⟨x20, hy⟩ : ∃ y, y = x19.alloc (.cells #[.int .i64 0, .int .i64 0, .int .i64 0, .slice none 0 0] 24) := ⟨_, rfl⟩
          obtain ⟨Y, hn⟩ : ∃ y, y = x19.heap.size := ⟨_, rfl⟩
          have hb : Below x19.heap.size x19 x20 := by rw [hy]; exact below1 _ _
          have HBx20 : Hid (Below U.heap.size U x20) := hid (HBx19.out.trans (hb.mono HBx19.out.size))
          have LXx20 := hid (LXx19.out.next hb)
          have LYx20 := hid (LYx19.out.next hb)
          have V5x20 := hid (V5x19.out.keep (hb.block _ V5x19.out.lt))
          have V6x20 : Hid (VwB x20 Y VW0 nilS) := hid (by rw [hy, hn]; exact heap_new _ _)
          have HGY : Hid (U.heap.size ≤ Y) := hid (by rw [hn]; exact HBx19.out.size)
          have HXY : Hid (X ≠ Y) := hid (by rw [hn]; exact Nat.ne_of_lt V5x19.out.lt)
          have HY := hid hy
          have HO := hid hn
          clear hy hn hb
          go_simp
          rw [← HY.out, ← HO.out]
          clear HY HO
          refine hK9.out _ _ HBx20.out (fun hSS => ?_)
          clear hK9 K9
          try simp only [Act.put, List.setIfInBounds_toArray, List.set_cons_zero, List.set_cons_succ]
          obtain ⟨y1, hy1⟩ : ∃ y1, y1 = put4 x20 X x (.slice (some ⟨F, 0, none⟩) x.vs.length (2 * x.vs.length + 70)) := ⟨_, rfl⟩
          obtain ⟨y2, hy2⟩ : ∃ y2, y2 = put4 y1 Y y (.slice (some ⟨F2, 0, none⟩) y.vs.length (2 * y.vs.length + 70)) := ⟨_, rfl⟩
          obtain ⟨k1, b1, b2, hD⟩ := HEND.out x20 X Y F F2 gs gs2 y1 y2 HBx20.out V5x20.out V6x20.out HGX.out HGY.out HXY.out LXx20.out LYx20.out hy1 hy2
          have HK1 := hid k1
          have HB1 := hid b1
          have HB2 := hid b2
          have HDD := hid hD
          have HY1 := hid hy1
          have HY2 := hid hy2
          clear k1 b1 b2 hD hy1 hy2
          refine wpAnyH_ready (rs := [6]) (by kernel_rfl) (by simp) (AllReadyH.cons (o := ({ dst := none, op := Op.store 24 (Operand.tmp 5) (Operand.tmp 10), type := 0, pos := _, after := _, guard := none } : Oper)) rfl (fun K9 hK9 => ?_) AllReadyH.nil)
          obtain ⟨⟨q0, q1, q2, q3⟩, qf⟩ := V5x20.out.cs
          have f0 := qf 0
          have f1 := qf 1
          have f2 := qf 2
          have f3 := qf 3
          go_simp
          (try unfold put4 at HY1)
          rw [← HY1.out]
          clear HY1 q0 q1 q2 q3 f0 f1 f2 f3 qf
          refine hK9.out _ _ HB1.out (fun hSS => ?_)
          clear hK9 K9
          try simp only [Act.put, List.setIfInBounds_toArray, List.set_cons_zero, List.set_cons_succ]
          refine wpAnyH_ready (rs := [7]) (by kernel_rfl) (by simp) (AllReadyH.cons (o := ({ dst := none, op := Op.store 24 (Operand.tmp 6) (Operand.tmp 12), type := 0, pos := _, after := _, guard := none } : Oper)) rfl (fun K9 hK9 => ?_) AllReadyH.nil)
          obtain ⟨⟨q0, q1, q2, q3⟩, qf⟩ := HK1.out.cs
          have f0 := qf 0
          have f1 := qf 1
          have f2 := qf 2
          have f3 := qf 3
          go_simp
          (try unfold put4 at HY2)
          rw [← HY2.out]
          clear HY2 q0 q1 q2 q3 f0 f1 f2 f3 qf
          refine hK9.out _ _ HB2.out (fun hSS => ?_)
          clear hK9 K9
          try simp only [Act.put, List.setIfInBounds_toArray, List.set_cons_zero, List.set_cons_succ]
          refine wpAnyH_done (by kernel_rfl) ?_ _
          exact HREST.out _ _ _ _ _ _ _ HDD.out
      · clear hSS
        obtain ⟨x21, hy⟩ : ∃ y, y = x18.alloc (.cells #[.int .i64 0, .int .i64 0, .int .i64 0, .slice none 0 0] 24) := ⟨_, rfl⟩
        obtain ⟨Y, hn⟩ : ∃ y, y = x18.heap.size := ⟨_, rfl⟩
        have hb : Below x18.heap.size x18 x21 := by rw [hy]; exact below1 _ _
        have HBx21 : Hid (Below U.heap.size U x21) := hid (HBx18.out.trans (hb.mono HBx18.out.size))
        have LXx21 := hid (LXx18.out.next hb)
        have V5x21 := hid (V5x18.out.keep (hb.block _ V5x18.out.lt))
        have V6x21 : Hid (VwB x21 Y VW0 nilS) := hid (by rw [hy, hn]; exact heap_new _ _)
        have HGY : Hid (U.heap.size ≤ Y) := hid (by rw [hn]; exact HBx18.out.size)
        have HXY : Hid (X ≠ Y) := hid (by rw [hn]; exact Nat.ne_of_lt V5x18.out.lt)
        have HY := hid hy
        have HO := hid hn
        clear hy hn hb
        go_simp
        rw [← HY.out, ← HO.out]
        clear HY HO
        refine hK9.out _ _ HBx21.out (fun hSS => ?_)
        clear hK9 K9
        try simp only [Act.put, List.setIfInBounds_toArray, List.set_cons_zero, List.set_cons_succ]
        refine wpAnyH_ready (rs := [3]) (by kernel_rfl) (by simp) (AllReadyH.cons (o := ({ dst := some 12, op := Op.call { callee := Callee.value (Operand.func 4), args := #[Operand.tmp 11], argTypes := #[24] }, type := 24, pos := _, after := _, guard := none } : Oper)) rfl (fun K9 hK9 => ?_) AllReadyH.nil)
        · clear hSS
          go_simp
          go_at_call 4
          refine Calls.mono (HCy.out _ HBx21.out) ?_
          rintro e x22 ⟨F2, gs2, rfl, hL, hb⟩
          have HBx22 : Hid (Below U.heap.size U x22) := hid (HBx21.out.trans (hb.mono HBx21.out.size))
          have LXx22 := hid (LXx21.out.next hb)
          have V5x22 := hid (V5x21.out.keep (hb.block _ V5x21.out.lt))
          have V6x22 := hid (V6x21.out.keep (hb.block _ V6x21.out.lt))
          have LYx22 := hid hL
          clear hL hb
          refine hK9.out _ _ HBx22.out (fun hSS => ?_)
          clear hK9 K9
          try simp only [Act.put, List.setIfInBounds_toArray, List.set_cons_zero, List.set_cons_succ]
          obtain ⟨y1, hy1⟩ : ∃ y1, y1 = put4 x22 X x (.slice (some ⟨F, 0, none⟩) x.vs.length (2 * x.vs.length + 70)) := ⟨_, rfl⟩
          obtain ⟨y2, hy2⟩ : ∃ y2, y2 = put4 y1 Y y (.slice (some ⟨F2, 0, none⟩) y.vs.length (2 * y.vs.length + 70)) := ⟨_, rfl⟩
          obtain ⟨k1, b1, b2, hD⟩ := HEND.out x22 X Y F F2 gs gs2 y1 y2 HBx22.out V5x22.out V6x22.out HGX.out HGY.out HXY.out LXx22.out LYx22.out hy1 hy2
          have HK1 := hid k1
          have HB1 := hid b1
          have HB2 := hid b2
          have HDD := hid hD
          have HY1 := hid hy1
          have HY2 := hid hy2
          clear k1 b1 b2 hD hy1 hy2
          refine wpAnyH_ready (rs := [6]) (by kernel_rfl) (by simp) (AllReadyH.cons (o := ({ dst := none, op := Op.store 24 (Operand.tmp 5) (Operand.tmp 10), type := 0, pos := _, after := _, guard := none } : Oper)) rfl (fun K9 hK9 => ?_) AllReadyH.nil)
          obtain ⟨⟨q0, q1, q2, q3⟩, qf⟩ := V5x22.out.cs
          have f0 := qf 0
          have f1 := qf 1
          have f2 := qf 2
          have f3 := qf 3
          go_simp
          (try unfold put4 at HY1)
          rw [← HY1.out]
          clear HY1 q0 q1 q2 q3 f0 f1 f2 f3 qf
          refine hK9.out _ _ HB1.out (fun hSS => ?_)
          clear hK9 K9
          try simp only [Act.put, List.setIfInBounds_toArray, List.set_cons_zero, List.set_cons_succ]
          refine wpAnyH_ready (rs := [7]) (by kernel_rfl) (by simp) (AllReadyH.cons (o := ({ dst := none, op := Op.store 24 (Operand.tmp 6) (Operand.tmp 12), type := 0, pos := _, after := _, guard := none } : Oper)) rfl (fun K9 hK9 => ?_) AllReadyH.nil)
          obtain ⟨⟨q0, q1, q2, q3⟩, qf⟩ := HK1.out.cs
          have f0 := qf 0
          have f1 := qf 1
          have f2 := qf 2
          have f3 := qf 3
          go_simp
          (try unfold put4 at HY2)
          rw [← HY2.out]
          clear HY2 q0 q1 q2 q3 f0 f1 f2 f3 qf
          refine hK9.out _ _ HB2.out (fun hSS => ?_)
          clear hK9 K9
          try simp only [Act.put, List.setIfInBounds_toArray, List.set_cons_zero, List.set_cons_succ]
          refine wpAnyH_done (by kernel_rfl) ?_ _
          exact HREST.out _ _ _ _ _ _ _ HDD.out
    · clear hSS
      obtain ⟨x23, hy⟩ : ∃ y, y = x17.alloc (.cells #[.int .i64 0, .int .i64 0, .int .i64 0, .slice none 0 0] 24) := ⟨_, rfl⟩
      obtain ⟨Y, hn⟩ : ∃ y, y = x17.heap.size := ⟨_, rfl⟩
      have hb : Below x17.heap.size x17 x23 := by rw [hy]; exact below1 _ _
      have HBx23 : Hid (Below U.heap.size U x23) := hid (HBx17.out.trans (hb.mono HBx17.out.size))
      have V5x23 := hid (V5x17.out.keep (hb.block _ V5x17.out.lt))
      have V6x23 : Hid (VwB x23 Y VW0 nilS) := hid (by rw [hy, hn]; exact heap_new _ _)
      have HGY : Hid (U.heap.size ≤ Y) := hid (by rw [hn]; exact HBx17.out.size)
      have HXY : Hid (X ≠ Y) := hid (by rw [hn]; exact Nat.ne_of_lt V5x17.out.lt)
      have HY := hid hy
      have HO := hid hn
      clear hy hn hb
      go_simp
      rw [← HY.out, ← HO.out]
      clear HY HO
      refine hK9.out _ _ HBx23.out (fun hSS => ?_)
      clear hK9 K9
      try simp only [Act.put, List.setIfInBounds_toArray, List.set_cons_zero, List.set_cons_succ]
      refine wpAnyH_ready (rs := [1]) (by kernel_rfl) (by simp) (AllReadyH.cons (o := ({ dst := some 10, op := Op.call { callee := Callee.value (Operand.func 4), args := #[Operand.tmp 9], argTypes := #[24] }, type := 24, pos := _, after := _, guard := none } : Oper)) rfl (fun K9 hK9 => ?_) AllReadyH.nil)
      · clear hSS
        go_simp
        go_at_call 4
        refine Calls.mono (HCx.out _ HBx23.out) ?_
        rintro e x24 ⟨F, gs, rfl, hL, hb⟩
        have HBx24 : Hid (Below U.heap.size U x24) := hid (HBx23.out.trans (hb.mono HBx23.out.size))
        have V5x24 := hid (V5x23.out.keep (hb.block _ V5x23.out.lt))
        have V6x24 := hid (V6x23.out.keep (hb.block _ V6x23.out.lt))
        have LXx24 := hid hL
        clear hL hb
        refine hK9.out _ _ HBx24.out (fun hSS => ?_)
        clear hK9 K9
        try simp only [Act.put, List.setIfInBounds_toArray, List.set_cons_zero, List.set_cons_succ]
        refine wpAnyH_ready (rs := [3]) (by kernel_rfl) (by simp) (AllReadyH.cons (o := ({ dst := some 12, op := Op.call { callee := Callee.value (Operand.func 4), args := #[Operand.tmp 11], argTypes := #[24] }, type := 24, pos := _, after := _, guard := none } : Oper)) rfl (fun K9 hK9 => ?_) AllReadyH.nil)
        · clear hSS
          go_simp
          go_at_call 4
          refine Calls.mono (HCy.out _ HBx24.out) ?_
          rintro e x25 ⟨F2, gs2, rfl, hL, hb⟩
          have HBx25 : Hid (Below U.heap.size U x25) := hid (HBx24.out.trans (hb.mono HBx24.out.size))
          have LXx25 := hid (LXx24.out.next hb)
          have V5x25 := hid (V5x24.out.keep (hb.block _ V5x24.out.lt))
          have V6x25 := hid (V6x24.out.keep (hb.block _ V6x24.out.lt))
          have LYx25 := hid hL
          clear hL hb
          refine hK9.out _ _ HBx25.out (fun hSS => ?_)
          clear hK9 K9
          try simp only [Act.put, List.setIfInBounds_toArray, List.set_cons_zero, List.set_cons_succ]
          obtain ⟨y1, hy1⟩ : ∃ y1, y1 = put4 x25 X x (.slice (some ⟨F, 0, none⟩) x.vs.length (2 * x.vs.length + 70)) := ⟨_, rfl⟩
          obtain ⟨y2, hy2⟩ : ∃ y2, y2 = put4 y1 Y y (.slice (some ⟨F2, 0, none⟩) y.vs.length (2 * y.vs.length + 70)) := ⟨_, rfl⟩
          obtain ⟨k1, b1, b2, hD⟩ := HEND.out x25 X Y F F2 gs gs2 y1 y2 HBx25.out V5x25.out V6x25.out HGX.out HGY.out HXY.out LXx25.out LYx25.out hy1 hy2
          have HK1 := hid k1
          have HB1 := hid b1
          have HB2 := hid b2
          have HDD := hid hD
          have HY1 := hid hy1
          have HY2 := hid hy2
          clear k1 b1 b2 hD hy1 hy2
          refine wpAnyH_ready (rs := [6]) (by kernel_rfl) (by simp) (AllReadyH.cons (o := ({ dst := none, op := Op.store 24 (Operand.tmp 5) (Operand.tmp 10), type := 0, pos := _, after := _, guard := none } : Oper)) rfl (fun K9 hK9 => ?_) AllReadyH.nil)
          obtain ⟨⟨q0, q1, q2, q3⟩, qf⟩ := V5x25.out.cs
          have f0 := qf 0
          have f1 := qf 1
          have f2 := qf 2
          have f3 := qf 3
          go_simp
          (try unfold put4 at HY1)
          rw [← HY1.out]
          clear HY1 q0 q1 q2 q3 f0 f1 f2 f3 qf
          refine hK9.out _ _ HB1.out (fun hSS => ?_)
          clear hK9 K9
          try simp only [Act.put, List.setIfInBounds_toArray, List.set_cons_zero, List.set_cons_succ]
          refine wpAnyH_ready (rs := [7]) (by kernel_rfl) (by simp) (AllReadyH.cons (o := ({ dst := none, op := Op.store 24 (Operand.tmp 6) (Operand.tmp 12), type := 0, pos := _, after := _, guard := none } : Oper)) rfl (fun K9 hK9 => ?_) AllReadyH.nil)
          obtain ⟨⟨q0, q1, q2, q3⟩, qf⟩ := HK1.out.cs
          have f0 := qf 0
          have f1 := qf 1
          have f2 := qf 2
          have f3 := qf 3
          go_simp
          (try unfold put4 at HY2)
          rw [← HY2.out]
          clear HY2 q0 q1 q2 q3 f0 f1 f2 f3 qf
          refine hK9.out _ _ HB2.out (fun hSS => ?_)
          clear hK9 K9
          try simp only [Act.put, List.setIfInBounds_toArray, List.set_cons_zero, List.set_cons_succ]
          refine wpAnyH_done (by kernel_rfl) ?_ _
          exact HREST.out _ _ _ _ _ _ _ HDD.out
  · clear hSS
    obtain ⟨x26, hy⟩ : ∃ y, y = x0.alloc (.cells #[.int .i64 0, .int .i64 0, .int .i64 0, .slice none 0 0] 24) := ⟨_, rfl⟩
    obtain ⟨Y, hn⟩ : ∃ y, y = x0.heap.size := ⟨_, rfl⟩
    have hb : Below x0.heap.size x0 x26 := by rw [hy]; exact below1 _ _
    have HBx26 : Hid (Below U.heap.size U x26) := hid (HBx0.out.trans (hb.mono HBx0.out.size))
    have V6x26 : Hid (VwB x26 Y VW0 nilS) := hid (by rw [hy, hn]; exact heap_new _ _)
    have HGY : Hid (U.heap.size ≤ Y) := hid (by rw [hn]; exact HBx0.out.size)
    have HY := hid hy
    have HO := hid hn
    clear hy hn hb
    go_simp
    rw [← HY.out, ← HO.out]
    clear HY HO
    refine hK9.out _ _ HBx26.out (fun hSS => ?_)
    clear hK9 K9
    try simp only [Act.put, List.setIfInBounds_toArray, List.set_cons_zero, List.set_cons_succ]
    refine wpAnyH_ready (rs := [1, 4]) (by kernel_rfl) (by simp) (AllReadyH.cons (o := ({ dst := some 10, op := Op.call { callee := Callee.value (Operand.func 4), args := #[Operand.tmp 9], argTypes := #[24] }, type := 24, pos := _, after := _, guard := none } : Oper)) rfl (fun K9 hK9 => ?_) (AllReadyH.cons (o := ({ dst := some 5, op := Op.alloc 24, type := 0, pos := _, after := _, guard := none } : Oper)) rfl (fun K9 hK9 => ?_) AllReadyH.nil))
    · clear hSS
      go_simp
      go_at_call 4
      refine Calls.mono (HCx.out _ HBx26.out) ?_
      rintro e x27 ⟨F, gs, rfl, hL, hb⟩
      have HBx27 : Hid (Below U.heap.size U x27) := hid (HBx26.out.trans (hb.mono HBx26.out.size))
      have V6x27 := hid (V6x26.out.keep (hb.block _ V6x26.out.lt))
      have LXx27 := hid hL
      clear hL hb
      refine hK9.out _ _ HBx27.out (fun hSS => ?_)
      clear hK9 K9
      try simp only [Act.put, List.setIfInBounds_toArray, List.set_cons_zero, List.set_cons_succ]
      refine wpAnyH_ready (rs := [3, 4]) (by kernel_rfl) (by simp) (AllReadyH.cons (o := ({ dst := some 12, op := Op.call { callee := Callee.value (Operand.func 4), args := #[Operand.tmp 11], argTypes := #[24] }, type := 24, pos := _, after := _, guard := none } : Oper)) rfl (fun K9 hK9 => ?_) (AllReadyH.cons (o := ({ dst := some 5, op := Op.alloc 24, type := 0, pos := _, after := _, guard := none } : Oper)) rfl (fun K9 hK9 => ?_) AllReadyH.nil))
      · clear hSS
        go_simp
        go_at_call 4
        refine Calls.mono (HCy.out _ HBx27.out) ?_
        rintro e x28 ⟨F2, gs2, rfl, hL, hb⟩
        have HBx28 : Hid (Below U.heap.size U x28) := hid (HBx27.out.trans (hb.mono HBx27.out.size))
        have LXx28 := hid (LXx27.out.next hb)
        have V6x28 := hid (V6x27.out.keep (hb.block _ V6x27.out.lt))
        have LYx28 := hid hL
        clear hL hb
        refine hK9.out _ _ HBx28.out (fun hSS => ?_)
        clear hK9 K9
        try simp only [Act.put, List.setIfInBounds_toArray, List.set_cons_zero, List.set_cons_succ]
        refine wpAnyH_ready (rs := [4]) (by kernel_rfl) (by simp) (AllReadyH.cons (o := ({ dst := some 5, op := Op.alloc 24, type := 0, pos := _, after := _, guard := none } : Oper)) rfl (fun K9 hK9 => ?_) AllReadyH.nil)
        · clear hSS
          obtain ⟨x29, hy⟩ : ∃ y, y = x28.alloc (.cells #[.int .i64 0, .int .i64 0, .int .i64 0, .slice none 0 0] 24) := ⟨_, rfl⟩
          obtain ⟨X, hn⟩ : ∃ y, y = x28.heap.size := ⟨_, rfl⟩
          have hb : Below x28.heap.size x28 x29 := by rw [hy]; exact below1 _ _
          have HBx29 : Hid (Below U.heap.size U x29) := hid (HBx28.out.trans (hb.mono HBx28.out.size))
          have LXx29 := hid (LXx28.out.next hb)
          have LYx29 := hid (LYx28.out.next hb)
          have V6x29 := hid (V6x28.out.keep (hb.block _ V6x28.out.lt))
          have V5x29 : Hid (VwB x29 X VW0 nilS) := hid (by rw [hy, hn]; exact heap_new _ _)
          have HGX : Hid (U.heap.size ≤ X) := hid (by rw [hn]; exact HBx28.out.size)
          have HXY : Hid (X ≠ Y) := hid (by rw [hn]; exact Nat.ne_of_gt V6x28.out.lt)
          have HY := hid hy
          have HO := hid hn
          clear hy hn hb
          go_simp
          rw [← HY.out, ← HO.out]
          clear HY HO
          refine hK9.out _ _ HBx29.out (fun hSS => ?_)
          clear hK9 K9
          try simp only [Act.put, List.setIfInBounds_toArray, List.set_cons_zero, List.set_cons_succ]
          obtain ⟨y1, hy1⟩ : ∃ y1, y1 = put4 x29 X x (.slice (some ⟨F, 0, none⟩) x.vs.length (2 * x.vs.length + 70)) := ⟨_, rfl⟩
          obtain ⟨y2, hy2⟩ : ∃ y2, y2 = put4 y1 Y y (.slice (some ⟨F2, 0, none⟩) y.vs.length (2 * y.vs.length + 70)) := ⟨_, rfl⟩
          obtain ⟨k1, b1, b2, hD⟩ := HEND.out x29 X Y F F2 gs gs2 y1 y2 HBx29.out V5x29.out V6x29.out HGX.out HGY.out HXY.out LXx29.out LYx29.out hy1 hy2
          have HK1 := hid k1
          have HB1 := hid b1
          have HB2 := hid b2
          have HDD := hid hD
          have HY1 := hid hy1
          have HY2 := hid hy2
          clear k1 b1 b2 hD hy1 hy2
          refine wpAnyH_ready (rs := [6]) (by kernel_rfl) (by simp) (AllReadyH.cons (o := ({ dst := none, op := Op.store 24 (Operand.tmp 5) (Operand.tmp 10), type := 0, pos := _, after := _, guard := none } : Oper)) rfl (fun K9 hK9 => ?_) AllReadyH.nil)
          obtain ⟨⟨q0, q1, q2, q3⟩, qf⟩ := V5x29.out.cs
          have f0 := qf 0
          have f1 := qf 1
          have f2 := qf 2
          have f3 := qf 3
          go_simp
          (try unfold put4 at HY1)
          rw [← HY1.out]
          clear HY1 q0 q1 q2 q3 f0 f1 f2 f3 qf
          refine hK9.out _ _ HB1.out (fun hSS => ?_)
          clear hK9 K9
          try simp only [Act.put, List.setIfInBounds_toArray, List.set_cons_zero, List.set_cons_succ]
          refine wpAnyH_ready (rs := [7]) (by kernel_rfl) (by simp) (AllReadyH.cons (o := ({ dst := none, op := Op.store 24 (Operand.tmp 6) (Operand.tmp 12), type := 0, pos := _, after := _, guard := none } : Oper)) rfl (fun K9 hK9 => ?_) AllReadyH.nil)
          obtain ⟨⟨q0, q1, q2, q3⟩, qf⟩ := HK1.out.cs
          have f0 := qf 0
          have f1 := qf 1
          have f2 := qf 2
          have f3 := qf 3
          go_simp
          (try unfold put4 at HY2)
          rw [← HY2.out]
          clear HY2 q0 q1 q2 q3 f0 f1 f2 f3 qf
          refine hK9.out _ _ HB2.out (fun hSS => ?_)
          clear hK9 K9
          try simp only [Act.put, List.setIfInBounds_toArray, List.set_cons_zero, List.set_cons_succ]
          refine wpAnyH_done (by kernel_rfl) ?_ _
          exact HREST.out _ _ _ _ _ _ _ HDD.out
      · clear hSS
        obtain ⟨x30, hy⟩ : ∃ y, y = x27.alloc (.cells #[.int .i64 0, .int .i64 0, .int .i64 0, .slice none 0 0] 24) := ⟨_, rfl⟩
        obtain ⟨X, hn⟩ : ∃ y, y = x27.heap.size := ⟨_, rfl⟩
        have hb : Below x27.heap.size x27 x30 := by rw [hy]; exact below1 _ _
        have HBx30 : Hid (Below U.heap.size U x30) := hid (HBx27.out.trans (hb.mono HBx27.out.size))
        have LXx30 := hid (LXx27.out.next hb)
        have V6x30 := hid (V6x27.out.keep (hb.block _ V6x27.out.lt))
        have V5x30 : Hid (VwB x30 X VW0 nilS) := hid (by rw [hy, hn]; exact heap_new _ _)
        have HGX : Hid (U.heap.size ≤ X) := hid (by rw [hn]; exact HBx27.out.size)
        have HXY : Hid (X ≠ Y) := hid (by rw [hn]; exact Nat.ne_of_gt V6x27.out.lt)
        have HY := hid hy
        have HO := hid hn
        clear hy hn hb
        go_simp
        rw [← HY.out, ← HO.out]
        clear HY HO
        refine hK9.out _ _ HBx30.out (fun hSS => ?_)
        clear hK9 K9
        try simp only [Act.put, List.setIfInBounds_toArray, List.set_cons_zero, List.set_cons_succ]
        refine wpAnyH_ready (rs := [3]) (by kernel_rfl) (by simp) (AllReadyH.cons (o := ({ dst := some 12, op := Op.call { callee := Callee.value (Operand.func 4), args := #[Operand.tmp 11], argTypes := #[24] }, type := 24, pos := _, after := _, guard := none } : Oper)) rfl (fun K9 hK9 => ?_) AllReadyH.nil)
        · clear hSS
          go_simp
          go_at_call 4
          refine Calls.mono (HCy.out _ HBx30.out) ?_
          rintro e x31 ⟨F2, gs2, rfl, hL, hb⟩
          have HBx31 : Hid (Below U.heap.size U x31) := hid (HBx30.out.trans (hb.mono HBx30.out.size))
          have LXx31 := hid (LXx30.out.next hb)
          have V5x31 := hid (V5x30.out.keep (hb.block _ V5x30.out.lt))
          have V6x31 := hid (V6x30.out.keep (hb.block _ V6x30.out.lt))
          have LYx31 := hid hL
          clear hL hb
          refine hK9.out _ _ HBx31.out (fun hSS => ?_)
          clear hK9 K9
          try simp only [Act.put, List.setIfInBounds_toArray, List.set_cons_zero, List.set_cons_succ]
          obtain ⟨y1, hy1⟩ : ∃ y1, y1 = put4 x31 X x (.slice (some ⟨F, 0, none⟩) x.vs.length (2 * x.vs.length + 70)) := ⟨_, rfl⟩
          obtain ⟨y2, hy2⟩ : ∃ y2, y2 = put4 y1 Y y (.slice (some ⟨F2, 0, none⟩) y.vs.length (2 * y.vs.length + 70)) := ⟨_, rfl⟩
          obtain ⟨k1, b1, b2, hD⟩ := HEND.out x31 X Y F F2 gs gs2 y1 y2 HBx31.out V5x31.out V6x31.out HGX.out HGY.out HXY.out LXx31.out LYx31.out hy1 hy2
          have HK1 := hid k1
          have HB1 := hid b1
          have HB2 := hid b2
          have HDD := hid hD
          have HY1 := hid hy1
          have HY2 := hid hy2
          clear k1 b1 b2 hD hy1 hy2
          refine wpAnyH_ready (rs := [6]) (by kernel_rfl) (by simp) (AllReadyH.cons (o := ({ dst := none, op := Op.store 24 (Operand.tmp 5) (Operand.tmp 10), type := 0, pos := _, after := _, guard := none } : Oper)) rfl (fun K9 hK9 => ?_) AllReadyH.nil)
          obtain ⟨⟨q0, q1, q2, q3⟩, qf⟩ := V5x31.out.cs
          have f0 := qf 0
          have f1 := qf 1
          have f2 := qf 2
          have f3 := qf 3
          go_simp
          (try unfold put4 at HY1)
          rw [← HY1.out]
          clear HY1 q0 q1 q2 q3 f0 f1 f2 f3 qf
          refine hK9.out _ _ HB1.out (fun hSS => ?_)
          clear hK9 K9
          try simp only [Act.put, List.setIfInBounds_toArray, List.set_cons_zero, List.set_cons_succ]
          refine wpAnyH_ready (rs := [7]) (by kernel_rfl) (by simp) (AllReadyH.cons (o := ({ dst := none, op := Op.store 24 (Operand.tmp 6) (Operand.tmp 12), type := 0, pos := _, after := _, guard := none } : Oper)) rfl (fun K9 hK9 => ?_) AllReadyH.nil)
          obtain ⟨⟨q0, q1, q2, q3⟩, qf⟩ := HK1.out.cs
          have f0 := qf 0
          have f1 := qf 1
          have f2 := qf 2
          have f3 := qf 3
          go_simp
          (try unfold put4 at HY2)
          rw [← HY2.out]
          clear HY2 q0 q1 q2 q3 f0 f1 f2 f3 qf
          refine hK9.out _ _ HB2.out (fun hSS => ?_)
          clear hK9 K9
          try simp only [Act.put, List.setIfInBounds_toArray, List.set_cons_zero, List.set_cons_succ]
          refine wpAnyH_done (by kernel_rfl) ?_ _
          exact HREST.out _ _ _ _ _ _ _ HDD.out
    · clear hSS
      obtain ⟨x32, hy⟩ : ∃ y, y = x26.alloc (.cells #[.int .i64 0, .int .i64 0, .int .i64 0, .slice none 0 0] 24) := ⟨_, rfl⟩
      obtain ⟨X, hn⟩ : ∃ y, y = x26.heap.size := ⟨_, rfl⟩
      have hb : Below x26.heap.size x26 x32 := by rw [hy]; exact below1 _ _
      have HBx32 : Hid (Below U.heap.size U x32) := hid (HBx26.out.trans (hb.mono HBx26.out.size))
      have V6x32 := hid (V6x26.out.keep (hb.block _ V6x26.out.lt))
      have V5x32 : Hid (VwB x32 X VW0 nilS) := hid (by rw [hy, hn]; exact heap_new _ _)
      have HGX : Hid (U.heap.size ≤ X) := hid (by rw [hn]; exact HBx26.out.size)
      have HXY : Hid (X ≠ Y) := hid (by rw [hn]; exact Nat.ne_of_gt V6x26.out.lt)
      have HY := hid hy
      have HO := hid hn
      clear hy hn hb
      go_simp
      rw [← HY.out, ← HO.out]
      clear HY HO
      refine hK9.out _ _ HBx32.out (fun hSS => ?_)
      clear hK9 K9
      try simp only [Act.put, List.setIfInBounds_toArray, List.set_cons_zero, List.set_cons_succ]
      refine wpAnyH_ready (rs := [1]) (by kernel_rfl) (by simp) (AllReadyH.cons (o := ({ dst := some 10, op := Op.call { callee := Callee.value (Operand.func 4), args := #[Operand.tmp 9], argTypes := #[24] }, type := 24, pos := _, after := _, guard := none } : Oper)) rfl (fun K9 hK9 => ?_) AllReadyH.nil)
      · clear hSS
        go_simp
        go_at_call 4
        refine Calls.mono (HCx.out _ HBx32.out) ?_
        rintro e x33 ⟨F, gs, rfl, hL, hb⟩
        have HBx33 : Hid (Below U.heap.size U x33) := hid (HBx32.out.trans (hb.mono HBx32.out.size))
        have V5x33 := hid (V5x32.out.keep (hb.block _ V5x32.out.lt))
        have V6x33 := hid (V6x32.out.keep (hb.block _ V6x32.out.lt))
        have LXx33 := hid hL
        clear hL hb
        refine hK9.out _ _ HBx33.out (fun hSS => ?_)
        clear hK9 K9
        try simp only [Act.put, List.setIfInBounds_toArray, List.set_cons_zero, List.set_cons_succ]
        refine wpAnyH_ready (rs := [3]) (by kernel_rfl) (by simp) (AllReadyH.cons (o := ({ dst := some 12, op := Op.call { callee := Callee.value (Operand.func 4), args := #[Operand.tmp 11], argTypes := #[24] }, type := 24, pos := _, after := _, guard := none } : Oper)) rfl (fun K9 hK9 => ?_) AllReadyH.nil)
        · clear hSS
          go_simp
          go_at_call 4
          refine Calls.mono (HCy.out _ HBx33.out) ?_
          rintro e x34 ⟨F2, gs2, rfl, hL, hb⟩
          have HBx34 : Hid (Below U.heap.size U x34) := hid (HBx33.out.trans (hb.mono HBx33.out.size))
          have LXx34 := hid (LXx33.out.next hb)
          have V5x34 := hid (V5x33.out.keep (hb.block _ V5x33.out.lt))
          have V6x34 := hid (V6x33.out.keep (hb.block _ V6x33.out.lt))
          have LYx34 := hid hL
          clear hL hb
          refine hK9.out _ _ HBx34.out (fun hSS => ?_)
          clear hK9 K9
          try simp only [Act.put, List.setIfInBounds_toArray, List.set_cons_zero, List.set_cons_succ]
          obtain ⟨y1, hy1⟩ : ∃ y1, y1 = put4 x34 X x (.slice (some ⟨F, 0, none⟩) x.vs.length (2 * x.vs.length + 70)) := ⟨_, rfl⟩
          obtain ⟨y2, hy2⟩ : ∃ y2, y2 = put4 y1 Y y (.slice (some ⟨F2, 0, none⟩) y.vs.length (2 * y.vs.length + 70)) := ⟨_, rfl⟩
          obtain ⟨k1, b1, b2, hD⟩ := HEND.out x34 X Y F F2 gs gs2 y1 y2 HBx34.out V5x34.out V6x34.out HGX.out HGY.out HXY.out LXx34.out LYx34.out hy1 hy2
          have HK1 := hid k1
          have HB1 := hid b1
          have HB2 := hid b2
          have HDD := hid hD
          have HY1 := hid hy1
          have HY2 := hid hy2
          clear k1 b1 b2 hD hy1 hy2
          refine wpAnyH_ready (rs := [6]) (by kernel_rfl) (by simp) (AllReadyH.cons (o := ({ dst := none, op := Op.store 24 (Operand.tmp 5) (Operand.tmp 10), type := 0, pos := _, after := _, guard := none } : Oper)) rfl (fun K9 hK9 => ?_) AllReadyH.nil)
          obtain ⟨⟨q0, q1, q2, q3⟩, qf⟩ := V5x34.out.cs
          have f0 := qf 0
          have f1 := qf 1
          have f2 := qf 2
          have f3 := qf 3
          go_simp
          (try unfold put4 at HY1)
          rw [← HY1.out]
          clear HY1 q0 q1 q2 q3 f0 f1 f2 f3 qf
          refine hK9.out _ _ HB1.out (fun hSS => ?_)
          clear hK9 K9
          try simp only [Act.put, List.setIfInBounds_toArray, List.set_cons_zero, List.set_cons_succ]
          refine wpAnyH_ready (rs := [7]) (by kernel_rfl) (by simp) (AllReadyH.cons (o := ({ dst := none, op := Op.store 24 (Operand.tmp 6) (Operand.tmp 12), type := 0, pos := _, after := _, guard := none } : Oper)) rfl (fun K9 hK9 => ?_) AllReadyH.nil)
          obtain ⟨⟨q0, q1, q2, q3⟩, qf⟩ := HK1.out.cs
          have f0 := qf 0
          have f1 := qf 1
          have f2 := qf 2
          have f3 := qf 3
          go_simp
          (try unfold put4 at HY2)
          rw [← HY2.out]
          clear HY2 q0 q1 q2 q3 f0 f1 f2 f3 qf
          refine hK9.out _ _ HB2.out (fun hSS => ?_)
          clear hK9 K9
          try simp only [Act.put, List.setIfInBounds_toArray, List.set_cons_zero, List.set_cons_succ]
          refine wpAnyH_done (by kernel_rfl) ?_ _
          exact HREST.out _ _ _ _ _ _ _ HDD.out
end Go.Proofs.Ytfglfbiibeffbaa
