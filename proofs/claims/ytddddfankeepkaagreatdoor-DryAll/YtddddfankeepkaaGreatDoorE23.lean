import Derived.Test.YtddddfankeepkaaGreatDoorE18
import Derived.Test.YtddddfankeepkaaGreatDoorE03
import Derived.Test.YtddddfankeepkaaGreatDoorE22
namespace Go.Proofs.YtddddfankeepkaaGreatDoor
open Go.RowKit
theorem RdO.rdA {B : Nat} {w : World} {z : Option Addr} {os : List PO} (h : RdO B w z os) : RdA B w z (os.map tow) := by
 rcases h.2 with e | ⟨b, off, e, hb, hc⟩
 ·exact .inl (by rw [e]; rfl)
 ·refine .inr ⟨b, off, e, hb, fun t ht => ?_⟩
  rw [List.length_map] at ht
  obtain ⟨a, c, h1, _, _⟩ := hc t ht
  rw [List.getElem_map]
  exact ⟨a, c, ⟨h1.o0, h1.o1, h1.o2, h1.o3, h1.o4, h1.o5⟩⟩
set_option maxRecDepth 100000 in
set_option maxHeartbeats 8000000 in
theorem dall_N (x : VW) (a : Option Addr) (c0 : Nat) (la : List PO) (n : Nat) (z : Option Addr) (zc : Nat) (w : World) (hn : la.length = n) (hl1 : n ≤ 2097152) (hx : szV 1048576 1048576 x.vs) (hR : RdV w.heap.size w a x.vs) (hA : RdO w.heap.size w z la) (hG : GT w) (hY : ∀ u, RdV u.heap.size u a x.vs → Calls Tryz.prog 8 #[viewA x a c0] u fun e w' => BoQ u false e w') :
  Calls Tryz.prog 5 #[viewA x a c0, .slice z n zc] w fun e w' => BoQ w true e w' := by
 obtain ⟨R, hRe⟩ : ∃ R, R = w.heap.size := ⟨_, rfl⟩
 obtain ⟨W0, hW0⟩ : ∃ W0, W0 = w.alloc (.cells #[.int .i64 x.cp, .int .i64 x.fr, .int .i64 x.nx, .slice a x.vs.length c0] 24) := ⟨_, rfl⟩
 have b0 : Below w.heap.size w W0 := by rw [hW0]; exact below1 _ _
 have hV : VwB W0 R x (.slice a x.vs.length c0) := by rw [hW0, hRe]; exact heap_new _ _
 have hR0 := (hR.below b0).mono b0.size
 have hA0 := (hA.below b0).mono b0.size
 have hG0 := hG.next b0
 have HAW := hid (awake_any W0 hG0)
 have HMAY := hid (fun u (hu : Below W0.heap.size W0 u) => hY u ((hR0.below hu).mono hu.size))
 have HLE := hid (fun u (hu : Below W0.heap.size W0 u) => Lend_any x a c0 u (hx.shV (by omega) (by omega)) ((hR0.below hu).mono hu.size))
 have HLO := hid (fun u (hu : Below W0.heap.size W0 u) => LendOps_any z zc la u (by omega) ((hA0.below hu).mono hu.size))
 have HV := hid hV
 have HB0 := hid b0
 have HRe := hid hRe.symm
 have HW0 := hid hW0
 have HGu := hid hG0
 have HNl := hid hn
 have HALL : Hid (∀ (u : World) (F G B : Nat) (gs : List Nat) (us : List Value), LentV u F gs x.vs → LoS B u G la us (2 * n + 70) → GT u → Calls Tryz.prog 9 #[viewA x (some ⟨F, 0, none⟩) (2 * x.vs.length + 70), .slice (some ⟨G, 0, none⟩) n (2 * n + 70)] u fun e w' => AllQ u (allP x (la.map tow) 0) e w') := fun u F G B gs us hL hS hg => by
  have := All_any x (some ⟨F, 0, none⟩) (2 * x.vs.length + 70) (la.map tow) (some ⟨G, 0, none⟩) (2 * n + 70) u (hx.mono (by omega) (by omega)) hL.rd (fun e => by cases e) (by rw [List.length_map]; omega) hg (tow_ok hA.1) (hS.rd hA.1 hA.isB).rdA
  rwa [List.length_map, hn] at this
 clear hRe hW0 b0 hV hR0 hR hA0 hG0 hG hA hx hn hY
 dsimp only [viewA] at *
 go_enter Tryz.func5, Tryz.ntmps5
 go_wp2_with fail
 rw [← HW0.out, HRe.out]
 refine HAW.out.mono ?_
 rintro e w1 ⟨rfl, hb1⟩
 have HB1 := hid hb1
 have HL1 := hid (HLE.out w1 hb1)
 clear hb1 HAW HLE HW0
 obtain ⟨⟨p0, p1, p2, p3⟩, _⟩ := (HV.out.keep (HB1.out.block R HV.out.lt)).cs
 go_wp2_with fail
 refine HL1.out.mono ?_
 rintro e w2 ⟨F, gs, rfl, hL2, hF2, hb2⟩
 have hb02 := HB1.out.trans (hb2.mono HB1.out.size)
 obtain ⟨C, hCe⟩ : ∃ C, C = w2.heap.size := ⟨_, rfl⟩
 obtain ⟨w3, hw3⟩ : ∃ w3, w3 = w2.alloc (.cells #[.int .i64 x.cp, .int .i64 x.fr, .int .i64 x.nx, .slice (some ⟨F, 0, none⟩) x.vs.length (2 * x.vs.length + 70)] 24) := ⟨_, rfl⟩
 have b23 : Below w2.heap.size w2 w3 := by rw [hw3]; exact below1 _ _
 have HL3 := hid (hL2.next b23)
 have HC3 : Hid (VwB w3 C x (.slice (some ⟨F, 0, none⟩) x.vs.length (2 * x.vs.length + 70))) := by unfold Hid; rw [hw3, hCe]; exact heap_new _ _
 have HB3 := hid (hb02.trans (b23.mono hb02.size))
 have HW3 := hid hw3
 have HCE := hid hCe.symm
 clear hL2 hF2 hb2 hb02 hCe hw3 b23 HL1 p0 p1 p2 p3
 go_wp2_with fail
 rw [← HW3.out, HCE.out]
 have HO3 := hid (HLO.out w3 HB3.out)
 clear HLO HW3 HCE
 rw [HNl.out] at HO3
 refine HO3.out.mono ?_
 rintro e u ⟨G, us, rfl, hS, hb4⟩
 rw [HNl.out] at hS
 have HBu := hid (HB3.out.trans (hb4.mono HB3.out.size))
 have HB34 := hid hb4
 have HS := hid hS
 clear hS hb4 HO3
 rw [HNl.out]
 obtain ⟨⟨p0, p1, p2, p3⟩, _⟩ := (HV.out.keep (HBu.out.block R HV.out.lt)).cs
 have HM1 := hid (HMAY.out u HBu.out)
 clear HMAY
 go_wp2_with fail
 refine HM1.out.mono ?_
 rintro e u2 ⟨rfl, hb5⟩
 have hb3 : Below w3.heap.size w3 u2 := HB34.out.trans (hb5.mono HB34.out.size)
 obtain ⟨⟨q0, q1, q2, q3⟩, _⟩ := (HC3.out.keep (hb3.block C HC3.out.lt)).cs
 have HAL := hid (HALL.out u2 F G _ gs us (HL3.out.next hb3) (HS.out.next hb5) (HGu.out.next (HBu.out.trans (hb5.mono HBu.out.size))))
 have HBF := hid (HB0.out.trans ((HBu.out.trans (hb5.mono HBu.out.size)).mono HB0.out.size))
 clear p0 p1 p2 p3 hb3 hb5 HM1 HALL HL3 HS HGu HBu HB34 HC3 HV HB3 HB1
 go_wp2_with fail
 refine HAL.out.mono ?_
 rintro e w' ⟨a', c', us', rfl, _, _, hb6⟩
 have HB6 := hid (HBF.out.trans (hb6.mono HBF.out.size))
 clear hb6 HAL
 go_wp2
 go_ret
 exact ⟨rfl, HB6.out⟩
end Go.Proofs.YtddddfankeepkaaGreatDoor
namespace Go.Proofs.YtddddfankeepkaaGreatDoor
open Go.RowKit
def extO (c : Int) : PO := ⟨11, cE, cE, 0, c + 1, []⟩
def nsOf (x : VW) (la : List PO) (t : Nat) : List PO := if t = 1 then la.set (la.length / 2) (extO x.cp) else la
theorem nsOf_len (x : VW) (la : List PO) (t : Nat) : (nsOf x la t).length = la.length := by
 unfold nsOf
 split
 ·simp
 ·rfl
theorem nsOf_ok {x : VW} (hM : MayP x) {la : List PO} (h : ∀ o ∈ la, okO o) (t : Nat) : ∀ o ∈ nsOf x la t, okO o := by
 intro o ho
 unfold nsOf at ho
 split at ho
 ·rcases List.mem_or_eq_of_mem_set ho with ho | rfl
  ·exact h o ho
  ·have := hM.c1
   have := hM.c2
   exact ⟨by simp [extO], by simp [extO], by simp [extO], by simp [extO], by simp only [extO]; omega, by simp only [extO]; omega, by show cE.size ≤ 16777216; decide, by show cE.size ≤ 16777216; decide, by simp [extO]⟩
 ·exact h o ho
theorem nsOf_isB {x : VW} {la : List PO} (h : ∀ o ∈ la, Pl.isB o.da) (t : Nat) : ∀ o ∈ nsOf x la t, Pl.isB o.da := by
 intro o ho
 unfold nsOf at ho
 split at ho
 ·rcases List.mem_or_eq_of_mem_set ho with ho | rfl
  ·exact h o ho
  ·simp [extO, Pl.isB]
 ·exact h o ho
theorem nsOf_one {x : VW} {la : List PO} : nsOf x la 1 = la.set (la.length / 2) (extO x.cp) := if_pos rfl
theorem nsOf_not {x : VW} {la : List PO} {t : Nat} (h : t ≠ 1) : nsOf x la t = la := if_neg h
structure DaS (D0 D1 G M n : Nat) (w3 W : World) (v : Value) (ns os : List PO) (vs us : List Value) (i : Nat) : Prop where
 lo : LoS D0 W G (ns.take i ++ os.drop i) us M
 ow : OwL D1 W v ns vs
 bw : Below D0 w3 W
theorem DaS.step {D0 D1 G M n i g1 c1 : Nat} {w3 wr : World} {ns os : List PO} {vs us : List Value} (h : DaS D0 D1 G M n w3 wr (.slice (some ⟨g1, 0, none⟩) n c1) ns os vs us i) (hi : i < n) (hns : ns.length = n) (hos : os.length = n) (hG : G < D1) (hD : D0 ≤ D1) (hok : ∀ o ∈ ns, okO o) (hB : ∀ o ∈ ns, Pl.isB o.da) :
  ∃ (k fr tt : Int) (nm ot : ByteArray) (a' : Option Addr) (ln c' : Nat), (wr.cell? ⟨g1, i * 6, none⟩ = some (.int .i64 k) ∧ wr.cell? ⟨g1, i * 6 + 1, none⟩ = some (.string nm) ∧ wr.cell? ⟨g1, i * 6 + 2, none⟩ = some (.string ot) ∧ wr.cell? ⟨g1, i * 6 + 3, none⟩ = some (.int .i64 fr) ∧ wr.cell? ⟨g1, i * 6 + 4, none⟩ = some (.int .i64 tt) ∧ wr.cell? ⟨g1, i * 6 + 5, none⟩ = some (.slice a' ln c')) ∧
   (∃ v0 v1 v2 v3 v4 v5, wr.cell? ⟨G, i * 6, none⟩ = some v0 ∧ wr.cell? ⟨G, i * 6 + 1, none⟩ = some v1 ∧ wr.cell? ⟨G, i * 6 + 2, none⟩ = some v2 ∧ wr.cell? ⟨G, i * 6 + 3, none⟩ = some v3 ∧ wr.cell? ⟨G, i * 6 + 4, none⟩ = some v4 ∧ wr.cell? ⟨G, i * 6 + 5, none⟩ = some v5) ∧ (∀ j, wr.frozen? ⟨G, j, none⟩ = false) ∧
   ∀ W3, W3 = (((((wr.setCell ⟨G, i * 6, none⟩ (.int .i64 k)).setCell ⟨G, i * 6 + 1, none⟩ (.string nm)).setCell ⟨G, i * 6 + 2, none⟩ (.string ot)).setCell ⟨G, i * 6 + 3, none⟩ (.int .i64 fr)).setCell ⟨G, i * 6 + 4, none⟩ (.int .i64 tt)).setCell ⟨G, i * 6 + 5, none⟩ (.slice a' ln c') →
    W3.cell? ⟨g1, i * 6 + 5, none⟩ = some (.slice a' ln c') ∧ Calls Tryz.prog 24 #[.slice a' ln c'] W3 fun e W4 => ∃ va vn vc, e = .returned (.slice va vn vc) ∧ (∃ v5, W4.cell? ⟨G, i * 6 + 5, none⟩ = some v5) ∧ W4.frozen? ⟨G, i * 6 + 5, none⟩ = false ∧
     ∀ W5, W5 = W4.setCell ⟨G, i * 6 + 5, none⟩ (.slice va vn vc) → ∃ us', DaS D0 D1 G M n w3 W5 (.slice (some ⟨g1, 0, none⟩) n c1) ns os vs us' (i + 1) := by
 obtain ⟨hlo, how, hbw⟩ := h
 have hvl := how.len
 have hul := hlo.len
 have htl : (ns.take i).length = i := by rw [List.length_take]; omega
 have hll : (ns.take i ++ os.drop i).length = n := by rw [List.length_append, htl, List.length_drop]; omega
 obtain ⟨z1, c9, e9, hRO⟩ := how.rdO hok hB
 simp only [Value.slice.injEq] at e9
 obtain ⟨rfl, _, rfl⟩ := e9
 obtain ⟨b, off, e9, hbl, hc⟩ := hRO.2.resolve_left (fun e => by rw [e] at hns; simp at hns; omega)
 cases e9
 obtain ⟨a', c', ⟨c0, c1', c2, c3, c4, c5⟩, hRd, ha⟩ := hc i (by omega)
 have hoki := hok _ (List.getElem_mem (h := (by omega : i < ns.length)))
 obtain ⟨o, ho⟩ : ∃ o, o = ns[i]'(by omega) := ⟨_, rfl⟩
 rw [Nat.zero_add] at c0 c1' c2 c3 c4 c5
 rw [← ho] at c0 c1' c2 c3 c4 c5 hRd hoki
 have hcs := hlo.bl.cs6 i (by rw [List.length_append]; omega)
 refine ⟨o.k, o.fr, o.tt, o.nm, o.ot, a', o.da.length, c', ⟨c0, c1', c2, c3, c4, c5⟩, hcs, hlo.bl.frozen, fun W3 hW3 => ?_⟩
 have hW3' : W3 = at6 wr G (i * 6) o (.slice a' o.da.length c') := hW3
 have bt := but_at6 wr G (i * 6) o (.slice a' o.da.length c')
 rw [← hW3'] at bt
 have hdat : Ow D0 wr (.slice a' o.da.length c') o.da := by
  have h1 := how.dat i (by omega)
  obtain ⟨a2, c2', e2, _, _⟩ := h1.rd (hB _ (List.getElem_mem _))
  have h6 : (vs[i]'(by omega)) = .slice a' o.da.length c' := by
   have := World.ownsRow.cells how.row (g := g1) rfl (i * 6 + 5) (vs[i]'(by omega)) (by rw [flatO_at ns vs how.len i (by omega) 5 (by omega)]; rfl)
   rw [Addr.add_lit, Nat.zero_add] at this
   rw [this] at c5
   exact Option.some.inj c5
  rw [h6, ← ho] at h1
  exact h1.mono hD
 have hset : (ns.take i ++ os.drop i).set i o = ns.take (i + 1) ++ os.drop (i + 1) := by
  rw [set_drop _ _ _ htl.symm (by omega), List.take_succ_eq_append_getElem (by omega), ← ho]
 have hlo3 := hlo.set (w' := W3) i (by omega) o _ hdat hW3'
 rw [hset] at hlo3
 have how3 : OwL D1 W3 (.slice (some ⟨g1, 0, none⟩) n c1) ns vs := how.keep fun g hg1 hg2 => bt.block g hg2 (by omega)
 have hbw3 : Below D0 w3 W3 := hbw.trans (bt.below (Nat.le_trans hlo.hF (Nat.le_of_lt hlo.bl.lt)) (fun k hk e => by have := hlo.hF; omega))
 have hlt : g1 < wr.heap.size := hbl
 have hbD : D1 ≤ g1 := (own_blk how.row (g := g1) rfl).1
 have hRO3 := (how3.rdO hok hB)
 obtain ⟨z3, c3', e3, hRO3⟩ := hRO3
 simp only [Value.slice.injEq] at e3
 obtain ⟨rfl, _, rfl⟩ := e3
 obtain ⟨b3, off3, e3, _, hc3⟩ := hRO3.2.resolve_left (fun e => by rw [e] at hns; simp at hns; omega)
 cases e3
 obtain ⟨a3, c3'', ⟨_, _, _, _, _, d5⟩, hRd4, ha3⟩ := hc3 i (by omega)
 rw [Nat.zero_add] at d5
 rw [← ho] at d5 hRd4
 have d5' : W3.cell? ⟨g1, i * 6 + 5, none⟩ = some (.slice a' o.da.length c') := (World.cell?_of_block (a := ⟨g1, i * 6 + 5, none⟩) (bt.block g1 hlt (by omega))).trans c5
 rw [d5'] at d5
 simp only [Option.some.injEq, Value.slice.injEq] at d5
 obtain ⟨rfl, _, rfl⟩ := d5
 refine ⟨d5', (CopyBytes_any a' o.da.length c' o.da W3 hRd4 ha hoki.da (Nat.le_refl _)).mono ?_⟩
 rintro e W4 ⟨v, rfl, hv, hb4⟩
 obtain ⟨va, vc, rfl⟩ := hv.form
 have hlo4 := hlo3.next hb4
 have hs3 := hbw3.size
 have hl1 : (ns.take (i + 1) ++ os.drop (i + 1)).length = n := by rw [← hset, List.length_set]; exact hll
 obtain ⟨_, _, _, _, _, v5, _, _, _, _, _, u5⟩ := hlo4.bl.cs6 i (by rw [List.length_append]; omega)
 refine ⟨va, _, vc, rfl, ⟨v5, u5⟩, hlo4.bl.frozen _, fun W5 hW5 => ?_⟩
 have hgi : (ns.take (i + 1) ++ os.drop (i + 1))[i]'(by omega) = o := by
  rw [List.getElem_append_left (by rw [List.length_take]; omega), List.getElem_take, ho]
 have hD3 : D0 ≤ W3.heap.size := by have := hlo3.hF; have := hlo3.bl.lt; omega
 have hlo5 := hlo4.set5 (w' := W5) i (by omega) (.slice va o.da.length vc) (by rw [hgi]; exact hv.mono hD3) hW5
 have bt5 : But (fun x => x = G) W4 W5 := by rw [hW5]; exact (But.refl (fun x => x = G) W4).setCell (p := ⟨G, i * 6 + 5, none⟩) rfl _
 refine ⟨_, hlo5, (how3.next hb4).keep fun g hg1 hg2 => bt5.block g hg2 (by omega), (hbw3.trans (hb4.mono hD3)).trans (bt5.below (Nat.le_trans hlo4.hF (Nat.le_of_lt hlo4.bl.lt)) (fun k hk e => by have := hlo4.hF; omega))⟩
end Go.Proofs.YtddddfankeepkaaGreatDoor
