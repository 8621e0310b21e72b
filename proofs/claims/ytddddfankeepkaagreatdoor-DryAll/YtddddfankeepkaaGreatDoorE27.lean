import Derived.Test.YtddddfankeepkaaGreatDoorE23
import Derived.Test.YtddddfankeepkaaGreatDoorE26
namespace Go.Proofs.YtddddfankeepkaaGreatDoor
open Go.RowKit
theorem da_wr (md : Nat) (h : md ≤ 2097152) (c : Int) (hc : c ≤ 262145 ∧ 1 ≤ c) : wrap64 c = c ∧ IntKind.i64.wrap c = c ∧ wrap64 (md : Int) = (md : Int) ∧ IntKind.i64.wrap (md : Int) = (md : Int) :=
 ⟨pw64 (by omega), by rw [IntKind.wrap_i64]; omega, pw64 (by omega), by rw [IntKind.wrap_i64]; omega⟩
set_option maxRecDepth 100000 in
set_option maxHeartbeats 8000000 in
theorem dall_Y (x : VW) (a : Option Addr) (c0 : Nat) (la : List PO) (n : Nat) (z : Option Addr) (zc : Nat) (w : World) (hn : la.length = n) (hl1 : n ≤ 2097152) (hx : szV 1048576 1048576 x.vs) (hR : RdV w.heap.size w a x.vs) (hA : RdO w.heap.size w z la) (hG : GT w) (hY : ∀ u, RdV u.heap.size u a x.vs → Calls Tryz.prog 8 #[viewA x a c0] u fun e w' => BoQ u true e w') (hM : MayP x) :
  Calls Tryz.prog 5 #[viewA x a c0, .slice z n zc] w fun e w' => BoQ w true e w' := by
 obtain ⟨R, hRe⟩ : ∃ R, R = w.heap.size := ⟨_, rfl⟩
 obtain ⟨W0, hW0⟩ : ∃ W0, W0 = w.alloc (.cells #[.int .i64 x.cp, .int .i64 x.fr, .int .i64 x.nx, .slice a x.vs.length c0] 24) := ⟨_, rfl⟩
 have b0 : Below w.heap.size w W0 := by rw [hW0]; exact below1 _ _
 have hV : VwB W0 R x (.slice a x.vs.length c0) := by rw [hW0, hRe]; exact heap_new _ _
 have hR0 := (hR.below b0).mono b0.size
 have hA0 := (hA.below b0).mono b0.size
 have hG0 := hG.next b0
 have HAW := hid (awake_any W0 hG0)
 have HMAY := hid (fun u (hu : Below W0.heap.size W0 u) => hY u ((hR0.below hu).mono hu.size))
 have HLE := hid (fun u (hu : Below W0.heap.size W0 u) => Lend_any x a c0 u (hx.shV (by omega) (by omega)) ((hR0.below hu).mono hu.size))
 have HLO := hid (fun u (hu : Below W0.heap.size W0 u) => LendOps_any z zc la u (by omega) ((hA0.below hu).mono hu.size))
 have HV := hid hV
 have HB0 := hid b0
 have HRe := hid hRe.symm
 have HW0 := hid hW0
 have HRdA : Hid (∀ u, Below W0.heap.size W0 u → RdV u.heap.size u a x.vs ∧ RdO u.heap.size u z la ∧ GT u) := fun u hu => ⟨(hR0.below hu).mono hu.size, (hA0.below hu).mono hu.size, hG0.next hu⟩
 have HNl := hid hn
 have HOK := hid hA.1
 have HIB := hid hA.isB
 have HMP := hid hM
 have HX := hid hx
 have hcp : x.cp + 1 ≤ 262145 ∧ 1 ≤ x.cp + 1 := by have := hM.c1; have := hM.c2; omega
 have HCP := hid hcp
 clear hRe hW0 b0 hV hR0 hR hA0 hG0 hG hA hx hn hY hM hcp
 dsimp only [viewA] at *
 go_enter Tryz.func5, Tryz.ntmps5
 go_wp2_with fail
 rw [← HW0.out, HRe.out]
 refine HAW.out.mono ?_
 rintro e w1 ⟨rfl, hb1⟩
 have HB1 := hid hb1
 have HL1 := hid (HLE.out w1 hb1)
 clear hb1 HAW HLE HW0
 obtain ⟨⟨p0, p1, p2, p3⟩, _⟩ := (HV.out.keep (HB1.out.block R HV.out.lt)).cs
 go_wp2_with fail
 refine HL1.out.mono ?_
 rintro e w2 ⟨F, gs, rfl, hL2, hF2, hb2⟩
 have hb02 := HB1.out.trans (hb2.mono HB1.out.size)
 obtain ⟨C, hCe⟩ : ∃ C, C = w2.heap.size := ⟨_, rfl⟩
 obtain ⟨w3, hw3⟩ : ∃ w3, w3 = w2.alloc (.cells #[.int .i64 x.cp, .int .i64 x.fr, .int .i64 x.nx, .slice (some ⟨F, 0, none⟩) x.vs.length (2 * x.vs.length + 70)] 24) := ⟨_, rfl⟩
 have b23 : Below w2.heap.size w2 w3 := by rw [hw3]; exact below1 _ _
 have HL3 := hid (hL2.next b23)
 have HC3 : Hid (VwB w3 C x (.slice (some ⟨F, 0, none⟩) x.vs.length (2 * x.vs.length + 70))) := by unfold Hid; rw [hw3, hCe]; exact heap_new _ _
 have HB3 := hid (hb02.trans (b23.mono hb02.size))
 have HW3 := hid hw3
 have HCE := hid hCe.symm
 clear hL2 hF2 hb2 hb02 hCe hw3 b23 HL1 p0 p1 p2 p3
 go_wp2_with fail
 rw [← HW3.out, HCE.out]
 have HO3 := hid (HLO.out w3 HB3.out)
 clear HLO HW3 HCE
 rw [HNl.out] at HO3
 refine HO3.out.mono ?_
 rintro e u ⟨G, us, rfl, hS, hb4⟩
 rw [HNl.out] at hS
 have HBu := hid (HB3.out.trans (hb4.mono HB3.out.size))
 have HB34 := hid hb4
 have HS := hid hS
 clear hS hb4 HO3
 rw [HNl.out]
 obtain ⟨⟨p0, p1, p2, p3⟩, _⟩ := (HV.out.keep (HBu.out.block R HV.out.lt)).cs
 have HM1 := hid (HMAY.out u HBu.out)
 clear HMAY
 go_wp2_with fail
 refine HM1.out.mono ?_
 rintro e u2 ⟨rfl, hb5⟩
 have hb3 : Below w3.heap.size w3 u2 := HB34.out.trans (hb5.mono HB34.out.size)
 obtain ⟨D0, hD0⟩ : ∃ D0, D0 = w3.heap.size := ⟨_, rfl⟩
 have HD0 := hid hD0
 have HST0 : Hid (la.length = n ∧ LoS D0 u2 G la us (2 * n + 70) ∧ Below D0 w3 u2) := ⟨HNl.out, by rw [hD0]; exact HS.out.next hb5, by rw [hD0]; exact hb3⟩
 have HU : Hid (∀ W, Below D0 w3 W → LentV W F gs x.vs ∧ VwB W R x (.slice a x.vs.length c0) ∧ VwB W C x (.slice (some ⟨F, 0, none⟩) x.vs.length (2 * x.vs.length + 70)) ∧ RdV W.heap.size W a x.vs ∧ RdO W.heap.size W z la ∧ GT W ∧ Below w.heap.size w W) := fun W hW => by
  rw [HD0.out] at hW
  have h1 := HB3.out.trans (hW.mono HB3.out.size)
  obtain ⟨k1, k2, k3⟩ := HRdA.out W h1
  exact ⟨HL3.out.next hW, (HV.out.keep (HB3.out.block R HV.out.lt)).keep (hW.block R (Nat.lt_of_lt_of_le HV.out.lt HB3.out.size)), HC3.out.keep (hW.block C HC3.out.lt), k1, k2, k3, HB0.out.trans (h1.mono HB0.out.size)⟩
 clear p0 p1 p2 p3 hb3 hb5 HM1 HL3 HS HBu HB34 HC3 HV HB3 HB1 HB0 HRdA hD0
 go_wp2_with fail
 go_loopw [7] (fun iv wr => ∃ (t : Nat) (os : List PO) (us : List Value), iv = .int .i64 (t : Int) ∧ t ≤ 3 ∧ os.length = n ∧ LoS D0 wr G os us (2 * n + 70) ∧ Below D0 w3 wr) (fun iv _ => 3 - (intOf iv).toNat)
 case atStart => exact ⟨0, la, us, rfl, by omega, HST0.out⟩
 case round =>
  clear HST0
  obtain ⟨t, os, us, rfl, ht, hos, hlo, hbw⟩ := hrel
  generalize wr = wo at *
  by_cases p : t = 3
  ·have HD : Hid (BoQ w true (.returned (.bool true)) wo) := ⟨rfl, (HU.out wo hbw).2.2.2.2.2.2⟩
   subst p
   clear ht hlo hbw hos
   go_wp2_with fail
   go_ret
   exact HD.out
  ·have ht3 : t < 3 := by omega
   have qt : (t : Int) < 3 := by omega
   have HT3 := hid ht3
   obtain ⟨_, _, _, _, kO, _, _⟩ := HU.out wo hbw
   have hcc := CopyOps_any z zc la wo (by rw [HNl.out]; omega) kO
   rw [HNl.out] at hcc
   have HCC := hid hcc
   obtain ⟨D1, hD1⟩ : ∃ D1, D1 = wo.heap.size := ⟨_, rfl⟩
   have HGD : Hid (G < D1 ∧ D0 ≤ D1) := ⟨by rw [hD1]; exact hlo.bl.lt, by rw [hD1]; have := hlo.hF; have := hlo.bl.lt; omega⟩
   have HLo := hid hlo
   have HBw := hid hbw
   have HD1 := hid hD1.symm
   clear ht hlo hbw p kO hcc hD1
   go_wp2_with fail
   refine HCC.out.mono ?_
   rintro e w1 ⟨v, vs, rfl, how, hb1⟩
   obtain ⟨z1, c1, rfl⟩ : ∃ z1 c1, v = .slice z1 n c1 := by
    rcases own_form how.row with ⟨e, hn0⟩ | ⟨g, c', e, _⟩
    ·exact ⟨none, 0, by rw [e, ← HNl.out, hn0]⟩
    ·exact ⟨_, c', by rw [e, HNl.out]⟩
   rw [HD1.out] at how
   have hlo1 := HLo.out.next hb1
   have hbw1 := HBw.out.trans (hb1.mono (by have := HGD.out.2; have := HD1.out; omega))
   clear HCC
   by_cases p1 : t = 1
   ·by_cases p0 : 0 < n
    ·obtain ⟨g1, rfl⟩ : ∃ g1, z1 = some ⟨g1, 0, none⟩ := by
      rcases own_form how.row with ⟨_, e⟩ | ⟨g, c', e, _⟩
      ·have := HNl.out; omega
      ·simp only [Value.slice.injEq] at e
       exact ⟨g, e.1⟩
     subst p1
     obtain ⟨md, hmd⟩ : ∃ md, md = n / 2 := ⟨_, rfl⟩
     have hmn : md < n := by omega
     have hml : la.length / 2 = md := by rw [HNl.out, hmd]
     have hml2 : md < la.length := by rw [HNl.out]; exact hmn
     obtain ⟨hgD, hgl, _⟩ := own_blk how.row (g := g1) rfl
     have f0 := World.ownsRow.cells how.row (g := g1) rfl (md * 6 + 0) _ (flatO_at la vs how.len md hml2 0 (by omega))
     have f1 := World.ownsRow.cells how.row (g := g1) rfl (md * 6 + 1) _ (flatO_at la vs how.len md hml2 1 (by omega))
     have f2 := World.ownsRow.cells how.row (g := g1) rfl (md * 6 + 2) _ (flatO_at la vs how.len md hml2 2 (by omega))
     have f3 := World.ownsRow.cells how.row (g := g1) rfl (md * 6 + 3) _ (flatO_at la vs how.len md hml2 3 (by omega))
     have f4 := World.ownsRow.cells how.row (g := g1) rfl (md * 6 + 4) _ (flatO_at la vs how.len md hml2 4 (by omega))
     have f5 := World.ownsRow.cells how.row (g := g1) rfl (md * 6 + 5) _ (flatO_at la vs how.len md hml2 5 (by omega))
     rw [Addr.add_lit, Nat.zero_add] at f0 f1 f2 f3 f4 f5
     rw [Nat.add_zero] at f0
     have uf : ∀ j, w1.frozen? ⟨g1, j, none⟩ = false := fun j => by
      obtain ⟨_, _, cur, hh⟩ := own_blk how.row (g := g1) rfl
      simp [World.frozen?, hh]
     obtain ⟨W2, hW2⟩ : ∃ W2, W2 = (((((w1.setCell ⟨g1, md * 6, none⟩ (.int .i64 11)).setCell ⟨g1, md * 6 + 1, none⟩ (.string ⟨#[]⟩)).setCell ⟨g1, md * 6 + 2, none⟩ (.string ⟨#[]⟩)).setCell ⟨g1, md * 6 + 3, none⟩ (.int .i64 0)).setCell ⟨g1, md * 6 + 4, none⟩ (.int .i64 (x.cp + 1))).setCell ⟨g1, md * 6 + 5, none⟩ (.slice none 0 0) := ⟨_, rfl⟩
     have hW2' : W2 = at6 w1 g1 (md * 6) (extO x.cp) nilS := hW2
     have bt := but_at6 w1 g1 (md * 6) (extO x.cp) nilS
     rw [← hW2'] at bt
     have how' : OwL D1 w1 (.slice (some ⟨g1, 0, none⟩) la.length c1) la vs := by rw [HNl.out]; exact how
     have how2 := how'.setOp (w' := W2) md hml2 (extO x.cp) rfl hW2'
     rw [← hml, ← nsOf_one, HNl.out] at how2
     have hb12 : Below wo.heap.size wo W2 := hb1.trans (bt.below (by have := hb1.size; omega) (fun k hk e => by have := HD1.out; omega))
     have hlo2 := HLo.out.next hb12
     have hbw2 := HBw.out.trans (hb12.mono (by have := HGD.out.2; have := HD1.out; omega))
     have HNS : Hid ((nsOf x la 1).length = n ∧ os.length = n ∧ (∀ o ∈ nsOf x la 1, okO o) ∧ ∀ o ∈ nsOf x la 1, Pl.isB o.da) := ⟨by rw [nsOf_len]; exact HNl.out, hos, nsOf_ok HMP.out HOK.out 1, nsOf_isB HIB.out 1⟩
     have HST : Hid (∃ vs', DaS D0 D1 G (2 * n + 70) n w3 W2 (.slice (some ⟨g1, 0, none⟩) n c1) (nsOf x la 1) os vs' us 0) := ⟨_, by simpa using hlo2, how2, hbw2⟩
     obtain ⟨vs', HST⟩ := HST.out
     have HST := hid HST
     obtain ⟨ns, hns⟩ : ∃ ns, ns = nsOf x la 1 := ⟨_, rfl⟩
     rw [← hns] at HNS HST
     have HNE := hid hns
     obtain ⟨_, k2, _⟩ := HU.out w1 hbw1
     obtain ⟨⟨m0, m1, m2, m3⟩, _⟩ := k2.cs
     have HW2 := hid hW2
     have qm : (md : Int) < (n : Int) := by omega
     have qm2 : (n : Int) / 2 = (md : Int) := by omega
     have qm3 : (n : Int).tdiv 2 = (md : Int) := by rw [Int.tdiv_eq_ediv_of_nonneg (by omega)]; omega
     have qm4 : 0 ≤ (md : Int) := by omega
     have pn : (0 : Int) < (n : Int) := by omega
     have HWR := hid (da_wr md (by omega) (x.cp + 1) HCP.out)
     obtain ⟨o0, d0⟩ : ∃ o0, w1.cell? ⟨g1, md * 6, none⟩ = some o0 := ⟨_, f0⟩
     obtain ⟨o1, d1⟩ : ∃ o0, w1.cell? ⟨g1, md * 6 + 1, none⟩ = some o0 := ⟨_, f1⟩
     obtain ⟨o2, d2⟩ : ∃ o0, w1.cell? ⟨g1, md * 6 + 2, none⟩ = some o0 := ⟨_, f2⟩
     obtain ⟨o3, d3⟩ : ∃ o0, w1.cell? ⟨g1, md * 6 + 3, none⟩ = some o0 := ⟨_, f3⟩
     obtain ⟨o4, d4⟩ : ∃ o0, w1.cell? ⟨g1, md * 6 + 4, none⟩ = some o0 := ⟨_, f4⟩
     obtain ⟨o5, d5⟩ : ∃ o0, w1.cell? ⟨g1, md * 6 + 5, none⟩ = some o0 := ⟨_, f5⟩
     obtain ⟨wc1, wc2, wm1, wm2⟩ := HWR.out
     clear f0 f1 f2 f3 f4 f5
     clear hlo1 how hbw1 hos hns hml hml2 hmd hgD hgl hW2 hW2' bt how' how2 hb12 hlo2 hbw2 k2 hb1
     go_wp2_with fail
     rw [← HW2.out]
     clear d0 d1 d2 d3 d4 d5 uf m0 m1 m2 m3 wc1 wc2 wm1 wm2 HW2 HWR qm qm2 qm3 qm4 pn
     obtain ⟨z1, hz1⟩ : ∃ z1 : Option Addr, z1 = some ⟨g1, 0, none⟩ := ⟨_, rfl⟩
     rw [← hz1] at HST ⊢
     clear hz1
     -- behind region 13: world w2, facts HLo2 HOw2 HBw2 HG1
     go_loopw [9] (fun iv wr => ∃ (i : Nat) (us' : List Value), iv = .int .i64 (i : Int) ∧ i ≤ n ∧ DaS D0 D1 G (2 * n + 70) n w3 wr (.slice z1 n c1) ns os vs' us' i) (fun iv _ => n - (intOf iv).toNat)
     case atStart => exact ⟨0, us, rfl, Nat.zero_le _, HST.out⟩
     case round =>
      clear HST
      obtain ⟨i, us', rfl, hi, hS⟩ := hrel
      by_cases q : i < n
      ·obtain ⟨g1, rfl⟩ : ∃ g1, z1 = some ⟨g1, 0, none⟩ := by
        rcases own_form hS.ow.row with ⟨_, e⟩ | ⟨g, c', e, _⟩
        ·have := HNS.out.1; omega
        ·simp only [Value.slice.injEq] at e
         exact ⟨g, e.1⟩
       obtain ⟨k, fr, tt, nm, ot, a', ln, c', ⟨d0, d1, d2, d3, d4, d5⟩, ⟨v0, v1, v2, v3, v4, v5, u0, u1, u2, u3, u4, u5⟩, uf, hfin⟩ := hS.step q HNS.out.1 HNS.out.2.1 HGD.out.1 HGD.out.2 HNS.out.2.2.1 HNS.out.2.2.2
       obtain ⟨k5, hC4⟩ := hfin _ rfl
       have HC4 := hid hC4
       have HQ := hid q
       have hne : g1 ≠ G := by have h1 := (own_blk hS.ow.row (g := g1) rfl).1; have h2 := HGD.out.1; omega
       have hne2 : G ≠ g1 := fun e => hne e.symm
       have hi1 : (i : Int) < (n : Int) := by omega
       have hi2 : (i : Int) < 2 * (n : Int) + 70 := by omega
       clear hfin hS hi q hC4
       go_wp2_with fail
       refine HC4.out.mono ?_
       rintro e W4 ⟨va, vn, vc, rfl, ⟨v9, u9⟩, uf9, hf9⟩
       have HF9 := hid hf9
       clear hf9 HC4 d0 d1 d2 d3 d4 d5 u0 u1 u2 u3 u4 u5 uf k5 v0 v1 v2 v3 v4 v5
       go_wp2_with fail
       obtain ⟨us9, h9⟩ := HF9.out _ rfl
       go_roundw
       case rel => exact ⟨i + 1, us9, by go_num, HQ.out, h9⟩
       case measure => have := HQ.out; simp [intOf]; omega
      ·have e : i = n := by omega
       obtain ⟨hlo9, how9, hbw9⟩ := hS
       have hen : ns.take i ++ os.drop i = ns := by
        rw [e, List.take_of_length_le (by rw [HNS.out.1]; exact Nat.le_refl _), List.drop_of_length_le (by rw [HNS.out.2.1]; exact Nat.le_refl _), List.append_nil]
       rw [hen] at hlo9
       have hq9 : ¬ (i : Int) < (n : Int) := by omega
       have hD9 : D0 ≤ wr.heap.size := by have := hlo9.hF; have := hlo9.bl.lt; omega
       have HW9 : Hid (∀ W, Below wr.heap.size wr W → (LoS D0 W G ns us' (2 * n + 70) ∧ OwL D1 W (.slice z1 n c1) ns vs' ∧ Below D0 w3 W)) := fun W h => ⟨hlo9.next h, how9.next h, hbw9.trans (h.mono hD9)⟩
       obtain ⟨r, hr⟩ : ∃ r, r = allP x (ns.map tow) 0 := ⟨_, rfl⟩
       have hsh : shV r.1.vs := by
        by_cases h0 : (allP x (ns.map tow) 0).2.2 = 0
        ·rw [hr]; exact (all_may _ x 0 HMP.out h0).szV.shV (by omega) (by omega)
        ·rw [hr, (all_err _ x 0 h0).1]; exact ⟨by simp [VW0], by simp [VW0]⟩
       have h9 := fun (W : World) (h : Below wr.heap.size wr W) => All_any x (some ⟨F, 0, none⟩) (2 * x.vs.length + 70) (ns.map tow) (some ⟨G, 0, none⟩) (2 * n + 70) W (HX.out.mono (by omega) (by omega)) (HU.out W (HW9.out W h).2.2).1.rd (fun e => by cases e) (by rw [List.length_map, HNS.out.1]; omega) (HU.out W (HW9.out W h).2.2).2.2.2.2.2.1 (tow_ok HNS.out.2.2.1) ((HW9.out W h).1.rd HNS.out.2.2.1 HNS.out.2.2.2).rdA
       have h10 := fun (W : World) (h : Below wr.heap.size wr W) => CopyView_any x a c0 W (HX.out.shV (by omega) (by omega)) (HU.out W (HW9.out W h).2.2).2.2.2.1
       have h25 := fun (W : World) (h : Below wr.heap.size wr W) (a2 : Option Addr) (c2 : Nat) (h1 : RdV W.heap.size W a2 x.vs) (h2 : a2 = none → c2 = 0) (h3 : RdA W.heap.size W z1 (ns.map tow)) => all_any25 x a2 c2 (ns.map tow) z1 c1 W HMP.out h1 h2 (by rw [List.length_map, HNS.out.1]; omega) (tow_ok HNS.out.2.2.1) h3
       rw [List.length_map, HNS.out.1] at h9 h25
       rw [← hr] at h9 h25
       clear hr
       obtain ⟨⟨q0, q1, q2, qv⟩, i1, e1⟩ := r
       dsimp only at hsh
       have HRdN : Hid (∀ W, Below wr.heap.size wr W → RdA W.heap.size W z1 (ns.map tow) ∧ RdO W.heap.size W z1 ns) := fun W h => by
        obtain ⟨z9, c9, e9, h4⟩ := (HW9.out W h).2.1.rdA
        obtain ⟨z8, c8, e8, h5⟩ := (HW9.out W h).2.1.rdO HNS.out.2.2.1 HNS.out.2.2.2
        simp only [Value.slice.injEq] at e9 e8
        rw [e9.1]
        exact ⟨h4, by rw [← e9.1, e8.1]; exact h5⟩
       have H9 : Hid (Calls Tryz.prog 9 #[viewA x (some ⟨F, 0, none⟩) (2 * x.vs.length + 70), .slice (some ⟨G, 0, none⟩) n (2 * n + 70)] wr fun e Z1 => ∃ a1 c1' ql, e = .returned (.tuple #[.agg #[.int .i64 q0, .int .i64 q1, .int .i64 q2, .slice a1 ql c1'], .int .i64 i1, .int .i64 e1]) ∧ ql = qv.length ∧ RdV Z1.heap.size Z1 a1 qv ∧ Below wr.heap.size wr Z1) := by
        refine (h9 wr (Below.refl _ _)).mono ?_
        rintro e Z1 ⟨a1, c1', us1, rfl, hO, _, hb⟩
        obtain ⟨a9, c9, e9, hR9, _⟩ := hO.rd
        simp only [Value.slice.injEq] at e9
        exact ⟨a1, c1', _, rfl, rfl, by rw [e9.1]; exact hR9, hb⟩
       have H10 : Hid (∀ W, Below wr.heap.size wr W → Calls Tryz.prog 10 #[viewA x a c0] W fun e W1 => ∃ a2 c2, e = .returned (viewA x a2 c2) ∧ Calls Tryz.prog 25 #[viewA x a2 c2, .slice z1 n c1] W1 fun e W2 => ∃ a3 c3 ql, e = .returned (.tuple #[.agg #[.int .i64 q0, .int .i64 q1, .int .i64 q2, .slice a3 ql c3], .int .i64 i1, .int .i64 e1]) ∧ ql = qv.length ∧ RdV W2.heap.size W2 a3 qv ∧ Below W.heap.size W W2) := fun W h => by
        refine (h10 W h).mono ?_
        rintro e W1 ⟨a2, c2, rfl, h1, h2, h3⟩
        have h4 := h.trans (h3.mono h.size)
        refine ⟨a2, c2, rfl, (h25 W1 h4 a2 c2 h1 h2 (HRdN.out W1 h4).1).mono ?_⟩
        rintro e W2 ⟨a3, c3, rfl, h5, _, h6⟩
        exact ⟨a3, c3, _, rfl, rfl, h5, h3.trans (h6.mono h3.size)⟩
       have H13 : Hid (∀ W a1 c1' a3 c3, RdV W.heap.size W a1 qv → RdV W.heap.size W a3 qv → Calls Tryz.prog 13 #[.agg #[.int .i64 q0, .int .i64 q1, .int .i64 q2, .slice a1 qv.length c1'], .agg #[.int .i64 q0, .int .i64 q1, .int .i64 q2, .slice a3 qv.length c3]] W fun e w' => e = .returned (.bool true) ∧ Below W.heap.size W w') := fun W a1 c1' a3 c3 h1 h3 => SameView_yes ⟨q0, q1, q2, qv⟩ a1 a3 c1' c3 W hsh h1 h3
       have H21 : Hid (∀ W, Below wr.heap.size wr W → Calls Tryz.prog 21 #[viewA x (some ⟨F, 0, none⟩) (2 * x.vs.length + 70), .slice (some ⟨F, 0, none⟩) x.vs.length (2 * x.vs.length + 70), viewA x a c0] W fun e w' => e = .returned (.bool true) ∧ Below W.heap.size W w') := fun W h => Back_yes x F gs a c0 W (HX.out.shV (by omega) (by omega)) (HU.out W (HW9.out W h).2.2).1 (HU.out W (HW9.out W h).2.2).2.2.2.1
       have H26 : Hid (∀ W, Below wr.heap.size wr W → Calls Tryz.prog 26 #[.slice (some ⟨G, 0, none⟩) n (2 * n + 70), .slice z1 n c1] W fun e w' => e = .returned (.bool true) ∧ Below W.heap.size W w') := fun W h => by
        have hb := BackOps_any D0 G us' z1 c1 ns W (by rw [HNS.out.1]; omega) (by rw [HNS.out.1]; exact (HW9.out W h).1) (HRdN.out W h).2
        rwa [HNS.out.1] at hb
       have HCR : Hid (∀ W, Below wr.heap.size wr W → (W.cell? ⟨R, 0, none⟩ = some (.int .i64 x.cp) ∧ W.cell? ⟨R, 1, none⟩ = some (.int .i64 x.fr) ∧ W.cell? ⟨R, 2, none⟩ = some (.int .i64 x.nx) ∧ W.cell? ⟨R, 3, none⟩ = some (.slice a x.vs.length c0)) ∧ (W.cell? ⟨C, 0, none⟩ = some (.int .i64 x.cp) ∧ W.cell? ⟨C, 1, none⟩ = some (.int .i64 x.fr) ∧ W.cell? ⟨C, 2, none⟩ = some (.int .i64 x.nx) ∧ W.cell? ⟨C, 3, none⟩ = some (.slice (some ⟨F, 0, none⟩) x.vs.length (2 * x.vs.length + 70)))) := fun W h => by
        obtain ⟨_, k2, k3, _⟩ := HU.out W (HW9.out W h).2.2
        exact ⟨k2.cs.1, k3.cs.1⟩
       obtain ⟨_, ⟨r0, r1, r2, r3⟩⟩ := HCR.out wr (Below.refl _ _)
       clear h9 h10 h25 hsh hlo9 how9 hbw9 hen hD9 e hi q HRdN
       dsimp only [viewA] at H9 H10 H21
       go_wp2_with fail
       refine H9.out.mono ?_
       rintro e Z1 ⟨a1, c1', ql, rfl, hql, hv1, hb1⟩
       obtain ⟨X1, hX1⟩ : ∃ X1, X1 = Z1.heap.size := ⟨_, rfl⟩
       obtain ⟨Z2, hZ2⟩ : ∃ Z2, Z2 = Z1.alloc (.cells #[.int .i64 q0, .int .i64 q1, .int .i64 q2, .slice a1 ql c1'] 24) := ⟨_, rfl⟩
       have b12 : Below Z1.heap.size Z1 Z2 := by rw [hZ2]; exact below1 _ _
       have hV1 : VwB Z2 X1 ⟨q0, q1, q2, qv⟩ (.slice a1 ql c1') := by rw [hZ2, hX1]; exact heap_new _ _
       have hb2 := hb1.trans (b12.mono hb1.size)
       have hv2 := (hv1.below b12).mono b12.size
       obtain ⟨⟨r0, r1, r2, r3⟩, _⟩ := HCR.out Z2 hb2
       have H10' := hid (H10.out Z2 hb2)
       have HZ2 := hid hZ2
       have HX1 := hid hX1
       rw [hZ2] at r0 r1 r2 r3
       have HV1 := hid hV1
       have HV2 := hid hv2
       have HB2 := hid hb2
       have HQL := hid hql
       clear H9 H10 hX1 hZ2 b12 hV1 hb2 hv2 hv1 hb1 hql
       go_wp2_with fail
       rw [← HZ2.out, ← HX1.out]
       clear HZ2 HX1 r0 r1 r2 r3
       refine H10'.out.mono ?_
       rintro e Z3 ⟨a2, c2, rfl, h25⟩
       have H25 := hid h25
       clear h25 H10'
       go_wp2_with fail
       refine H25.out.mono ?_
       rintro e Z4 ⟨a3, c3, ql3, rfl, hql3, hv4, hb4⟩
       obtain ⟨X2, hX2⟩ : ∃ X2, X2 = Z4.heap.size := ⟨_, rfl⟩
       obtain ⟨Z5, hZ5⟩ : ∃ Z5, Z5 = Z4.alloc (.cells #[.int .i64 q0, .int .i64 q1, .int .i64 q2, .slice a3 ql3 c3] 24) := ⟨_, rfl⟩
       have b45 : Below Z4.heap.size Z4 Z5 := by rw [hZ5]; exact below1 _ _
       have hV5 : VwB Z5 X2 ⟨q0, q1, q2, qv⟩ (.slice a3 ql3 c3) := by rw [hZ5, hX2]; exact heap_new _ _
       have hb25 := hb4.trans (b45.mono hb4.size)
       have hb5 := HB2.out.trans (hb25.mono HB2.out.size)
       have hV1' := HV1.out.keep (hb25.block X1 HV1.out.lt)
       obtain ⟨⟨s0, s1, s2, s3⟩, _⟩ := hV1'.cs
       obtain ⟨⟨t0, t1, t2, t3⟩, _⟩ := hV5.cs
       have h13 := H13.out Z5 a1 c1' a3 c3 ((HV2.out.below hb25).mono hb25.size) ((hv4.below b45).mono b45.size)
       rw [← HQL.out] at h13
       rw [show Value.slice a3 ql c3 = Value.slice a3 ql3 c3 by rw [HQL.out, hql3]] at h13
       have HSV := hid h13
       have HB5 := hid hb5
       have HZ5 := hid hZ5
       have HX2 := hid hX2
       rw [hZ5] at s0 s1 s2 s3 t0 t1 t2 t3
       rw [hX2] at t0 t1 t2 t3
       clear H25 hql3 hv4 hb4 hX2 hZ5 b45 hV5 hb25 hb5 hV1' h13 HV1 HV2 HB2 HQL H13
       go_wp2_with fail
       refine Calls.mono (Num_any _ _) ?_
       rintro e wq ⟨rfl, hw0⟩
       have hw0 := hw0.symm
       subst hw0
       go_wp2_with fail
       rw [← HZ5.out]
       refine HSV.out.mono ?_
       rintro e Z6 ⟨rfl, hb6⟩
       have hb6' := HB5.out.trans (hb6.mono HB5.out.size)
       obtain ⟨⟨r0, r1, r2, r3⟩, ⟨m0, m1, m2, m3⟩⟩ := HCR.out Z6 hb6'
       have H21' := hid (H21.out Z6 hb6')
       have HB6 := hid hb6'
       clear hb6 hb6' HSV HB5 HZ5 HX2 s0 s1 s2 s3 t0 t1 t2 t3 H21 HCR
       go_wp2_with fail
       refine H21'.out.mono ?_
       rintro e Z7 ⟨rfl, hb7⟩
       have hb7' := HB6.out.trans (hb7.mono HB6.out.size)
       have H26' := hid (H26.out Z7 hb7')
       have HB7 := hid hb7'
       clear hb7 hb7' H21' HB6 H26 r0 r1 r2 r3 m0 m1 m2 m3
       go_wp2_with fail
       refine H26'.out.mono ?_
       rintro e Z8 ⟨rfl, hb8⟩
       have HLast := hid (HW9.out Z8 (HB7.out.trans (hb8.mono HB7.out.size)))
       clear hb8 H26' HB7 HW9
       go_wp2_with fail
       go_roundw
       case rel => exact ⟨1 + 1, ns, us', by go_num, HT3.out, HNS.out.1, HLast.out.1, HLast.out.2.2⟩
       case measure => have := HT3.out; simp only [intOf]; omega
    ·have HNS : Hid ((nsOf x la t).length = n ∧ os.length = n ∧ (∀ o ∈ nsOf x la t, okO o) ∧ ∀ o ∈ nsOf x la t, Pl.isB o.da) := ⟨by rw [nsOf_len]; exact HNl.out, hos, nsOf_ok HMP.out HOK.out t, nsOf_isB HIB.out t⟩
     have hnz : nsOf x la t = la := by
      have : la = [] := List.eq_nil_of_length_eq_zero (by rw [HNl.out]; omega)
      rw [this]
      unfold nsOf
      split <;> rfl
     have HST : Hid (DaS D0 D1 G (2 * n + 70) n w3 w1 (.slice z1 n c1) (nsOf x la t) os vs us 0) := ⟨by simpa using hlo1, by rw [hnz]; exact how, hbw1⟩
     have pn : ¬ (0 : Int) < (n : Int) := by omega
     have pn1 : decide ((0 : Int) < (n : Int)) = false := decide_eq_false pn
     have pn2 : decide (0 < n) = false := decide_eq_false p0
     obtain ⟨ns, hns⟩ : ∃ ns, ns = nsOf x la t := ⟨_, rfl⟩
     rw [← hns] at HNS HST
     have HNE := hid hns
     clear hlo1 how hbw1 hos hns hnz
     subst p1
     go_wp2_with fail
     clear pn pn1 pn2
     -- behind region 13: world w2, facts HLo2 HOw2 HBw2 HG1
     go_loopw [9] (fun iv wr => ∃ (i : Nat) (us' : List Value), iv = .int .i64 (i : Int) ∧ i ≤ n ∧ DaS D0 D1 G (2 * n + 70) n w3 wr (.slice z1 n c1) ns os vs us' i) (fun iv _ => n - (intOf iv).toNat)
     case atStart => exact ⟨0, us, rfl, Nat.zero_le _, HST.out⟩
     case round =>
      clear HST
      obtain ⟨i, us', rfl, hi, hS⟩ := hrel
      by_cases q : i < n
      ·exact absurd q (by omega)
      ·have e : i = n := by omega
       obtain ⟨hlo9, how9, hbw9⟩ := hS
       have hen : ns.take i ++ os.drop i = ns := by
        rw [e, List.take_of_length_le (by rw [HNS.out.1]; exact Nat.le_refl _), List.drop_of_length_le (by rw [HNS.out.2.1]; exact Nat.le_refl _), List.append_nil]
       rw [hen] at hlo9
       have hq9 : ¬ (i : Int) < (n : Int) := by omega
       have hD9 : D0 ≤ wr.heap.size := by have := hlo9.hF; have := hlo9.bl.lt; omega
       have HW9 : Hid (∀ W, Below wr.heap.size wr W → (LoS D0 W G ns us' (2 * n + 70) ∧ OwL D1 W (.slice z1 n c1) ns vs ∧ Below D0 w3 W)) := fun W h => ⟨hlo9.next h, how9.next h, hbw9.trans (h.mono hD9)⟩
       obtain ⟨r, hr⟩ : ∃ r, r = allP x (ns.map tow) 0 := ⟨_, rfl⟩
       have hsh : shV r.1.vs := by
        by_cases h0 : (allP x (ns.map tow) 0).2.2 = 0
        ·rw [hr]; exact (all_may _ x 0 HMP.out h0).szV.shV (by omega) (by omega)
        ·rw [hr, (all_err _ x 0 h0).1]; exact ⟨by simp [VW0], by simp [VW0]⟩
       have h9 := fun (W : World) (h : Below wr.heap.size wr W) => All_any x (some ⟨F, 0, none⟩) (2 * x.vs.length + 70) (ns.map tow) (some ⟨G, 0, none⟩) (2 * n + 70) W (HX.out.mono (by omega) (by omega)) (HU.out W (HW9.out W h).2.2).1.rd (fun e => by cases e) (by rw [List.length_map, HNS.out.1]; omega) (HU.out W (HW9.out W h).2.2).2.2.2.2.2.1 (tow_ok HNS.out.2.2.1) ((HW9.out W h).1.rd HNS.out.2.2.1 HNS.out.2.2.2).rdA
       have h10 := fun (W : World) (h : Below wr.heap.size wr W) => CopyView_any x a c0 W (HX.out.shV (by omega) (by omega)) (HU.out W (HW9.out W h).2.2).2.2.2.1
       have h25 := fun (W : World) (h : Below wr.heap.size wr W) (a2 : Option Addr) (c2 : Nat) (h1 : RdV W.heap.size W a2 x.vs) (h2 : a2 = none → c2 = 0) (h3 : RdA W.heap.size W z1 (ns.map tow)) => all_any25 x a2 c2 (ns.map tow) z1 c1 W HMP.out h1 h2 (by rw [List.length_map, HNS.out.1]; omega) (tow_ok HNS.out.2.2.1) h3
       rw [List.length_map, HNS.out.1] at h9 h25
       rw [← hr] at h9 h25
       clear hr
       obtain ⟨⟨q0, q1, q2, qv⟩, i1, e1⟩ := r
       dsimp only at hsh
       have HRdN : Hid (∀ W, Below wr.heap.size wr W → RdA W.heap.size W z1 (ns.map tow) ∧ RdO W.heap.size W z1 ns) := fun W h => by
        obtain ⟨z9, c9, e9, h4⟩ := (HW9.out W h).2.1.rdA
        obtain ⟨z8, c8, e8, h5⟩ := (HW9.out W h).2.1.rdO HNS.out.2.2.1 HNS.out.2.2.2
        simp only [Value.slice.injEq] at e9 e8
        rw [e9.1]
        exact ⟨h4, by rw [← e9.1, e8.1]; exact h5⟩
       have H9 : Hid (Calls Tryz.prog 9 #[viewA x (some ⟨F, 0, none⟩) (2 * x.vs.length + 70), .slice (some ⟨G, 0, none⟩) n (2 * n + 70)] wr fun e Z1 => ∃ a1 c1' ql, e = .returned (.tuple #[.agg #[.int .i64 q0, .int .i64 q1, .int .i64 q2, .slice a1 ql c1'], .int .i64 i1, .int .i64 e1]) ∧ ql = qv.length ∧ RdV Z1.heap.size Z1 a1 qv ∧ Below wr.heap.size wr Z1) := by
        refine (h9 wr (Below.refl _ _)).mono ?_
        rintro e Z1 ⟨a1, c1', us1, rfl, hO, _, hb⟩
        obtain ⟨a9, c9, e9, hR9, _⟩ := hO.rd
        simp only [Value.slice.injEq] at e9
        exact ⟨a1, c1', _, rfl, rfl, by rw [e9.1]; exact hR9, hb⟩
       have H10 : Hid (∀ W, Below wr.heap.size wr W → Calls Tryz.prog 10 #[viewA x a c0] W fun e W1 => ∃ a2 c2, e = .returned (viewA x a2 c2) ∧ Calls Tryz.prog 25 #[viewA x a2 c2, .slice z1 n c1] W1 fun e W2 => ∃ a3 c3 ql, e = .returned (.tuple #[.agg #[.int .i64 q0, .int .i64 q1, .int .i64 q2, .slice a3 ql c3], .int .i64 i1, .int .i64 e1]) ∧ ql = qv.length ∧ RdV W2.heap.size W2 a3 qv ∧ Below W.heap.size W W2) := fun W h => by
        refine (h10 W h).mono ?_
        rintro e W1 ⟨a2, c2, rfl, h1, h2, h3⟩
        have h4 := h.trans (h3.mono h.size)
        refine ⟨a2, c2, rfl, (h25 W1 h4 a2 c2 h1 h2 (HRdN.out W1 h4).1).mono ?_⟩
        rintro e W2 ⟨a3, c3, rfl, h5, _, h6⟩
        exact ⟨a3, c3, _, rfl, rfl, h5, h3.trans (h6.mono h3.size)⟩
       have H13 : Hid (∀ W a1 c1' a3 c3, RdV W.heap.size W a1 qv → RdV W.heap.size W a3 qv → Calls Tryz.prog 13 #[.agg #[.int .i64 q0, .int .i64 q1, .int .i64 q2, .slice a1 qv.length c1'], .agg #[.int .i64 q0, .int .i64 q1, .int .i64 q2, .slice a3 qv.length c3]] W fun e w' => e = .returned (.bool true) ∧ Below W.heap.size W w') := fun W a1 c1' a3 c3 h1 h3 => SameView_yes ⟨q0, q1, q2, qv⟩ a1 a3 c1' c3 W hsh h1 h3
       have H21 : Hid (∀ W, Below wr.heap.size wr W → Calls Tryz.prog 21 #[viewA x (some ⟨F, 0, none⟩) (2 * x.vs.length + 70), .slice (some ⟨F, 0, none⟩) x.vs.length (2 * x.vs.length + 70), viewA x a c0] W fun e w' => e = .returned (.bool true) ∧ Below W.heap.size W w') := fun W h => Back_yes x F gs a c0 W (HX.out.shV (by omega) (by omega)) (HU.out W (HW9.out W h).2.2).1 (HU.out W (HW9.out W h).2.2).2.2.2.1
       have H26 : Hid (∀ W, Below wr.heap.size wr W → Calls Tryz.prog 26 #[.slice (some ⟨G, 0, none⟩) n (2 * n + 70), .slice z1 n c1] W fun e w' => e = .returned (.bool true) ∧ Below W.heap.size W w') := fun W h => by
        have hb := BackOps_any D0 G us' z1 c1 ns W (by rw [HNS.out.1]; omega) (by rw [HNS.out.1]; exact (HW9.out W h).1) (HRdN.out W h).2
        rwa [HNS.out.1] at hb
       have HCR : Hid (∀ W, Below wr.heap.size wr W → (W.cell? ⟨R, 0, none⟩ = some (.int .i64 x.cp) ∧ W.cell? ⟨R, 1, none⟩ = some (.int .i64 x.fr) ∧ W.cell? ⟨R, 2, none⟩ = some (.int .i64 x.nx) ∧ W.cell? ⟨R, 3, none⟩ = some (.slice a x.vs.length c0)) ∧ (W.cell? ⟨C, 0, none⟩ = some (.int .i64 x.cp) ∧ W.cell? ⟨C, 1, none⟩ = some (.int .i64 x.fr) ∧ W.cell? ⟨C, 2, none⟩ = some (.int .i64 x.nx) ∧ W.cell? ⟨C, 3, none⟩ = some (.slice (some ⟨F, 0, none⟩) x.vs.length (2 * x.vs.length + 70)))) := fun W h => by
        obtain ⟨_, k2, k3, _⟩ := HU.out W (HW9.out W h).2.2
        exact ⟨k2.cs.1, k3.cs.1⟩
       obtain ⟨_, ⟨r0, r1, r2, r3⟩⟩ := HCR.out wr (Below.refl _ _)
       clear h9 h10 h25 hsh hlo9 how9 hbw9 hen hD9 e hi q HRdN
       dsimp only [viewA] at H9 H10 H21
       go_wp2_with fail
       refine H9.out.mono ?_
       rintro e Z1 ⟨a1, c1', ql, rfl, hql, hv1, hb1⟩
       obtain ⟨X1, hX1⟩ : ∃ X1, X1 = Z1.heap.size := ⟨_, rfl⟩
       obtain ⟨Z2, hZ2⟩ : ∃ Z2, Z2 = Z1.alloc (.cells #[.int .i64 q0, .int .i64 q1, .int .i64 q2, .slice a1 ql c1'] 24) := ⟨_, rfl⟩
       have b12 : Below Z1.heap.size Z1 Z2 := by rw [hZ2]; exact below1 _ _
       have hV1 : VwB Z2 X1 ⟨q0, q1, q2, qv⟩ (.slice a1 ql c1') := by rw [hZ2, hX1]; exact heap_new _ _
       have hb2 := hb1.trans (b12.mono hb1.size)
       have hv2 := (hv1.below b12).mono b12.size
       obtain ⟨⟨r0, r1, r2, r3⟩, _⟩ := HCR.out Z2 hb2
       have H10' := hid (H10.out Z2 hb2)
       have HZ2 := hid hZ2
       have HX1 := hid hX1
       rw [hZ2] at r0 r1 r2 r3
       have HV1 := hid hV1
       have HV2 := hid hv2
       have HB2 := hid hb2
       have HQL := hid hql
       clear H9 H10 hX1 hZ2 b12 hV1 hb2 hv2 hv1 hb1 hql
       go_wp2_with fail
       rw [← HZ2.out, ← HX1.out]
       clear HZ2 HX1 r0 r1 r2 r3
       refine H10'.out.mono ?_
       rintro e Z3 ⟨a2, c2, rfl, h25⟩
       have H25 := hid h25
       clear h25 H10'
       go_wp2_with fail
       refine H25.out.mono ?_
       rintro e Z4 ⟨a3, c3, ql3, rfl, hql3, hv4, hb4⟩
       obtain ⟨X2, hX2⟩ : ∃ X2, X2 = Z4.heap.size := ⟨_, rfl⟩
       obtain ⟨Z5, hZ5⟩ : ∃ Z5, Z5 = Z4.alloc (.cells #[.int .i64 q0, .int .i64 q1, .int .i64 q2, .slice a3 ql3 c3] 24) := ⟨_, rfl⟩
       have b45 : Below Z4.heap.size Z4 Z5 := by rw [hZ5]; exact below1 _ _
       have hV5 : VwB Z5 X2 ⟨q0, q1, q2, qv⟩ (.slice a3 ql3 c3) := by rw [hZ5, hX2]; exact heap_new _ _
       have hb25 := hb4.trans (b45.mono hb4.size)
       have hb5 := HB2.out.trans (hb25.mono HB2.out.size)
       have hV1' := HV1.out.keep (hb25.block X1 HV1.out.lt)
       obtain ⟨⟨s0, s1, s2, s3⟩, _⟩ := hV1'.cs
       obtain ⟨⟨t0, t1, t2, t3⟩, _⟩ := hV5.cs
       have h13 := H13.out Z5 a1 c1' a3 c3 ((HV2.out.below hb25).mono hb25.size) ((hv4.below b45).mono b45.size)
       rw [← HQL.out] at h13
       rw [show Value.slice a3 ql c3 = Value.slice a3 ql3 c3 by rw [HQL.out, hql3]] at h13
       have HSV := hid h13
       have HB5 := hid hb5
       have HZ5 := hid hZ5
       have HX2 := hid hX2
       rw [hZ5] at s0 s1 s2 s3 t0 t1 t2 t3
       rw [hX2] at t0 t1 t2 t3
       clear H25 hql3 hv4 hb4 hX2 hZ5 b45 hV5 hb25 hb5 hV1' h13 HV1 HV2 HB2 HQL H13
       go_wp2_with fail
       refine Calls.mono (Num_any _ _) ?_
       rintro e wq ⟨rfl, hw0⟩
       have hw0 := hw0.symm
       subst hw0
       go_wp2_with fail
       rw [← HZ5.out]
       refine HSV.out.mono ?_
       rintro e Z6 ⟨rfl, hb6⟩
       have hb6' := HB5.out.trans (hb6.mono HB5.out.size)
       obtain ⟨⟨r0, r1, r2, r3⟩, ⟨m0, m1, m2, m3⟩⟩ := HCR.out Z6 hb6'
       have H21' := hid (H21.out Z6 hb6')
       have HB6 := hid hb6'
       clear hb6 hb6' HSV HB5 HZ5 HX2 s0 s1 s2 s3 t0 t1 t2 t3 H21 HCR
       go_wp2_with fail
       refine H21'.out.mono ?_
       rintro e Z7 ⟨rfl, hb7⟩
       have hb7' := HB6.out.trans (hb7.mono HB6.out.size)
       have H26' := hid (H26.out Z7 hb7')
       have HB7 := hid hb7'
       clear hb7 hb7' H21' HB6 H26 r0 r1 r2 r3 m0 m1 m2 m3
       go_wp2_with fail
       refine H26'.out.mono ?_
       rintro e Z8 ⟨rfl, hb8⟩
       have HLast := hid (HW9.out Z8 (HB7.out.trans (hb8.mono HB7.out.size)))
       clear hb8 H26' HB7 HW9
       go_wp2_with fail
       go_roundw
       case rel => exact ⟨1 + 1, ns, us', by go_num, HT3.out, HNS.out.1, HLast.out.1, HLast.out.2.2⟩
       case measure => have := HT3.out; simp only [intOf]; omega
   ·have HNS : Hid ((nsOf x la t).length = n ∧ os.length = n ∧ (∀ o ∈ nsOf x la t, okO o) ∧ ∀ o ∈ nsOf x la t, Pl.isB o.da) := ⟨by rw [nsOf_len]; exact HNl.out, hos, nsOf_ok HMP.out HOK.out t, nsOf_isB HIB.out t⟩
    have HST : Hid (DaS D0 D1 G (2 * n + 70) n w3 w1 (.slice z1 n c1) (nsOf x la t) os vs us 0) := ⟨by simpa using hlo1, by rw [nsOf_not p1]; exact how, hbw1⟩
    have pt : (t == 1) = false := by simpa using p1
    have pt2 : ((t : Int) == 1) = false := by simp; omega
    obtain ⟨ns, hns⟩ : ∃ ns, ns = nsOf x la t := ⟨_, rfl⟩
    rw [← hns] at HNS HST
    have HNE := hid hns
    clear hlo1 how hbw1 hos hns p1
    go_wp2_with fail
    -- behind region 13: world w2, facts HLo2 HOw2 HBw2 HG1
    go_loopw [9] (fun iv wr => ∃ (i : Nat) (us' : List Value), iv = .int .i64 (i : Int) ∧ i ≤ n ∧ DaS D0 D1 G (2 * n + 70) n w3 wr (.slice z1 n c1) ns os vs us' i) (fun iv _ => n - (intOf iv).toNat)
    case atStart => exact ⟨0, us, rfl, Nat.zero_le _, HST.out⟩
    case round =>
     clear HST
     obtain ⟨i, us', rfl, hi, hS⟩ := hrel
     by_cases q : i < n
     ·obtain ⟨g1, rfl⟩ : ∃ g1, z1 = some ⟨g1, 0, none⟩ := by
       rcases own_form hS.ow.row with ⟨_, e⟩ | ⟨g, c', e, _⟩
       ·have := HNS.out.1; omega
       ·simp only [Value.slice.injEq] at e
        exact ⟨g, e.1⟩
      obtain ⟨k, fr, tt, nm, ot, a', ln, c', ⟨d0, d1, d2, d3, d4, d5⟩, ⟨v0, v1, v2, v3, v4, v5, u0, u1, u2, u3, u4, u5⟩, uf, hfin⟩ := hS.step q HNS.out.1 HNS.out.2.1 HGD.out.1 HGD.out.2 HNS.out.2.2.1 HNS.out.2.2.2
      obtain ⟨k5, hC4⟩ := hfin _ rfl
      have HC4 := hid hC4
      have HQ := hid q
      have hne : g1 ≠ G := by have h1 := (own_blk hS.ow.row (g := g1) rfl).1; have h2 := HGD.out.1; omega
      have hne2 : G ≠ g1 := fun e => hne e.symm
      have hi1 : (i : Int) < (n : Int) := by omega
      have hi2 : (i : Int) < 2 * (n : Int) + 70 := by omega
      clear hfin hS hi q hC4
      go_wp2_with fail
      refine HC4.out.mono ?_
      rintro e W4 ⟨va, vn, vc, rfl, ⟨v9, u9⟩, uf9, hf9⟩
      have HF9 := hid hf9
      clear hf9 HC4 d0 d1 d2 d3 d4 d5 u0 u1 u2 u3 u4 u5 uf k5 v0 v1 v2 v3 v4 v5
      go_wp2_with fail
      obtain ⟨us9, h9⟩ := HF9.out _ rfl
      go_roundw
      case rel => exact ⟨i + 1, us9, by go_num, HQ.out, h9⟩
      case measure => have := HQ.out; simp [intOf]; omega
     ·have e : i = n := by omega
      obtain ⟨hlo9, how9, hbw9⟩ := hS
      have hen : ns.take i ++ os.drop i = ns := by
       rw [e, List.take_of_length_le (by rw [HNS.out.1]; exact Nat.le_refl _), List.drop_of_length_le (by rw [HNS.out.2.1]; exact Nat.le_refl _), List.append_nil]
      rw [hen] at hlo9
      have hq9 : ¬ (i : Int) < (n : Int) := by omega
      have hD9 : D0 ≤ wr.heap.size := by have := hlo9.hF; have := hlo9.bl.lt; omega
      have HW9 : Hid (∀ W, Below wr.heap.size wr W → (LoS D0 W G ns us' (2 * n + 70) ∧ OwL D1 W (.slice z1 n c1) ns vs ∧ Below D0 w3 W)) := fun W h => ⟨hlo9.next h, how9.next h, hbw9.trans (h.mono hD9)⟩
      obtain ⟨r, hr⟩ : ∃ r, r = allP x (ns.map tow) 0 := ⟨_, rfl⟩
      have hsh : shV r.1.vs := by
       by_cases h0 : (allP x (ns.map tow) 0).2.2 = 0
       ·rw [hr]; exact (all_may _ x 0 HMP.out h0).szV.shV (by omega) (by omega)
       ·rw [hr, (all_err _ x 0 h0).1]; exact ⟨by simp [VW0], by simp [VW0]⟩
      have h9 := fun (W : World) (h : Below wr.heap.size wr W) => All_any x (some ⟨F, 0, none⟩) (2 * x.vs.length + 70) (ns.map tow) (some ⟨G, 0, none⟩) (2 * n + 70) W (HX.out.mono (by omega) (by omega)) (HU.out W (HW9.out W h).2.2).1.rd (fun e => by cases e) (by rw [List.length_map, HNS.out.1]; omega) (HU.out W (HW9.out W h).2.2).2.2.2.2.2.1 (tow_ok HNS.out.2.2.1) ((HW9.out W h).1.rd HNS.out.2.2.1 HNS.out.2.2.2).rdA
      have h10 := fun (W : World) (h : Below wr.heap.size wr W) => CopyView_any x a c0 W (HX.out.shV (by omega) (by omega)) (HU.out W (HW9.out W h).2.2).2.2.2.1
      have h25 := fun (W : World) (h : Below wr.heap.size wr W) (a2 : Option Addr) (c2 : Nat) (h1 : RdV W.heap.size W a2 x.vs) (h2 : a2 = none → c2 = 0) (h3 : RdA W.heap.size W z1 (ns.map tow)) => all_any25 x a2 c2 (ns.map tow) z1 c1 W HMP.out h1 h2 (by rw [List.length_map, HNS.out.1]; omega) (tow_ok HNS.out.2.2.1) h3
      rw [List.length_map, HNS.out.1] at h9 h25
      rw [← hr] at h9 h25
      clear hr
      obtain ⟨⟨q0, q1, q2, qv⟩, i1, e1⟩ := r
      dsimp only at hsh
      have HRdN : Hid (∀ W, Below wr.heap.size wr W → RdA W.heap.size W z1 (ns.map tow) ∧ RdO W.heap.size W z1 ns) := fun W h => by
       obtain ⟨z9, c9, e9, h4⟩ := (HW9.out W h).2.1.rdA
       obtain ⟨z8, c8, e8, h5⟩ := (HW9.out W h).2.1.rdO HNS.out.2.2.1 HNS.out.2.2.2
       simp only [Value.slice.injEq] at e9 e8
       rw [e9.1]
       exact ⟨h4, by rw [← e9.1, e8.1]; exact h5⟩
      have H9 : Hid (Calls Tryz.prog 9 #[viewA x (some ⟨F, 0, none⟩) (2 * x.vs.length + 70), .slice (some ⟨G, 0, none⟩) n (2 * n + 70)] wr fun e Z1 => ∃ a1 c1' ql, e = .returned (.tuple #[.agg #[.int .i64 q0, .int .i64 q1, .int .i64 q2, .slice a1 ql c1'], .int .i64 i1, .int .i64 e1]) ∧ ql = qv.length ∧ RdV Z1.heap.size Z1 a1 qv ∧ Below wr.heap.size wr Z1) := by
       refine (h9 wr (Below.refl _ _)).mono ?_
       rintro e Z1 ⟨a1, c1', us1, rfl, hO, _, hb⟩
       obtain ⟨a9, c9, e9, hR9, _⟩ := hO.rd
       simp only [Value.slice.injEq] at e9
       exact ⟨a1, c1', _, rfl, rfl, by rw [e9.1]; exact hR9, hb⟩
      have H10 : Hid (∀ W, Below wr.heap.size wr W → Calls Tryz.prog 10 #[viewA x a c0] W fun e W1 => ∃ a2 c2, e = .returned (viewA x a2 c2) ∧ Calls Tryz.prog 25 #[viewA x a2 c2, .slice z1 n c1] W1 fun e W2 => ∃ a3 c3 ql, e = .returned (.tuple #[.agg #[.int .i64 q0, .int .i64 q1, .int .i64 q2, .slice a3 ql c3], .int .i64 i1, .int .i64 e1]) ∧ ql = qv.length ∧ RdV W2.heap.size W2 a3 qv ∧ Below W.heap.size W W2) := fun W h => by
       refine (h10 W h).mono ?_
       rintro e W1 ⟨a2, c2, rfl, h1, h2, h3⟩
       have h4 := h.trans (h3.mono h.size)
       refine ⟨a2, c2, rfl, (h25 W1 h4 a2 c2 h1 h2 (HRdN.out W1 h4).1).mono ?_⟩
       rintro e W2 ⟨a3, c3, rfl, h5, _, h6⟩
       exact ⟨a3, c3, _, rfl, rfl, h5, h3.trans (h6.mono h3.size)⟩
      have H13 : Hid (∀ W a1 c1' a3 c3, RdV W.heap.size W a1 qv → RdV W.heap.size W a3 qv → Calls Tryz.prog 13 #[.agg #[.int .i64 q0, .int .i64 q1, .int .i64 q2, .slice a1 qv.length c1'], .agg #[.int .i64 q0, .int .i64 q1, .int .i64 q2, .slice a3 qv.length c3]] W fun e w' => e = .returned (.bool true) ∧ Below W.heap.size W w') := fun W a1 c1' a3 c3 h1 h3 => SameView_yes ⟨q0, q1, q2, qv⟩ a1 a3 c1' c3 W hsh h1 h3
      have H21 : Hid (∀ W, Below wr.heap.size wr W → Calls Tryz.prog 21 #[viewA x (some ⟨F, 0, none⟩) (2 * x.vs.length + 70), .slice (some ⟨F, 0, none⟩) x.vs.length (2 * x.vs.length + 70), viewA x a c0] W fun e w' => e = .returned (.bool true) ∧ Below W.heap.size W w') := fun W h => Back_yes x F gs a c0 W (HX.out.shV (by omega) (by omega)) (HU.out W (HW9.out W h).2.2).1 (HU.out W (HW9.out W h).2.2).2.2.2.1
      have H26 : Hid (∀ W, Below wr.heap.size wr W → Calls Tryz.prog 26 #[.slice (some ⟨G, 0, none⟩) n (2 * n + 70), .slice z1 n c1] W fun e w' => e = .returned (.bool true) ∧ Below W.heap.size W w') := fun W h => by
       have hb := BackOps_any D0 G us' z1 c1 ns W (by rw [HNS.out.1]; omega) (by rw [HNS.out.1]; exact (HW9.out W h).1) (HRdN.out W h).2
       rwa [HNS.out.1] at hb
      have HCR : Hid (∀ W, Below wr.heap.size wr W → (W.cell? ⟨R, 0, none⟩ = some (.int .i64 x.cp) ∧ W.cell? ⟨R, 1, none⟩ = some (.int .i64 x.fr) ∧ W.cell? ⟨R, 2, none⟩ = some (.int .i64 x.nx) ∧ W.cell? ⟨R, 3, none⟩ = some (.slice a x.vs.length c0)) ∧ (W.cell? ⟨C, 0, none⟩ = some (.int .i64 x.cp) ∧ W.cell? ⟨C, 1, none⟩ = some (.int .i64 x.fr) ∧ W.cell? ⟨C, 2, none⟩ = some (.int .i64 x.nx) ∧ W.cell? ⟨C, 3, none⟩ = some (.slice (some ⟨F, 0, none⟩) x.vs.length (2 * x.vs.length + 70)))) := fun W h => by
       obtain ⟨_, k2, k3, _⟩ := HU.out W (HW9.out W h).2.2
       exact ⟨k2.cs.1, k3.cs.1⟩
      obtain ⟨_, ⟨r0, r1, r2, r3⟩⟩ := HCR.out wr (Below.refl _ _)
      clear h9 h10 h25 hsh hlo9 how9 hbw9 hen hD9 e hi q HRdN
      dsimp only [viewA] at H9 H10 H21
      go_wp2_with fail
      refine H9.out.mono ?_
      rintro e Z1 ⟨a1, c1', ql, rfl, hql, hv1, hb1⟩
      obtain ⟨X1, hX1⟩ : ∃ X1, X1 = Z1.heap.size := ⟨_, rfl⟩
      obtain ⟨Z2, hZ2⟩ : ∃ Z2, Z2 = Z1.alloc (.cells #[.int .i64 q0, .int .i64 q1, .int .i64 q2, .slice a1 ql c1'] 24) := ⟨_, rfl⟩
      have b12 : Below Z1.heap.size Z1 Z2 := by rw [hZ2]; exact below1 _ _
      have hV1 : VwB Z2 X1 ⟨q0, q1, q2, qv⟩ (.slice a1 ql c1') := by rw [hZ2, hX1]; exact heap_new _ _
      have hb2 := hb1.trans (b12.mono hb1.size)
      have hv2 := (hv1.below b12).mono b12.size
      obtain ⟨⟨r0, r1, r2, r3⟩, _⟩ := HCR.out Z2 hb2
      have H10' := hid (H10.out Z2 hb2)
      have HZ2 := hid hZ2
      have HX1 := hid hX1
      rw [hZ2] at r0 r1 r2 r3
      have HV1 := hid hV1
      have HV2 := hid hv2
      have HB2 := hid hb2
      have HQL := hid hql
      clear H9 H10 hX1 hZ2 b12 hV1 hb2 hv2 hv1 hb1 hql
      go_wp2_with fail
      rw [← HZ2.out, ← HX1.out]
      clear HZ2 HX1 r0 r1 r2 r3
      refine H10'.out.mono ?_
      rintro e Z3 ⟨a2, c2, rfl, h25⟩
      have H25 := hid h25
      clear h25 H10'
      go_wp2_with fail
      refine H25.out.mono ?_
      rintro e Z4 ⟨a3, c3, ql3, rfl, hql3, hv4, hb4⟩
      obtain ⟨X2, hX2⟩ : ∃ X2, X2 = Z4.heap.size := ⟨_, rfl⟩
      obtain ⟨Z5, hZ5⟩ : ∃ Z5, Z5 = Z4.alloc (.cells #[.int .i64 q0, .int .i64 q1, .int .i64 q2, .slice a3 ql3 c3] 24) := ⟨_, rfl⟩
      have b45 : Below Z4.heap.size Z4 Z5 := by rw [hZ5]; exact below1 _ _
      have hV5 : VwB Z5 X2 ⟨q0, q1, q2, qv⟩ (.slice a3 ql3 c3) := by rw [hZ5, hX2]; exact heap_new _ _
      have hb25 := hb4.trans (b45.mono hb4.size)
      have hb5 := HB2.out.trans (hb25.mono HB2.out.size)
      have hV1' := HV1.out.keep (hb25.block X1 HV1.out.lt)
      obtain ⟨⟨s0, s1, s2, s3⟩, _⟩ := hV1'.cs
      obtain ⟨⟨t0, t1, t2, t3⟩, _⟩ := hV5.cs
      have h13 := H13.out Z5 a1 c1' a3 c3 ((HV2.out.below hb25).mono hb25.size) ((hv4.below b45).mono b45.size)
      rw [← HQL.out] at h13
      rw [show Value.slice a3 ql c3 = Value.slice a3 ql3 c3 by rw [HQL.out, hql3]] at h13
      have HSV := hid h13
      have HB5 := hid hb5
      have HZ5 := hid hZ5
      have HX2 := hid hX2
      rw [hZ5] at s0 s1 s2 s3 t0 t1 t2 t3
      rw [hX2] at t0 t1 t2 t3
      clear H25 hql3 hv4 hb4 hX2 hZ5 b45 hV5 hb25 hb5 hV1' h13 HV1 HV2 HB2 HQL H13
      go_wp2_with fail
      refine Calls.mono (Num_any _ _) ?_
      rintro e wq ⟨rfl, hw0⟩
      have hw0 := hw0.symm
      subst hw0
      go_wp2_with fail
      rw [← HZ5.out]
      refine HSV.out.mono ?_
      rintro e Z6 ⟨rfl, hb6⟩
      have hb6' := HB5.out.trans (hb6.mono HB5.out.size)
      obtain ⟨⟨r0, r1, r2, r3⟩, ⟨m0, m1, m2, m3⟩⟩ := HCR.out Z6 hb6'
      have H21' := hid (H21.out Z6 hb6')
      have HB6 := hid hb6'
      clear hb6 hb6' HSV HB5 HZ5 HX2 s0 s1 s2 s3 t0 t1 t2 t3 H21 HCR
      go_wp2_with fail
      refine H21'.out.mono ?_
      rintro e Z7 ⟨rfl, hb7⟩
      have hb7' := HB6.out.trans (hb7.mono HB6.out.size)
      have H26' := hid (H26.out Z7 hb7')
      have HB7 := hid hb7'
      clear hb7 hb7' H21' HB6 H26 r0 r1 r2 r3 m0 m1 m2 m3
      go_wp2_with fail
      refine H26'.out.mono ?_
      rintro e Z8 ⟨rfl, hb8⟩
      have HLast := hid (HW9.out Z8 (HB7.out.trans (hb8.mono HB7.out.size)))
      clear hb8 H26' HB7 HW9
      go_wp2_with fail
      go_roundw
      case rel => exact ⟨t + 1, ns, us', by go_num, HT3.out, HNS.out.1, HLast.out.1, HLast.out.2.2⟩
      case measure => have := HT3.out; simp only [intOf]; omega
end Go.Proofs.YtddddfankeepkaaGreatDoor
