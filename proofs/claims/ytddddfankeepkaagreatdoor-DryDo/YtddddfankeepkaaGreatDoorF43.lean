import Derived.Test.YtddddfankeepkaaGreatDoorF32
import Derived.Test.YtddddfankeepkaaGreatDoorF10
import Derived.Test.YtddddfankeepkaaGreatDoorF25
namespace Go.Proofs.YtddddfankeepkaaGreatDoor
open Go.RowKit
def TrQ (w : World) (y : VW) (e : Ending) (w' : World) : Prop := ∃ a' c' us, e = .returned (viewA y a' c') ∧ OwV w.heap.size w' (.slice a' y.vs.length c') y.vs us ∧ Below w.heap.size w w'
theorem trnX_nil {x : VW} (h : x.vs.length = 0) (t : Nat) : trnX x t = x := by
 obtain ⟨a, b, c, d⟩ := x
 obtain rfl : d = [] := List.eq_nil_of_length_eq_zero h
 rfl
theorem sz_wr (z : Int) (h : 1 ≤ z ∧ z ≤ 262144) : wrap64 (z + 1) = z + 1 ∧ IntKind.i64.wrap (z + 1) = z + 1 := ⟨pw64 (by omega), by rw [IntKind.wrap_i64]; omega⟩
theorem len_wr (n k : Nat) (h : n ≤ 64) (hk : k = n / 2) : (n : Int) / 2 = (k : Int) ∧ (n : Int).tdiv 2 = (k : Int) ∧ wrap64 (k : Int) = (k : Int) ∧ IntKind.i64.wrap (k : Int) = (k : Int) := ⟨by omega, by rw [Int.tdiv_eq_ediv_of_nonneg (by omega)]; omega, pw64 (by omega), by rw [IntKind.wrap_i64]; omega⟩
theorem NF.count : ∀ {rs : List Rg} {b sz : Int}, NF b rs sz → (rs.length : Int) + b ≤ sz ∨ rs = []
 | [], _, _, _ => .inr rfl
 | r :: l, b, sz, h => by
  have h1 := h.all r (by simp)
  have h2 : NF r.t l sz := ⟨fun q hq => ⟨(List.pairwise_cons.1 h.apart).1 q hq, (h.all q (by simp [hq])).2⟩, (List.pairwise_cons.1 h.apart).2⟩
  rcases NF.count h2 with h3 | h3
  ·left
   simp only [List.length_cons]
   omega
  ·left
   rw [h3]
   simp only [List.length_cons, List.length_nil]
   omega
theorem mz_wr (m : Nat) (z : Int) (h : m ≤ 262145) (hz : -1 ≤ z ∧ z ≤ 262144) : wrap64 ((m : Int) + 1 - 1) = (m : Int) ∧ IntKind.i64.wrap ((m : Int) + 1 - 1) = (m : Int) ∧ wrap64 (z - 1) = z - 1 ∧ IntKind.i64.wrap (z - 1) = z - 1 ∧ wrap64 (m : Int) = (m : Int) ∧ IntKind.i64.wrap (m : Int) = (m : Int) :=
 ⟨by rw [pw64 (by omega)]; omega, by rw [IntKind.wrap_i64]; omega, pw64 (by omega), by rw [IntKind.wrap_i64]; omega, pw64 (by omega), by rw [IntKind.wrap_i64]; omega⟩
set_option maxRecDepth 100000 in
set_option maxHeartbeats 8000000 in
theorem Turned_any (x : VW) (a : Option Addr) (c0 : Nat) (t : Nat) (ht : t ≤ 4) (w : World) (hM : MayP x) (hR : RdV w.heap.size w a x.vs) :
  Calls Tryz.prog 18 #[viewA x a c0, .int .i64 (t : Int)] w (TrQ w (trnX x t)) := by
 obtain ⟨PQ, hPQ⟩ : ∃ PQ, PQ = TrQ w (trnX x t) := ⟨_, rfl⟩
 rw [← hPQ]
 have HPQ := hid hPQ
 obtain ⟨P, hPe⟩ : ∃ P, P = w.heap.size := ⟨_, rfl⟩
 obtain ⟨Q, hQe⟩ : ∃ Q, Q = w.heap.size + 1 := ⟨_, rfl⟩
 obtain ⟨W1, hW1⟩ : ∃ W1, W1 = (w.alloc (.cells #[.int .i64 x.cp, .int .i64 x.fr, .int .i64 x.nx, .slice a x.vs.length c0] 24)).alloc (.cells #[.int .i64 0, .int .i64 0, .int .i64 0, .slice none 0 0] 24) := ⟨_, rfl⟩
 have b1 : Below w.heap.size w W1 := by rw [hW1]; exact two_below _ _ _
 have hs1 : W1.heap.size = w.heap.size + 2 := by rw [hW1]; simp
 have vP : VwB W1 P x (.slice a x.vs.length c0) := by
  unfold VwB
  rw [hW1, hPe, Below.heap_alloc _ _ _ (by simp)]
  exact heap_new _ _
 have vQ : VwB W1 Q VW0 (.slice none 0 0) := by
  have := heap_new (w.alloc (.cells #[.int .i64 x.cp, .int .i64 x.fr, .int .i64 x.nx, .slice a x.vs.length c0] 24)) (.cells #[.int .i64 0, .int .i64 0, .int .i64 0, .slice none 0 0] 24)
  rw [World.size_alloc, ← hW1, ← hQe] at this
  exact this
 have HCV : Hid (Calls Tryz.prog 10 #[viewA x a c0] W1 fun e w2 => ∃ a' c' us, e = .returned (viewA x a' c') ∧ OwV W1.heap.size w2 (.slice a' x.vs.length c') x.vs us ∧ Ap us ∧ Below W1.heap.size W1 w2) := CopyViewO_any x a c0 W1 (hM.szV.shV (by omega) (by omega)) ((hR.below b1).mono b1.size)
 have HFIN : Hid (∀ (w3 W Y : World) (C : Nat) (a' : Option Addr) (c' : Nat) (us : List Value), VwB w3 Q VW0 (.slice none 0 0) → VwB w3 C x (.slice a' x.vs.length c') → OwV W1.heap.size W (.slice a' (trnX x t).vs.length c') (trnX x t).vs us → Below W1.heap.size w3 W → Below w.heap.size w w3 → Y = put4 W Q x (.slice a' x.vs.length c') → VwB W Q VW0 (.slice none 0 0) → VwB Y Q x (.slice a' x.vs.length c') ∧ PQ (.returned (viewA x a' c')) Y) := fun w3 W Y C a' c' us _ _ how hb hb0 hY hq => by
  have bt := but_put4 W Q x (.slice a' x.vs.length c')
  rw [← hY] at bt
  have how2 := how.keep (w' := Y) fun g hg1 hg2 => bt.block g hg2 (by omega)
  have hb3 : W1.heap.size ≤ W.heap.size := by have := hq.lt; have := hb.size; have := hb0.size; omega
  refine ⟨by rw [hY]; exact hq.put4, ?_⟩
  rw [HPQ.out]
  refine ⟨a', c', us, ?_, owv_mono how2 (by omega), ?_⟩
  ·have : (trnX x t).vs.length = x.vs.length := trnX_len x t
   show Ending.returned (.agg #[.int .i64 x.cp, .int .i64 x.fr, .int .i64 x.nx, .slice a' x.vs.length c']) = Ending.returned (.agg #[.int .i64 x.cp, .int .i64 x.fr, .int .i64 x.nx, .slice a' (trnX x t).vs.length c'])
   rw [this]
  ·exact (hb0.trans (hb.mono (by omega))).trans (bt.below (by have := hb0.size; have := hb.size; omega) (fun k hk e => by omega))
 have HW1 := hid hW1
 have HPe := hid hPe.symm
 have HQe := hid hQe.symm
 have HVP := hid vP
 have HVQ := hid vQ
 have HB1 := hid b1
 have HS1 := hid hs1
 have HMP := hid hM
 clear hPQ hPe hQe hW1 b1 hs1 vP vQ hR hM
 dsimp only [viewA] at *
 go_enter Tryz.func18, Tryz.ntmps18
 go_wp2_with fail
 rw [← HW1.out, HQe.out, HPe.out]
 refine HCV.out.mono ?_
 rintro e w2 ⟨a', c', us, rfl, how, hap, hb2⟩
 obtain ⟨C, hCe⟩ : ∃ C, C = w2.heap.size := ⟨_, rfl⟩
 obtain ⟨w3, hw3⟩ : ∃ w3, w3 = w2.alloc (.cells #[.int .i64 x.cp, .int .i64 x.fr, .int .i64 x.nx, .slice a' x.vs.length c'] 24) := ⟨_, rfl⟩
 have b23 : Below w2.heap.size w2 w3 := by rw [hw3]; exact below1 _ _
 have vC : VwB w3 C x (.slice a' x.vs.length c') := by rw [hw3, hCe]; exact heap_new _ _
 have hb13 := hb2.trans (b23.mono hb2.size)
 have vQ3 := HVQ.out.keep (hb13.block Q HVQ.out.lt)
 have how3 := how.next b23
 have HGC : Hid (∀ g, (Value.slice a' x.vs.length c').ownBlock = some g → W1.heap.size ≤ g ∧ g < C) := fun g hg => by rw [hCe]; exact ⟨(own_blk how.row hg).1, (own_blk how.row hg).2.1⟩
 have HUC : Hid (∀ i (hi : i < us.length) g, us[i].ownBlock = some g → W1.heap.size ≤ g ∧ g < C) := fun i hi g hg => by rw [hCe]; exact ⟨(how.lst hi hg).1, (how.lst hi hg).2.1⟩
 have HBW : Hid (Below w.heap.size w w3) := HB1.out.trans (hb13.mono HB1.out.size)
 have HQC : Hid (Q < W1.heap.size ∧ W1.heap.size ≤ C) := ⟨HVQ.out.lt, by rw [hCe]; exact hb2.size⟩
 obtain ⟨⟨r0, r1, r2, r3⟩, _⟩ := vC.cs
 obtain ⟨⟨s0, s1, s2, s3⟩, sf⟩ := vQ3.cs
 have HVC := hid vC
 have HVQ3 := hid vQ3
 have HOW := hid how3
 have HAP := hid hap
 have HW3 := hid hw3
 have HCe := hid hCe
 clear HCV how hap hb2 hCe b23 vC hb13 vQ3 how3 hw3
 go_upto_region 2 with fail
 rw [← HW3.out, ← HCe.out]
 by_cases hn : x.vs.length = 0
 ·have HE : Hid (∀ Y, Y = put4 w3 Q x (.slice a' x.vs.length c') → VwB Y Q x (.slice a' x.vs.length c') ∧ PQ (.returned (.agg #[.int .i64 x.cp, .int .i64 x.fr, .int .i64 x.nx, .slice a' x.vs.length c'])) Y) := fun Y hY => HFIN.out w3 w3 Y C a' c' us HVQ3.out HVC.out (by rw [trnX_nil hn]; exact HOW.out) (Below.refl _ _) HBW.out hY HVQ3.out
  rw [hn] at HE r3
  rw [hn]
  clear hn
  go_wp2_with fail
  exact bodyPost_ret (results_row1 rfl _ _ Q 24 _ (0, 0) _ rfl (HE.out _ rfl).1 Tryz.underlying24 rfl (by kernel_rfl)) rfl (HE.out _ rfl).2
 ·have hnp : 0 < x.vs.length := by omega
  obtain ⟨g, rfl⟩ : ∃ g, a' = some ⟨g, 0, none⟩ := by
   rcases own_form HOW.out.row with ⟨_, e⟩ | ⟨g, c9, e, _⟩
   ·omega
   ·simp only [Value.slice.injEq] at e
    exact ⟨g, e.1⟩
  obtain ⟨k, hk⟩ : ∃ k, k = x.vs.length / 2 := ⟨_, rfl⟩
  have hkn : k < x.vs.length := by omega
  obtain ⟨hg1, hg2⟩ := HGC.out g rfl
  have hQg : g ≠ Q ∧ g ≠ C := ⟨by have := HQC.out; omega, by omega⟩
  have hln := HOW.out.len
  obtain ⟨q1, q2, q3, q4⟩ := len_wr x.vs.length k HMP.out.len hk
  have qk : (k : Int) < (x.vs.length : Int) := by omega
  have qk0 : 0 ≤ (k : Int) := by omega
  have qn : ¬ (x.vs.length : Int) = 0 := by omega
  have hvk := midV_get hnp
  have hmv : midV x = x.vs[k]'hkn := by rw [hvk]; simp only [hk]
  have HE : Hid (∀ (W : World) (b0 : Nat), But (fun y => y = b0) w3 W → W1.heap.size ≤ b0 → b0 < C → OwV W1.heap.size W (.slice (some ⟨g, 0, none⟩) x.vs.length c') (x.vs.set k (trnV t (x.vs[k]'hkn))) us → ((W.cell? ⟨Q, 0, none⟩ = some (.int .i64 0) ∧ W.cell? ⟨Q, 1, none⟩ = some (.int .i64 0) ∧ W.cell? ⟨Q, 2, none⟩ = some (.int .i64 0) ∧ W.cell? ⟨Q, 3, none⟩ = some (.slice none 0 0)) ∧ (∀ i, W.frozen? ⟨Q, i, none⟩ = false) ∧ (W.cell? ⟨C, 0, none⟩ = some (.int .i64 x.cp) ∧ W.cell? ⟨C, 1, none⟩ = some (.int .i64 x.fr) ∧ W.cell? ⟨C, 2, none⟩ = some (.int .i64 x.nx) ∧ W.cell? ⟨C, 3, none⟩ = some (.slice (some ⟨g, 0, none⟩) x.vs.length c')) ∧ ∀ Y, Y = put4 W Q x (.slice (some ⟨g, 0, none⟩) x.vs.length c') → VwB Y Q x (.slice (some ⟨g, 0, none⟩) x.vs.length c') ∧ PQ (.returned (.agg #[.int .i64 x.cp, .int .i64 x.fr, .int .i64 x.nx, .slice (some ⟨g, 0, none⟩) x.vs.length c'])) Y)) := fun W b0 hb h1 h2 how => by
   have kQ := HVQ3.out.keep (hb.block Q HVQ3.out.lt (by have := HQC.out; omega))
   have kC := HVC.out.keep (hb.block C HVC.out.lt (by omega))
   refine ⟨kQ.cs.1, kQ.cs.2, kC.cs.1, fun Y hY => ?_⟩
   refine HFIN.out w3 W Y C (some ⟨g, 0, none⟩) c' us HVQ3.out HVC.out ?_ (hb.below (by have := HVQ3.out.lt; have := HQC.out; have := HVC.out.lt; omega) (fun y hy e => by omega)) HBW.out hY kQ
   have e : (trnX x t).vs = x.vs.set k (trnV t (x.vs[k]'hkn)) := by
    show x.vs.set (x.vs.length / 2) (trnV t (midV x)) = _
    rw [hmv, ← hk]
   rw [e]
   rw [show (x.vs.set k (trnV t (x.vs[k]'hkn))).length = x.vs.length by simp]
   exact how
  have HVO := hid (HMP.out.vol _ (List.getElem_mem hkn))
  obtain ⟨v, hv⟩ : ∃ v, v = x.vs[k]'hkn := ⟨_, rfl⟩
  have hcell := fun i (u : Value) (hi : i < 7) (hu : (cells7 (x.vs[k]'hkn) (us[k]'(by omega)))[i]? = some u) => World.ownsRow.cells HOW.out.row (g := g) rfl (k * 7 + i) u (by rw [flatV_at x.vs us hln k hkn i hi]; exact hu)
  by_cases t1 : t = 1
  ·subst t1
   have d2 := hcell 2 (.int .i64 (x.vs[k]'hkn).sz) (by omega) rfl
   rw [Addr.add_lit, Nat.zero_add] at d2
   obtain ⟨z, hz⟩ : ∃ z, z = (x.vs[k]'hkn).sz := ⟨_, rfl⟩
   rw [← hz] at d2
   have HSW := hid (sz_wr z ⟨by rw [hz]; exact HVO.out.s1, by rw [hz]; exact HVO.out.s2⟩)
   have uf : w3.frozen? ⟨g, k * 7 + 2, none⟩ = false := HOW.out.row.frozenAt _
   obtain ⟨W, hW⟩ : ∃ W, W = w3.setCell ⟨g, k * 7 + 2, none⟩ (.int .i64 (min (z + 1) 262144)) := ⟨_, rfl⟩
   have hbt : But (fun y => y = g) w3 W := by rw [hW]; exact (But.refl (fun y => y = g) w3).setCell (p := ⟨g, k * 7 + 2, none⟩) rfl _
   have how2 : OwV W1.heap.size W (.slice (some ⟨g, 0, none⟩) x.vs.length c') (x.vs.set k (trnV 1 (x.vs[k]'hkn))) us := by
    have := HOW.out.setS hkn (min (z + 1) 262144)
    rw [← hW] at this
    have e : trnV 1 (x.vs[k]'hkn) = setSz (x.vs[k]'hkn) (min (z + 1) 262144) := by rw [hz]; rfl
    rw [e]; exact this
   obtain ⟨⟨y0, y1, y2, y3⟩, yf, ⟨m0, m1, m2, m3⟩, hfin⟩ := HE.out W g hbt hg1 hg2 how2
   have HF := hid hfin
   have HWW := hid hW
   obtain ⟨w91, w92⟩ := HSW.out
   obtain ⟨hQ1, hQ2⟩ := hQg
   clear hfin HE hcell hvk hmv hln hz hW hbt how2 hv s0 s1 s2 s3 sf hk
   go_upto_region 14 with fail
   rw [← HWW.out]
   go_wp2_with fail
   exact bodyPost_ret (results_row1 rfl _ _ Q 24 _ (0, 0) _ rfl (HF.out _ rfl).1 Tryz.underlying24 rfl (by kernel_rfl)) rfl (HF.out _ rfl).2
  ·by_cases t2 : t = 2
   ·subst t2
    have d2 := hcell 5 (.bool (x.vs[k]'hkn).pt) (by omega) rfl
    rw [Addr.add_lit, Nat.zero_add] at d2
    obtain ⟨z, hz⟩ : ∃ z, z = (x.vs[k]'hkn).pt := ⟨_, rfl⟩
    rw [← hz] at d2
    have uf : w3.frozen? ⟨g, k * 7 + 5, none⟩ = false := HOW.out.row.frozenAt _
    obtain ⟨W, hW⟩ : ∃ W, W = w3.setCell ⟨g, k * 7 + 5, none⟩ (.bool (!z)) := ⟨_, rfl⟩
    have hbt : But (fun y => y = g) w3 W := by rw [hW]; exact (But.refl (fun y => y = g) w3).setCell (p := ⟨g, k * 7 + 5, none⟩) rfl _
    have how2 : OwV W1.heap.size W (.slice (some ⟨g, 0, none⟩) x.vs.length c') (x.vs.set k (trnV 2 (x.vs[k]'hkn))) us := by
     have := HOW.out.setP hkn (!z)
     rw [← hW] at this
     have e : trnV 2 (x.vs[k]'hkn) = setPt (x.vs[k]'hkn) (!z) := by rw [hz]; rfl
     rw [e]; exact this
    obtain ⟨⟨y0, y1, y2, y3⟩, yf, ⟨m0, m1, m2, m3⟩, hfin⟩ := HE.out W g hbt hg1 hg2 how2
    have HF := hid hfin
    have HWW := hid hW
    obtain ⟨hQ1, hQ2⟩ := hQg
    clear hfin HE hcell hvk hmv hln hz hW hbt how2 hv s0 s1 s2 s3 sf hk
    go_upto_region 14 with fail
    rw [← HWW.out]
    go_wp2_with fail
    exact bodyPost_ret (results_row1 rfl _ _ Q 24 _ (0, 0) _ rfl (HF.out _ rfl).1 Tryz.underlying24 rfl (by kernel_rfl)) rfl (HF.out _ rfl).2
   ·have hsame : ∀ W, But (fun y => y = g) w3 W → (∀ y, y < w3.heap.size → W.heap[y]? = w3.heap[y]?) → trnV t (x.vs[k]'hkn) = (x.vs[k]'hkn) → OwV W1.heap.size W (.slice (some ⟨g, 0, none⟩) x.vs.length c') (x.vs.set k (trnV t (x.vs[k]'hkn))) us := fun W _ hk2 he => by
     rw [he, List.set_getElem_self]
     exact HOW.out.keep fun y _ hy => hk2 y hy
    by_cases t3 : t = 3
    ·subst t3
     have hu6 := hcell 6 (us[k]'(by omega)) (by omega) rfl
     rw [Addr.add_lit, Nat.zero_add] at hu6
     obtain ⟨ra, rc, eu, hrr, hrn⟩ := (HOW.out.dat k hkn).rd
     by_cases hm0 : (x.vs[k]'hkn).mp.length = 0
     ·have he : trnV 3 (x.vs[k]'hkn) = (x.vs[k]'hkn) := by
       unfold trnV
       rw [if_neg (by omega), if_neg (by omega), if_pos rfl, if_neg (by omega)]
      have hW := hsame w3.drew (But.of_below (below_drew _ _)) (fun _ _ => rfl) he
      obtain ⟨⟨y0, y1, y2, y3⟩, yf, ⟨m0, m1, m2, m3⟩, hfin⟩ : ((w3.cell? ⟨Q, 0, none⟩ = some (.int .i64 0) ∧ w3.cell? ⟨Q, 1, none⟩ = some (.int .i64 0) ∧ w3.cell? ⟨Q, 2, none⟩ = some (.int .i64 0) ∧ w3.cell? ⟨Q, 3, none⟩ = some (.slice none 0 0)) ∧ (∀ i, w3.frozen? ⟨Q, i, none⟩ = false) ∧ (w3.cell? ⟨C, 0, none⟩ = some (.int .i64 x.cp) ∧ w3.cell? ⟨C, 1, none⟩ = some (.int .i64 x.fr) ∧ w3.cell? ⟨C, 2, none⟩ = some (.int .i64 x.nx) ∧ w3.cell? ⟨C, 3, none⟩ = some (.slice (some ⟨g, 0, none⟩) x.vs.length c')) ∧ ∀ Y, Y = put4 w3.drew Q x (.slice (some ⟨g, 0, none⟩) x.vs.length c') → VwB Y Q x (.slice (some ⟨g, 0, none⟩) x.vs.length c') ∧ PQ (.returned (.agg #[.int .i64 x.cp, .int .i64 x.fr, .int .i64 x.nx, .slice (some ⟨g, 0, none⟩) x.vs.length c'])) Y) := HE.out w3.drew g (But.of_below (below_drew _ _)) hg1 hg2 hW
      have HF := hid hfin
      rw [eu, hm0] at hu6
      have w1m : wrap64 ((0 : Int) - 1) = -1 := pw64 (by omega)
      have w2m : IntKind.i64.wrap ((0 : Int) - 1) = -1 := by rw [IntKind.wrap_i64]; omega
      clear hfin HE hcell hvk hmv hln hv s0 s1 s2 s3 sf hk hsame he hW hrr hrn eu hm0
      go_upto_region 12 with fail
      refine Gz (S := (fun _ => True)) trivial (fun hSS => ?_)
      refine Ti 0 rfl ?_
      refine Ti 1 rfl ?_
      refine Ti 2 rfl ?_
      refine Si 3 rfl ?_
      try simp only [Act.put, zA, zB, zC]
      refine Si 4 rfl ?_
      refine Si 5 rfl ?_
      refine Si 6 rfl ?_
      refine Si 7 rfl ?_
      try simp only [Act.put, zA, zB, zC]
      refine Si 8 rfl ?_
      refine Si 9 rfl ?_
      refine Si 10 rfl ?_
      refine Si 11 rfl ?_
      try simp only [Act.put, zA, zB, zC]
      refine Si 12 rfl ?_
      refine Si 13 rfl ?_
      refine Si 14 rfl ?_
      refine Si 15 rfl ?_
      try simp only [Act.put, zA, zB, zC]
      refine Si 16 rfl ?_
      refine Si 17 rfl ?_
      refine Si 18 rfl ?_
      refine Si 19 rfl ?_
      try simp only [Act.put, zA, zB, zC]
      refine Si 20 rfl ?_
      refine Ti 21 rfl ?_
      try simp only [Act.put, zA, zB, zC]
      refine Dn ?_
      go_wp2_with fail
      exact bodyPost_ret (results_row1 rfl _ _ Q 24 _ (0, 0) _ rfl (HF.out _ rfl).1 Tryz.underlying24 rfl (by kernel_rfl)) rfl (HF.out _ rfl).2
     ·obtain ⟨m, hm⟩ : ∃ m, (x.vs[k]'hkn).mp.length = m + 1 := ⟨(x.vs[k]'hkn).mp.length - 1, by omega⟩
      obtain ⟨b, c2, hub⟩ : ∃ b c2, (us[k]'(by omega)) = .slice (some ⟨b, 0, none⟩) (m + 1) c2 := by
       rcases own_form (HOW.out.dat k hkn) with ⟨_, e⟩ | ⟨b, c9, e, _⟩
       ·omega
       ·exact ⟨b, c9, by rw [e, hm]⟩
      have hbo : (us[k]'(by omega)).ownBlock = some b := by rw [hub]; rfl
      obtain ⟨hb1, hb2⟩ := HUC.out k (by omega) b hbo
      have hdat := HOW.out.dat k hkn
      have f0 := World.ownsRow.cells hdat hbo (m * 2) _ (flatR_at (x.vs[k]'hkn).mp m (by omega)).1
      have f1 := World.ownsRow.cells hdat hbo (m * 2 + 1) _ (flatR_at (x.vs[k]'hkn).mp m (by omega)).2
      rw [Addr.add_lit, Nat.zero_add] at f0 f1
      have hlst : lstR (x.vs[k]'hkn).mp = (x.vs[k]'hkn).mp[m]'(by omega) := by
       unfold lstR
       rw [List.getD_eq_getElem?_getD, show (x.vs[k]'hkn).mp.length - 1 = m by omega, List.getElem?_eq_getElem (by omega)]
       rfl
      rw [← hlst] at f0 f1
      obtain ⟨zf, hzf⟩ : ∃ zf, zf = (lstR (x.vs[k]'hkn).mp).f := ⟨_, rfl⟩
      obtain ⟨z, hz⟩ : ∃ z, z = (lstR (x.vs[k]'hkn).mp).t := ⟨_, rfl⟩
      have hbd := HVO.out.mp.at' (i := m) (by omega)
      rw [← hlst, ← hzf, ← hz] at hbd
      rw [← hzf] at f0
      rw [← hz] at f1
      rw [hub] at hu6
      have ff : w3.frozen? ⟨b, m * 2 + 1, none⟩ = false := by
       obtain ⟨_, _, cur, hh⟩ := own_blk hdat hbo
       simp [World.frozen?, hh]
      have HWR := hid (mz_wr m z (by
       have h9 := hm
       have hd := HOW.out.dat k hkn
       have h8 := HVO.out.s2
       rcases NF.count HVO.out.mp with h7 | h7
       ·omega
       ·rw [h7] at h9; simp at h9) ⟨by omega, by have := HVO.out.s2; omega⟩)
      have qm : (m : Int) < (m : Int) + 1 := by omega
      have qm0 : 0 ≤ (m : Int) := by omega
      by_cases hc : zf < z - 1
      ·have HWQ : Hid (∀ (q : Nat) (W : World), W = (w3.drewN q).setCell ⟨b, m * 2 + 1, none⟩ (.int .i64 (z - 1)) → ((W.cell? ⟨Q, 0, none⟩ = some (.int .i64 0) ∧ W.cell? ⟨Q, 1, none⟩ = some (.int .i64 0) ∧ W.cell? ⟨Q, 2, none⟩ = some (.int .i64 0) ∧ W.cell? ⟨Q, 3, none⟩ = some (.slice none 0 0)) ∧ (∀ i, W.frozen? ⟨Q, i, none⟩ = false) ∧ (W.cell? ⟨C, 0, none⟩ = some (.int .i64 x.cp) ∧ W.cell? ⟨C, 1, none⟩ = some (.int .i64 x.fr) ∧ W.cell? ⟨C, 2, none⟩ = some (.int .i64 x.nx) ∧ W.cell? ⟨C, 3, none⟩ = some (.slice (some ⟨g, 0, none⟩) x.vs.length c')) ∧ ∀ Y, Y = put4 W Q x (.slice (some ⟨g, 0, none⟩) x.vs.length c') → VwB Y Q x (.slice (some ⟨g, 0, none⟩) x.vs.length c') ∧ PQ (.returned (.agg #[.int .i64 x.cp, .int .i64 x.fr, .int .i64 x.nx, .slice (some ⟨g, 0, none⟩) x.vs.length c'])) Y)) := fun q W hW => by
        have h0 : But (fun y => y = b) w3 (w3.drewN q) := ⟨rfl, rfl, rfl, Nat.le_refl _, fun _ _ _ => rfl⟩
        have hbt : But (fun y => y = b) w3 W := by rw [hW]; exact h0.setCell (p := ⟨b, m * 2 + 1, none⟩) rfl _
        refine HE.out W b hbt hb1 hb2 ?_
        have hq : OwV W1.heap.size (w3.drewN q) (.slice (some ⟨g, 0, none⟩) x.vs.length c') x.vs us := HOW.out.keep fun _ _ _ => rfl
        have := hq.setM HAP.out hkn hm hub (z - 1)
        rw [← hW] at this
        have e : trnV 3 (x.vs[k]'hkn) = setMp (x.vs[k]'hkn) (setT (x.vs[k]'hkn).mp (z - 1)) := by
         unfold trnV
         rw [if_neg (by omega), if_neg (by omega), if_pos rfl, if_pos ⟨by omega, by rw [← hzf, ← hz]; exact hc⟩, hz]
        rw [e]; exact this
       have HS13 : Hid ((fun u9 => (u9.cell? ⟨g, k * 7 + 6, none⟩ = some (.slice (some ⟨b, 0, none⟩) (m + 1) c2)) ∧ u9.cell? ⟨b, m * 2 + 1, none⟩ = some (.int .i64 z)) w3) := ⟨hu6, f1⟩
       have hc1 : decide (zf < z - 1) = true := decide_eq_true hc
       obtain ⟨hQ1, hQ2⟩ := hQg
       have hbQ : b ≠ Q ∧ b ≠ C := ⟨by have := HQC.out; omega, by omega⟩
       obtain ⟨hb3, hb4⟩ := hbQ
       obtain ⟨v1, v2, v3, v4, v5, v6⟩ := HWR.out
       clear HE hcell hvk hmv hln hv s0 s1 s2 s3 sf hk hsame hrr hrn eu hm0 hub hbo hdat hlst hzf hz hbd hm hb1 hb2 hg1 hg2
       go_upto_region 12 with fail
       go_quiet (fail)
       all_goals go_upto_region 13 with fail
       refine wp_region_last (S := (fun u9 => (u9.cell? ⟨g, k * 7 + 6, none⟩ = some (.slice (some ⟨b, 0, none⟩) (m + 1) c2)) ∧ u9.cell? ⟨b, m * 2 + 1, none⟩ = some (.int .i64 z))) 16 16 (by kernel_rfl) (by kernel_rfl) (by kernel_rfl) HS13.out (fun hSS => ?_)
       refine Ti 0 rfl ?_
       refine Ti 1 rfl ?_
       refine Ti 2 rfl ?_
       try simp only [Act.put, zA, zB, zC]
       refine Ti 3 rfl ?_
       refine Ti 4 rfl ?_
       refine Ti 5 rfl ?_
       refine Ti 6 rfl ?_
       try simp only [Act.put, zA, zB, zC]
       refine Ti 7 rfl ?_
       refine Ti 8 rfl ?_
       refine Ti 9 rfl ?_
       refine Ti 10 rfl ?_
       try simp only [Act.put, zA, zB, zC]
       refine Ti 11 rfl ?_
       refine Ti 12 rfl ?_
       refine Ti 13 rfl ?_
       refine Ti 14 rfl ?_
       try simp only [Act.put, zA, zB, zC]
       refine Ti 15 rfl ?_
       try simp only [Act.put, zA, zB, zC]
       refine Dn ?_
       refine last_step (L := 16) (o := ({ dst := none, op := Op.store 3 (Operand.tmp 89) (Operand.tmp 87), type := 0, pos := _, after := _, guard := none } : Oper)) rfl (fun K9 hK9 => ?_)
       go_simp
       refine hK9.out _ _ ?_
       try simp only [Act.put, zA, zB, zC]
       obtain ⟨U, hU⟩ : ∃ U, U = (w3.drewN (nq + 1)).setCell ⟨b, m * 2 + 1, none⟩ (.int .i64 (z - 1)) := ⟨_, rfl⟩
       rw [← hU]
       obtain ⟨⟨y0, y1, y2, y3⟩, yf, ⟨m0, m1, m2, m3⟩, hfin⟩ := HWQ.out (nq + 1) U hU
       have HF := hid hfin
       clear hU HWQ hfin HS13 hu6 f0 f1 ff
       go_wp2_with fail
       exact bodyPost_ret (results_row1 rfl _ _ Q 24 _ (0, 0) _ rfl (HF.out _ rfl).1 Tryz.underlying24 rfl (by kernel_rfl)) rfl (HF.out _ rfl).2
      ·have he : trnV 3 (x.vs[k]'hkn) = (x.vs[k]'hkn) := by
        unfold trnV
        rw [if_neg (by omega), if_neg (by omega), if_pos rfl, if_neg (by rw [← hzf, ← hz]; exact fun q => hc q.2)]
       obtain ⟨⟨y0, y1, y2, y3⟩, yf, ⟨m0, m1, m2, m3⟩, _⟩ := HE.out w3 g (But.refl _ _) hg1 hg2 (hsame w3 (But.refl _ _) (fun _ _ => rfl) he)
       have HF : Hid (∀ q Y, Y = put4 (w3.drewN q) Q x (.slice (some ⟨g, 0, none⟩) x.vs.length c') → VwB Y Q x (.slice (some ⟨g, 0, none⟩) x.vs.length c') ∧ PQ (.returned (.agg #[.int .i64 x.cp, .int .i64 x.fr, .int .i64 x.nx, .slice (some ⟨g, 0, none⟩) x.vs.length c'])) Y) := fun q Y hY => (HE.out (w3.drewN q) g ⟨rfl, rfl, rfl, Nat.le_refl _, fun _ _ _ => rfl⟩ hg1 hg2 (hsame (w3.drewN q) ⟨rfl, rfl, rfl, Nat.le_refl _, fun _ _ _ => rfl⟩ (fun _ _ => rfl) he)).2.2.2 Y hY
       have hc1 : decide (zf < z - 1) = false := decide_eq_false hc
       obtain ⟨v1, v2, v3, v4, v5, v6⟩ := HWR.out
       clear HE hcell hvk hmv hln hv s0 s1 s2 s3 sf hk hsame hrr hrn eu hm0 hub hbo hdat hlst hzf hz hbd hm hb1 hb2 hg1 hg2 he
       go_upto_region 12 with fail
       go_quiet (fail)
       all_goals go_wp2_with fail
       all_goals exact bodyPost_ret (results_row1 rfl _ _ Q 24 _ (0, 0) _ rfl (HF.out _ _ rfl).1 Tryz.underlying24 rfl (by kernel_rfl)) rfl (HF.out _ _ rfl).2
    ·have he : trnV t (x.vs[k]'hkn) = (x.vs[k]'hkn) := by
      unfold trnV
      rw [if_neg t1, if_neg t2, if_neg t3]
     have hW := hsame w3 (But.refl _ _) (fun _ _ => rfl) he
     obtain ⟨⟨y0, y1, y2, y3⟩, yf, ⟨m0, m1, m2, m3⟩, hfin⟩ := HE.out w3 g (But.refl _ _) hg1 hg2 hW
     have HF := hid hfin
     have b1 : (t == 1) = false := by simpa using t1
     have b2 : (t == 2) = false := by simpa using t2
     have b3 : (t == 3) = false := by simpa using t3
     have c1 : ((t : Int) == 1) = false := by simp; omega
     have c2 : ((t : Int) == 2) = false := by simp; omega
     have c3 : ((t : Int) == 3) = false := by simp; omega
     clear hfin HE hcell hvk hmv hln hv s0 s1 s2 s3 sf hk hsame he hW
     go_upto_region 14 with fail
     go_wp2_with fail
     exact bodyPost_ret (results_row1 rfl _ _ Q 24 _ (0, 0) _ rfl (HF.out _ rfl).1 Tryz.underlying24 rfl (by kernel_rfl)) rfl (HF.out _ rfl).2
end Go.Proofs.YtddddfankeepkaaGreatDoor
