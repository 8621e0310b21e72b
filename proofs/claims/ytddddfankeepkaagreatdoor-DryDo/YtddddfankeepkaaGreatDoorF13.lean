import Derived.Test.YtddddfankeepkaaGreatDoorF12
import Derived.Deep.DeepCutAuto
import Derived.Test.YtddddfankeepkaaGreatDoorF10
namespace Go.Proofs.YtddddfankeepkaaGreatDoor
open Go.RowKit
def setMp (v : PV) (rs : List Rg) : PV := ⟨v.nm, v.id, v.sz, v.og, v.kd, v.pt, rs⟩
def setSz (v : PV) (n : Int) : PV := ⟨v.nm, v.id, n, v.og, v.kd, v.pt, v.mp⟩
def setNm (v : PV) (s : ByteArray) : PV := ⟨s, v.id, v.sz, v.og, v.kd, v.pt, v.mp⟩
theorem flatV_set6 : ∀ (vs : List PV) (us : List Value) (k : Nat) (hk : k < vs.length) (rs : List Rg) (z : Value), us.length = vs.length → flatV (vs.set k (setMp vs[k] rs)) (us.set k z) = (flatV vs us).set (k * 7 + 6) z
 | [], _, k, hk, _, _, _ => by simp at hk
 | _ :: _, [], _, _, _, _, h => by simp at h
 | x :: ts, y :: us, 0, _, rs, z, _ => by simp [flatV, cells7, setMp]
 | x :: ts, y :: us, k + 1, hk, rs, z, hl => by
  have ih := flatV_set6 ts us k (by simpa using hk) rs z (by simpa using hl)
  simp only [List.getElem_cons_succ]
  rw [List.set_cons_succ, List.set_cons_succ, flatV, ih, flatV, show (k + 1) * 7 + 6 = k * 7 + 6 + 7 by omega]
  simp [cells7]
theorem flatV_set2 : ∀ (vs : List PV) (us : List Value) (k : Nat) (hk : k < vs.length) (n : Int), us.length = vs.length → flatV (vs.set k (setSz vs[k] n)) us = (flatV vs us).set (k * 7 + 2) (.int .i64 n)
 | [], _, k, hk, _, _ => by simp at hk
 | _ :: _, [], _, _, _, h => by simp at h
 | x :: ts, y :: us, 0, _, n, _ => by simp [flatV, cells7, setSz]
 | x :: ts, y :: us, k + 1, hk, n, hl => by
  have ih := flatV_set2 ts us k (by simpa using hk) n (by simpa using hl)
  simp only [List.getElem_cons_succ]
  rw [List.set_cons_succ, flatV, ih, flatV, show (k + 1) * 7 + 2 = k * 7 + 2 + 7 by omega]
  simp [cells7]
theorem DrV.upd {B : Nat} {w w3 : World} {D : Nat} {x : VW} {c : Nat} {us : List Value} {o : OW} {dv : Value} {pn po : Int} {g k : Nat} {z : Value} {rs : List Rg} (H : DrV B w D x (.slice (some ⟨g, 0, none⟩) x.vs.length c) us o dv pn po) (hB : B ≤ w.heap.size) (hk : k < x.vs.length) (hu : k < us.length) (hz : OwR B w3 z rs) (hgr : w.grownBy w3 us[k].ownBlock) (hob : OwnB w us[k] z) :
  DrV B (w3.setCell ⟨g, k * 7 + 6, none⟩ z) D ⟨x.cp, x.fr, x.nx, x.vs.set k (setMp x.vs[k] rs)⟩ (.slice (some ⟨g, 0, none⟩) x.vs.length c) (us.set k z) o dv pn po ∧ w3.frozen? ⟨g, k * 7 + 6, none⟩ = false ∧ BelK B w (w3.setCell ⟨g, k * 7 + 6, none⟩ z) ∧ DrB w3 D x (.slice (some ⟨g, 0, none⟩) x.vs.length c) o dv pn po := by
 have hg : (Value.slice (some ⟨g, 0, none⟩) x.vs.length c).ownBlock = some g := rfl
 have hl := H.ow.len
 have hD : w3.heap[D]? = w.heap[D]? := hgr.block D H.dr.lt (fun e => H.ne.2 k hu e.symm)
 have hrow : w3.ownsRow B 38 7 (.slice (some ⟨g, 0, none⟩) x.vs.length c) x.vs.length (flatV x.vs us) := own_keep H.ow.row fun y hy => hgr.block y (H.ow.blk hy).2.1 (fun e => H.ow.ne hy hu e.symm)
 have hDg : D ≠ g := fun e => H.ne.1 (by rw [e]; rfl)
 have hst := (hrow.stored (k * 7 + 6) z).1
 obtain ⟨hBg, hgl, cur, hc⟩ := H.ow.blk hg
 have hzg : z.ownBlock ≠ some g := fun e => by
  obtain ⟨_, _, cz, hcz⟩ := own_blk hz e
  have := hgr.block g hgl (fun e => H.ow.ne hg hu e.symm)
  rw [this, hc] at hcz
  simp at hcz
 refine ⟨⟨?_, ⟨by simp [hl], ?_, fun i hi => ?_⟩, H.ap.set k (fun i hi b hne hb e => ?_), H.hD⟩, hrow.frozenAt _, (BelK.grown hgr hB (fun b e => KdOk.own (H.ow.dat k hk) e (by decide) (by decide))).set (p := ⟨g, k * 7 + 6, none⟩) hBg (KdOk.own hrow rfl (by decide) (by decide)).2 z, H.dr.keep hD⟩
 ·exact (H.dr.keep hD).keep (Below.heap_setCell _ _ _ _ hDg)
 ·rw [flatV_set6 x.vs us k hk rs z hl]
  simpa using hst
 ·have hi' : i < x.vs.length := by simpa using hi
  simp only [List.getElem_set]
  by_cases e : k = i
  ·subst e
   rw [if_pos rfl, if_pos rfl]
   exact own_set hz (p := ⟨g, k * 7 + 6, none⟩) hzg z
  ·rw [if_neg e, if_neg e]
   refine own_set (own_keep (H.ow.dat i hi') fun y hy => hgr.block y (own_blk (H.ow.dat i hi') hy).2.1 (fun e2 => e (H.ap k i hu (by omega) y e2.symm hy))) (p := ⟨g, k * 7 + 6, none⟩) (fun e2 => H.ow.ne hg (by omega) e2) z
 ·rcases hob b e with h | h
  ·exact hne (H.ap i k hi hu b hb h)
  ·have := (H.ow.lst hi hb).2.1
   omega
theorem DrV.updS {B : Nat} {w : World} {D : Nat} {x : VW} {c : Nat} {us : List Value} {o : OW} {dv : Value} {pn po : Int} {g k : Nat} (n : Int) (H : DrV B w D x (.slice (some ⟨g, 0, none⟩) x.vs.length c) us o dv pn po) (hk : k < x.vs.length) :
  DrV B (w.setCell ⟨g, k * 7 + 2, none⟩ (.int .i64 n)) D ⟨x.cp, x.fr, x.nx, x.vs.set k (setSz x.vs[k] n)⟩ (.slice (some ⟨g, 0, none⟩) x.vs.length c) us o dv pn po := by
 have hg : (Value.slice (some ⟨g, 0, none⟩) x.vs.length c).ownBlock = some g := rfl
 have hl := H.ow.len
 have hDg : D ≠ g := fun e => H.ne.1 (by rw [e]; rfl)
 have hst := (H.ow.row.stored (k * 7 + 2) (.int .i64 n)).1
 refine ⟨H.dr.keep (Below.heap_setCell _ _ _ _ hDg), ⟨by simp [hl], ?_, fun i hi => ?_⟩, H.ap, H.hD⟩
 ·rw [flatV_set2 x.vs us k hk n hl]
  simpa using hst
 ·have hi' : i < x.vs.length := by simpa using hi
  have e : ((x.vs.set k (setSz x.vs[k] n))[i]'(by simpa using hi)).mp = x.vs[i].mp := by
   rw [List.getElem_set]
   split
   ·subst_vars; rfl
   ·rfl
  have := own_set (H.ow.dat i hi') (p := ⟨g, k * 7 + 2, none⟩) (fun e2 => H.ow.ne hg (by omega) e2) (.int .i64 n)
  unfold OwR
  rw [e]
  exact this
end Go.Proofs.YtddddfankeepkaaGreatDoor
namespace Go.Proofs.YtddddfankeepkaaGreatDoor
open Go.RowKit
theorem owv_mono {B B' : Nat} {w : World} {v : Value} {os : List PV} {us : List Value} (h : OwV B w v os us) (hb : B' ≤ B) : OwV B' w v os us := ⟨h.len, own_mono h.row hb, fun i hi => own_mono (h.dat i hi) hb⟩
theorem Ap.push {us : List Value} (h : Ap us) {u : Value} (hu : ∀ i (hi : i < us.length) g, us[i].ownBlock = some g → u.ownBlock ≠ some g) : Ap (us ++ [u]) := by
 intro i j hi hj g h1 h2
 rw [List.length_append, List.length_singleton] at hi hj
 by_cases e1 : i < us.length
 ·rw [List.getElem_append_left e1] at h1
  by_cases e2 : j < us.length
  ·rw [List.getElem_append_left e2] at h2
   exact h i j e1 e2 g h1 h2
  ·rw [List.getElem_append_right (by omega)] at h2
   simp at h2
   exact absurd h2 (hu i e1 g h1)
 ·rw [List.getElem_append_right (by omega)] at h1
  simp at h1
  by_cases e2 : j < us.length
  ·rw [List.getElem_append_left e2] at h2
   exact absurd h1 (hu j e2 g h2)
  ·omega
structure CvT (w wr : World) (R Q C : Nat) (x : VW) (a : Option Addr) (c : Nat) (u : Value) (r : Nat) : Prop where
 pb : VwB wr R x (.slice a x.vs.length c)
 rb : VwB wr Q VW0 (.slice none 0 0)
 cb : VwB wr C x u
 ow : ∃ us, OwV (C + 1) wr u (x.vs.take r) us ∧ Ap us
 bel : Below w.heap.size w wr
set_option maxRecDepth 100000 in
set_option maxHeartbeats 4000000 in
theorem CopyViewO_any (x : VW) (a : Option Addr) (c : Nat) (w : World) (hl : shV x.vs) (hR : RdV w.heap.size w a x.vs) :
  Calls Tryz.prog 10 #[viewA x a c] w fun e w' => ∃ a' c' us, e = .returned (viewA x a' c') ∧ OwV w.heap.size w' (.slice a' x.vs.length c') x.vs us ∧ Ap us ∧ Below w.heap.size w w' := by
 obtain ⟨R, hRR⟩ : ∃ R, R = w.heap.size := ⟨_, rfl⟩
 obtain ⟨Q, hQQ⟩ : ∃ Q, Q = R + 1 := ⟨_, rfl⟩
 obtain ⟨C, hCC⟩ : ∃ C, C = R + 2 := ⟨_, rfl⟩
 have HSTEP : Hid (∀ (wr : World) (r : Nat) (hr : r < x.vs.length) (u : Value), CvT w wr R Q C x a c u r → ∃ b off a1 c1, a = some ⟨b, off, none⟩ ∧ VolC wr b (off + r * 7) x.vs[r] a1 c1 ∧
   Calls Tryz.prog 33 #[volA x.vs[r] a1 c1] wr.drew fun e w2 => ∃ va vn vc ua un uc w', e = .returned (.agg #[.string x.vs[r].nm, .int .i64 x.vs[r].id, .int .i64 x.vs[r].sz, .int .i64 x.vs[r].og, .int .i64 x.vs[r].kd, .bool x.vs[r].pt, .slice va vn vc]) ∧ w2.cell? ⟨C, 3, none⟩ = some u ∧ C < w2.heap.size ∧
    (Builtin.append_ #[22, 22] 22 #[u, .slice (some ⟨w2.heap.size, 0, none⟩) 1 1]).run Tryz.prog (w2.alloc (.cells #[.string x.vs[r].nm, .int .i64 x.vs[r].id, .int .i64 x.vs[r].sz, .int .i64 x.vs[r].og, .int .i64 x.vs[r].kd, .bool x.vs[r].pt, .slice va vn vc] 38)) = .ok (.slice ua un uc) w' ∧
    w'.cell? ⟨C, 3, none⟩ = some u ∧ w'.frozen? ⟨C, 3, none⟩ = false ∧ CvT w (w'.setCell ⟨C, 3, none⟩ (.slice ua un uc)) R Q C x a c (.slice ua un uc) (r + 1)) := by
  intro wr r hr u hS
  have hR2 := hR.below hS.bel
  obtain ⟨b, off, rfl, hbl, hc⟩ := hR2.resolve_left (fun e => by rw [e] at hr; simp at hr)
  obtain ⟨a1, c1, hV, r1, ha⟩ := hc r hr
  refine ⟨b, off, a1, c1, rfl, hV, (CopyVolume_any x.vs[r] a1 c1 wr.drew ((r1.below (below_drew _ _)).mono hS.bel.size) ha (hl.2 _ (List.getElem_mem hr))).mono ?_⟩
  rintro e w2 ⟨va, vc, rfl, ho, hb2⟩
  have hb2' : Below wr.heap.size wr w2 := (below_drew _ _).trans hb2
  obtain ⟨us, how, hap⟩ := hS.ow
  have b3 : Below w2.heap.size w2 (w2.alloc (.cells #[.string x.vs[r].nm, .int .i64 x.vs[r].id, .int .i64 x.vs[r].sz, .int .i64 x.vs[r].og, .int .i64 x.vs[r].kd, .bool x.vs[r].pt, .slice va x.vs[r].mp.length vc] 38)) := below1 _ _
  have hz := hb2'.size
  have hz3 := b3.size
  have q2 := hS.cb.lt
  have how2 := (how.next hb2').next b3
  have hb23 := hb2'.trans (b3.mono hz)
  obtain ⟨u', w', hr', hL, hg⟩ := how2.push 22 x.vs[r] va vc (own_next (own_mono ho (by show C + 1 ≤ wr.drew.heap.size; exact q2)) b3) (g := w2.heap.size) (heap_new _ _) (by rw [List.length_take]; have := hl.1; omega) (by omega)
  obtain ⟨ua, uc, rfl, _, _⟩ := hL.rd
  generalize (List.take r x.vs ++ [x.vs[r]]).length = un at *
  have k0 : ∀ g, g < C + 1 → w'.heap[g]? = wr.heap[g]? := fun g hgl => (hg.block g hgl).trans (hb23.block g (by omega))
  have p1 := hS.pb.keep (k0 R (by omega))
  have p2 := hS.rb.keep (k0 Q (by omega))
  have p3 := hS.cb.keep (k0 C (by omega))
  have p4 := (hS.cb.keep (hb2'.block _ q2)).cs.1.2.2.2
  have bt : But (fun g => g = C) w' (w'.setCell ⟨C, 3, none⟩ (.slice ua un uc)) := (But.refl (fun g => g = C) w').setCell (p := ⟨C, 3, none⟩) rfl _
  refine ⟨va, _, vc, ua, un, uc, w', rfl, p4, by omega, hr', p3.cs.1.2.2.2, p3.cs.2 3, ⟨p1.keep (bt.block _ p1.lt (by omega)), p2.keep (bt.block _ p2.lt (by omega)), p3.set3 _, ⟨us ++ [.slice va x.vs[r].mp.length vc], ?_, hap.push fun i hi g hg e => by
   have h1 := (own_blk (how.dat i (by have := how.len; omega)) hg).2.1
   have h2 := (own_blk ho e).1
   simp at h2
   omega⟩, ?_⟩⟩
  ·rw [List.take_succ_eq_append_getElem hr]
   exact hL.keep fun g hg1 hg2 => bt.block g hg2 (by omega)
  ·have := hS.bel.trans (hb23.mono hS.bel.size)
   have q4 := hg.size
   have q5 := hS.bel.size
   exact (this.trans (hg.mono (by omega))).trans (bt.below (by omega) (fun g hg e => by omega))
 have HEND : Hid (∀ (wr : World) (u : Value), CvT w wr R Q C x a c u x.vs.length → ∃ a' c', u = .slice a' x.vs.length c' ∧ VwB wr Q VW0 (.slice none 0 0) ∧ VwB wr C x (.slice a' x.vs.length c') ∧ VwB (put4 wr Q x (.slice a' x.vs.length c')) Q x (.slice a' x.vs.length c') ∧ (∃ us, OwV w.heap.size (put4 wr Q x (.slice a' x.vs.length c')) (.slice a' x.vs.length c') x.vs us ∧ Ap us) ∧ Below w.heap.size w (put4 wr Q x (.slice a' x.vs.length c'))) := by
  intro wr u hS
  obtain ⟨us, how, hap⟩ := hS.ow
  rw [List.take_length] at how
  obtain ⟨a', c', rfl, _, _⟩ := how.rd
  have bt := but_put4 wr Q x (.slice a' x.vs.length c')
  have how2 : OwV (C + 1) (put4 wr Q x (.slice a' x.vs.length c')) (.slice a' x.vs.length c') x.vs us := how.keep fun g hg1 hg2 => bt.block g hg2 (by omega)
  exact ⟨a', c', rfl, hS.rb, hS.cb, hS.rb.put4, ⟨us, owv_mono how2 (by omega), hap⟩, hS.bel.trans (bt.below hS.bel.size (fun g hg e => by omega))⟩
 have HL1 := hl.1
 have ST : CvT w ((((w.alloc (.cells #[.int .i64 x.cp, .int .i64 x.fr, .int .i64 x.nx, .slice a x.vs.length c] 24)).alloc (.cells #[.int .i64 0, .int .i64 0, .int .i64 0, .slice none 0 0] 24)).alloc (.cells #[.int .i64 x.cp, .int .i64 x.fr, .int .i64 x.nx, .slice (some ⟨C + 1, 0, none⟩) 0 0] 24)).alloc (.cells #[] 38)) R Q C x a c (.slice (some ⟨C + 1, 0, none⟩) 0 0) 0 := by
  have b4 : Below w.heap.size w ((((w.alloc (.cells #[.int .i64 x.cp, .int .i64 x.fr, .int .i64 x.nx, .slice a x.vs.length c] 24)).alloc (.cells #[.int .i64 0, .int .i64 0, .int .i64 0, .slice none 0 0] 24)).alloc (.cells #[.int .i64 x.cp, .int .i64 x.fr, .int .i64 x.nx, .slice (some ⟨C + 1, 0, none⟩) 0 0] 24)).alloc (.cells #[] 38)) := ((two_below w _ _).alloc (by simp; omega) _).alloc (by simp; omega) _
  subst hRR hQQ hCC
  refine ⟨?_, ?_, ?_, ⟨[], ⟨rfl, ⟨rfl, .inr ⟨w.heap.size + 2 + 1, 0, #[], rfl, Nat.le_refl _, ?_, Nat.le_refl _, Nat.zero_le _, rfl, rfl⟩⟩, fun i h => by simp at h⟩, fun i j hi => by simp at hi⟩, b4⟩
  ·unfold VwB
   rw [Below.heap_alloc _ _ _ (by simp; omega), Below.heap_alloc _ _ _ (by simp; omega), Below.heap_alloc _ _ _ (by simp)]
   exact heap_new _ _
  ·unfold VwB
   rw [Below.heap_alloc _ _ _ (by simp), Below.heap_alloc _ _ _ (by simp)]
   have := heap_new (w.alloc (.cells #[.int .i64 x.cp, .int .i64 x.fr, .int .i64 x.nx, .slice a x.vs.length c] 24)) (.cells #[.int .i64 0, .int .i64 0, .int .i64 0, .slice none 0 0] 24)
   rw [World.size_alloc] at this
   exact this
  ·unfold VwB
   rw [Below.heap_alloc _ _ _ (by simp)]
   have := heap_new ((w.alloc (.cells #[.int .i64 x.cp, .int .i64 x.fr, .int .i64 x.nx, .slice a x.vs.length c] 24)).alloc (.cells #[.int .i64 0, .int .i64 0, .int .i64 0, .slice none 0 0] 24)) (.cells #[.int .i64 x.cp, .int .i64 x.fr, .int .i64 x.nx, .slice (some ⟨w.heap.size + 2 + 1, 0, none⟩) 0 0] 24)
   rw [World.size_alloc, World.size_alloc] at this
   exact this
  ·have := heap_new (((w.alloc (.cells #[.int .i64 x.cp, .int .i64 x.fr, .int .i64 x.nx, .slice a x.vs.length c] 24)).alloc (.cells #[.int .i64 0, .int .i64 0, .int .i64 0, .slice none 0 0] 24)).alloc (.cells #[.int .i64 x.cp, .int .i64 x.fr, .int .i64 x.nx, .slice (some ⟨w.heap.size + 2 + 1, 0, none⟩) 0 0] 24)) (.cells #[] 38)
   rw [World.size_alloc, World.size_alloc, World.size_alloc] at this
   exact this
 have HST := hid ST
 have E3 : w.heap.size + 1 + 1 = C := by omega
 have E2 : w.heap.size + 1 = Q := by omega
 have E1 := hRR.symm
 have HE := hid (And.intro E1 (And.intro E2 E3))
 clear hR hl ST hRR hQQ hCC E1 E2 E3
 dsimp only [viewA]
 go_enter Tryz.func10, Tryz.ntmps10
 go_wp2_with fail
 rw [HE.out.2.2, HE.out.2.1, HE.out.1]
 go_loopw [4] (fun i wr => ∃ (r : Nat) (u : Value), r ≤ x.vs.length ∧ i = .int .i64 (r : Int) ∧ CvT w wr R Q C x a c u r) (fun i _ => x.vs.length - (intOf i).toNat)
 case atStart => exact ⟨0, _, Nat.zero_le _, rfl, HST.out⟩
 case round =>
  clear HST
  obtain ⟨r, u, hr, rfl, hS⟩ := hrel
  obtain ⟨⟨p0, p1, p2, p3⟩, pf⟩ := hS.pb.cs
  obtain ⟨⟨q0, q1, q2, q3⟩, qf⟩ := hS.cb.cs
  clear p0 p1 p2 q0 q1 q2
  by_cases hlt : r < x.vs.length
  ·obtain ⟨b, off, a1, c1, rfl, ⟨c0, c1, c2, c3, c4, c5, c6⟩, hC⟩ := HSTEP.out wr r hlt _ hS
   have HC := hid hC
   have hr1 : (r : Int) < (x.vs.length : Int) := by omega
   clear hC hS HSTEP HEND
   dsimp only [volA] at HC
   generalize x.vs[r] = v at *
   go_wp2_with fail
   go_region_law (first
    | (go_simp; go_at_call 33; refine Calls.mono HC.out ?_; rintro e w2 ⟨va, vn, vc, ua, un, uc, w', rfl, k3, hlt2, hrun, g3, gf, hS2⟩; have HS2 := hid hS2; have ka3 : (w2.alloc (.cells #[.string v.nm, .int .i64 v.id, .int .i64 v.sz, .int .i64 v.og, .int .i64 v.kd, .bool v.pt, .slice va vn vc] 38)).cell? ⟨C, 3, none⟩ = some u := (World.cell?_alloc_past _ _ _ hlt2).trans k3; clear hS2; dsimp only)
    | (refine step_append_run rfl _ _ _ _ (by rfl) _ _ (by rfl) (by rfl) _ _ (by exact hrun) ?_))
   all_goals
    clear k3 hlt2 hrun g3 gf ka3 HC c0 c1 c2 c3 c4 c5 c6
    go_wp2
    go_roundw
    case rel => exact ⟨r + 1, _, by omega, by go_num, HS2.out⟩
    case measure => simp [intOf]; omega
  ·have e : r = x.vs.length := by omega
   subst e
   obtain ⟨a', c', rfl, t1, t2, t3, ⟨us, t4, t5⟩, t6⟩ := HEND.out wr u hS
   obtain ⟨⟨g0, g1, g2, g3⟩, gf⟩ := t1.cs
   obtain ⟨⟨h0, h1, h2, h3⟩, hf⟩ := t2.cs
   have T3 := hid t3
   have T4 := hid t4
   have T5 := hid t5
   have T6 := hid t6
   clear t1 t2 t3 t4 t5 t6 HSTEP HEND hS
   go_wp2_with fail
   have HFin : Hid (∀ y, y = put4 wr Q x (.slice a' x.vs.length c') → VwB y Q x (.slice a' x.vs.length c') ∧ OwV w.heap.size y (.slice a' x.vs.length c') x.vs us ∧ Ap us ∧ Below w.heap.size w y) := by
    rintro y rfl
    exact ⟨T3.out, T4.out, T5.out, T6.out⟩
   exact bodyPost_ret (results_row1 rfl _ _ Q 24 _ (0, 0) _ rfl (HFin.out _ rfl).1 Tryz.underlying24 rfl (by kernel_rfl)) rfl ⟨a', c', us, rfl, (HFin.out _ rfl).2⟩
end Go.Proofs.YtddddfankeepkaaGreatDoor
namespace Go.Proofs.YtddddfankeepkaaGreatDoor
open Go.RowKit
set_option maxRecDepth 100000 in
set_option maxHeartbeats 8000000 in
theorem write_any (B D : Nat) (x : VW) (u : Value) (us : List Value) (o : OW) (dv : Value) (k : Nat) (po : Int) (w : World) (H : DrV B w D x u us o dv (k : Int) po) (hk : k < x.vs.length) (hl : shV x.vs) (hB : B ≤ w.heap.size) :
  Calls Tryz.prog 70 #[.pointer (some ⟨D, 0, none⟩)] w fun e w' => DoQ B w D ⟨x.cp, x.fr, x.nx, x.vs.set k (setMp x.vs[k] (joinP x.vs[k].mp ⟨o.fr, wrap64 (o.fr + 1)⟩))⟩ o dv (k : Int) po e w' := by
 obtain ⟨g, c, sa, sc, rfl, hg, hus, hV, hn, _⟩ := H.ow.volc hk
 have hu : k < us.length := by rw [H.ow.len]; exact hk
 have hs16 : x.vs[k].mp.length ≤ 16777216 := hl.2 _ (List.getElem_mem hk)
 have HS2 := hid (volume_any D x g 0 x.vs.length c k o dv po w H.dr hk)
 have hDl := H.dr.lt
 have hgl := (H.ow.blk hg).2.1
 have hne := H.ow.ne hg hu
 rw [hus] at hne
 have HU : Hid (∀ W2, W2.heap = w.heap → Below w.heap.size w W2 → DrV B W2 D x (.slice (some ⟨g, 0, none⟩) x.vs.length c) us o dv (k : Int) po) := fun W2 _ hb => H.next hb
 have HUS := hid hus
 have HL := hid hs16
 have HHB := hid hB
 have HHU := hid hu
 generalize hs : x.vs[k] = s at *
 obtain ⟨_, _, _, _, _, _, k6⟩ := hV
 have HHS := hid hs
 have HHK := hid hk
 have HK6 := hid k6
 have HDG : Hid (D < w.heap.size ∧ g < w.heap.size ∧ D ≠ g) := ⟨hDl, hgl, fun e => H.ne.1 (by rw [hg, e])⟩
 have HNE := hid hne
 clear hus hn hs k6 hs16 hl hgl hDl hB hg hne
 go_enter Tryz.func70, Tryz.ntmps70
 go_wp2_with fail
 refine HS2.out.mono ?_
 rintro e w2 ⟨rfl, q, rfl⟩
 obtain ⟨W2, hW2⟩ : ∃ W2, W2 = w.drewN q := ⟨_, rfl⟩
 have hH2 : W2.heap = w.heap := by rw [hW2]; rfl
 have hb2 : Below w.heap.size w W2 := by rw [hW2]; exact below_drewN' _ _ _
 have H2 := HU.out W2 hH2 hb2
 rw [← hW2]
 simp only [Nat.zero_add]
 obtain ⟨_, _, _, _, _, _, _, k7, k8, _⟩ := H2.dr.cs
 have k6 : W2.cell? ⟨g, k * 7 + 6, none⟩ = some (.slice sa s.mp.length sc) := by rw [← HK6.out]; simp only [World.cell?, hH2]
 have hw1 : IntKind.i64.wrap (o.fr + 1) = wrap64 (o.fr + 1) := by rw [IntKind.wrap_i64]; unfold wrap64; omega
 obtain ⟨r, hr⟩ : ∃ r : Rg, r = ⟨o.fr, wrap64 (o.fr + 1)⟩ := ⟨_, rfl⟩
 obtain ⟨W3, hW3⟩ : ∃ W3, W3 = (W2.alloc (.cells #[.int .i64 o.fr, .int .i64 (wrap64 (o.fr + 1))] 78)).drew := ⟨_, rfl⟩
 have b3 : Below W2.heap.size W2 W3 := by rw [hW3]; exact below_dr (below1 _ _)
 have H3 := H2.next b3
 have hR3 : RgB W3 W2.heap.size r := by rw [hW3]; rw [hr]; exact heap_new W2 _
 have hd3 := H3.ow.dat k HHK.out
 rw [HUS.out, HHS.out] at hd3
 have HC := hid (join_any B W2.heap.size (.slice sa s.mp.length sc) s.mp r W3 HL.out (by have := HHB.out; have := hb2.size; have := b3.size; omega) hd3 hR3)
 have HK3 : Hid (W3.cell? ⟨g, k * 7 + 6, none⟩ = some (.slice sa s.mp.length sc) ∧ W3.cell? ⟨D, 7, none⟩ = some (.int .i64 o.fr) ∧ W3.cell? ⟨D, 8, none⟩ = some (.int .i64 o.tt)) := ⟨(b3.cell (by have := HDG.out; rw [hH2]; exact this.2.1)).trans k6, (b3.cell (by have := HDG.out; rw [hH2]; exact this.1)).trans k7, (b3.cell (by have := HDG.out; rw [hH2]; exact this.1)).trans k8⟩
 have HK4 : Hid (∀ w4, W3.grownBy w4 (Value.slice sa s.mp.length sc).ownBlock → w4.cell? ⟨g, k * 7 + 6, none⟩ = some (.slice sa s.mp.length sc) ∧ w4.cell? ⟨D, 7, none⟩ = some (.int .i64 o.fr) ∧ w4.cell? ⟨D, 8, none⟩ = some (.int .i64 o.tt)) := fun w4 hq => by
  obtain ⟨z0, z1, z2⟩ := HK3.out
  have hgk : w4.heap[g]? = W3.heap[g]? := hq.block g (by have := HDG.out; have := hb2.size; have := b3.size; omega) (fun e => HNE.out e.symm)
  have hDk : w4.heap[D]? = W3.heap[D]? := hq.block D (by have := HDG.out; have := hb2.size; have := b3.size; omega) (fun e => H3.ne.2 k HHU.out (by rw [HUS.out]; exact e.symm))
  simp only [World.cell?, hgk, hDk] at z0 z1 z2 ⊢
  exact ⟨z0, z1, z2⟩
 have HF : Hid (∀ w4 z, OwR B w4 z (joinP s.mp r) → W3.grownBy w4 (Value.slice sa s.mp.length sc).ownBlock → OwnB W3 (.slice sa s.mp.length sc) z → (∃ u' us', DrV B (w4.setCell ⟨g, k * 7 + 6, none⟩ z) D ⟨x.cp, x.fr, x.nx, x.vs.set k (setMp s (joinP s.mp r))⟩ u' us' o dv (k : Int) po) ∧ w4.frozen? ⟨g, k * 7 + 6, none⟩ = false ∧ BelK B w (w4.setCell ⟨g, k * 7 + 6, none⟩ z) ∧ True) := fun w4 z hz hq ho => by
  have := H3.upd (Nat.le_trans HHB.out (Nat.le_trans hb2.size b3.size)) HHK.out HHU.out hz (by rw [HUS.out]; exact hq) (by rw [HUS.out]; exact ho)
  rw [HHS.out] at this
  refine ⟨⟨_, _, this.1⟩, this.2.1, (BelK.low (hb2.trans (b3.mono hb2.size)) rfl HHB.out).trans this.2.2.1, trivial⟩
 have HW3 := hid hW3
 have mixed : Tryz.prog.follows Departure.mixedOrders = true := by kernel_rfl
 rw [hr] at HF
 rw [hr] at HC
 clear hr
 clear hW2 hH2 hb2 H2 hW3 b3 H3 hR3 hd3 HU HS2
 go_wp2_with fail
 refine wp_region_last (S := (fun y => y.cell? ⟨g, k * 7 + 6, none⟩ = some (.slice sa s.mp.length sc) ∧ y.cell? ⟨D, 7, none⟩ = some (.int .i64 o.fr) ∧ y.cell? ⟨D, 8, none⟩ = some (.int .i64 o.tt))) 21 21 (by kernel_rfl) (by kernel_rfl) (by kernel_rfl) ⟨k6, k7, k8⟩ (fun hSS => ?_)
 refine Ti 0 rfl ?_
 refine Ti 1 rfl ?_
 refine Ti 2 rfl ?_
 refine Ti 3 rfl ?_
 try simp only [Act.put, zA, zB, zC]
 refine Ti 4 rfl ?_
 refine Ti 5 rfl ?_
 refine Ti 6 rfl ?_
 refine Ti 7 rfl ?_
 try simp only [Act.put, zA, zB, zC]
 refine Ti 8 rfl ?_
 refine Ti 9 rfl ?_
 refine Ti 10 rfl ?_
 refine Ti 11 rfl ?_
 try simp only [Act.put, zA, zB, zC]
 refine Ti 12 rfl ?_
 refine Ti 13 rfl ?_
 refine Ti 14 rfl ?_
 try simp only [Act.put, zA, zB, zC]
 refine wpAnyH_take (i := 15) (oi := ({ dst := some 20, op := Op.binOp BinOp.add 3 (Operand.tmp 19) (Operand.const (Value.int IntKind.i64 1)) 3, type := 3, pos := _, after := _, guard := none } : Oper)) (v := .int .i64 (wrap64 (o.fr + 1))) rfl (by kernel_rfl) (by kernel_rfl) (by kernel_rfl) (fun _ _ _ h => h) (Or.inl ⟨by rfl, ?_⟩) hSS ?_
 ·intro w9 hSw
  (try dsimp only at hSw)
  (try go_split_ands)
  first | (go_simp; done) | (go_simp; simp [hw1]; done)
 try simp only [Act.put, zA, zB, zC]
 refine Ti 16 rfl ?_
 try simp only [Act.put, zA, zB, zC]
 refine Ri 17 rfl (fun K9 hK9 => ?_)
 go_simp
 refine hK9.out _ _ (by have q := HK3.out; rw [HW3.out] at q; exact q) (fun hSS => ?_)
 try simp only [Act.put, zA, zB, zC]
 refine Ri 18 rfl (fun K9 hK9 => ?_)
 go_simp
 go_at_call 101
 rw [← HW3.out]
 refine HC.out.mono ?_
 rintro e w4 ⟨z, rfl, hz, hgr, hob⟩
 obtain ⟨za, zc, rfl⟩ := own_any hz
 obtain ⟨hN, fz, hbb, hdr⟩ := HF.out w4 _ hz hgr hob
 have k6 := (HK4.out w4 hgr).1
 refine hK9.out _ _ (HK4.out w4 hgr) (fun hSS => ?_)
 try simp only [Act.put, zA, zB, zC]
 refine Ti 19 rfl ?_
 refine Ti 20 rfl ?_
 try simp only [Act.put, zA, zB, zC]
 refine Dn ?_
 refine last_step (L := 21) (o := ({ dst := none, op := Op.store 36 (Operand.tmp 25) (Operand.tmp 23), type := 0, pos := _, after := _, guard := none } : Oper)) rfl (fun K9 hK9 => ?_)
 go_simp
 refine hK9.out _ _ ?_
 try simp only [Act.put, zA, zB, zC]
 go_wp2
 go_end0
 exact ⟨rfl, hN, hbb⟩
set_option maxRecDepth 100000 in
set_option maxHeartbeats 8000000 in
theorem discard_any (B D : Nat) (x : VW) (u : Value) (us : List Value) (o : OW) (dv : Value) (k : Nat) (po : Int) (w : World) (H : DrV B w D x u us o dv (k : Int) po) (hk : k < x.vs.length) (hl : shV x.vs) (hB : B ≤ w.heap.size) :
  Calls Tryz.prog 71 #[.pointer (some ⟨D, 0, none⟩)] w fun e w' => DoQ B w D ⟨x.cp, x.fr, x.nx, x.vs.set k (setMp x.vs[k] (cutP x.vs[k].mp ⟨o.fr, o.tt⟩))⟩ o dv (k : Int) po e w' := by
 obtain ⟨g, c, sa, sc, rfl, hg, hus, hV, hn, _⟩ := H.ow.volc hk
 have hu : k < us.length := by rw [H.ow.len]; exact hk
 have hs16 : x.vs[k].mp.length ≤ 16777216 := hl.2 _ (List.getElem_mem hk)
 have HS2 := hid (volume_any D x g 0 x.vs.length c k o dv po w H.dr hk)
 have hDl := H.dr.lt
 have hgl := (H.ow.blk hg).2.1
 have hne := H.ow.ne hg hu
 rw [hus] at hne
 have HU : Hid (∀ W2, W2.heap = w.heap → Below w.heap.size w W2 → DrV B W2 D x (.slice (some ⟨g, 0, none⟩) x.vs.length c) us o dv (k : Int) po) := fun W2 _ hb => H.next hb
 have HUS := hid hus
 have HL := hid hs16
 have HHB := hid hB
 have HHU := hid hu
 generalize hs : x.vs[k] = s at *
 obtain ⟨_, _, _, _, _, _, k6⟩ := hV
 have HHS := hid hs
 have HHK := hid hk
 have HK6 := hid k6
 have HDG : Hid (D < w.heap.size ∧ g < w.heap.size ∧ D ≠ g) := ⟨hDl, hgl, fun e => H.ne.1 (by rw [hg, e])⟩
 have HNE := hid hne
 clear hus hn hs k6 hs16 hl hgl hDl hB hg hne
 go_enter Tryz.func71, Tryz.ntmps71
 go_wp2_with fail
 refine HS2.out.mono ?_
 rintro e w2 ⟨rfl, q, rfl⟩
 obtain ⟨W2, hW2⟩ : ∃ W2, W2 = w.drewN q := ⟨_, rfl⟩
 have hH2 : W2.heap = w.heap := by rw [hW2]; rfl
 have hb2 : Below w.heap.size w W2 := by rw [hW2]; exact below_drewN' _ _ _
 have H2 := HU.out W2 hH2 hb2
 rw [← hW2]
 simp only [Nat.zero_add]
 obtain ⟨_, _, _, _, _, _, _, k7, k8, _⟩ := H2.dr.cs
 have k6 : W2.cell? ⟨g, k * 7 + 6, none⟩ = some (.slice sa s.mp.length sc) := by rw [← HK6.out]; simp only [World.cell?, hH2]
 obtain ⟨r, hr⟩ : ∃ r : Rg, r = ⟨o.fr, o.tt⟩ := ⟨_, rfl⟩
 obtain ⟨W3, hW3⟩ : ∃ W3, W3 = (W2.alloc (.cells #[.int .i64 o.fr, .int .i64 (o.tt)] 78)).drew := ⟨_, rfl⟩
 have b3 : Below W2.heap.size W2 W3 := by rw [hW3]; exact below_dr (below1 _ _)
 have H3 := H2.next b3
 have hR3 : RgB W3 W2.heap.size r := by rw [hW3]; rw [hr]; exact heap_new W2 _
 have hd3 := H3.ow.dat k HHK.out
 rw [HUS.out, HHS.out] at hd3
 have HC := hid (cut_any B W2.heap.size (.slice sa s.mp.length sc) s.mp r W3 HL.out (by have := HHB.out; have := hb2.size; have := b3.size; omega) hd3 hR3)
 have HK3 : Hid (W3.cell? ⟨g, k * 7 + 6, none⟩ = some (.slice sa s.mp.length sc) ∧ W3.cell? ⟨D, 7, none⟩ = some (.int .i64 o.fr) ∧ W3.cell? ⟨D, 8, none⟩ = some (.int .i64 o.tt)) := ⟨(b3.cell (by have := HDG.out; rw [hH2]; exact this.2.1)).trans k6, (b3.cell (by have := HDG.out; rw [hH2]; exact this.1)).trans k7, (b3.cell (by have := HDG.out; rw [hH2]; exact this.1)).trans k8⟩
 have HK4 : Hid (∀ w4, W3.grownBy w4 (Value.slice sa s.mp.length sc).ownBlock → w4.cell? ⟨g, k * 7 + 6, none⟩ = some (.slice sa s.mp.length sc) ∧ w4.cell? ⟨D, 7, none⟩ = some (.int .i64 o.fr) ∧ w4.cell? ⟨D, 8, none⟩ = some (.int .i64 o.tt)) := fun w4 hq => by
  obtain ⟨z0, z1, z2⟩ := HK3.out
  have hgk : w4.heap[g]? = W3.heap[g]? := hq.block g (by have := HDG.out; have := hb2.size; have := b3.size; omega) (fun e => HNE.out e.symm)
  have hDk : w4.heap[D]? = W3.heap[D]? := hq.block D (by have := HDG.out; have := hb2.size; have := b3.size; omega) (fun e => H3.ne.2 k HHU.out (by rw [HUS.out]; exact e.symm))
  simp only [World.cell?, hgk, hDk] at z0 z1 z2 ⊢
  exact ⟨z0, z1, z2⟩
 have HF : Hid (∀ w4 z, OwR B w4 z (cutP s.mp r) → W3.grownBy w4 (Value.slice sa s.mp.length sc).ownBlock → OwnB W3 (.slice sa s.mp.length sc) z → (∃ u' us', DrV B (w4.setCell ⟨g, k * 7 + 6, none⟩ z) D ⟨x.cp, x.fr, x.nx, x.vs.set k (setMp s (cutP s.mp r))⟩ u' us' o dv (k : Int) po) ∧ w4.frozen? ⟨g, k * 7 + 6, none⟩ = false ∧ BelK B w (w4.setCell ⟨g, k * 7 + 6, none⟩ z) ∧ True) := fun w4 z hz hq ho => by
  have := H3.upd (Nat.le_trans HHB.out (Nat.le_trans hb2.size b3.size)) HHK.out HHU.out hz (by rw [HUS.out]; exact hq) (by rw [HUS.out]; exact ho)
  rw [HHS.out] at this
  refine ⟨⟨_, _, this.1⟩, this.2.1, (BelK.low (hb2.trans (b3.mono hb2.size)) rfl HHB.out).trans this.2.2.1, trivial⟩
 have HW3 := hid hW3
 have mixed : Tryz.prog.follows Departure.mixedOrders = true := by kernel_rfl
 rw [hr] at HF
 rw [hr] at HC
 clear hr
 clear hW2 hH2 hb2 H2 hW3 b3 H3 hR3 hd3 HU HS2
 go_wp2_with fail
 refine wp_region_last (S := (fun y => y.cell? ⟨g, k * 7 + 6, none⟩ = some (.slice sa s.mp.length sc) ∧ y.cell? ⟨D, 7, none⟩ = some (.int .i64 o.fr) ∧ y.cell? ⟨D, 8, none⟩ = some (.int .i64 o.tt))) 20 20 (by kernel_rfl) (by kernel_rfl) (by kernel_rfl) ⟨k6, k7, k8⟩ (fun hSS => ?_)
 refine Ti 0 rfl ?_
 try simp only [Act.put, zA, zB, zC]
 refine Ti 1 rfl ?_
 refine Ti 2 rfl ?_
 refine Ti 3 rfl ?_
 refine Ti 4 rfl ?_
 try simp only [Act.put, zA, zB, zC]
 refine Ti 5 rfl ?_
 refine Ti 6 rfl ?_
 refine Ti 7 rfl ?_
 refine Ti 8 rfl ?_
 try simp only [Act.put, zA, zB, zC]
 refine Ti 9 rfl ?_
 refine Ti 10 rfl ?_
 refine Ti 11 rfl ?_
 refine Ti 12 rfl ?_
 try simp only [Act.put, zA, zB, zC]
 refine Ti 13 rfl ?_
 refine Ti 14 rfl ?_
 refine Ti 15 rfl ?_
 try simp only [Act.put, zA, zB, zC]
 refine Ri 16 rfl (fun K9 hK9 => ?_)
 go_simp
 refine hK9.out _ _ (by have q := HK3.out; rw [HW3.out] at q; exact q) (fun hSS => ?_)
 try simp only [Act.put, zA, zB, zC]
 refine Ri 17 rfl (fun K9 hK9 => ?_)
 go_simp
 go_at_call 96
 rw [← HW3.out]
 refine HC.out.mono ?_
 rintro e w4 ⟨z, rfl, hz, hgr, hob⟩
 obtain ⟨za, zc, rfl⟩ := own_any hz
 obtain ⟨hN, fz, hbb, hdr⟩ := HF.out w4 _ hz hgr hob
 have k6 := (HK4.out w4 hgr).1
 refine hK9.out _ _ (HK4.out w4 hgr) (fun hSS => ?_)
 try simp only [Act.put, zA, zB, zC]
 refine Ti 18 rfl ?_
 refine Ti 19 rfl ?_
 try simp only [Act.put, zA, zB, zC]
 refine Dn ?_
 refine last_step (L := 20) (o := ({ dst := none, op := Op.store 36 (Operand.tmp 24) (Operand.tmp 22), type := 0, pos := _, after := _, guard := none } : Oper)) rfl (fun K9 hK9 => ?_)
 go_simp
 refine hK9.out _ _ ?_
 try simp only [Act.put, zA, zB, zC]
 go_wp2
 go_end0
 exact ⟨rfl, hN, hbb⟩
set_option maxRecDepth 100000 in
set_option maxHeartbeats 8000000 in
theorem fill_any (B D : Nat) (x : VW) (u : Value) (us : List Value) (o : OW) (dv : Value) (k : Nat) (po : Int) (w : World) (H : DrV B w D x u us o dv (k : Int) po) (hk : k < x.vs.length) (hl : shV x.vs) (hB : B ≤ w.heap.size) :
  Calls Tryz.prog 72 #[.pointer (some ⟨D, 0, none⟩)] w fun e w' => DoQ B w D ⟨x.cp, x.fr, x.nx, x.vs.set k (setMp x.vs[k] (joinP x.vs[k].mp ⟨o.fr, o.tt⟩))⟩ o dv (k : Int) po e w' := by
 obtain ⟨g, c, sa, sc, rfl, hg, hus, hV, hn, _⟩ := H.ow.volc hk
 have hu : k < us.length := by rw [H.ow.len]; exact hk
 have hs16 : x.vs[k].mp.length ≤ 16777216 := hl.2 _ (List.getElem_mem hk)
 have HS2 := hid (volume_any D x g 0 x.vs.length c k o dv po w H.dr hk)
 have hDl := H.dr.lt
 have hgl := (H.ow.blk hg).2.1
 have hne := H.ow.ne hg hu
 rw [hus] at hne
 have HU : Hid (∀ W2, W2.heap = w.heap → Below w.heap.size w W2 → DrV B W2 D x (.slice (some ⟨g, 0, none⟩) x.vs.length c) us o dv (k : Int) po) := fun W2 _ hb => H.next hb
 have HUS := hid hus
 have HL := hid hs16
 have HHB := hid hB
 have HHU := hid hu
 generalize hs : x.vs[k] = s at *
 obtain ⟨_, _, _, _, _, _, k6⟩ := hV
 have HHS := hid hs
 have HHK := hid hk
 have HK6 := hid k6
 have HDG : Hid (D < w.heap.size ∧ g < w.heap.size ∧ D ≠ g) := ⟨hDl, hgl, fun e => H.ne.1 (by rw [hg, e])⟩
 have HNE := hid hne
 clear hus hn hs k6 hs16 hl hgl hDl hB hg hne
 go_enter Tryz.func72, Tryz.ntmps72
 go_wp2_with fail
 refine HS2.out.mono ?_
 rintro e w2 ⟨rfl, q, rfl⟩
 obtain ⟨W2, hW2⟩ : ∃ W2, W2 = w.drewN q := ⟨_, rfl⟩
 have hH2 : W2.heap = w.heap := by rw [hW2]; rfl
 have hb2 : Below w.heap.size w W2 := by rw [hW2]; exact below_drewN' _ _ _
 have H2 := HU.out W2 hH2 hb2
 rw [← hW2]
 simp only [Nat.zero_add]
 obtain ⟨_, _, _, _, _, _, _, k7, k8, _⟩ := H2.dr.cs
 have k6 : W2.cell? ⟨g, k * 7 + 6, none⟩ = some (.slice sa s.mp.length sc) := by rw [← HK6.out]; simp only [World.cell?, hH2]
 obtain ⟨r, hr⟩ : ∃ r : Rg, r = ⟨o.fr, o.tt⟩ := ⟨_, rfl⟩
 obtain ⟨W3, hW3⟩ : ∃ W3, W3 = (W2.alloc (.cells #[.int .i64 o.fr, .int .i64 (o.tt)] 78)).drew := ⟨_, rfl⟩
 have b3 : Below W2.heap.size W2 W3 := by rw [hW3]; exact below_dr (below1 _ _)
 have H3 := H2.next b3
 have hR3 : RgB W3 W2.heap.size r := by rw [hW3]; rw [hr]; exact heap_new W2 _
 have hd3 := H3.ow.dat k HHK.out
 rw [HUS.out, HHS.out] at hd3
 have HC := hid (join_any B W2.heap.size (.slice sa s.mp.length sc) s.mp r W3 HL.out (by have := HHB.out; have := hb2.size; have := b3.size; omega) hd3 hR3)
 have HK3 : Hid (W3.cell? ⟨g, k * 7 + 6, none⟩ = some (.slice sa s.mp.length sc) ∧ W3.cell? ⟨D, 7, none⟩ = some (.int .i64 o.fr) ∧ W3.cell? ⟨D, 8, none⟩ = some (.int .i64 o.tt)) := ⟨(b3.cell (by have := HDG.out; rw [hH2]; exact this.2.1)).trans k6, (b3.cell (by have := HDG.out; rw [hH2]; exact this.1)).trans k7, (b3.cell (by have := HDG.out; rw [hH2]; exact this.1)).trans k8⟩
 have HK4 : Hid (∀ w4, W3.grownBy w4 (Value.slice sa s.mp.length sc).ownBlock → w4.cell? ⟨g, k * 7 + 6, none⟩ = some (.slice sa s.mp.length sc) ∧ w4.cell? ⟨D, 7, none⟩ = some (.int .i64 o.fr) ∧ w4.cell? ⟨D, 8, none⟩ = some (.int .i64 o.tt)) := fun w4 hq => by
  obtain ⟨z0, z1, z2⟩ := HK3.out
  have hgk : w4.heap[g]? = W3.heap[g]? := hq.block g (by have := HDG.out; have := hb2.size; have := b3.size; omega) (fun e => HNE.out e.symm)
  have hDk : w4.heap[D]? = W3.heap[D]? := hq.block D (by have := HDG.out; have := hb2.size; have := b3.size; omega) (fun e => H3.ne.2 k HHU.out (by rw [HUS.out]; exact e.symm))
  simp only [World.cell?, hgk, hDk] at z0 z1 z2 ⊢
  exact ⟨z0, z1, z2⟩
 have HF : Hid (∀ w4 z, OwR B w4 z (joinP s.mp r) → W3.grownBy w4 (Value.slice sa s.mp.length sc).ownBlock → OwnB W3 (.slice sa s.mp.length sc) z → (∃ u' us', DrV B (w4.setCell ⟨g, k * 7 + 6, none⟩ z) D ⟨x.cp, x.fr, x.nx, x.vs.set k (setMp s (joinP s.mp r))⟩ u' us' o dv (k : Int) po) ∧ w4.frozen? ⟨g, k * 7 + 6, none⟩ = false ∧ BelK B w (w4.setCell ⟨g, k * 7 + 6, none⟩ z) ∧ True) := fun w4 z hz hq ho => by
  have := H3.upd (Nat.le_trans HHB.out (Nat.le_trans hb2.size b3.size)) HHK.out HHU.out hz (by rw [HUS.out]; exact hq) (by rw [HUS.out]; exact ho)
  rw [HHS.out] at this
  refine ⟨⟨_, _, this.1⟩, this.2.1, (BelK.low (hb2.trans (b3.mono hb2.size)) rfl HHB.out).trans this.2.2.1, trivial⟩
 have HW3 := hid hW3
 have mixed : Tryz.prog.follows Departure.mixedOrders = true := by kernel_rfl
 rw [hr] at HF
 rw [hr] at HC
 clear hr
 clear hW2 hH2 hb2 H2 hW3 b3 H3 hR3 hd3 HU HS2
 go_wp2_with fail
 refine wp_region_last (S := (fun y => y.cell? ⟨g, k * 7 + 6, none⟩ = some (.slice sa s.mp.length sc) ∧ y.cell? ⟨D, 7, none⟩ = some (.int .i64 o.fr) ∧ y.cell? ⟨D, 8, none⟩ = some (.int .i64 o.tt))) 20 20 (by kernel_rfl) (by kernel_rfl) (by kernel_rfl) ⟨k6, k7, k8⟩ (fun hSS => ?_)
 refine Ti 0 rfl ?_
 try simp only [Act.put, zA, zB, zC]
 refine Ti 1 rfl ?_
 refine Ti 2 rfl ?_
 refine Ti 3 rfl ?_
 refine Ti 4 rfl ?_
 try simp only [Act.put, zA, zB, zC]
 refine Ti 5 rfl ?_
 refine Ti 6 rfl ?_
 refine Ti 7 rfl ?_
 refine Ti 8 rfl ?_
 try simp only [Act.put, zA, zB, zC]
 refine Ti 9 rfl ?_
 refine Ti 10 rfl ?_
 refine Ti 11 rfl ?_
 refine Ti 12 rfl ?_
 try simp only [Act.put, zA, zB, zC]
 refine Ti 13 rfl ?_
 refine Ti 14 rfl ?_
 refine Ti 15 rfl ?_
 try simp only [Act.put, zA, zB, zC]
 refine Ri 16 rfl (fun K9 hK9 => ?_)
 go_simp
 refine hK9.out _ _ (by have q := HK3.out; rw [HW3.out] at q; exact q) (fun hSS => ?_)
 try simp only [Act.put, zA, zB, zC]
 refine Ri 17 rfl (fun K9 hK9 => ?_)
 go_simp
 go_at_call 101
 rw [← HW3.out]
 refine HC.out.mono ?_
 rintro e w4 ⟨z, rfl, hz, hgr, hob⟩
 obtain ⟨za, zc, rfl⟩ := own_any hz
 obtain ⟨hN, fz, hbb, hdr⟩ := HF.out w4 _ hz hgr hob
 have k6 := (HK4.out w4 hgr).1
 refine hK9.out _ _ (HK4.out w4 hgr) (fun hSS => ?_)
 try simp only [Act.put, zA, zB, zC]
 refine Ti 18 rfl ?_
 refine Ti 19 rfl ?_
 try simp only [Act.put, zA, zB, zC]
 refine Dn ?_
 refine last_step (L := 20) (o := ({ dst := none, op := Op.store 36 (Operand.tmp 24) (Operand.tmp 22), type := 0, pos := _, after := _, guard := none } : Oper)) rfl (fun K9 hK9 => ?_)
 go_simp
 refine hK9.out _ _ ?_
 try simp only [Act.put, zA, zB, zC]
 go_wp2
 go_end0
 exact ⟨rfl, hN, hbb⟩
set_option maxRecDepth 100000 in
set_option maxHeartbeats 4000000 in
theorem extend_any (B D : Nat) (x : VW) (u : Value) (us : List Value) (o : OW) (dv : Value) (pn po : Int) (w : World) (H : DrV B w D x u us o dv pn po) (hB : B ≤ w.heap.size) :
  Calls Tryz.prog 74 #[.pointer (some ⟨D, 0, none⟩)] w fun e w' => DoQ B w D ⟨o.tt, x.fr, x.nx, x.vs⟩ o dv pn po e w' := by
 obtain ⟨k0, _, _, _, _, _, _, _, k8, _⟩ := H.dr.cs
 have f0 := H.dr.fz 0
 have HQ : Hid (DoQ B w D ⟨o.tt, x.fr, x.nx, x.vs⟩ o dv pn po (.returned (.tuple #[])) (w.setCell ⟨D, 0, none⟩ (.int .i64 o.tt))) := ⟨rfl, ⟨u, us, H.dr.setC rfl rfl rfl, H.ow.set H.ne.1 H.ne.2 _, H.ap, H.hD⟩, (BelK.low (Below.refl w.heap.size w) rfl hB).set (p := ⟨D, 0, none⟩) H.hD H.kd _⟩
 clear H
 go_enter Tryz.func74, Tryz.ntmps74
 go_wp2
 go_end0
 exact HQ.out
end Go.Proofs.YtddddfankeepkaaGreatDoor
namespace Go.Proofs.YtddddfankeepkaaGreatDoor
open Go.RowKit
def rszP (v : PV) (n : Int) : PV := setMp (setSz v n) (cutP v.mp ⟨n, 262144⟩)
set_option maxRecDepth 100000 in
set_option maxHeartbeats 8000000 in
theorem resize_any (B D : Nat) (x : VW) (u : Value) (us : List Value) (o : OW) (dv : Value) (k : Nat) (po : Int) (w : World) (H : DrV B w D x u us o dv (k : Int) po) (hk : k < x.vs.length) (hl : shV x.vs) (hB : B ≤ w.heap.size) :
  Calls Tryz.prog 63 #[.pointer (some ⟨D, 0, none⟩)] w fun e w' => DoQ B w D ⟨x.cp, x.fr, x.nx, x.vs.set k (rszP x.vs[k] o.tt)⟩ o dv (k : Int) po e w' := by
 obtain ⟨g, c, sa, sc, rfl, hg, hus, hV, hn, hfr⟩ := H.ow.volc hk
 have hu : k < us.length := by rw [H.ow.len]; exact hk
 have hs16 : x.vs[k].mp.length ≤ 16777216 := hl.2 _ (List.getElem_mem hk)
 have HS2 := hid (volume_any D x g 0 x.vs.length c k o dv po w H.dr hk)
 have hDl := H.dr.lt
 have hgl := (H.ow.blk hg).2.1
 have hne := H.ow.ne hg hu
 rw [hus] at hne
 have HU : Hid (∀ W2, W2.heap = w.heap → Below w.heap.size w W2 → DrV B W2 D x (.slice (some ⟨g, 0, none⟩) x.vs.length c) us o dv (k : Int) po) := fun W2 _ hb => H.next hb
 have HUS := hid hus
 have HL := hid hs16
 have HHB := hid hB
 have HHU := hid hu
 have HFR := hid (hfr (k * 7 + 2))
 generalize hs : x.vs[k] = s at *
 obtain ⟨_, _, k2, _, _, _, k6⟩ := hV
 have HHS := hid hs
 have HK6 := hid k6
 have HK2 := hid k2
 have HDG : Hid (D < w.heap.size ∧ g < w.heap.size ∧ D ≠ g) := ⟨hDl, hgl, fun e => H.ne.1 (by rw [hg, e])⟩
 have HNE := hid hne
 clear hus hn hs k6 k2 hs16 hl hgl hDl hB hg hne hfr
 go_enter Tryz.func63, Tryz.ntmps63
 go_wp2_with fail
 refine HS2.out.mono ?_
 rintro e w1 ⟨rfl, q, rfl⟩
 obtain ⟨W1, hW1⟩ : ∃ W1, W1 = w.drewN q := ⟨_, rfl⟩
 have hH1 : W1.heap = w.heap := by rw [hW1]; rfl
 have hb1 : Below w.heap.size w W1 := by rw [hW1]; exact below_drewN' _ _ _
 have H1 := HU.out W1 hH1 hb1
 rw [← hW1]
 simp only [Nat.zero_add]
 obtain ⟨_, _, _, _, _, _, _, _, k8, _⟩ := H1.dr.cs
 have k6 : W1.cell? ⟨g, k * 7 + 6, none⟩ = some (.slice sa s.mp.length sc) := by rw [← HK6.out]; simp only [World.cell?, hH1]
 have k2 : W1.cell? ⟨g, k * 7 + 2, none⟩ = some (.int .i64 s.sz) := by rw [← HK2.out]; simp only [World.cell?, hH1]
 have f2 : W1.frozen? ⟨g, k * 7 + 2, none⟩ = false := by rw [← HFR.out]; simp only [World.frozen?, hH1]
 obtain ⟨W2, hW2⟩ : ∃ W2, W2 = W1.setCell ⟨g, k * 7 + 2, none⟩ (.int .i64 o.tt) := ⟨_, rfl⟩
 have H2 : DrV B W2 D ⟨x.cp, x.fr, x.nx, x.vs.set k (setSz x.vs[k] o.tt)⟩ (.slice (some ⟨g, 0, none⟩) x.vs.length c) us o dv (k : Int) po := by rw [hW2]; exact H1.updS o.tt hk
 have hb2 : BelK B w W2 := by
  rw [hW2]
  exact (BelK.low hb1 rfl HHB.out).set (p := ⟨g, k * 7 + 2, none⟩) (H1.ow.blk rfl).1 (KdOk.own H1.ow.row rfl (by decide) (by decide)).2 _
 have hz2 : W2.heap.size = w.heap.size := by rw [hW2, ← hH1]; simp [World.setCell]
 have k6' : W2.cell? ⟨g, k * 7 + 6, none⟩ = some (.slice sa s.mp.length sc) := by rw [hW2, World.cell?_setCell_other _ _ _ _ (by simp)]; exact k6
 have k8' : W2.cell? ⟨D, 8, none⟩ = some (.int .i64 o.tt) := by
  have := HDG.out.2.2
  rw [hW2, World.cell?_setCell_far _ _ _ _ (by exact fun e => this e.symm)]
  exact k8
 obtain ⟨r, hr⟩ : ∃ r : Rg, r = ⟨o.tt, 262144⟩ := ⟨_, rfl⟩
 obtain ⟨W3, hW3⟩ : ∃ W3, W3 = (W2.alloc (.cells #[.int .i64 o.tt, .int .i64 262144] 78)).drew := ⟨_, rfl⟩
 have b3 : Below W2.heap.size W2 W3 := by rw [hW3]; exact below_dr (below1 _ _)
 have H3 := H2.next b3
 have hR3 : RgB W3 W2.heap.size r := by rw [hW3, hr]; exact heap_new W2 _
 have hk2 : k < (x.vs.set k (setSz x.vs[k] o.tt)).length := by rw [List.length_set]; exact hk
 have hget : (x.vs.set k (setSz x.vs[k] o.tt))[k]'hk2 = setSz s o.tt := by rw [List.getElem_set, if_pos rfl]; exact congrArg (fun v => setSz v o.tt) HHS.out
 have hd3 := H3.ow.dat k hk2
 rw [HUS.out, hget] at hd3
 have hlen2 : (x.vs.set k (setSz x.vs[k] o.tt)).length = x.vs.length := List.length_set ..
 have HC := hid (cut_any B W2.heap.size (.slice sa s.mp.length sc) s.mp r W3 HL.out (by have := HHB.out; have := b3.size; omega) hd3 hR3)
 have HK3 : Hid (W3.cell? ⟨g, k * 7 + 6, none⟩ = some (.slice sa s.mp.length sc) ∧ W3.cell? ⟨D, 8, none⟩ = some (.int .i64 o.tt)) := ⟨(b3.cell (by have := HDG.out; rw [hz2]; exact this.2.1)).trans k6', (b3.cell (by have := HDG.out; rw [hz2]; exact this.1)).trans k8'⟩
 have HK4 : Hid (∀ w4, W3.grownBy w4 (Value.slice sa s.mp.length sc).ownBlock → w4.cell? ⟨g, k * 7 + 6, none⟩ = some (.slice sa s.mp.length sc) ∧ w4.cell? ⟨D, 8, none⟩ = some (.int .i64 o.tt)) := fun w4 hq => by
  obtain ⟨z0, z2⟩ := HK3.out
  have hgk : w4.heap[g]? = W3.heap[g]? := hq.block g (by have := HDG.out; have := b3.size; omega) (fun e => HNE.out e.symm)
  have hDk : w4.heap[D]? = W3.heap[D]? := hq.block D (by have := HDG.out; have := b3.size; omega) (fun e => H3.ne.2 k HHU.out (by rw [HUS.out]; exact e.symm))
  simp only [World.cell?, hgk, hDk] at z0 z2 ⊢
  exact ⟨z0, z2⟩
 have HF : Hid (∀ w4 z, OwR B w4 z (cutP s.mp r) → W3.grownBy w4 (Value.slice sa s.mp.length sc).ownBlock → OwnB W3 (.slice sa s.mp.length sc) z → (∃ u' us', DrV B (w4.setCell ⟨g, k * 7 + 6, none⟩ z) D ⟨x.cp, x.fr, x.nx, x.vs.set k (rszP s o.tt)⟩ u' us' o dv (k : Int) po) ∧ w4.frozen? ⟨g, k * 7 + 6, none⟩ = false ∧ BelK B w (w4.setCell ⟨g, k * 7 + 6, none⟩ z) ∧ True) := fun w4 z hz hq ho => by
  have H3' := H3
  rw [← hlen2] at H3'
  have := H3'.upd (by have := HHB.out; have := b3.size; omega) hk2 HHU.out hz (by rw [HUS.out]; exact hq) (by rw [HUS.out]; exact ho)
  rw [hget] at this
  dsimp only at this
  rw [List.set_set] at this
  refine ⟨⟨_, _, by have q := this.1; rw [hr] at q; exact q⟩, this.2.1, (hb2.trans (BelK.low b3 rfl (by rw [hz2]; exact HHB.out))).trans this.2.2.1, trivial⟩
 have HW3 := hid hW3
 have HW2 := hid hW2
 rw [hr] at HF
 rw [hr] at HC
 have mixed : Tryz.prog.follows Departure.mixedOrders = true := by kernel_rfl
 have hDg : ¬ (D = g) := HDG.out.2.2
 have hgD : ¬ (g = D) := fun e => hDg e.symm
 clear hW1 hH1 hb1 H1 hb2 H2 hW3 b3 H3 hR3 hd3 HU HS2 hr hW2 hz2 hget hlen2 hk2
 go_wp2_with fail
 rw [← HW2.out]
 refine wp_region_last (S := (fun y => y.cell? ⟨g, k * 7 + 6, none⟩ = some (.slice sa s.mp.length sc) ∧ y.cell? ⟨D, 8, none⟩ = some (.int .i64 o.tt))) 15 15 (by kernel_rfl) (by kernel_rfl) (by kernel_rfl) ⟨k6', k8'⟩ (fun hSS => ?_)
 refine Ti 0 rfl ?_
 refine Ti 1 rfl ?_
 refine Ti 2 rfl ?_
 refine Ti 3 rfl ?_
 try simp only [Act.put, zA, zB, zC]
 refine Ti 4 rfl ?_
 refine Ti 5 rfl ?_
 refine Ti 6 rfl ?_
 refine Ti 7 rfl ?_
 try simp only [Act.put, zA, zB, zC]
 refine Ti 8 rfl ?_
 refine Ti 9 rfl ?_
 refine Ti 10 rfl ?_
 try simp only [Act.put, zA, zB, zC]
 refine Ri 11 rfl (fun K9 hK9 => ?_)
 go_simp
 refine hK9.out _ _ (by have q := HK3.out; rw [HW3.out] at q; exact q) (fun hSS => ?_)
 try simp only [Act.put, zA, zB, zC]
 refine Ri 12 rfl (fun K9 hK9 => ?_)
 go_simp
 go_at_call 96
 rw [← HW3.out]
 refine HC.out.mono ?_
 rintro e w4 ⟨z, rfl, hz, hgr, hob⟩
 obtain ⟨za, zc, rfl⟩ := own_any hz
 obtain ⟨hN, fz, hbb, hdr⟩ := HF.out w4 _ hz hgr hob
 have k6 := (HK4.out w4 hgr).1
 refine hK9.out _ _ (HK4.out w4 hgr) (fun hSS => ?_)
 try simp only [Act.put, zA, zB, zC]
 refine Ti 13 rfl ?_
 refine Ti 14 rfl ?_
 try simp only [Act.put, zA, zB, zC]
 refine Dn ?_
 refine last_step (L := 15) (o := ({ dst := none, op := Op.store 36 (Operand.tmp 27) (Operand.tmp 25), type := 0, pos := _, after := _, guard := none } : Oper)) rfl (fun K9 hK9 => ?_)
 go_simp
 refine hK9.out _ _ ?_
 try simp only [Act.put, zA, zB, zC]
 go_wp2
 go_end0
 exact ⟨rfl, hN, hbb⟩
end Go.Proofs.YtddddfankeepkaaGreatDoor
