import Derived.Test.YtddddfankeepkaaGreatDoorF02
import Derived.Deep.DeepCutAuto
namespace Go.Proofs.YtddddfankeepkaaGreatDoor
open Go.RowKit
theorem step_append_run {ops : Array Oper} {o : Oper} {a : Act} {w : World} {K : Act → World → Prop} {Q : Exit → Act → World → Prop} {E : Prop} (hgd : o.guard = none) (s x : Operand) (t tn : TypeId)
  (ho : o.op = .call { callee := .builtin .append, args := #[s, x], argTypes := #[t, tn] }) (vs vx : Value) (hs : a.eval s = vs) (hx : a.eval x = vx)
  (v' : Value) (w' : World) (hr : (Builtin.append_ #[t, tn] o.type #[vs, vx]).run Tryz.prog w = .ok v' w') (h : K (a.put o.dst v') w') :
  if Region.wanted o (yielded ops a.tmps) = true then Oper.wp Tryz.prog o a w K Q else E := by
 have hw : Region.wanted o (yielded ops a.tmps) = true := by simp [Region.wanted, hgd]
 rw [if_pos hw]
 exact Lib.wp_append_run w s x t tn ho vs vx hs hx v' w' hr h
def VwB (w : World) (R : Nat) (x : VW) (u : Value) : Prop := w.heap[R]? = some (.cells #[.int .i64 x.cp, .int .i64 x.fr, .int .i64 x.nx, u] 24 (0, 0))
theorem VwB.lt {w : World} {R : Nat} {o : VW} {v : Value} (h : VwB w R o v) : R < w.heap.size := (Array.getElem?_eq_some_iff.1 h).1
theorem VwB.keep {w w' : World} {R : Nat} {o : VW} {v : Value} (h : VwB w R o v) (hw : w'.heap[R]? = w.heap[R]?) : VwB w' R o v := by unfold VwB at *; rw [hw]; exact h
theorem VwB.cs {w : World} {R : Nat} {o : VW} {v : Value} (h : VwB w R o v) : (w.cell? ⟨R, 0, none⟩ = some (.int .i64 o.cp) ∧ w.cell? ⟨R, 1, none⟩ = some (.int .i64 o.fr) ∧ w.cell? ⟨R, 2, none⟩ = some (.int .i64 o.nx) ∧ w.cell? ⟨R, 3, none⟩ = some v) ∧ ∀ i, w.frozen? ⟨R, i, none⟩ = false := by
 unfold VwB at h
 simp [World.cell?, World.frozen?, h]
theorem VwB.set3 {w : World} {R : Nat} {o : VW} {v : Value} (h : VwB w R o v) (u : Value) : VwB (w.setCell ⟨R, 3, none⟩ u) R o u := by
 unfold VwB at *
 simp only [World.setCell, Array.getElem?_modify, if_true]
 rw [h]
 simp
def put4 (w : World) (R : Nat) (o : VW) (v : Value) : World := (((w.setCell ⟨R, 0, none⟩ (.int .i64 o.cp)).setCell ⟨R, 1, none⟩ (.int .i64 o.fr)).setCell ⟨R, 2, none⟩ (.int .i64 o.nx)).setCell ⟨R, 3, none⟩ v
theorem VwB.put4 {w : World} {R : Nat} {o o' : VW} {v v' : Value} (h : VwB w R o v) : VwB (put4 w R o' v') R o' v' := by
 unfold VwB Go.Proofs.YtddddfankeepkaaGreatDoor.put4 at *
 simp only [World.setCell, Array.getElem?_modify, if_true]
 rw [h]
 simp
theorem but_put4 (w : World) (R : Nat) (o : VW) (v : Value) : But (fun x => x = R) w (put4 w R o v) := by
 unfold put4
 exact (((((But.refl (fun x => x = R) w).setCell (p := ⟨R, 0, none⟩) rfl _).setCell (p := ⟨R, 1, none⟩) rfl _).setCell (p := ⟨R, 2, none⟩) rfl _).setCell (p := ⟨R, 3, none⟩) rfl _)
theorem OwV.keep {B : Nat} {w w' : World} {v : Value} {os : List PV} {us : List Value} (h : OwV B w v os us) (hk : ∀ g, B ≤ g → g < w.heap.size → w'.heap[g]? = w.heap[g]?) : OwV B w' v os us :=
 ⟨h.len, own_keep h.row fun g hg => by obtain ⟨a, b, _⟩ := own_blk h.row hg; exact hk g a b, fun i hi => own_keep (h.dat i hi) fun g hg => by obtain ⟨a, b, _⟩ := own_blk (h.dat i hi) hg; exact hk g a b⟩
def VW0 : VW := ⟨0, 0, 0, []⟩
structure CvS (w wr : World) (R Q C : Nat) (x : VW) (a : Option Addr) (c : Nat) (u : Value) (r : Nat) : Prop where
 pb : VwB wr R x (.slice a x.vs.length c)
 rb : VwB wr Q VW0 (.slice none 0 0)
 cb : VwB wr C x u
 ow : ∃ us, OwV (C + 1) wr u (x.vs.take r) us
 bel : Below w.heap.size w wr
set_option maxRecDepth 100000 in
set_option maxHeartbeats 4000000 in
theorem CopyView_any (x : VW) (a : Option Addr) (c : Nat) (w : World) (hl : shV x.vs) (hR : RdV w.heap.size w a x.vs) :
  Calls Tryz.prog 10 #[viewA x a c] w fun e w' => ∃ a' c', e = .returned (viewA x a' c') ∧ RdV w'.heap.size w' a' x.vs ∧ (a' = none → c' = 0) ∧ Below w.heap.size w w' := by
 obtain ⟨R, hRR⟩ : ∃ R, R = w.heap.size := ⟨_, rfl⟩
 obtain ⟨Q, hQQ⟩ : ∃ Q, Q = R + 1 := ⟨_, rfl⟩
 obtain ⟨C, hCC⟩ : ∃ C, C = R + 2 := ⟨_, rfl⟩
 have HSTEP : Hid (∀ (wr : World) (r : Nat) (hr : r < x.vs.length) (u : Value), CvS w wr R Q C x a c u r → ∃ b off a1 c1, a = some ⟨b, off, none⟩ ∧ VolC wr b (off + r * 7) x.vs[r] a1 c1 ∧
   Calls Tryz.prog 33 #[volA x.vs[r] a1 c1] wr.drew fun e w2 => ∃ va vn vc ua un uc w', e = .returned (.agg #[.string x.vs[r].nm, .int .i64 x.vs[r].id, .int .i64 x.vs[r].sz, .int .i64 x.vs[r].og, .int .i64 x.vs[r].kd, .bool x.vs[r].pt, .slice va vn vc]) ∧ w2.cell? ⟨C, 3, none⟩ = some u ∧ C < w2.heap.size ∧
    (Builtin.append_ #[22, 22] 22 #[u, .slice (some ⟨w2.heap.size, 0, none⟩) 1 1]).run Tryz.prog (w2.alloc (.cells #[.string x.vs[r].nm, .int .i64 x.vs[r].id, .int .i64 x.vs[r].sz, .int .i64 x.vs[r].og, .int .i64 x.vs[r].kd, .bool x.vs[r].pt, .slice va vn vc] 38)) = .ok (.slice ua un uc) w' ∧
    w'.cell? ⟨C, 3, none⟩ = some u ∧ w'.frozen? ⟨C, 3, none⟩ = false ∧ CvS w (w'.setCell ⟨C, 3, none⟩ (.slice ua un uc)) R Q C x a c (.slice ua un uc) (r + 1)) := by
  intro wr r hr u hS
  have hR2 := hR.below hS.bel
  obtain ⟨b, off, rfl, hbl, hc⟩ := hR2.resolve_left (fun e => by rw [e] at hr; simp at hr)
  obtain ⟨a1, c1, hV, r1, ha⟩ := hc r hr
  refine ⟨b, off, a1, c1, rfl, hV, (CopyVolume_any x.vs[r] a1 c1 wr.drew ((r1.below (below_drew _ _)).mono hS.bel.size) ha (hl.2 _ (List.getElem_mem hr))).mono ?_⟩
  rintro e w2 ⟨va, vc, rfl, ho, hb2⟩
  have hb2' : Below wr.heap.size wr w2 := (below_drew _ _).trans hb2
  obtain ⟨us, how⟩ := hS.ow
  have b3 : Below w2.heap.size w2 (w2.alloc (.cells #[.string x.vs[r].nm, .int .i64 x.vs[r].id, .int .i64 x.vs[r].sz, .int .i64 x.vs[r].og, .int .i64 x.vs[r].kd, .bool x.vs[r].pt, .slice va x.vs[r].mp.length vc] 38)) := below1 _ _
  have hz := hb2'.size
  have hz3 := b3.size
  have q2 := hS.cb.lt
  have how2 := (how.next hb2').next b3
  have hb23 := hb2'.trans (b3.mono hz)
  obtain ⟨u', w', hr', hL, hg⟩ := how2.push 22 x.vs[r] va vc (own_next (own_mono ho (by show C + 1 ≤ wr.drew.heap.size; exact q2)) b3) (g := w2.heap.size) (heap_new _ _) (by rw [List.length_take]; have := hl.1; omega) (by omega)
  obtain ⟨ua, uc, rfl, _, _⟩ := hL.rd
  generalize (List.take r x.vs ++ [x.vs[r]]).length = un at *
  have k0 : ∀ g, g < C + 1 → w'.heap[g]? = wr.heap[g]? := fun g hgl => (hg.block g hgl).trans (hb23.block g (by omega))
  have p1 := hS.pb.keep (k0 R (by omega))
  have p2 := hS.rb.keep (k0 Q (by omega))
  have p3 := hS.cb.keep (k0 C (by omega))
  have p4 := (hS.cb.keep (hb2'.block _ q2)).cs.1.2.2.2
  have bt : But (fun g => g = C) w' (w'.setCell ⟨C, 3, none⟩ (.slice ua un uc)) := (But.refl (fun g => g = C) w').setCell (p := ⟨C, 3, none⟩) rfl _
  refine ⟨va, _, vc, ua, un, uc, w', rfl, p4, by omega, hr', p3.cs.1.2.2.2, p3.cs.2 3, ⟨p1.keep (bt.block _ p1.lt (by omega)), p2.keep (bt.block _ p2.lt (by omega)), p3.set3 _, ⟨us ++ [.slice va x.vs[r].mp.length vc], ?_⟩, ?_⟩⟩
  ·rw [List.take_succ_eq_append_getElem hr]
   exact hL.keep fun g hg1 hg2 => bt.block g hg2 (by omega)
  ·have := hS.bel.trans (hb23.mono hS.bel.size)
   have q4 := hg.size
   have q5 := hS.bel.size
   exact (this.trans (hg.mono (by omega))).trans (bt.below (by omega) (fun g hg e => by omega))
 have HEND : Hid (∀ (wr : World) (u : Value), CvS w wr R Q C x a c u x.vs.length → ∃ a' c', u = .slice a' x.vs.length c' ∧ VwB wr Q VW0 (.slice none 0 0) ∧ VwB wr C x (.slice a' x.vs.length c') ∧ VwB (put4 wr Q x (.slice a' x.vs.length c')) Q x (.slice a' x.vs.length c') ∧ RdV (put4 wr Q x (.slice a' x.vs.length c')).heap.size (put4 wr Q x (.slice a' x.vs.length c')) a' x.vs ∧ (a' = none → c' = 0) ∧ Below w.heap.size w (put4 wr Q x (.slice a' x.vs.length c'))) := by
  intro wr u hS
  obtain ⟨us, how⟩ := hS.ow
  rw [List.take_length] at how
  obtain ⟨a', c', rfl, _, _⟩ := how.rd
  have bt := but_put4 wr Q x (.slice a' x.vs.length c')
  have how2 : OwV (C + 1) (put4 wr Q x (.slice a' x.vs.length c')) (.slice a' x.vs.length c') x.vs us := how.keep fun g hg1 hg2 => bt.block g hg2 (by omega)
  obtain ⟨a2, c2, e, q, q0⟩ := how2.rd
  simp at e
  obtain ⟨rfl, rfl⟩ := e
  exact ⟨a', c', rfl, hS.rb, hS.cb, hS.rb.put4, q, q0, hS.bel.trans (bt.below hS.bel.size (fun g hg e => by omega))⟩
 have HL1 := hl.1
 have ST : CvS w ((((w.alloc (.cells #[.int .i64 x.cp, .int .i64 x.fr, .int .i64 x.nx, .slice a x.vs.length c] 24)).alloc (.cells #[.int .i64 0, .int .i64 0, .int .i64 0, .slice none 0 0] 24)).alloc (.cells #[.int .i64 x.cp, .int .i64 x.fr, .int .i64 x.nx, .slice (some ⟨C + 1, 0, none⟩) 0 0] 24)).alloc (.cells #[] 38)) R Q C x a c (.slice (some ⟨C + 1, 0, none⟩) 0 0) 0 := by
  have b4 : Below w.heap.size w ((((w.alloc (.cells #[.int .i64 x.cp, .int .i64 x.fr, .int .i64 x.nx, .slice a x.vs.length c] 24)).alloc (.cells #[.int .i64 0, .int .i64 0, .int .i64 0, .slice none 0 0] 24)).alloc (.cells #[.int .i64 x.cp, .int .i64 x.fr, .int .i64 x.nx, .slice (some ⟨C + 1, 0, none⟩) 0 0] 24)).alloc (.cells #[] 38)) := ((two_below w _ _).alloc (by simp; omega) _).alloc (by simp; omega) _
  subst hRR hQQ hCC
  refine ⟨?_, ?_, ?_, ⟨[], rfl, ⟨rfl, .inr ⟨w.heap.size + 2 + 1, 0, #[], rfl, Nat.le_refl _, ?_, Nat.le_refl _, Nat.zero_le _, rfl, rfl⟩⟩, fun i h => by simp at h⟩, b4⟩
  ·unfold VwB
   rw [Below.heap_alloc _ _ _ (by simp; omega), Below.heap_alloc _ _ _ (by simp; omega), Below.heap_alloc _ _ _ (by simp)]
   exact heap_new _ _
  ·unfold VwB
   rw [Below.heap_alloc _ _ _ (by simp), Below.heap_alloc _ _ _ (by simp)]
   have := heap_new (w.alloc (.cells #[.int .i64 x.cp, .int .i64 x.fr, .int .i64 x.nx, .slice a x.vs.length c] 24)) (.cells #[.int .i64 0, .int .i64 0, .int .i64 0, .slice none 0 0] 24)
   rw [World.size_alloc] at this
   exact this
  ·unfold VwB
   rw [Below.heap_alloc _ _ _ (by simp)]
   have := heap_new ((w.alloc (.cells #[.int .i64 x.cp, .int .i64 x.fr, .int .i64 x.nx, .slice a x.vs.length c] 24)).alloc (.cells #[.int .i64 0, .int .i64 0, .int .i64 0, .slice none 0 0] 24)) (.cells #[.int .i64 x.cp, .int .i64 x.fr, .int .i64 x.nx, .slice (some ⟨w.heap.size + 2 + 1, 0, none⟩) 0 0] 24)
   rw [World.size_alloc, World.size_alloc] at this
   exact this
  ·have := heap_new (((w.alloc (.cells #[.int .i64 x.cp, .int .i64 x.fr, .int .i64 x.nx, .slice a x.vs.length c] 24)).alloc (.cells #[.int .i64 0, .int .i64 0, .int .i64 0, .slice none 0 0] 24)).alloc (.cells #[.int .i64 x.cp, .int .i64 x.fr, .int .i64 x.nx, .slice (some ⟨w.heap.size + 2 + 1, 0, none⟩) 0 0] 24)) (.cells #[] 38)
   rw [World.size_alloc, World.size_alloc, World.size_alloc] at this
   exact this
 have HST := hid ST
 have E3 : w.heap.size + 1 + 1 = C := by omega
 have E2 : w.heap.size + 1 = Q := by omega
 have E1 := hRR.symm
 have HE := hid (And.intro E1 (And.intro E2 E3))
 clear hR hl ST hRR hQQ hCC E1 E2 E3
 dsimp only [viewA]
 go_enter Tryz.func10, Tryz.ntmps10
 go_wp2_with fail
 rw [HE.out.2.2, HE.out.2.1, HE.out.1]
 go_loopw [4] (fun i wr => ∃ (r : Nat) (u : Value), r ≤ x.vs.length ∧ i = .int .i64 (r : Int) ∧ CvS w wr R Q C x a c u r) (fun i _ => x.vs.length - (intOf i).toNat)
 case atStart => exact ⟨0, _, Nat.zero_le _, rfl, HST.out⟩
 case round =>
  clear HST
  obtain ⟨r, u, hr, rfl, hS⟩ := hrel
  obtain ⟨⟨p0, p1, p2, p3⟩, pf⟩ := hS.pb.cs
  obtain ⟨⟨q0, q1, q2, q3⟩, qf⟩ := hS.cb.cs
  clear p0 p1 p2 q0 q1 q2
  by_cases hlt : r < x.vs.length
  ·obtain ⟨b, off, a1, c1, rfl, ⟨c0, c1, c2, c3, c4, c5, c6⟩, hC⟩ := HSTEP.out wr r hlt _ hS
   have HC := hid hC
   have hr1 : (r : Int) < (x.vs.length : Int) := by omega
   clear hC hS HSTEP HEND
   dsimp only [volA] at HC
   generalize x.vs[r] = v at *
   go_wp2_with fail
   go_region_law (first
    | (go_simp; go_at_call 33; refine Calls.mono HC.out ?_; rintro e w2 ⟨va, vn, vc, ua, un, uc, w', rfl, k3, hlt2, hrun, g3, gf, hS2⟩; have HS2 := hid hS2; have ka3 : (w2.alloc (.cells #[.string v.nm, .int .i64 v.id, .int .i64 v.sz, .int .i64 v.og, .int .i64 v.kd, .bool v.pt, .slice va vn vc] 38)).cell? ⟨C, 3, none⟩ = some u := (World.cell?_alloc_past _ _ _ hlt2).trans k3; clear hS2; dsimp only)
    | (refine step_append_run rfl _ _ _ _ (by rfl) _ _ (by rfl) (by rfl) _ _ (by exact hrun) ?_))
   all_goals
    clear k3 hlt2 hrun g3 gf ka3 HC c0 c1 c2 c3 c4 c5 c6
    go_wp2
    go_roundw
    case rel => exact ⟨r + 1, _, by omega, by go_num, HS2.out⟩
    case measure => simp [intOf]; omega
  ·have e : r = x.vs.length := by omega
   subst e
   obtain ⟨a', c', rfl, t1, t2, t3, t4, t5, t6⟩ := HEND.out wr u hS
   obtain ⟨⟨g0, g1, g2, g3⟩, gf⟩ := t1.cs
   obtain ⟨⟨h0, h1, h2, h3⟩, hf⟩ := t2.cs
   have T3 := hid t3
   have T4 := hid t4
   have T5 := hid t5
   have T6 := hid t6
   clear t1 t2 t3 t4 t5 t6 HSTEP HEND hS
   go_wp2_with fail
   have HFin : Hid (∀ y, y = put4 wr Q x (.slice a' x.vs.length c') → VwB y Q x (.slice a' x.vs.length c') ∧ RdV y.heap.size y a' x.vs ∧ (a' = none → c' = 0) ∧ Below w.heap.size w y) := by
    rintro y rfl
    exact ⟨T3.out, T4.out, T5.out, T6.out⟩
   exact bodyPost_ret (results_row1 rfl _ _ Q 24 _ (0, 0) _ rfl (HFin.out _ rfl).1 Tryz.underlying24 rfl (by kernel_rfl)) rfl ⟨a', c', rfl, (HFin.out _ rfl).2⟩
end Go.Proofs.YtddddfankeepkaaGreatDoor
namespace Go.Proofs.YtddddfankeepkaaGreatDoor
open Go.RowKit
theorem run_copy_wide {P : Program} (w : World) (dT sT ty elem : TypeId) (g o dLen dCap : Nat) (a : Addr) (sLen sCap size : Nat) (cur : Array Value) (t : TypeId) (cs : List Value)
  (hu : P.underlying dT = some (.slice elem)) (hs : (P.info? elem).map (·.size) = some size)
  (hg : w.heap[g]? = some (.cells cur t (0, 0))) (hn : cs.length = Nat.min sLen dLen * size)
  (hsrc : ∀ j v, cs[j]? = some v → w.cell? (a.add j) = some v) (hfit : o + cs.length ≤ cur.size) (h1 : ∀ v ∈ cs, v.oneCell' = true) :
  (Builtin.copy_ #[dT, sT] ty #[.slice (some ⟨g, o, none⟩) dLen dCap, .slice (some a) sLen sCap]).run P w =
   .ok (goInt (Nat.min sLen dLen)) (w.setRow g (cur.toList.take o ++ cs ++ cur.toList.drop (o + cs.length)).toArray) := by
 have hl := run_loadCells_list (P := P) w a cs hsrc
 have hst := run_storeCells_at P g o t cs 0 cur w hg (by simpa using hfit) h1
 rw [hn] at hl
 cases hq : P.info? elem with
 | none => simp [hq] at hs
 | some i =>
  have hi : i.size = size := by simpa [hq] using hs
  simp [Builtin.copy_, run_underlying hu, Builtin.lenOf, Builtin.firstCells, sizeOf, typeInfo, hq, hi, hl, hst]
/-! ### ranges -/
def BlR (w : World) (g : Nat) (rs : List Rg) : Prop := w.heap[g]? = some (.cells (flatR rs).toArray 78 (0, 0))
theorem BlR.lt {w : World} {g : Nat} {rs : List Rg} (h : BlR w g rs) : g < w.heap.size := (Array.getElem?_eq_some_iff.1 h).1
theorem BlR.keep {w w' : World} {g : Nat} {rs : List Rg} (h : BlR w g rs) (hw : w'.heap[g]? = w.heap[g]?) : BlR w' g rs := by unfold BlR at *; rw [hw]; exact h
theorem BlR.cell {w : World} {g : Nat} {rs : List Rg} (h : BlR w g rs) (j : Nat) (hj : j < rs.length) : w.cell? ⟨g, j * 2, none⟩ = some (.int .i64 rs[j].f) ∧ w.cell? ⟨g, j * 2 + 1, none⟩ = some (.int .i64 rs[j].t) := by
 unfold BlR at h
 simp only [World.cell?, h]
 rw [List.getElem?_toArray, List.getElem?_toArray]
 exact flatR_at rs j hj
theorem BlR.frozen {w : World} {g : Nat} {rs : List Rg} (h : BlR w g rs) (i : Nat) : w.frozen? ⟨g, i, none⟩ = false := by
 unfold BlR at h
 simp [World.frozen?, h]
theorem BlR.rd {w : World} {g : Nat} {rs : List Rg} (h : BlR w g rs) (n : Nat) (hn : n ≤ rs.length) : RdR w.heap.size w (some ⟨g, 0, none⟩) (rs.take n) :=
 .inr ⟨g, 0, rfl, h.lt, fun j hj => by
  simp only [List.length_take] at hj
  rw [List.getElem_take, Nat.zero_add]
  exact h.cell j (by omega)⟩
theorem flatR_set : ∀ (rs : List Rg) (i : Nat) (t : Rg), i < rs.length → flatR (rs.set i t) = ((flatR rs).set (i * 2) (.int .i64 t.f)).set (i * 2 + 1) (.int .i64 t.t)
 | [], i, t, h => by simp at h
 | x :: ts, 0, t, h => by simp [flatR]
 | x :: ts, i + 1, t, h => by
  have ih := flatR_set ts i t (by simpa using h)
  rw [List.set_cons_succ, flatR, ih, flatR, show (i + 1) * 2 = i * 2 + 2 by omega]
  simp
theorem BlR.set2 {w : World} {g : Nat} {rs : List Rg} (h : BlR w g rs) (i : Nat) (t : Rg) (hi : i < rs.length) : BlR ((w.setCell ⟨g, i * 2, none⟩ (.int .i64 t.f)).setCell ⟨g, i * 2 + 1, none⟩ (.int .i64 t.t)) g (rs.set i t) := by
 unfold BlR at *
 rw [flatR_set rs i t hi]
 simp only [World.setCell, Array.getElem?_modify, if_true]
 rw [h]
 simp
theorem flatR_drop : ∀ (ys : List Rg) (k : Nat), flatR (ys.drop k) = (flatR ys).drop (k * 2)
 | [], k => by simp [flatR]
 | f :: r, 0 => by simp
 | f :: r, k + 1 => by
  have := flatR_drop r k
  rw [List.drop_succ_cons, this, show (k + 1) * 2 = k * 2 + 2 by omega, flatR]
  simp
theorem made_rg (n : Nat) : madeCells #[.int .i64 0, .int .i64 0] (n * 2) = (flatR (List.replicate n ⟨0, 0⟩)).toArray := by
 rw [← Array.toList_inj]
 apply List.ext_getElem?
 intro j
 by_cases hj : j < n * 2
 ·have h1 := flatR_at (List.replicate n ⟨0, 0⟩) (j / 2) (by rw [List.length_replicate]; omega)
  simp only [madeCells, Array.toList_map, Array.toList_range, List.getElem?_map, List.getElem?_range hj, Option.map_some]
  rw [List.getElem_replicate] at h1
  rcases (show j % 2 = 0 ∨ j % 2 = 1 by omega) with h | h
  ·have e : j / 2 * 2 = j := by omega
   rw [e] at h1
   rw [h1.1]
   simp [h]
  ·have e : j / 2 * 2 + 1 = j := by omega
   rw [e] at h1
   rw [h1.2]
   simp [h]
 ·rw [List.getElem?_eq_none (by simp [madeCells]; omega), List.getElem?_eq_none (by simp [flatR_len]; omega)]
theorem make_rg (n : Nat) (hn : n ≤ 67108864) (u : World) : (Instr.makeSlice 36 (.int .i64 (n : Int)) (.int .i64 (n : Int))).run Tryz.prog u =
  .ok (.slice (some ⟨u.heap.size, 0, none⟩) n n) (u.alloc (.cells (flatR (List.replicate n ⟨0, 0⟩)).toArray 78)) := by
 obtain ⟨i0, hi, hz0, hz1, hz2⟩ := info_parts info32
 have h := run_make (P := Tryz.prog) u 36 78 i0 _ Tryz.underlying36 hi hz0 .i64 .i64 (n : Int) (n : Int) (by omega) (Int.le_refl _) (by rw [hz2]; omega) (by omega)
 have e : ((n : Int)).toNat = n := by omega
 rw [e] at h
 rw [← made_rg]
 simpa [hz1, Value.cells] using h
theorem info32z : (Tryz.prog.info? 78).map (·.size) = some 2 := by kernel_rfl
theorem run_copy_none32 (w : World) (ty : TypeId) (d a : Option Addr) (M dCap sCap : Nat) : (Builtin.copy_ #[36, 36] ty #[.slice d M dCap, .slice a 0 sCap]).run Tryz.prog w = .ok (.int .i64 0) w := by
 obtain ⟨i0, hi, _, _, _⟩ := info_parts info32
 have hl : ∀ ad, (loadCells ad 0).run Tryz.prog w = .ok #[] w := fun ad => by simpa using run_loadCells_list (P := Tryz.prog) w ad [] (by simp)
 cases a <;> cases d <;> simp [Builtin.copy_, run_underlying Tryz.underlying36, Builtin.lenOf, Builtin.firstCells, sizeOf, typeInfo, hi, goInt, hl, storeCells]
theorem copy_rg {ty : TypeId} {w : World} {G M dCap sCap B : Nat} {a : Option Addr} {ys cs : List Rg} (hg : BlR w G ys) (hR : RdR B w a cs) (hM : cs.length ≤ M) (hfit : cs.length ≤ ys.length) :
  ∃ w', (Builtin.copy_ #[36, 36] ty #[.slice (some ⟨G, 0, none⟩) M dCap, .slice a cs.length sCap]).run Tryz.prog w = .ok (.int .i64 (cs.length : Int)) w' ∧ BlR w' G (cs ++ ys.drop cs.length) ∧ But (fun x => x = G) w w' := by
 by_cases h0 : cs = []
 ·subst h0
  exact ⟨w, run_copy_none32 w ty _ _ M dCap sCap, by simpa using hg, But.refl _ _⟩
 ·obtain ⟨b, off, rfl, hb, hc⟩ := hR.resolve_left h0
  have hmin : Nat.min cs.length M = cs.length := Nat.min_eq_left hM
  have h := run_copy_wide (P := Tryz.prog) w 36 36 ty 78 G 0 M dCap ⟨b, off, none⟩ cs.length sCap 2 (flatR ys).toArray 78 (flatR cs) Tryz.underlying36 info32z hg (by rw [hmin, flatR_len]) (rdr_src hc) (by simp [flatR_len]; omega) (flatR_one _)
  refine ⟨_, h.trans (by rw [hmin]; rfl), ?_, ?_⟩
  ·have := setRow_heap w G (flatR ys).toArray ((flatR ys).toArray.toList.take 0 ++ flatR cs ++ (flatR ys).toArray.toList.drop (0 + (flatR cs).length)).toArray 78 (0, 0) hg
   unfold BlR
   rw [this, flatR_app, flatR_drop]
   simp [flatR_len]
  ·exact ⟨rfl, rfl, rfl, by simp [World.setRow], fun k _ hx => setRow_other w G k _ (by intro e; exact hx e)⟩
/-! ### volumes -/
def BlV (w : World) (g : Nat) (os : List PV) (us : List Value) : Prop := us.length = os.length ∧ w.heap[g]? = some (.cells (flatV os us).toArray 38 (0, 0))
theorem BlV.lt {w : World} {g : Nat} {os : List PV} {us : List Value} (h : BlV w g os us) : g < w.heap.size := (Array.getElem?_eq_some_iff.1 h.2).1
theorem BlV.keep {w w' : World} {g : Nat} {os : List PV} {us : List Value} (h : BlV w g os us) (hw : w'.heap[g]? = w.heap[g]?) : BlV w' g os us := ⟨h.1, by rw [hw]; exact h.2⟩
theorem BlV.at {w : World} {g : Nat} {os : List PV} {us : List Value} (h : BlV w g os us) (j : Nat) (hj : j < os.length) (i : Nat) (hi : i < 7) : w.cell? ⟨g, j * 7 + i, none⟩ = (cells7 os[j] (us[j]'(by have := h.1; omega)))[i]? := by
 have h2 := h.2
 simp only [World.cell?, h2]
 rw [List.getElem?_toArray, flatV_at os us h.1 j hj i hi]
 simp
theorem BlV.frozen {w : World} {g : Nat} {os : List PV} {us : List Value} (h : BlV w g os us) (i : Nat) : w.frozen? ⟨g, i, none⟩ = false := by
 have h2 := h.2
 simp [World.frozen?, h2]
theorem flatV_set : ∀ (os : List PV) (us : List Value) (i : Nat) (o : PV) (u : Value), us.length = os.length → i < os.length → flatV (os.set i o) (us.set i u) = (((((((flatV os us).set (i * 7) (.string o.nm)).set (i * 7 + 1) (.int .i64 o.id)).set (i * 7 + 2) (.int .i64 o.sz)).set (i * 7 + 3) (.int .i64 o.og)).set (i * 7 + 4) (.int .i64 o.kd)).set (i * 7 + 5) (.bool o.pt)).set (i * 7 + 6) u
 | [], _, i, o, u, _, h => by simp at h
 | _ :: _, [], _, _, _, h, _ => by simp at h
 | x :: ts, y :: us, 0, o, u, _, h => by simp [flatV, cells7]
 | x :: ts, y :: us, i + 1, o, u, hl, h => by
  have ih := flatV_set ts us i o u (by simpa using hl) (by simpa using h)
  rw [List.set_cons_succ, List.set_cons_succ, flatV, ih, flatV, show (i + 1) * 7 = i * 7 + 7 by omega]
  simp [cells7]
def at7 (w : World) (g k : Nat) (o : PV) (u : Value) : World := ((((((w.setCell ⟨g, k, none⟩ (.string o.nm)).setCell ⟨g, k + 1, none⟩ (.int .i64 o.id)).setCell ⟨g, k + 2, none⟩ (.int .i64 o.sz)).setCell ⟨g, k + 3, none⟩ (.int .i64 o.og)).setCell ⟨g, k + 4, none⟩ (.int .i64 o.kd)).setCell ⟨g, k + 5, none⟩ (.bool o.pt)).setCell ⟨g, k + 6, none⟩ u
theorem BlV.set7 {w : World} {g : Nat} {os : List PV} {us : List Value} (h : BlV w g os us) (i : Nat) (o : PV) (u : Value) (hi : i < os.length) : BlV (at7 w g (i * 7) o u) g (os.set i o) (us.set i u) := by
 refine ⟨by simp [h.1], ?_⟩
 rw [flatV_set os us i o u h.1 hi]
 unfold at7
 simp only [World.setCell, Array.getElem?_modify, if_true]
 rw [h.2]
 simp
theorem BlV.set6 {w : World} {g : Nat} {os : List PV} {us : List Value} (h : BlV w g os us) (i : Nat) (u : Value) (hi : i < os.length) : BlV (w.setCell ⟨g, i * 7 + 6, none⟩ u) g os (us.set i u) := by
 refine ⟨by simp [h.1], ?_⟩
 have e : flatV os (us.set i u) = (flatV os us).set (i * 7 + 6) u := by
  have k : ∀ (os : List PV) (us : List Value) (i : Nat), us.length = os.length → i < os.length → flatV os (us.set i u) = (flatV os us).set (i * 7 + 6) u := by
   intro os
   induction os with
   | nil => intro us i _ h; simp at h
   | cons x ts ih =>
    intro us i hl hi
    cases us with
    | nil => simp at hl
    | cons y us =>
     cases i with
     | zero => simp [flatV, cells7]
     | succ i =>
      have := ih us i (by simpa using hl) (by simpa using hi)
      rw [List.set_cons_succ, flatV, this, flatV, show (i + 1) * 7 = i * 7 + 7 by omega]
      simp [cells7]
  exact k os us i h.1 hi
 rw [e]
 simp only [World.setCell, Array.getElem?_modify, if_true]
 rw [h.2]
 simp
theorem but_at7 (w : World) (g k : Nat) (o : PV) (u : Value) : But (fun x => x = g) w (at7 w g k o u) := by
 unfold at7
 exact ((((((((But.refl (fun x => x = g) w).setCell (p := ⟨g, k, none⟩) rfl _).setCell (p := ⟨g, k + 1, none⟩) rfl _).setCell (p := ⟨g, k + 2, none⟩) rfl _).setCell (p := ⟨g, k + 3, none⟩) rfl _).setCell (p := ⟨g, k + 4, none⟩) rfl _).setCell (p := ⟨g, k + 5, none⟩) rfl _).setCell (p := ⟨g, k + 6, none⟩) rfl _)
theorem made_vol (n : Nat) : madeCells #[.string ByteArray.empty, .int .i64 0, .int .i64 0, .int .i64 0, .int .i64 0, .bool false, .slice none 0 0] (n * 7) = (flatV (List.replicate n PV0) (List.replicate n (.slice none 0 0))).toArray := by
 rw [← Array.toList_inj]
 apply List.ext_getElem?
 intro j
 by_cases hj : j < n * 7
 ·have h1 := flatV_at (List.replicate n PV0) (List.replicate n (.slice none 0 0)) (by simp) (j / 7) (by rw [List.length_replicate]; omega) (j % 7) (by omega)
  rw [show j / 7 * 7 + j % 7 = j by omega] at h1
  rw [h1, List.getElem_replicate, List.getElem_replicate]
  simp only [madeCells, Array.toList_map, Array.toList_range, List.getElem?_map, List.getElem?_range hj, Option.map_some]
  rcases (show j % 7 = 0 ∨ j % 7 = 1 ∨ j % 7 = 2 ∨ j % 7 = 3 ∨ j % 7 = 4 ∨ j % 7 = 5 ∨ j % 7 = 6 by omega) with h | h | h | h | h | h | h <;> simp [h, cells7, PV0] <;> rfl
 ·rw [List.getElem?_eq_none (by simp [madeCells]; omega), List.getElem?_eq_none (by show (flatV _ _).length ≤ j; rw [flatV_len _ _ (by simp)]; simp; omega)]
theorem make_vol (n : Nat) (hn : n ≤ 67108864) (u : World) : (Instr.makeSlice 22 (.int .i64 (n : Int)) (.int .i64 (n : Int))).run Tryz.prog u =
  .ok (.slice (some ⟨u.heap.size, 0, none⟩) n n) (u.alloc (.cells (flatV (List.replicate n PV0) (List.replicate n (.slice none 0 0))).toArray 38)) := by
 obtain ⟨i0, hi, hz0, hz1, hz2⟩ := info_parts info30
 have h := run_make (P := Tryz.prog) u 22 38 i0 _ Tryz.underlying22 hi hz0 .i64 .i64 (n : Int) (n : Int) (by omega) (Int.le_refl _) (by rw [hz2]; omega) (by omega)
 have e : ((n : Int)).toNat = n := by omega
 rw [e] at h
 rw [← made_vol]
 simpa [hz1, Value.cells] using h
end Go.Proofs.YtddddfankeepkaaGreatDoor
namespace Go.Proofs.YtddddfankeepkaaGreatDoor
open Go.RowKit
def fil (k : Nat) : Rg := ⟨-7 - (k : Int), -8⟩
def fils (n : Nat) : List Rg := (List.range n).map fil
theorem fils_len (n : Nat) : (fils n).length = n := by simp [fils]
theorem fils_succ (n : Nat) : fils (n + 1) = fils n ++ [fil n] := by simp [fils, List.range_succ]
def lentR (mp : List Rg) : List Rg := mp ++ (fils (2 * mp.length + 70)).drop mp.length
theorem lentR_len (mp : List Rg) : (lentR mp).length = 2 * mp.length + 70 := by simp [lentR, fils_len]; omega
theorem lentR_take (mp : List Rg) : (lentR mp).take mp.length = mp := by simp [lentR]
theorem lentR_hi (mp : List Rg) (k : Nat) (h1 : mp.length ≤ k) (h2 : k < (lentR mp).length) : (lentR mp)[k] = fil k := by
 have h3 := h2
 rw [lentR_len] at h3
 have : (lentR mp)[k]? = some (fil k) := by
  unfold lentR fils
  rw [List.getElem?_append_right h1, List.getElem?_drop, List.getElem?_map, show mp.length + (k - mp.length) = k by omega, List.getElem?_range h3]
  rfl
 rw [List.getElem?_eq_getElem h2] at this
 exact Option.some.inj this
def sBeh : ByteArray := ⟨#[98, 101, 104, 105, 110, 100]⟩
def beh (k : Nat) : PV := ⟨sBeh, -9 - (k : Int), 0, 0, 0, false, []⟩
def behs (n m : Nat) : List PV := (List.range m).map fun i => beh (n + i)
theorem behs_len (n m : Nat) : (behs n m).length = m := by simp [behs]
theorem behs_succ (n m : Nat) : behs n (m + 1) = behs n m ++ [beh (n + m)] := by simp [behs, List.range_succ]
abbrev nilS : Value := .slice none 0 0
def sl (v : PV) (g : Nat) : Value := .slice (some ⟨g, 0, none⟩) v.mp.length (2 * v.mp.length + 70)
theorem set_rep {α : Type} (A : List α) (m : Nat) (z v : α) {k : Nat} (hk : k = A.length) : (A ++ List.replicate (m + 1) z).set k v = (A ++ [v]) ++ List.replicate m z := by
 subst hk
 rw [List.set_append_right _ _ (Nat.le_refl _), Nat.sub_self, List.replicate_succ, List.set_cons_zero, List.append_assoc]
 rfl
theorem set_sameV {α : Type} (A : List α) (m i : Nat) (z : α) {k : Nat} (hk : k = A.length + i) : (A ++ List.replicate m z).set k z = A ++ List.replicate m z := by
 subst hk
 rw [List.set_append_right _ _ (by omega), List.set_replicate_self]
structure LeS (w wr : World) (Q C F : Nat) (x : VW) (a1 : Option Addr) (c1 : Nat) (os : List PV) (us : List Value) (gs : List Nat) : Prop where
 rb : VwB wr Q VW0 nilS
 cb : VwB wr C x (.slice a1 x.vs.length c1)
 rd : RdV C wr a1 x.vs
 fb : BlV wr F os us
 gl : gs.length ≤ x.vs.length
 gb : ∀ i (h : i < gs.length), F < gs[i] ∧ BlR wr gs[i] (lentR (x.vs[i]'(by omega)).mp)
 bel : Below w.heap.size w wr
 oQ : w.heap.size ≤ Q
 oC : Q < C
 oF : C < F
 gn : gs.Nodup
theorem LeS.next {w wr wi : World} {Q C F : Nat} {x : VW} {a1 : Option Addr} {c1 : Nat} {os : List PV} {us : List Value} {gs : List Nat} (h : LeS w wr Q C F x a1 c1 os us gs) (hb : Below wr.heap.size wr wi) : LeS w wi Q C F x a1 c1 os us gs :=
 ⟨h.rb.keep (hb.block _ h.rb.lt), h.cb.keep (hb.block _ h.cb.lt), h.rd.below (hb.mono (Nat.le_of_lt h.cb.lt)), h.fb.keep (hb.block _ h.fb.lt), h.gl, fun i hi => ⟨(h.gb i hi).1, (h.gb i hi).2.keep (hb.block _ (h.gb i hi).2.lt)⟩, h.bel.trans (hb.mono h.bel.size), h.oQ, h.oC, h.oF, h.gn⟩
theorem LeS.store {w wr wi : World} {Q C F : Nat} {x : VW} {a1 : Option Addr} {c1 : Nat} {os os' : List PV} {us us' : List Value} {gs : List Nat} (h : LeS w wr Q C F x a1 c1 os us gs) (hb : But (fun k => k = F) wr wi) (hf : BlV wi F os' us') : LeS w wi Q C F x a1 c1 os' us' gs :=
 have o1 := h.oF
 have o2 := h.oC
 have o3 := h.oQ
 have o4 := h.fb.lt
 ⟨h.rb.keep (hb.block _ h.rb.lt (by omega)), h.cb.keep (hb.block _ h.cb.lt (by omega)), h.rd.below (hb.below (by omega) (fun k hk e => by omega)), hf, h.gl, fun i hi => ⟨(h.gb i hi).1, (h.gb i hi).2.keep (hb.block _ (h.gb i hi).2.lt (by have := (h.gb i hi).1; omega))⟩, h.bel.trans (hb.below h.bel.size (fun k hk e => by omega)), h.oQ, h.oC, h.oF, h.gn⟩
theorem LeS.step {w wr wi : World} {Q C F : Nat} {x : VW} {a1 : Option Addr} {c1 : Nat} {gs : List Nat} {m : Nat} (r : Nat) (hr : r < x.vs.length) (hrg : gs.length = r)
  (h : LeS w wr Q C F x a1 c1 (x.vs.take r ++ List.replicate (m + 1) PV0) (List.zipWith sl (x.vs.take r) gs ++ List.replicate (m + 1) nilS) gs) (b off : Nat) (a2 : Option Addr) (c2 : Nat) (hbC : b < C) (hV : VolC wr b (off + r * 7) x.vs[r] a2 c2) (hRd : RdR C wr a2 x.vs[r].mp)
  (G : Nat) (hG0 : G = wr.heap.size) (hb : Below wr.heap.size wr wi) (hG : BlR wi G (fils (2 * x.vs[r].mp.length + 70))) :
  ∃ w2, (Builtin.copy_ #[36, 36] 3 #[.slice (some ⟨G, 0, none⟩) (2 * x.vs[r].mp.length + 70) (2 * x.vs[r].mp.length + 70), .slice a2 x.vs[r].mp.length c2]).run Tryz.prog wi = .ok (.int .i64 (x.vs[r].mp.length : Int)) w2 ∧
   LeS w w2 Q C F x a1 c1 (x.vs.take r ++ List.replicate (m + 1) PV0) (List.zipWith sl (x.vs.take r) gs ++ List.replicate (m + 1) nilS) gs ∧ VolC w2 b (off + r * 7) x.vs[r] a2 c2 ∧ VolC wi b (off + r * 7) x.vs[r] a2 c2 ∧
   ∀ y, y = (at7 w2 F (r * 7) x.vs[r] (.slice a2 x.vs[r].mp.length c2)).setCell ⟨F, r * 7 + 6, none⟩ (.slice (some ⟨G, 0, none⟩) x.vs[r].mp.length (2 * x.vs[r].mp.length + 70)) → LeS w y Q C F x a1 c1 (x.vs.take (r + 1) ++ List.replicate m PV0) (List.zipWith sl (x.vs.take (r + 1)) (gs ++ [G]) ++ List.replicate m nilS) (gs ++ [G]) := by
 have o1 := h.oF
 have o2 := h.oC
 have o3 := h.oQ
 have o4 := h.fb.lt
 have z := hb.size
 have h2 := h.next hb
 obtain ⟨w2, hrun, hB2, hb2⟩ := copy_rg (ty := 3) (dCap := 2 * x.vs[r].mp.length + 70) (M := 2 * x.vs[r].mp.length + 70) (sCap := c2) hG (hRd.below (hb.mono (by omega))) (by omega) (by rw [fils_len]; omega)
 have h3 : LeS w w2 Q C F x a1 c1 (x.vs.take r ++ List.replicate (m + 1) PV0) (List.zipWith sl (x.vs.take r) gs ++ List.replicate (m + 1) nilS) gs :=
  ⟨h2.rb.keep (hb2.block _ h2.rb.lt (by omega)), h2.cb.keep (hb2.block _ h2.cb.lt (by omega)), h2.rd.below (hb2.below (by omega) (fun k hk e => by omega)), h2.fb.keep (hb2.block _ h2.fb.lt (by omega)), h2.gl, fun i hi => ⟨(h2.gb i hi).1, (h2.gb i hi).2.keep (hb2.block _ (h2.gb i hi).2.lt (by have := (h.gb i hi).2.lt; omega))⟩, h2.bel.trans (hb2.below h2.bel.size (fun k hk e => by have := h.bel.size; omega)), h2.oQ, h2.oC, h2.oF, h2.gn⟩
 have hVi : VolC wi b (off + r * 7) x.vs[r] a2 c2 := hV.below (hb.mono (by omega : C ≤ wr.heap.size)) hbC
 have hV2 : VolC w2 b (off + r * 7) x.vs[r] a2 c2 := hVi.below (hb2.below (B := C) (by omega) (fun k hk e => by omega)) hbC
 have e1 : (x.vs.take r).length = r := by rw [List.length_take]; omega
 have hlen : (x.vs.take r ++ List.replicate (m + 1) PV0).length = r + (m + 1) := by rw [List.length_append, e1, List.length_replicate]
 have e2 : (List.zipWith sl (x.vs.take r) gs).length = r := by rw [List.length_zipWith, e1, hrg, Nat.min_self]
 refine ⟨w2, hrun, h3, hV2, hVi, fun y hy => ?_⟩
 have s1 := h3.fb.set7 r x.vs[r] (.slice a2 x.vs[r].mp.length c2) (by omega)
 rw [set_rep _ _ _ _ e1.symm, set_rep _ _ _ _ e2.symm] at s1
 have s2 := s1.set6 r (.slice (some ⟨G, 0, none⟩) x.vs[r].mp.length (2 * x.vs[r].mp.length + 70)) (by simp only [List.length_append, e1, List.length_cons, List.length_nil, List.length_replicate]; omega)
 rw [List.append_assoc (List.zipWith sl (x.vs.take r) gs), List.set_append_right _ _ (by omega), e2, Nat.sub_self] at s2
 rw [← hy] at s2
 have bt : But (fun k => k = F) w2 y := by rw [hy]; exact (but_at7 w2 F (r * 7) _ _).setCell (p := ⟨F, r * 7 + 6, none⟩) rfl _
 have ez : List.zipWith sl (x.vs.take (r + 1)) (gs ++ [G]) = List.zipWith sl (x.vs.take r) gs ++ [sl x.vs[r] G] := by
  rw [List.take_succ_eq_append_getElem hr, List.zipWith_append (by rw [e1, hrg])]
  rfl
 have h4 := h3.store bt s2
 rw [ez, List.take_succ_eq_append_getElem hr]
 have hB3 : BlR y G (lentR x.vs[r].mp) := hB2.keep (bt.block _ hB2.lt (by omega))
 exact ⟨h4.rb, h4.cb, h4.rd, by have := h4.fb; simpa [sl] using this, by simp; omega, fun i hi => by
  by_cases he : i < gs.length
  ·rw [List.getElem_append_left he]
   exact h4.gb i he
  ·have e : i = r := by simp at hi; omega
   subst e
   have e3 : (gs ++ [G])[i] = G := by rw [List.getElem_append_right (by omega)]; simp
   rw [e3]
   exact ⟨by omega, hB3⟩, h4.bel, h4.oQ, h4.oC, h4.oF, by
  rw [List.nodup_append]
  refine ⟨h4.gn, by simp, fun u hu v hv e => ?_⟩
  obtain ⟨i, hi, rfl⟩ := List.getElem_of_mem hu
  have := (h.gb i hi).2.lt
  simp at hv
  omega⟩
theorem LeS.fill {w wr : World} {Q C F : Nat} {x : VW} {a1 : Option Addr} {c1 : Nat} {gs : List Nat} {m i : Nat} (hg : gs.length = x.vs.length) (k : Nat) (hk : k = x.vs.length + i)
  (h : LeS w wr Q C F x a1 c1 (x.vs ++ (behs x.vs.length i ++ List.replicate (m + 1) PV0)) (List.zipWith sl x.vs gs ++ List.replicate (i + (m + 1)) nilS) gs) (y : World) (hy : y = at7 wr F (k * 7) (beh k) nilS) :
  LeS w y Q C F x a1 c1 (x.vs ++ (behs x.vs.length (i + 1) ++ List.replicate m PV0)) (List.zipWith sl x.vs gs ++ List.replicate ((i + 1) + m) nilS) gs := by
 have e2 : (List.zipWith sl x.vs gs).length = x.vs.length := by rw [List.length_zipWith, hg, Nat.min_self]
 have s1 := h.fb.set7 k (beh k) nilS (by simp [behs_len]; omega)
 rw [set_sameV _ _ i nilS (by rw [e2, hk]), ← List.append_assoc, set_rep _ _ _ _ (by simp [behs_len, hk]), ← hy] at s1
 have h2 := h.store (by rw [hy]; exact but_at7 _ _ _ _ _) s1
 have e3 : x.vs ++ (behs x.vs.length (i + 1) ++ List.replicate m PV0) = x.vs ++ behs x.vs.length i ++ [beh k] ++ List.replicate m PV0 := by
  rw [behs_succ, hk]
  simp
 rw [e3, show i + 1 + m = i + (m + 1) by omega]
 exact h2
structure LentV (w : World) (F : Nat) (gs : List Nat) (vs : List PV) : Prop where
 gl : gs.length = vs.length
 fb : BlV w F (vs ++ behs vs.length (vs.length + 70)) (List.zipWith sl vs gs ++ List.replicate (vs.length + 70) nilS)
 gb : ∀ i (h : i < vs.length), BlR w (gs[i]'(by omega)) (lentR vs[i].mp)
 nd : gs.Nodup
 lo : ∀ g ∈ gs, F < g
theorem LentV.next {w w' : World} {F : Nat} {gs : List Nat} {vs : List PV} (h : LentV w F gs vs) (hb : Below w.heap.size w w') : LentV w' F gs vs :=
 ⟨h.gl, h.fb.keep (hb.block _ h.fb.lt), fun i hi => (h.gb i hi).keep (hb.block _ (h.gb i hi).lt), h.nd, h.lo⟩
theorem LentV.vol {w : World} {F : Nat} {gs : List Nat} {vs : List PV} (h : LentV w F gs vs) (j : Nat) (hj : j < vs.length) : VolC w F (j * 7) vs[j] (some ⟨gs[j]'(by have := h.gl; omega), 0, none⟩) (2 * vs[j].mp.length + 70) := by
 have hgl := h.gl
 have e2 : (List.zipWith sl vs gs).length = vs.length := by rw [List.length_zipWith, hgl, Nat.min_self]
 have k := fun i hi => h.fb.at j (by simp; omega) i hi
 have e3 : (vs ++ behs vs.length (vs.length + 70))[j]'(by simp; omega) = vs[j] := List.getElem_append_left hj
 have e4 : (List.zipWith sl vs gs ++ List.replicate (vs.length + 70) nilS)[j]'(by simp; omega) = sl vs[j] (gs[j]'(by omega)) := by
  rw [List.getElem_append_left (by omega), List.getElem_zipWith]
 simp only [e3, e4] at k
 exact ⟨k 0 (by omega), k 1 (by omega), k 2 (by omega), k 3 (by omega), k 4 (by omega), k 5 (by omega), k 6 (by omega)⟩
theorem LentV.rd {w : World} {F : Nat} {gs : List Nat} {vs : List PV} (h : LentV w F gs vs) : RdV w.heap.size w (some ⟨F, 0, none⟩) vs :=
 .inr ⟨F, 0, rfl, h.fb.lt, fun j hj => ⟨_, _, by rw [Nat.zero_add]; exact h.vol j hj, by
  have := (h.gb j hj).rd vs[j].mp.length (by rw [lentR_len]; omega)
  rwa [lentR_take] at this, fun e => by cases e⟩⟩
theorem LeS.done {w wr : World} {Q C F : Nat} {x : VW} {a1 : Option Addr} {c1 : Nat} {gs : List Nat} (hg : gs.length = x.vs.length)
  (h : LeS w wr Q C F x a1 c1 (x.vs ++ (behs x.vs.length (x.vs.length + 70) ++ List.replicate 0 PV0)) (List.zipWith sl x.vs gs ++ List.replicate (x.vs.length + 70) nilS) gs) (u : Value) (y : World) (hy : y = put4 (wr.setCell ⟨C, 3, none⟩ u) Q x u) :
  LentV y F gs x.vs ∧ VwB y Q x u ∧ Below w.heap.size w y := by
 have o1 := h.oF
 have o2 := h.oC
 have o3 := h.oQ
 have o4 := h.bel.size
 have b1 : But (fun k => k = C) wr (wr.setCell ⟨C, 3, none⟩ u) := (But.refl (fun k => k = C) wr).setCell (p := ⟨C, 3, none⟩) rfl _
 have b2 := but_put4 (wr.setCell ⟨C, 3, none⟩ u) Q x u
 have s1 := b1.size
 rw [← hy] at b2
 have kk : ∀ g, g < wr.heap.size → C < g → y.heap[g]? = wr.heap[g]? := fun g hg hgC => (b2.block g (by omega) (by omega)).trans (b1.block g hg (by omega))
 have hf := h.fb
 rw [List.replicate_zero, List.append_nil] at hf
 refine ⟨⟨hg, hf.keep (kk F hf.lt (by omega)), fun i hi => (h.gb i (by omega)).2.keep (kk _ (h.gb i (by omega)).2.lt (by have := (h.gb i (by omega)).1; omega)), h.gn, fun g hg2 => by obtain ⟨i, hi, rfl⟩ := List.getElem_of_mem hg2; exact (h.gb i hi).1⟩, ?_, ?_⟩
 ·rw [hy]
  exact VwB.put4 (h.rb.keep (b1.block _ h.rb.lt (by omega)))
 ·exact (h.bel.trans (b1.below o4 (fun k hk e => by omega))).trans (b2.below (by omega) (fun k hk e => by omega))
end Go.Proofs.YtddddfankeepkaaGreatDoor
namespace Go.Proofs.YtddddfankeepkaaGreatDoor
open Go.RowKit
theorem BlV.cs7 {w : World} {g : Nat} {os : List PV} {us : List Value} (h : BlV w g os us) (j : Nat) (hj : j < os.length) : ∃ v0 v1 v2 v3 v4 v5 v6, w.cell? ⟨g, j * 7, none⟩ = some v0 ∧ w.cell? ⟨g, j * 7 + 1, none⟩ = some v1 ∧ w.cell? ⟨g, j * 7 + 2, none⟩ = some v2 ∧ w.cell? ⟨g, j * 7 + 3, none⟩ = some v3 ∧ w.cell? ⟨g, j * 7 + 4, none⟩ = some v4 ∧ w.cell? ⟨g, j * 7 + 5, none⟩ = some v5 ∧ w.cell? ⟨g, j * 7 + 6, none⟩ = some v6 := by
 have k := fun i hi => h.at j hj i hi
 exact ⟨_, _, _, _, _, _, _, k 0 (by omega), k 1 (by omega), k 2 (by omega), k 3 (by omega), k 4 (by omega), k 5 (by omega), k 6 (by omega)⟩
def LendQ (w : World) (x : VW) (e : Ending) (w' : World) : Prop := ∃ F gs, e = .returned (viewA x (some ⟨F, 0, none⟩) (2 * x.vs.length + 70)) ∧ LentV w' F gs x.vs ∧ w.heap.size ≤ F ∧ Below w.heap.size w w'
set_option maxRecDepth 100000 in
set_option maxHeartbeats 8000000 in
theorem Lend_any (x : VW) (a : Option Addr) (c : Nat) (w : World) (hl : shV x.vs) (hR : RdV w.heap.size w a x.vs) :
  Calls Tryz.prog 15 #[viewA x a c] w fun e w' => LendQ w x e w' := by
 obtain ⟨R, hRR⟩ : ∃ R, R = w.heap.size := ⟨_, rfl⟩
 obtain ⟨Q, hQQ⟩ : ∃ Q, Q = R + 1 := ⟨_, rfl⟩
 obtain ⟨W0, hW0⟩ : ∃ W0, W0 = (w.alloc (.cells #[.int .i64 x.cp, .int .i64 x.fr, .int .i64 x.nx, .slice a x.vs.length c] 24)).alloc (.cells #[.int .i64 0, .int .i64 0, .int .i64 0, .slice none 0 0] 24) := ⟨_, rfl⟩
 have b0 : Below w.heap.size w W0 := by rw [hW0]; exact two_below _ _ _
 have z0 : W0.heap.size = R + 2 := by rw [hW0, hRR]; simp
 have r0 : VwB W0 R x (.slice a x.vs.length c) := by
  unfold VwB
  rw [hW0, hRR, Below.heap_alloc _ _ _ (by simp)]
  exact heap_new _ _
 have r1 : VwB W0 Q VW0 (.slice none 0 0) := by
  have := heap_new (w.alloc (.cells #[.int .i64 x.cp, .int .i64 x.fr, .int .i64 x.nx, .slice a x.vs.length c] 24)) (.cells #[.int .i64 0, .int .i64 0, .int .i64 0, .slice none 0 0] 24)
  rw [World.size_alloc, ← hRR, ← hW0, ← hQQ] at this
  exact this
 have hmkF := fun u => make_vol (2 * x.vs.length + 70) (by have := hl.1; omega) u
 rw [show ((2 * x.vs.length + 70 : Nat) : Int) = 2 * (x.vs.length : Int) + 70 by omega] at hmkF
 obtain ⟨TF, hTF⟩ : ∃ TF, TF = (flatV (List.replicate (2 * x.vs.length + 70) PV0) (List.replicate (2 * x.vs.length + 70) (.slice none 0 0))).toArray := ⟨_, rfl⟩
 simp only [← hTF] at hmkF
 have HC : Hid (Calls Tryz.prog 10 #[viewA x a c] W0 fun e w1 => ∃ a1 c1, e = .returned (viewA x a1 c1) ∧ VwB w1 R x (.slice a x.vs.length c) ∧ R < w1.heap.size ∧ ∀ C F, C = w1.heap.size → F = w1.heap.size + 1 → LeS w ((w1.alloc (.cells #[.int .i64 x.cp, .int .i64 x.fr, .int .i64 x.nx, .slice a1 x.vs.length c1] 24)).alloc (.cells TF 38)) Q C F x a1 c1 (x.vs.take 0 ++ List.replicate (2 * x.vs.length + 70) PV0) (List.zipWith sl (x.vs.take 0) [] ++ List.replicate (2 * x.vs.length + 70) nilS) []) := by
  refine (CopyView_any x a c W0 hl ((hR.below b0).mono b0.size)).mono ?_
  rintro e w1 ⟨a1, c1, rfl, hRd, _, hb1⟩
  have z1 := hb1.size
  refine ⟨a1, c1, rfl, r0.keep (hb1.block _ r0.lt), by omega, ?_⟩
  rintro C F hC hF
  have b2 : Below w1.heap.size w1 ((w1.alloc (.cells #[.int .i64 x.cp, .int .i64 x.fr, .int .i64 x.nx, .slice a1 x.vs.length c1] 24)).alloc (.cells TF 38)) := two_below _ _ _
  have bb := b0.trans ((hb1.trans (b2.mono z1)).mono b0.size)
  subst hC hF
  refine ⟨(r1.keep (hb1.block _ r1.lt)).keep (b2.block _ (Nat.lt_of_lt_of_le r1.lt z1)), ?_, hRd.below b2, ⟨by simp, ?_⟩, Nat.zero_le _, fun i hi => by simp at hi, bb, by omega, by omega, by omega, List.nodup_nil⟩
  ·unfold VwB
   rw [Below.heap_alloc _ _ _ (by simp)]
   exact heap_new _ _
  ·have := heap_new (w1.alloc (.cells #[.int .i64 x.cp, .int .i64 x.fr, .int .i64 x.nx, .slice a1 x.vs.length c1] 24)) (.cells TF 38)
   rw [World.size_alloc] at this
   rw [this, hTF]
   simp
 have HE : Hid (w.heap.size = R ∧ w.heap.size + 1 = Q) := ⟨by omega, by omega⟩
 have HW0 := hid hW0
 have hn := hl.1
 have HL := hid hl
 clear hW0 b0 z0 r0 r1 hR hRR hQQ hTF hl
 dsimp only [viewA] at HC ⊢
 go_enter Tryz.func15, Tryz.ntmps15
 go_wp2_with fail
 rw [← HW0.out, HE.out.2, HE.out.1]
 refine HC.out.mono ?_
 rintro e w1 ⟨a1, c1, rfl, p1, hRl, hS⟩
 have HS := hid hS
 obtain ⟨⟨_, _, _, p3⟩, _⟩ := p1.cs
 clear p1 hS HC HW0
 go_wp2_with fail
 obtain ⟨C, hC⟩ : ∃ C, C = w1.heap.size := ⟨_, rfl⟩
 obtain ⟨F, hF⟩ : ∃ F, F = w1.heap.size + 1 := ⟨_, rfl⟩
 have HST := hid (HS.out C F hC hF)
 rw [← hF, ← hC]
 clear HS p3 hRl hC hF hmkF
 go_loopw [5] (fun i wr => ∃ (r : Nat) (gs : List Nat), r ≤ x.vs.length ∧ i = .int .i64 (r : Int) ∧ gs.length = r ∧ LeS w wr Q C F x a1 c1 (x.vs.take r ++ List.replicate (2 * x.vs.length + 70 - r) PV0) (List.zipWith sl (x.vs.take r) gs ++ List.replicate (2 * x.vs.length + 70 - r) nilS) gs) (fun i _ => x.vs.length - (intOf i).toNat)
 case atStart => exact ⟨0, [], Nat.zero_le _, rfl, rfl, HST.out⟩
 case round =>
  clear HST
  generalize wr = wo at *
  obtain ⟨r, gs, hr, rfl, hg, hS⟩ := hrel
  obtain ⟨⟨_, _, _, q3⟩, _⟩ := hS.cb.cs
  by_cases hlt : r < x.vs.length
  ·obtain ⟨b, off, ea, hbC, hc⟩ := hS.rd.resolve_left (fun e => by rw [e] at hlt; simp at hlt)
   obtain ⟨a2, c2, hV, hRd, _⟩ := hc r hlt
   subst ea
   obtain ⟨m, hm⟩ : ∃ m, 2 * x.vs.length + 70 - r = m + 1 := ⟨2 * x.vs.length + 69 - r, by omega⟩
   rw [hm] at hS
   have hm2 : 2 * x.vs.length + 70 - (r + 1) = m := by omega
   have c6 := hV.2.2.2.2.2.2
   have hk := HL.out.2 x.vs[r] (List.getElem_mem hlt)
   have hmk := fun u => make_rg (2 * x.vs[r].mp.length + 70) (by omega) u
   rw [show ((2 * x.vs[r].mp.length + 70 : Nat) : Int) = 2 * (x.vs[r].mp.length : Int) + 70 by omega] at hmk
   obtain ⟨TR, hTR⟩ : ∃ TR, TR = (flatR (List.replicate (2 * x.vs[r].mp.length + 70) ⟨0, 0⟩)).toArray := ⟨_, rfl⟩
   simp only [← hTR] at hmk
   obtain ⟨G, hG⟩ : ∃ G, G = wo.heap.size := ⟨_, rfl⟩
   have HI0 : Hid (BlR (wo.alloc (.cells TR 78)) G (fils 0 ++ List.replicate (2 * x.vs[r].mp.length + 70) ⟨0, 0⟩) ∧ Below wo.heap.size wo (wo.alloc (.cells TR 78))) := ⟨by rw [hG, hTR]; exact heap_new _ _, below1 _ _⟩
   have HIN : Hid (∀ wi, Below wo.heap.size wo wi → BlR wi G (fils (2 * x.vs[r].mp.length + 70)) → ∃ w2, (Builtin.copy_ #[36, 36] 3 #[.slice (some ⟨G, 0, none⟩) (2 * x.vs[r].mp.length + 70) (2 * x.vs[r].mp.length + 70), .slice a2 x.vs[r].mp.length c2]).run Tryz.prog wi = .ok (.int .i64 (x.vs[r].mp.length : Int)) w2 ∧
     wi.cell? ⟨C, 3, none⟩ = some (.slice (some ⟨b, off, none⟩) x.vs.length c1) ∧ wi.cell? ⟨b, off + r * 7 + 6, none⟩ = some (.slice a2 x.vs[r].mp.length c2) ∧ w2.cell? ⟨C, 3, none⟩ = some (.slice (some ⟨b, off, none⟩) x.vs.length c1) ∧ VolC w2 b (off + r * 7) x.vs[r] a2 c2 ∧
     (∃ v0 v1 v2 v3 v4 v5 v6, w2.cell? ⟨F, r * 7, none⟩ = some v0 ∧ w2.cell? ⟨F, r * 7 + 1, none⟩ = some v1 ∧ w2.cell? ⟨F, r * 7 + 2, none⟩ = some v2 ∧ w2.cell? ⟨F, r * 7 + 3, none⟩ = some v3 ∧ w2.cell? ⟨F, r * 7 + 4, none⟩ = some v4 ∧ w2.cell? ⟨F, r * 7 + 5, none⟩ = some v5 ∧ w2.cell? ⟨F, r * 7 + 6, none⟩ = some v6) ∧ (∀ i, w2.frozen? ⟨F, i, none⟩ = false) ∧
     ∀ y, y = (at7 w2 F (r * 7) x.vs[r] (.slice a2 x.vs[r].mp.length c2)).setCell ⟨F, r * 7 + 6, none⟩ (.slice (some ⟨G, 0, none⟩) x.vs[r].mp.length (2 * x.vs[r].mp.length + 70)) → LeS w y Q C F x (some ⟨b, off, none⟩) c1 (x.vs.take (r + 1) ++ List.replicate (2 * x.vs.length + 70 - (r + 1)) PV0) (List.zipWith sl (x.vs.take (r + 1)) (gs ++ [G]) ++ List.replicate (2 * x.vs.length + 70 - (r + 1)) nilS) (gs ++ [G])) := fun wi hb hB => by
    obtain ⟨w2, k1, k2, k3, k4, k5⟩ := hS.step r hlt hg b off a2 c2 hbC hV hRd G hG hb hB
    rw [hm2]
    exact ⟨w2, k1, (hS.next hb).cb.cs.1.2.2.2, k4.2.2.2.2.2.2, k2.cb.cs.1.2.2.2, k3, k2.fb.cs7 r (by rw [List.length_append, List.length_take, List.length_replicate]; omega), k2.fb.frozen, k5⟩
   have HG := hid hG
   have hCF : C ≠ F := by have := hS.oF; omega
   have hbF : b ≠ F := by have := hS.oF; omega
   clear hS hc hRd hV hm hm2 hTR hG HL
   generalize x.vs[r] = v at *
   generalize hvl : v.mp.length = kl at *
   have HVL := hid hvl
   clear hvl
   have hr1 : (r : Int) < (x.vs.length : Int) := by omega
   go_wp2_with fail
   rw [← HG.out]
   go_loopw [7] (fun kv wi => ∃ k : Nat, kv = .int .i64 (k : Int) ∧ k ≤ 2 * kl + 70 ∧ BlR wi G (fils k ++ List.replicate (2 * kl + 70 - k) ⟨0, 0⟩) ∧ Below wo.heap.size wo wi) (fun kv _ => 2 * kl + 70 - (intOf kv).toNat)
   case atStart => exact ⟨0, rfl, Nat.zero_le _, HI0.out.1, HI0.out.2⟩
   case round =>
    clear HI0
    obtain ⟨k, rfl, hkk, hB, hBe⟩ := hrel
    by_cases q : k < 2 * kl + 70
    ·have hlen : (fils k ++ List.replicate (2 * kl + 70 - k) (⟨0, 0⟩ : Rg)).length = 2 * kl + 70 := by rw [List.length_append, fils_len, List.length_replicate]; omega
     obtain ⟨d0, d1⟩ := hB.cell k (by omega)
     have f0 := hB.frozen (k * 2)
     have f1 := hB.frozen (k * 2 + 1)
     have HNX : Hid (∀ W, W = (wr.setCell ⟨G, k * 2, none⟩ (.int .i64 (-7 - (k : Int)))).setCell ⟨G, k * 2 + 1, none⟩ (.int .i64 (-8)) → BlR W G (fils (k + 1) ++ List.replicate (2 * kl + 70 - (k + 1)) ⟨0, 0⟩) ∧ Below wo.heap.size wo W) := fun W hW => by
      have h4 := hB.set2 k (fil k) (by omega)
      have e4 : (wr.setCell ⟨G, k * 2, none⟩ (.int .i64 (fil k).f)).setCell ⟨G, k * 2 + 1, none⟩ (.int .i64 (fil k).t) = W := hW.symm
      rw [e4, show 2 * kl + 70 - k = (2 * kl + 70 - (k + 1)) + 1 by omega, set_rep _ _ _ _ (fils_len k).symm] at h4
      have hG := HG.out
      refine ⟨by rw [fils_succ]; exact h4, ?_⟩
      rw [hW]
      exact (hBe.setCell (p := ⟨G, k * 2, none⟩) (by simp; omega) _).setCell (p := ⟨G, k * 2 + 1, none⟩) (by simp; omega) _
     have q' : (k : Int) < 2 * (kl : Int) + 70 := by omega
     clear hB hBe HIN
     go_wp2_with fail
     go_roundw
     case rel => exact ⟨k + 1, by go_num, by omega, (HNX.out _ rfl).1, (HNX.out _ rfl).2⟩
     case measure => simp [intOf]; omega
    ·obtain rfl : k = 2 * kl + 70 := by omega
     rw [Nat.sub_self, List.replicate_zero, List.append_nil] at hB
     obtain ⟨w2, hrun, g3, g6, s3, ⟨t0, t1, t2, t3, t4, t5, t6⟩, ⟨v0, v1, v2, v3, v4, v5, v6, u0, u1, u2, u3, u4, u5, u6⟩, uf, hfin⟩ := HIN.out wr hBe hB
     have HF := hid hfin
     rw [HVL.out] at t6
     have q' : ¬ (2 * (kl : Int) + 70) < 2 * (kl : Int) + 70 := by omega
     have q2 : (kl : Int) ≤ 2 * (kl : Int) + 70 := by omega
     have q3' : (r : Int) < 2 * (x.vs.length : Int) + 70 := by omega
     clear hB hBe HIN hfin q3 c6 hmk
     go_wp2_with fail
     exact ⟨⟨r + 1, gs ++ [G], by omega, by go_num, by simp [hg], HF.out _ rfl⟩, by simp [intOf]; omega⟩
  ·have e : r = x.vs.length := by omega
   subst e
   have HST : Hid (LeS w wo Q C F x a1 c1 (x.vs ++ (behs x.vs.length 0 ++ List.replicate (x.vs.length + 70 - 0) PV0)) (List.zipWith sl x.vs gs ++ List.replicate (0 + (x.vs.length + 70 - 0)) nilS) gs) := by
    have := hS
    rw [List.take_length, show 2 * x.vs.length + 70 - x.vs.length = x.vs.length + 70 by omega] at this
    simpa [behs, Hid] using this
   clear hS
   go_wp2_with fail
   go_loopw [8] (fun iv wr => ∃ i : Nat, iv = .int .i64 (((x.vs.length + i : Nat)) : Int) ∧ i ≤ x.vs.length + 70 ∧ LeS w wr Q C F x a1 c1 (x.vs ++ (behs x.vs.length i ++ List.replicate (x.vs.length + 70 - i) PV0)) (List.zipWith sl x.vs gs ++ List.replicate (i + (x.vs.length + 70 - i)) nilS) gs) (fun iv _ => 2 * x.vs.length + 70 - (intOf iv).toNat)
   case atStart => exact ⟨0, rfl, Nat.zero_le _, HST.out⟩
   case round =>
    clear HST q3
    obtain ⟨i, rfl, hi, hS⟩ := hrel
    obtain ⟨⟨_, _, _, q3⟩, qf⟩ := hS.cb.cs
    by_cases q : i < x.vs.length + 70
    ·obtain ⟨v0, v1, v2, v3, v4, v5, v6, u0, u1, u2, u3, u4, u5, u6⟩ := hS.fb.cs7 (x.vs.length + i) (by simp [behs_len]; omega)
     have uf := hS.fb.frozen
     have HNX : Hid (∀ W, W = ((((((wr.setCell ⟨F, (x.vs.length + i) * 7, none⟩ (.string ⟨#[98, 101, 104, 105, 110, 100]⟩)).setCell ⟨F, (x.vs.length + i) * 7 + 1, none⟩ (.int .i64 (-9 - ((x.vs.length : Int) + (i : Int))))).setCell ⟨F, (x.vs.length + i) * 7 + 2, none⟩ (.int .i64 0)).setCell ⟨F, (x.vs.length + i) * 7 + 3, none⟩ (.int .i64 0)).setCell ⟨F, (x.vs.length + i) * 7 + 4, none⟩ (.int .i64 0)).setCell ⟨F, (x.vs.length + i) * 7 + 5, none⟩ (.bool false)).setCell ⟨F, (x.vs.length + i) * 7 + 6, none⟩ (.slice none 0 0) → LeS w W Q C F x a1 c1 (x.vs ++ (behs x.vs.length (i + 1) ++ List.replicate (x.vs.length + 70 - (i + 1)) PV0)) (List.zipWith sl x.vs gs ++ List.replicate ((i + 1) + (x.vs.length + 70 - (i + 1))) nilS) gs) := fun W hW => by
      have h5 := hS
      rw [show x.vs.length + 70 - i = (x.vs.length + 70 - (i + 1)) + 1 by omega] at h5
      refine h5.fill hg (x.vs.length + i) rfl W (hW.trans ?_)
      unfold at7 beh sBeh
      rw [show (((x.vs.length + i : Nat)) : Int) = (x.vs.length : Int) + (i : Int) by omega]
     have q' : (x.vs.length : Int) + (i : Int) < 2 * (x.vs.length : Int) + 70 := by omega
     clear hS
     go_wp2_with fail
     exact ⟨⟨i + 1, by rw [show ((x.vs.length + (i + 1) : Nat) : Int) = (x.vs.length : Int) + (i : Int) + 1 by omega], by omega, HNX.out _ rfl⟩, by simp [intOf]; omega⟩
    ·obtain rfl : i = x.vs.length + 70 := by omega
     obtain ⟨⟨g0, g1, g2, g3⟩, gf⟩ := hS.rb.cs
     obtain ⟨⟨h0, h1, h2, h3⟩, hf⟩ := hS.cb.cs
     have hQC : Q ≠ C := by have := hS.oC; omega
     have HFB : Hid (w.heap.size ≤ F) := by have h1 := hS.oQ; have h2 := hS.oC; have h3 := hS.oF; show w.heap.size ≤ F; omega
     have HFin : Hid (∀ y, y = put4 (wr.setCell ⟨C, 3, none⟩ (.slice (some ⟨F, 0, none⟩) x.vs.length (2 * x.vs.length + 70))) Q x (.slice (some ⟨F, 0, none⟩) x.vs.length (2 * x.vs.length + 70)) → LentV y F gs x.vs ∧ VwB y Q x (.slice (some ⟨F, 0, none⟩) x.vs.length (2 * x.vs.length + 70)) ∧ Below w.heap.size w y) := fun y hy => by
      have h5 := hS
      rw [Nat.sub_self, Nat.add_zero] at h5
      exact h5.done hg _ y hy
     have q' : ¬ (x.vs.length : Int) + ((x.vs.length : Int) + 70) < 2 * (x.vs.length : Int) + 70 := by omega
     have q2 : (x.vs.length : Int) ≤ 2 * (x.vs.length : Int) + 70 := by omega
     clear hS q3
     go_wp2_with fail
     exact bodyPost_ret (results_row1 rfl _ _ Q 24 _ (0, 0) _ rfl (HFin.out _ rfl).2.1 Tryz.underlying24 rfl (by kernel_rfl)) rfl ⟨F, gs, rfl, (HFin.out _ rfl).1, HFB.out, (HFin.out _ rfl).2.2⟩
end Go.Proofs.YtddddfankeepkaaGreatDoor
namespace Go.Proofs.YtddddfankeepkaaGreatDoor
open Go.RowKit
def plcF : List PV → ByteArray → Nat → Int
 | [], _, _ => -1
 | v :: r, nm, k => if v.nm.toList = nm.toList then (k : Int) else plcF r nm (k + 1)
def StB (w : World) (P : Nat) (s : ByteArray) : Prop := w.heap[P]? = some (.cells #[.string s] 9 (0, 0))
theorem StB.lt {w : World} {P : Nat} {s : ByteArray} (h : StB w P s) : P < w.heap.size := (Array.getElem?_eq_some_iff.1 h).1
theorem StB.keep {w w' : World} {P : Nat} {s : ByteArray} (h : StB w P s) (hw : w'.heap[P]? = w.heap[P]?) : StB w' P s := by unfold StB at *; rw [hw]; exact h
theorem StB.cs {w : World} {P : Nat} {s : ByteArray} (h : StB w P s) : w.cell? ⟨P, 0, none⟩ = some (.string s) := by
 unfold StB at h
 simp [World.cell?, h]
set_option maxRecDepth 100000 in
set_option maxHeartbeats 1000000 in
theorem isNamed_any (v : PV) (a : Option Addr) (c P : Nat) (nm : ByteArray) (w : World) (hP : StB w P nm) :
  Calls Tryz.prog 104 #[volA v a c, .pointer (some ⟨P, 0, none⟩)] w fun e w' => e = .returned (.bool (v.nm.toList == nm.toList)) ∧ Below w.heap.size w w' := by
 have c0 := hP.cs
 have hl := hP.lt
 have HB := hid (below1 w (.cells #[.string v.nm, .int .i64 v.id, .int .i64 v.sz, .int .i64 v.og, .int .i64 v.kd, .bool v.pt, .slice a v.mp.length c] 38))
 clear hP
 dsimp only [volA]
 go_enter Tryz.func104, Tryz.ntmps104
 go_wp2
 go_ret
 exact ⟨rfl, HB.out⟩
set_option maxRecDepth 100000 in
set_option maxHeartbeats 4000000 in
theorem IndexName_any (a : Option Addr) (c P : Nat) (vs : List PV) (nm : ByteArray) (w : World) (hl : vs.length ≤ 16777216) (hR : RdV w.heap.size w a vs) (hP : StB w P nm) :
  Calls Tryz.prog 103 #[.slice a vs.length c, .func (.func 104) #[] #[.pointer (some ⟨P, 0, none⟩)]] w fun e w' => e = .returned (.int .i64 (plcF vs nm 0)) ∧ Below w.heap.size w w' := by
 have HR := hid hR
 have HP := hid hP
 clear hR hP
 go_enter Tryz.func103, Tryz.ntmps103
 go_wp2_with fail
 go_loopw [8] (fun i wr => ∃ r : Nat, r ≤ vs.length ∧ i = .int .i64 (r : Int) ∧ plcF (vs.drop r) nm r = plcF vs nm 0 ∧ Below w.heap.size w wr) (fun i _ => vs.length - (intOf i).toNat)
 case atStart => exact ⟨0, Nat.zero_le _, rfl, by simp, Below.refl _ _⟩
 case round =>
  obtain ⟨r, hr, rfl, ht, hb⟩ := hrel
  by_cases hlt : r < vs.length
  ·obtain ⟨b, off, rfl, hbl, hc⟩ := (HR.out.below hb).resolve_left (fun e => by rw [e] at hlt; simp at hlt)
   obtain ⟨x, cp, ⟨c0, c1, c2, c3, c4, c5, c6⟩, _, _⟩ := hc r hlt
   have HC := hid (isNamed_any vs[r] x cp P nm wr (HP.out.keep (hb.block _ HP.out.lt)))
   have hd : vs.drop r = vs[r] :: vs.drop (r + 1) := List.drop_eq_getElem_cons hlt
   rw [hd, plcF] at ht
   have HT := hid ht
   have HB := hid hb
   clear hc ht hd hb HR HP
   dsimp only [volA] at HC
   generalize vs[r] = v at *
   have hr1 : (r : Int) < (vs.length : Int) := by omega
   by_cases e : v.nm.toList = nm.toList
   ·have he : (v.nm.toList == nm.toList) = true := by simpa using e
    rw [he] at HC
    go_wp2_with fail
    refine HC.out.mono ?_
    rintro e' w1 ⟨rfl, hb1⟩
    have HB1 := hid (HB.out.trans (hb1.mono HB.out.size))
    have HT1 : Hid (plcF vs nm 0 = (r : Int)) := by have := HT.out; rw [if_pos e] at this; exact this.symm
    clear hb1 HC c0 c1 c2 c3 c4 c5 c6 HT e he
    go_wp2
    go_ret
    exact ⟨by rw [HT1.out]; rfl, HB1.out⟩
   ·have he : (v.nm.toList == nm.toList) = false := by simpa using e
    rw [he] at HC
    go_wp2_with fail
    refine HC.out.mono ?_
    rintro e' w1 ⟨rfl, hb1⟩
    have HB1 := hid (HB.out.trans (hb1.mono HB.out.size))
    have HT1 : Hid (plcF (vs.drop (r + 1)) nm (r + 1) = plcF vs nm 0) := by have := HT.out; rw [if_neg e] at this; exact this
    clear hb1 HC c0 c1 c2 c3 c4 c5 c6 HT e he
    go_wp2
    go_roundw
    case rel => exact ⟨r + 1, by omega, by go_num, HT1.out, HB1.out⟩
    case measure => simp [intOf]; omega
  ·have e : r = vs.length := by omega
   subst e
   have HB := hid hb
   have HT : Hid (plcF vs nm 0 = -1) := by rw [List.drop_length, plcF] at ht; exact ht.symm
   clear hb ht
   go_wp2
   go_ret
   exact ⟨by rw [HT.out]; rfl, HB.out⟩
end Go.Proofs.YtddddfankeepkaaGreatDoor
