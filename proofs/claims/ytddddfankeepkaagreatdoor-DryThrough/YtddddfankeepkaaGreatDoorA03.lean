import Derived.Test.YtddddfankeepkaaGreatDoorA02
import Derived.Deep.DeepCutAuto
import Derived.BigQuiet
/-
  CopyView.
-/
namespace Go.Proofs.YtddddfankeepkaaGreatDoor
open Go.RowKit

theorem step_append_run {ops : Array Oper} {o : Oper} {a : Act} {w : World} {K : Act → World → Prop} {Q : Exit → Act → World → Prop} {E : Prop} (hgd : o.guard = none) (s x : Operand) (t tn : TypeId)
    (ho : o.op = .call { callee := .builtin .append, args := #[s, x], argTypes := #[t, tn] }) (vs vx : Value) (hs : a.eval s = vs) (hx : a.eval x = vx)
    (v' : Value) (w' : World) (hr : (Builtin.append_ #[t, tn] o.type #[vs, vx]).run Tryz.prog w = .ok v' w') (h : K (a.put o.dst v') w') :
    if Region.wanted o (yielded ops a.tmps) = true then Oper.wp Tryz.prog o a w K Q else E := by
  have hw : Region.wanted o (yielded ops a.tmps) = true := by simp [Region.wanted, hgd]
  rw [if_pos hw]
  exact Lib.wp_append_run w s x t tn ho vs vx hs hx v' w' hr h

/-- a view in a block -/
def VwB (w : World) (R : Nat) (x : VW) (u : Value) : Prop := w.heap[R]? = some (.cells #[.int .i64 x.cp, .int .i64 x.fr, .int .i64 x.nx, u] 24 (0, 0))
theorem VwB.lt {w : World} {R : Nat} {o : VW} {v : Value} (h : VwB w R o v) : R < w.heap.size := (Array.getElem?_eq_some_iff.1 h).1
theorem VwB.keep {w w' : World} {R : Nat} {o : VW} {v : Value} (h : VwB w R o v) (hw : w'.heap[R]? = w.heap[R]?) : VwB w' R o v := by unfold VwB at *; rw [hw]; exact h
theorem VwB.cs {w : World} {R : Nat} {o : VW} {v : Value} (h : VwB w R o v) : (w.cell? ⟨R, 0, none⟩ = some (.int .i64 o.cp) ∧ w.cell? ⟨R, 1, none⟩ = some (.int .i64 o.fr) ∧ w.cell? ⟨R, 2, none⟩ = some (.int .i64 o.nx) ∧ w.cell? ⟨R, 3, none⟩ = some v) ∧ ∀ i, w.frozen? ⟨R, i, none⟩ = false := by
  unfold VwB at h
  simp [World.cell?, World.frozen?, h]
theorem VwB.set3 {w : World} {R : Nat} {o : VW} {v : Value} (h : VwB w R o v) (u : Value) : VwB (w.setCell ⟨R, 3, none⟩ u) R o u := by
  unfold VwB at *
  simp only [World.setCell, Array.getElem?_modify, if_true]
  rw [h]
  simp
theorem VwB.set1 {w : World} {R : Nat} {o : VW} {v : Value} (h : VwB w R o v) (z : Int) : VwB (w.setCell ⟨R, 1, none⟩ (.int .i64 z)) R ⟨o.cp, z, o.nx, o.vs⟩ v := by
  unfold VwB at *
  simp only [World.setCell, Array.getElem?_modify, if_true]
  rw [h]
  simp
def put4 (w : World) (R : Nat) (o : VW) (v : Value) : World := (((w.setCell ⟨R, 0, none⟩ (.int .i64 o.cp)).setCell ⟨R, 1, none⟩ (.int .i64 o.fr)).setCell ⟨R, 2, none⟩ (.int .i64 o.nx)).setCell ⟨R, 3, none⟩ v
theorem VwB.put4 {w : World} {R : Nat} {o o' : VW} {v v' : Value} (h : VwB w R o v) : VwB (put4 w R o' v') R o' v' := by
  unfold VwB Go.Proofs.YtddddfankeepkaaGreatDoor.put4 at *
  simp only [World.setCell, Array.getElem?_modify, if_true]
  rw [h]
  simp
theorem but_put4 (w : World) (R : Nat) (o : VW) (v : Value) : But (fun x => x = R) w (put4 w R o v) := by
  unfold put4
  exact (((((But.refl (fun x => x = R) w).setCell (p := ⟨R, 0, none⟩) rfl _).setCell (p := ⟨R, 1, none⟩) rfl _).setCell (p := ⟨R, 2, none⟩) rfl _).setCell (p := ⟨R, 3, none⟩) rfl _)
theorem OwV.keep {B : Nat} {w w' : World} {v : Value} {os : List PV} {us : List Value} (h : OwV B w v os us) (hk : ∀ g, B ≤ g → g < w.heap.size → w'.heap[g]? = w.heap[g]?) : OwV B w' v os us :=
  ⟨h.len, own_keep h.row fun g hg => by obtain ⟨a, b, _⟩ := own_blk h.row hg; exact hk g a b, fun i hi => own_keep (h.dat i hi) fun g hg => by obtain ⟨a, b, _⟩ := own_blk (h.dat i hi) hg; exact hk g a b⟩
def VW0 : VW := ⟨0, 0, 0, []⟩

/-- within CopyView -/
structure CvS (w wr : World) (R Q C : Nat) (x : VW) (a : Option Addr) (c : Nat) (u : Value) (r : Nat) : Prop where
  pb : VwB wr R x (.slice a x.vs.length c)
  rb : VwB wr Q VW0 (.slice none 0 0)
  cb : VwB wr C x u
  ow : ∃ us, OwV (C + 1) wr u (x.vs.take r) us
  bel : Below w.heap.size w wr

set_option maxRecDepth 100000 in
set_option maxHeartbeats 4000000 in
theorem CopyView_any (x : VW) (a : Option Addr) (c : Nat) (w : World) (hl : shV x.vs) (hR : RdV w.heap.size w a x.vs) :
    Calls Tryz.prog 10 #[viewA x a c] w fun e w' => ∃ a' c', e = .returned (viewA x a' c') ∧ RdV w'.heap.size w' a' x.vs ∧ (a' = none → c' = 0) ∧ Below w.heap.size w w' := by
  obtain ⟨R, hRR⟩ : ∃ R, R = w.heap.size := ⟨_, rfl⟩
  obtain ⟨Q, hQQ⟩ : ∃ Q, Q = R + 1 := ⟨_, rfl⟩
  obtain ⟨C, hCC⟩ : ∃ C, C = R + 2 := ⟨_, rfl⟩
  have HSTEP : Hid (∀ (wr : World) (r : Nat) (hr : r < x.vs.length) (u : Value), CvS w wr R Q C x a c u r → ∃ b off a1 c1, a = some ⟨b, off, none⟩ ∧ VolC wr b (off + r * 7) x.vs[r] a1 c1 ∧
      Calls Tryz.prog 33 #[volA x.vs[r] a1 c1] wr.drew fun e w2 => ∃ va vn vc ua un uc w', e = .returned (.agg #[.string x.vs[r].nm, .int .i64 x.vs[r].id, .int .i64 x.vs[r].sz, .int .i64 x.vs[r].og, .int .i64 x.vs[r].kd, .bool x.vs[r].pt, .slice va vn vc]) ∧ w2.cell? ⟨C, 3, none⟩ = some u ∧ C < w2.heap.size ∧
        (Builtin.append_ #[22, 22] 22 #[u, .slice (some ⟨w2.heap.size, 0, none⟩) 1 1]).run Tryz.prog (w2.alloc (.cells #[.string x.vs[r].nm, .int .i64 x.vs[r].id, .int .i64 x.vs[r].sz, .int .i64 x.vs[r].og, .int .i64 x.vs[r].kd, .bool x.vs[r].pt, .slice va vn vc] 38)) = .ok (.slice ua un uc) w' ∧
        w'.cell? ⟨C, 3, none⟩ = some u ∧ w'.frozen? ⟨C, 3, none⟩ = false ∧ CvS w (w'.setCell ⟨C, 3, none⟩ (.slice ua un uc)) R Q C x a c (.slice ua un uc) (r + 1)) := by
    intro wr r hr u hS
    have hR2 := hR.below hS.bel
    obtain ⟨b, off, rfl, hbl, hc⟩ := hR2.resolve_left (fun e => by rw [e] at hr; simp at hr)
    obtain ⟨a1, c1, hV, r1, ha⟩ := hc r hr
    refine ⟨b, off, a1, c1, rfl, hV, (CopyVolume_any x.vs[r] a1 c1 wr.drew ((r1.below (below_drew _ _)).mono hS.bel.size) ha (hl.2 _ (List.getElem_mem hr))).mono ?_⟩
    rintro e w2 ⟨va, vc, rfl, ho, hb2⟩
    have hb2' : Below wr.heap.size wr w2 := (below_drew _ _).trans hb2
    obtain ⟨us, how⟩ := hS.ow
    have b3 : Below w2.heap.size w2 (w2.alloc (.cells #[.string x.vs[r].nm, .int .i64 x.vs[r].id, .int .i64 x.vs[r].sz, .int .i64 x.vs[r].og, .int .i64 x.vs[r].kd, .bool x.vs[r].pt, .slice va x.vs[r].mp.length vc] 38)) := below1 _ _
    have hz := hb2'.size
    have hz3 := b3.size
    have q2 := hS.cb.lt
    have how2 := (how.next hb2').next b3
    have hb23 := hb2'.trans (b3.mono hz)
    obtain ⟨u', w', hr', hL, hg⟩ := how2.push 22 x.vs[r] va vc (own_next (own_mono ho (by show C + 1 ≤ wr.drew.heap.size; exact q2)) b3) (g := w2.heap.size) (heap_new _ _) (by rw [List.length_take]; have := hl.1; omega) (by omega)
    obtain ⟨ua, uc, rfl, _, _⟩ := hL.rd
    generalize (List.take r x.vs ++ [x.vs[r]]).length = un at *
    have k0 : ∀ g, g < C + 1 → w'.heap[g]? = wr.heap[g]? := fun g hgl => (hg.block g hgl).trans (hb23.block g (by omega))
    have p1 := hS.pb.keep (k0 R (by omega))
    have p2 := hS.rb.keep (k0 Q (by omega))
    have p3 := hS.cb.keep (k0 C (by omega))
    have p4 := (hS.cb.keep (hb2'.block _ q2)).cs.1.2.2.2
    have bt : But (fun g => g = C) w' (w'.setCell ⟨C, 3, none⟩ (.slice ua un uc)) := (But.refl (fun g => g = C) w').setCell (p := ⟨C, 3, none⟩) rfl _
    refine ⟨va, _, vc, ua, un, uc, w', rfl, p4, by omega, hr', p3.cs.1.2.2.2, p3.cs.2 3, ⟨p1.keep (bt.block _ p1.lt (by omega)), p2.keep (bt.block _ p2.lt (by omega)), p3.set3 _, ⟨us ++ [.slice va x.vs[r].mp.length vc], ?_⟩, ?_⟩⟩
    · rw [List.take_succ_eq_append_getElem hr]
      exact hL.keep fun g hg1 hg2 => bt.block g hg2 (by omega)
    · have := hS.bel.trans (hb23.mono hS.bel.size)
      have q4 := hg.size
      have q5 := hS.bel.size
      exact (this.trans (hg.mono (by omega))).trans (bt.below (by omega) (fun g hg e => by omega))
  have HEND : Hid (∀ (wr : World) (u : Value), CvS w wr R Q C x a c u x.vs.length → ∃ a' c', u = .slice a' x.vs.length c' ∧ VwB wr Q VW0 (.slice none 0 0) ∧ VwB wr C x (.slice a' x.vs.length c') ∧ VwB (put4 wr Q x (.slice a' x.vs.length c')) Q x (.slice a' x.vs.length c') ∧ RdV (put4 wr Q x (.slice a' x.vs.length c')).heap.size (put4 wr Q x (.slice a' x.vs.length c')) a' x.vs ∧ (a' = none → c' = 0) ∧ Below w.heap.size w (put4 wr Q x (.slice a' x.vs.length c'))) := by
    intro wr u hS
    obtain ⟨us, how⟩ := hS.ow
    rw [List.take_length] at how
    obtain ⟨a', c', rfl, _, _⟩ := how.rd
    have bt := but_put4 wr Q x (.slice a' x.vs.length c')
    have how2 : OwV (C + 1) (put4 wr Q x (.slice a' x.vs.length c')) (.slice a' x.vs.length c') x.vs us := how.keep fun g hg1 hg2 => bt.block g hg2 (by omega)
    obtain ⟨a2, c2, e, q, q0⟩ := how2.rd
    simp at e
    obtain ⟨rfl, rfl⟩ := e
    exact ⟨a', c', rfl, hS.rb, hS.cb, hS.rb.put4, q, q0, hS.bel.trans (bt.below hS.bel.size (fun g hg e => by omega))⟩
  have HL1 := hl.1
  have ST : CvS w ((((w.alloc (.cells #[.int .i64 x.cp, .int .i64 x.fr, .int .i64 x.nx, .slice a x.vs.length c] 24)).alloc (.cells #[.int .i64 0, .int .i64 0, .int .i64 0, .slice none 0 0] 24)).alloc (.cells #[.int .i64 x.cp, .int .i64 x.fr, .int .i64 x.nx, .slice (some ⟨C + 1, 0, none⟩) 0 0] 24)).alloc (.cells #[] 38)) R Q C x a c (.slice (some ⟨C + 1, 0, none⟩) 0 0) 0 := by
    have b4 : Below w.heap.size w ((((w.alloc (.cells #[.int .i64 x.cp, .int .i64 x.fr, .int .i64 x.nx, .slice a x.vs.length c] 24)).alloc (.cells #[.int .i64 0, .int .i64 0, .int .i64 0, .slice none 0 0] 24)).alloc (.cells #[.int .i64 x.cp, .int .i64 x.fr, .int .i64 x.nx, .slice (some ⟨C + 1, 0, none⟩) 0 0] 24)).alloc (.cells #[] 38)) := ((two_below w _ _).alloc (by simp; omega) _).alloc (by simp; omega) _
    subst hRR hQQ hCC
    refine ⟨?_, ?_, ?_, ⟨[], rfl, ⟨rfl, .inr ⟨w.heap.size + 2 + 1, 0, #[], rfl, Nat.le_refl _, ?_, Nat.le_refl _, Nat.zero_le _, rfl, rfl⟩⟩, fun i h => by simp at h⟩, b4⟩
    · unfold VwB
      rw [Below.heap_alloc _ _ _ (by simp; omega), Below.heap_alloc _ _ _ (by simp; omega), Below.heap_alloc _ _ _ (by simp)]
      exact heap_new _ _
    · unfold VwB
      rw [Below.heap_alloc _ _ _ (by simp), Below.heap_alloc _ _ _ (by simp)]
      have := heap_new (w.alloc (.cells #[.int .i64 x.cp, .int .i64 x.fr, .int .i64 x.nx, .slice a x.vs.length c] 24)) (.cells #[.int .i64 0, .int .i64 0, .int .i64 0, .slice none 0 0] 24)
      rw [World.size_alloc] at this
      exact this
    · unfold VwB
      rw [Below.heap_alloc _ _ _ (by simp)]
      have := heap_new ((w.alloc (.cells #[.int .i64 x.cp, .int .i64 x.fr, .int .i64 x.nx, .slice a x.vs.length c] 24)).alloc (.cells #[.int .i64 0, .int .i64 0, .int .i64 0, .slice none 0 0] 24)) (.cells #[.int .i64 x.cp, .int .i64 x.fr, .int .i64 x.nx, .slice (some ⟨w.heap.size + 2 + 1, 0, none⟩) 0 0] 24)
      rw [World.size_alloc, World.size_alloc] at this
      exact this
    · have := heap_new (((w.alloc (.cells #[.int .i64 x.cp, .int .i64 x.fr, .int .i64 x.nx, .slice a x.vs.length c] 24)).alloc (.cells #[.int .i64 0, .int .i64 0, .int .i64 0, .slice none 0 0] 24)).alloc (.cells #[.int .i64 x.cp, .int .i64 x.fr, .int .i64 x.nx, .slice (some ⟨w.heap.size + 2 + 1, 0, none⟩) 0 0] 24)) (.cells #[] 38)
      rw [World.size_alloc, World.size_alloc, World.size_alloc] at this
      exact this
  have HST := hid ST
  have E3 : w.heap.size + 1 + 1 = C := by omega
  have E2 : w.heap.size + 1 = Q := by omega
  have E1 := hRR.symm
  have HE := hid (And.intro E1 (And.intro E2 E3))
  clear hR hl ST hRR hQQ hCC E1 E2 E3
  dsimp only [viewA]
  go_enter Tryz.func10, Tryz.ntmps10
  go_wp2_with fail
  rw [HE.out.2.2, HE.out.2.1, HE.out.1]
  go_loopw [4] (fun i wr => ∃ (r : Nat) (u : Value), r ≤ x.vs.length ∧ i = .int .i64 (r : Int) ∧ CvS w wr R Q C x a c u r) (fun i _ => x.vs.length - (intOf i).toNat)
  case atStart => exact ⟨0, _, Nat.zero_le _, rfl, HST.out⟩
  case round =>
    clear HST
    obtain ⟨r, u, hr, rfl, hS⟩ := hrel
    obtain ⟨⟨p0, p1, p2, p3⟩, pf⟩ := hS.pb.cs
    obtain ⟨⟨q0, q1, q2, q3⟩, qf⟩ := hS.cb.cs
    clear p0 p1 p2 q0 q1 q2
    by_cases hlt : r < x.vs.length
    · obtain ⟨b, off, a1, c1, rfl, ⟨c0, c1, c2, c3, c4, c5, c6⟩, hC⟩ := HSTEP.out wr r hlt _ hS
      have HC := hid hC
      have hr1 : (r : Int) < (x.vs.length : Int) := by omega
      clear hC hS HSTEP HEND
      dsimp only [volA] at HC
      generalize x.vs[r] = v at *
      go_wp2_with fail
      go_region_law (first
        | (go_simp; go_at_call 33; refine Calls.mono HC.out ?_; rintro e w2 ⟨va, vn, vc, ua, un, uc, w', rfl, k3, hlt2, hrun, g3, gf, hS2⟩; have HS2 := hid hS2; have ka3 : (w2.alloc (.cells #[.string v.nm, .int .i64 v.id, .int .i64 v.sz, .int .i64 v.og, .int .i64 v.kd, .bool v.pt, .slice va vn vc] 38)).cell? ⟨C, 3, none⟩ = some u := (World.cell?_alloc_past _ _ _ hlt2).trans k3; clear hS2; dsimp only)
        | (refine step_append_run rfl _ _ _ _ (by rfl) _ _ (by rfl) (by rfl) _ _ (by exact hrun) ?_))
      all_goals
        clear k3 hlt2 hrun g3 gf ka3 HC c0 c1 c2 c3 c4 c5 c6
        go_wp2
        go_roundw
        case rel => exact ⟨r + 1, _, by omega, by go_num, HS2.out⟩
        case measure => simp [intOf]; omega
    · have e : r = x.vs.length := by omega
      subst e
      obtain ⟨a', c', rfl, t1, t2, t3, t4, t5, t6⟩ := HEND.out wr u hS
      obtain ⟨⟨g0, g1, g2, g3⟩, gf⟩ := t1.cs
      obtain ⟨⟨h0, h1, h2, h3⟩, hf⟩ := t2.cs
      have T3 := hid t3
      have T4 := hid t4
      have T5 := hid t5
      have T6 := hid t6
      clear t1 t2 t3 t4 t5 t6 HSTEP HEND hS
      go_wp2_with fail
      have HFin : Hid (∀ y, y = put4 wr Q x (.slice a' x.vs.length c') → VwB y Q x (.slice a' x.vs.length c') ∧ RdV y.heap.size y a' x.vs ∧ (a' = none → c' = 0) ∧ Below w.heap.size w y) := by
        rintro y rfl
        exact ⟨T3.out, T4.out, T5.out, T6.out⟩
      exact bodyPost_ret (results_row1 rfl _ _ Q 24 _ (0, 0) _ rfl (HFin.out _ rfl).1 Tryz.underlying24 rfl (by kernel_rfl)) rfl ⟨a', c', rfl, (HFin.out _ rfl).2⟩
end Go.Proofs.YtddddfankeepkaaGreatDoor
/-
  Blocks of ranges and of volumes that are known whole; make, copy, one store.
-/
namespace Go.Proofs.YtddddfankeepkaaGreatDoor
open Go.RowKit

theorem run_copy_wide {P : Program} (w : World) (dT sT ty elem : TypeId) (g o dLen dCap : Nat) (a : Addr) (sLen sCap size : Nat) (cur : Array Value) (t : TypeId) (cs : List Value)
    (hu : P.underlying dT = some (.slice elem)) (hs : (P.info? elem).map (·.size) = some size)
    (hg : w.heap[g]? = some (.cells cur t (0, 0))) (hn : cs.length = Nat.min sLen dLen * size)
    (hsrc : ∀ j v, cs[j]? = some v → w.cell? (a.add j) = some v) (hfit : o + cs.length ≤ cur.size) (h1 : ∀ v ∈ cs, v.oneCell' = true) :
    (Builtin.copy_ #[dT, sT] ty #[.slice (some ⟨g, o, none⟩) dLen dCap, .slice (some a) sLen sCap]).run P w =
      .ok (goInt (Nat.min sLen dLen)) (w.setRow g (cur.toList.take o ++ cs ++ cur.toList.drop (o + cs.length)).toArray) := by
  have hl := run_loadCells_list (P := P) w a cs hsrc
  have hst := run_storeCells_at P g o t cs 0 cur w hg (by simpa using hfit) h1
  rw [hn] at hl
  cases hq : P.info? elem with
  | none => simp [hq] at hs
  | some i =>
    have hi : i.size = size := by simpa [hq] using hs
    simp [Builtin.copy_, run_underlying hu, Builtin.lenOf, Builtin.firstCells, sizeOf, typeInfo, hq, hi, hl, hst]

/-! ### ranges -/
/-- block g holds just these ranges -/
def BlR (w : World) (g : Nat) (rs : List Rg) : Prop := w.heap[g]? = some (.cells (flatR rs).toArray 78 (0, 0))
theorem BlR.lt {w : World} {g : Nat} {rs : List Rg} (h : BlR w g rs) : g < w.heap.size := (Array.getElem?_eq_some_iff.1 h).1
theorem BlR.keep {w w' : World} {g : Nat} {rs : List Rg} (h : BlR w g rs) (hw : w'.heap[g]? = w.heap[g]?) : BlR w' g rs := by unfold BlR at *; rw [hw]; exact h
theorem BlR.cell {w : World} {g : Nat} {rs : List Rg} (h : BlR w g rs) (j : Nat) (hj : j < rs.length) : w.cell? ⟨g, j * 2, none⟩ = some (.int .i64 rs[j].f) ∧ w.cell? ⟨g, j * 2 + 1, none⟩ = some (.int .i64 rs[j].t) := by
  unfold BlR at h
  simp only [World.cell?, h]
  rw [List.getElem?_toArray, List.getElem?_toArray]
  exact flatR_at rs j hj
theorem BlR.frozen {w : World} {g : Nat} {rs : List Rg} (h : BlR w g rs) (i : Nat) : w.frozen? ⟨g, i, none⟩ = false := by
  unfold BlR at h
  simp [World.frozen?, h]
theorem BlR.rd {w : World} {g : Nat} {rs : List Rg} (h : BlR w g rs) (n : Nat) (hn : n ≤ rs.length) : RdR w.heap.size w (some ⟨g, 0, none⟩) (rs.take n) :=
  .inr ⟨g, 0, rfl, h.lt, fun j hj => by
    simp only [List.length_take] at hj
    rw [List.getElem_take, Nat.zero_add]
    exact h.cell j (by omega)⟩
theorem flatR_set : ∀ (rs : List Rg) (i : Nat) (t : Rg), i < rs.length → flatR (rs.set i t) = ((flatR rs).set (i * 2) (.int .i64 t.f)).set (i * 2 + 1) (.int .i64 t.t)
  | [], i, t, h => by simp at h
  | x :: ts, 0, t, h => by simp [flatR]
  | x :: ts, i + 1, t, h => by
    have ih := flatR_set ts i t (by simpa using h)
    rw [List.set_cons_succ, flatR, ih, flatR, show (i + 1) * 2 = i * 2 + 2 by omega]
    simp
theorem BlR.set2 {w : World} {g : Nat} {rs : List Rg} (h : BlR w g rs) (i : Nat) (t : Rg) (hi : i < rs.length) : BlR ((w.setCell ⟨g, i * 2, none⟩ (.int .i64 t.f)).setCell ⟨g, i * 2 + 1, none⟩ (.int .i64 t.t)) g (rs.set i t) := by
  unfold BlR at *
  rw [flatR_set rs i t hi]
  simp only [World.setCell, Array.getElem?_modify, if_true]
  rw [h]
  simp
theorem flatR_drop : ∀ (ys : List Rg) (k : Nat), flatR (ys.drop k) = (flatR ys).drop (k * 2)
  | [], k => by simp [flatR]
  | f :: r, 0 => by simp
  | f :: r, k + 1 => by
    have := flatR_drop r k
    rw [List.drop_succ_cons, this, show (k + 1) * 2 = k * 2 + 2 by omega, flatR]
    simp
theorem made_rg (n : Nat) : madeCells #[.int .i64 0, .int .i64 0] (n * 2) = (flatR (List.replicate n ⟨0, 0⟩)).toArray := by
  rw [← Array.toList_inj]
  apply List.ext_getElem?
  intro j
  by_cases hj : j < n * 2
  · have h1 := flatR_at (List.replicate n ⟨0, 0⟩) (j / 2) (by rw [List.length_replicate]; omega)
    simp only [madeCells, Array.toList_map, Array.toList_range, List.getElem?_map, List.getElem?_range hj, Option.map_some]
    rw [List.getElem_replicate] at h1
    rcases (show j % 2 = 0 ∨ j % 2 = 1 by omega) with h | h
    · have e : j / 2 * 2 = j := by omega
      rw [e] at h1
      rw [h1.1]
      simp [h]
    · have e : j / 2 * 2 + 1 = j := by omega
      rw [e] at h1
      rw [h1.2]
      simp [h]
  · rw [List.getElem?_eq_none (by simp [madeCells]; omega), List.getElem?_eq_none (by simp [flatR_len]; omega)]
theorem make_rg (n : Nat) (hn : n ≤ 67108864) (u : World) : (Instr.makeSlice 36 (.int .i64 (n : Int)) (.int .i64 (n : Int))).run Tryz.prog u =
    .ok (.slice (some ⟨u.heap.size, 0, none⟩) n n) (u.alloc (.cells (flatR (List.replicate n ⟨0, 0⟩)).toArray 78)) := by
  obtain ⟨i0, hi, hz0, hz1, hz2⟩ := info_parts info32
  have h := run_make (P := Tryz.prog) u 36 78 i0 _ Tryz.underlying36 hi hz0 .i64 .i64 (n : Int) (n : Int) (by omega) (Int.le_refl _) (by rw [hz2]; omega) (by omega)
  have e : ((n : Int)).toNat = n := by omega
  rw [e] at h
  rw [← made_rg]
  simpa [hz1, Value.cells] using h
theorem info32z : (Tryz.prog.info? 78).map (·.size) = some 2 := by kernel_rfl
theorem run_copy_none32 (w : World) (ty : TypeId) (d a : Option Addr) (M dCap sCap : Nat) : (Builtin.copy_ #[36, 36] ty #[.slice d M dCap, .slice a 0 sCap]).run Tryz.prog w = .ok (.int .i64 0) w := by
  obtain ⟨i0, hi, _, _, _⟩ := info_parts info32
  have hl : ∀ ad, (loadCells ad 0).run Tryz.prog w = .ok #[] w := fun ad => by simpa using run_loadCells_list (P := Tryz.prog) w ad [] (by simp)
  cases a <;> cases d <;> simp [Builtin.copy_, run_underlying Tryz.underlying36, Builtin.lenOf, Builtin.firstCells, sizeOf, typeInfo, hi, goInt, hl, storeCells]
theorem copy_rg {ty : TypeId} {w : World} {G M dCap sCap B : Nat} {a : Option Addr} {ys cs : List Rg} (hg : BlR w G ys) (hR : RdR B w a cs) (hM : cs.length ≤ M) (hfit : cs.length ≤ ys.length) :
    ∃ w', (Builtin.copy_ #[36, 36] ty #[.slice (some ⟨G, 0, none⟩) M dCap, .slice a cs.length sCap]).run Tryz.prog w = .ok (.int .i64 (cs.length : Int)) w' ∧ BlR w' G (cs ++ ys.drop cs.length) ∧ But (fun x => x = G) w w' := by
  by_cases h0 : cs = []
  · subst h0
    exact ⟨w, run_copy_none32 w ty _ _ M dCap sCap, by simpa using hg, But.refl _ _⟩
  · obtain ⟨b, off, rfl, hb, hc⟩ := hR.resolve_left h0
    have hmin : Nat.min cs.length M = cs.length := Nat.min_eq_left hM
    have h := run_copy_wide (P := Tryz.prog) w 36 36 ty 78 G 0 M dCap ⟨b, off, none⟩ cs.length sCap 2 (flatR ys).toArray 78 (flatR cs) Tryz.underlying36 info32z hg (by rw [hmin, flatR_len]) (rdr_src hc) (by simp [flatR_len]; omega) (flatR_one _)
    refine ⟨_, h.trans (by rw [hmin]; rfl), ?_, ?_⟩
    · have := setRow_heap w G (flatR ys).toArray ((flatR ys).toArray.toList.take 0 ++ flatR cs ++ (flatR ys).toArray.toList.drop (0 + (flatR cs).length)).toArray 78 (0, 0) hg
      unfold BlR
      rw [this, flatR_app, flatR_drop]
      simp [flatR_len]
    · exact ⟨rfl, rfl, rfl, by simp [World.setRow], fun k _ hx => setRow_other w G k _ (by intro e; exact hx e)⟩

/-! ### volumes -/
/-- block g holds just these volumes -/
def BlV (w : World) (g : Nat) (os : List PV) (us : List Value) : Prop := us.length = os.length ∧ w.heap[g]? = some (.cells (flatV os us).toArray 38 (0, 0))
theorem BlV.lt {w : World} {g : Nat} {os : List PV} {us : List Value} (h : BlV w g os us) : g < w.heap.size := (Array.getElem?_eq_some_iff.1 h.2).1
theorem BlV.keep {w w' : World} {g : Nat} {os : List PV} {us : List Value} (h : BlV w g os us) (hw : w'.heap[g]? = w.heap[g]?) : BlV w' g os us := ⟨h.1, by rw [hw]; exact h.2⟩
theorem BlV.at {w : World} {g : Nat} {os : List PV} {us : List Value} (h : BlV w g os us) (j : Nat) (hj : j < os.length) (i : Nat) (hi : i < 7) : w.cell? ⟨g, j * 7 + i, none⟩ = (cells7 os[j] (us[j]'(by have := h.1; omega)))[i]? := by
  have h2 := h.2
  simp only [World.cell?, h2]
  rw [List.getElem?_toArray, flatV_at os us h.1 j hj i hi]
  simp
theorem BlV.frozen {w : World} {g : Nat} {os : List PV} {us : List Value} (h : BlV w g os us) (i : Nat) : w.frozen? ⟨g, i, none⟩ = false := by
  have h2 := h.2
  simp [World.frozen?, h2]
theorem flatV_set : ∀ (os : List PV) (us : List Value) (i : Nat) (o : PV) (u : Value), us.length = os.length → i < os.length → flatV (os.set i o) (us.set i u) = (((((((flatV os us).set (i * 7) (.string o.nm)).set (i * 7 + 1) (.int .i64 o.id)).set (i * 7 + 2) (.int .i64 o.sz)).set (i * 7 + 3) (.int .i64 o.og)).set (i * 7 + 4) (.int .i64 o.kd)).set (i * 7 + 5) (.bool o.pt)).set (i * 7 + 6) u
  | [], _, i, o, u, _, h => by simp at h
  | _ :: _, [], _, _, _, h, _ => by simp at h
  | x :: ts, y :: us, 0, o, u, _, h => by simp [flatV, cells7]
  | x :: ts, y :: us, i + 1, o, u, hl, h => by
    have ih := flatV_set ts us i o u (by simpa using hl) (by simpa using h)
    rw [List.set_cons_succ, List.set_cons_succ, flatV, ih, flatV, show (i + 1) * 7 = i * 7 + 7 by omega]
    simp [cells7]
/-- seven stores -/
def at7 (w : World) (g k : Nat) (o : PV) (u : Value) : World := ((((((w.setCell ⟨g, k, none⟩ (.string o.nm)).setCell ⟨g, k + 1, none⟩ (.int .i64 o.id)).setCell ⟨g, k + 2, none⟩ (.int .i64 o.sz)).setCell ⟨g, k + 3, none⟩ (.int .i64 o.og)).setCell ⟨g, k + 4, none⟩ (.int .i64 o.kd)).setCell ⟨g, k + 5, none⟩ (.bool o.pt)).setCell ⟨g, k + 6, none⟩ u
theorem BlV.set7 {w : World} {g : Nat} {os : List PV} {us : List Value} (h : BlV w g os us) (i : Nat) (o : PV) (u : Value) (hi : i < os.length) : BlV (at7 w g (i * 7) o u) g (os.set i o) (us.set i u) := by
  refine ⟨by simp [h.1], ?_⟩
  rw [flatV_set os us i o u h.1 hi]
  unfold at7
  simp only [World.setCell, Array.getElem?_modify, if_true]
  rw [h.2]
  simp
theorem BlV.set6 {w : World} {g : Nat} {os : List PV} {us : List Value} (h : BlV w g os us) (i : Nat) (u : Value) (hi : i < os.length) : BlV (w.setCell ⟨g, i * 7 + 6, none⟩ u) g os (us.set i u) := by
  refine ⟨by simp [h.1], ?_⟩
  have e : flatV os (us.set i u) = (flatV os us).set (i * 7 + 6) u := by
    have k : ∀ (os : List PV) (us : List Value) (i : Nat), us.length = os.length → i < os.length → flatV os (us.set i u) = (flatV os us).set (i * 7 + 6) u := by
      intro os
      induction os with
      | nil => intro us i _ h; simp at h
      | cons x ts ih =>
        intro us i hl hi
        cases us with
        | nil => simp at hl
        | cons y us =>
          cases i with
          | zero => simp [flatV, cells7]
          | succ i =>
            have := ih us i (by simpa using hl) (by simpa using hi)
            rw [List.set_cons_succ, flatV, this, flatV, show (i + 1) * 7 = i * 7 + 7 by omega]
            simp [cells7]
    exact k os us i h.1 hi
  rw [e]
  simp only [World.setCell, Array.getElem?_modify, if_true]
  rw [h.2]
  simp
theorem but_at7 (w : World) (g k : Nat) (o : PV) (u : Value) : But (fun x => x = g) w (at7 w g k o u) := by
  unfold at7
  exact ((((((((But.refl (fun x => x = g) w).setCell (p := ⟨g, k, none⟩) rfl _).setCell (p := ⟨g, k + 1, none⟩) rfl _).setCell (p := ⟨g, k + 2, none⟩) rfl _).setCell (p := ⟨g, k + 3, none⟩) rfl _).setCell (p := ⟨g, k + 4, none⟩) rfl _).setCell (p := ⟨g, k + 5, none⟩) rfl _).setCell (p := ⟨g, k + 6, none⟩) rfl _)
theorem made_vol (n : Nat) : madeCells #[.string ByteArray.empty, .int .i64 0, .int .i64 0, .int .i64 0, .int .i64 0, .bool false, .slice none 0 0] (n * 7) = (flatV (List.replicate n PV0) (List.replicate n (.slice none 0 0))).toArray := by
  rw [← Array.toList_inj]
  apply List.ext_getElem?
  intro j
  by_cases hj : j < n * 7
  · have h1 := flatV_at (List.replicate n PV0) (List.replicate n (.slice none 0 0)) (by simp) (j / 7) (by rw [List.length_replicate]; omega) (j % 7) (by omega)
    rw [show j / 7 * 7 + j % 7 = j by omega] at h1
    rw [h1, List.getElem_replicate, List.getElem_replicate]
    simp only [madeCells, Array.toList_map, Array.toList_range, List.getElem?_map, List.getElem?_range hj, Option.map_some]
    rcases (show j % 7 = 0 ∨ j % 7 = 1 ∨ j % 7 = 2 ∨ j % 7 = 3 ∨ j % 7 = 4 ∨ j % 7 = 5 ∨ j % 7 = 6 by omega) with h | h | h | h | h | h | h <;> simp [h, cells7, PV0] <;> rfl
  · rw [List.getElem?_eq_none (by simp [madeCells]; omega), List.getElem?_eq_none (by show (flatV _ _).length ≤ j; rw [flatV_len _ _ (by simp)]; simp; omega)]
theorem make_vol (n : Nat) (hn : n ≤ 67108864) (u : World) : (Instr.makeSlice 22 (.int .i64 (n : Int)) (.int .i64 (n : Int))).run Tryz.prog u =
    .ok (.slice (some ⟨u.heap.size, 0, none⟩) n n) (u.alloc (.cells (flatV (List.replicate n PV0) (List.replicate n (.slice none 0 0))).toArray 38)) := by
  obtain ⟨i0, hi, hz0, hz1, hz2⟩ := info_parts info30
  have h := run_make (P := Tryz.prog) u 22 38 i0 _ Tryz.underlying22 hi hz0 .i64 .i64 (n : Int) (n : Int) (by omega) (Int.le_refl _) (by rw [hz2]; omega) (by omega)
  have e : ((n : Int)).toNat = n := by omega
  rw [e] at h
  rw [← made_vol]
  simpa [hz1, Value.cells] using h

end Go.Proofs.YtddddfankeepkaaGreatDoor
/-
  The place of a name among volumes: IndexFunc with its closure, placeOf.
-/
namespace Go.Proofs.YtddddfankeepkaaGreatDoor
open Go.RowKit

/-- the place of a name, from k on; -1: it is not there -/
def plcF : List PV → ByteArray → Nat → Int
  | [], _, _ => -1
  | v :: r, nm, k => if v.nm.toList = nm.toList then (k : Int) else plcF r nm (k + 1)
/-- block P holds a text -/
def StB (w : World) (P : Nat) (s : ByteArray) : Prop := w.heap[P]? = some (.cells #[.string s] 9 (0, 0))
theorem StB.lt {w : World} {P : Nat} {s : ByteArray} (h : StB w P s) : P < w.heap.size := (Array.getElem?_eq_some_iff.1 h).1
theorem StB.keep {w w' : World} {P : Nat} {s : ByteArray} (h : StB w P s) (hw : w'.heap[P]? = w.heap[P]?) : StB w' P s := by unfold StB at *; rw [hw]; exact h
theorem StB.cs {w : World} {P : Nat} {s : ByteArray} (h : StB w P s) : w.cell? ⟨P, 0, none⟩ = some (.string s) := by
  unfold StB at h
  simp [World.cell?, h]

set_option maxRecDepth 100000 in
set_option maxHeartbeats 1000000 in
theorem isNamed_any (v : PV) (a : Option Addr) (c P : Nat) (nm : ByteArray) (w : World) (hP : StB w P nm) :
    Calls Tryz.prog 104 #[volA v a c, .pointer (some ⟨P, 0, none⟩)] w fun e w' => e = .returned (.bool (v.nm.toList == nm.toList)) ∧ Below w.heap.size w w' := by
  have c0 := hP.cs
  have hl := hP.lt
  have HB := hid (below1 w (.cells #[.string v.nm, .int .i64 v.id, .int .i64 v.sz, .int .i64 v.og, .int .i64 v.kd, .bool v.pt, .slice a v.mp.length c] 38))
  clear hP
  dsimp only [volA]
  go_enter Tryz.func104, Tryz.ntmps104
  go_wp2
  go_ret
  exact ⟨rfl, HB.out⟩

set_option maxRecDepth 100000 in
set_option maxHeartbeats 4000000 in
theorem IndexName_any (a : Option Addr) (c P : Nat) (vs : List PV) (nm : ByteArray) (w : World) (hl : vs.length ≤ 16777216) (hR : RdV w.heap.size w a vs) (hP : StB w P nm) :
    Calls Tryz.prog 103 #[.slice a vs.length c, .func (.func 104) #[] #[.pointer (some ⟨P, 0, none⟩)]] w fun e w' => e = .returned (.int .i64 (plcF vs nm 0)) ∧ Below w.heap.size w w' := by
  have HR := hid hR
  have HP := hid hP
  clear hR hP
  go_enter Tryz.func103, Tryz.ntmps103
  go_wp2_with fail
  go_loopw [8] (fun i wr => ∃ r : Nat, r ≤ vs.length ∧ i = .int .i64 (r : Int) ∧ plcF (vs.drop r) nm r = plcF vs nm 0 ∧ Below w.heap.size w wr) (fun i _ => vs.length - (intOf i).toNat)
  case atStart => exact ⟨0, Nat.zero_le _, rfl, by simp, Below.refl _ _⟩
  case round =>
    obtain ⟨r, hr, rfl, ht, hb⟩ := hrel
    by_cases hlt : r < vs.length
    · obtain ⟨b, off, rfl, hbl, hc⟩ := (HR.out.below hb).resolve_left (fun e => by rw [e] at hlt; simp at hlt)
      obtain ⟨x, cp, ⟨c0, c1, c2, c3, c4, c5, c6⟩, _, _⟩ := hc r hlt
      have HC := hid (isNamed_any vs[r] x cp P nm wr (HP.out.keep (hb.block _ HP.out.lt)))
      have hd : vs.drop r = vs[r] :: vs.drop (r + 1) := List.drop_eq_getElem_cons hlt
      rw [hd, plcF] at ht
      have HT := hid ht
      have HB := hid hb
      clear hc ht hd hb HR HP
      dsimp only [volA] at HC
      generalize vs[r] = v at *
      have hr1 : (r : Int) < (vs.length : Int) := by omega
      by_cases e : v.nm.toList = nm.toList
      · have he : (v.nm.toList == nm.toList) = true := by simpa using e
        rw [he] at HC
        go_wp2_with fail
        refine HC.out.mono ?_
        rintro e' w1 ⟨rfl, hb1⟩
        have HB1 := hid (HB.out.trans (hb1.mono HB.out.size))
        have HT1 : Hid (plcF vs nm 0 = (r : Int)) := by have := HT.out; rw [if_pos e] at this; exact this.symm
        clear hb1 HC c0 c1 c2 c3 c4 c5 c6 HT e he
        go_wp2
        go_ret
        exact ⟨by rw [HT1.out]; rfl, HB1.out⟩
      · have he : (v.nm.toList == nm.toList) = false := by simpa using e
        rw [he] at HC
        go_wp2_with fail
        refine HC.out.mono ?_
        rintro e' w1 ⟨rfl, hb1⟩
        have HB1 := hid (HB.out.trans (hb1.mono HB.out.size))
        have HT1 : Hid (plcF (vs.drop (r + 1)) nm (r + 1) = plcF vs nm 0) := by have := HT.out; rw [if_neg e] at this; exact this
        clear hb1 HC c0 c1 c2 c3 c4 c5 c6 HT e he
        go_wp2
        go_roundw
        case rel => exact ⟨r + 1, by omega, by go_num, HT1.out, HB1.out⟩
        case measure => simp [intOf]; omega
    · have e : r = vs.length := by omega
      subst e
      have HB := hid hb
      have HT : Hid (plcF vs nm 0 = -1) := by rw [List.drop_length, plcF] at ht; exact ht.symm
      clear hb ht
      go_wp2
      go_ret
      exact ⟨by rw [HT.out]; rfl, HB.out⟩

end Go.Proofs.YtddddfankeepkaaGreatDoor
/-
  The draft in its block; placeOf; what is looked at in it but its volumes.
-/
namespace Go.Proofs.YtddddfankeepkaaGreatDoor
open Go.RowKit

/-- an operation in plain words, but for its data -/
structure OW where
  k : Int
  nm : ByteArray
  ot : ByteArray
  fr : Int
  tt : Int
/-- block D holds a draft -/
def DrB (w : World) (D : Nat) (x : VW) (u : Value) (o : OW) (dv : Value) (pn po : Int) : Prop :=
  w.heap[D]? = some (.cells #[.int .i64 x.cp, .int .i64 x.fr, .int .i64 x.nx, u, .int .i64 o.k, .string o.nm, .string o.ot, .int .i64 o.fr, .int .i64 o.tt, dv, .int .i64 pn, .int .i64 po] 73 (0, 0))
theorem DrB.lt {w : World} {D : Nat} {x : VW} {u : Value} {o : OW} {dv : Value} {pn po : Int} (h : DrB w D x u o dv pn po) : D < w.heap.size := (Array.getElem?_eq_some_iff.1 h).1
theorem DrB.keep {w w' : World} {D : Nat} {x : VW} {u : Value} {o : OW} {dv : Value} {pn po : Int} (h : DrB w D x u o dv pn po) (hw : w'.heap[D]? = w.heap[D]?) : DrB w' D x u o dv pn po := by unfold DrB at *; rw [hw]; exact h
theorem DrB.cs {w : World} {D : Nat} {x : VW} {u : Value} {o : OW} {dv : Value} {pn po : Int} (h : DrB w D x u o dv pn po) : w.cell? ⟨D, 0, none⟩ = some (.int .i64 x.cp) ∧ w.cell? ⟨D, 1, none⟩ = some (.int .i64 x.fr) ∧ w.cell? ⟨D, 2, none⟩ = some (.int .i64 x.nx) ∧ w.cell? ⟨D, 3, none⟩ = some u ∧ w.cell? ⟨D, 4, none⟩ = some (.int .i64 o.k) ∧ w.cell? ⟨D, 5, none⟩ = some (.string o.nm) ∧ w.cell? ⟨D, 6, none⟩ = some (.string o.ot) ∧ w.cell? ⟨D, 7, none⟩ = some (.int .i64 o.fr) ∧ w.cell? ⟨D, 8, none⟩ = some (.int .i64 o.tt) ∧ w.cell? ⟨D, 9, none⟩ = some dv ∧ w.cell? ⟨D, 10, none⟩ = some (.int .i64 pn) ∧ w.cell? ⟨D, 11, none⟩ = some (.int .i64 po) := by
  unfold DrB at h
  simp [World.cell?, h]
theorem DrB.fz {w : World} {D : Nat} {x : VW} {u : Value} {o : OW} {dv : Value} {pn po : Int} (h : DrB w D x u o dv pn po) (i : Nat) : w.frozen? ⟨D, i, none⟩ = false := by
  unfold DrB at h
  simp [World.frozen?, h]

/-- what a look answers -/
def LkQ (w : World) (err : Int) (e : Ending) (w' : World) : Prop := e = .returned (.int .i64 err) ∧ Below w.heap.size w w'
def unl (b : Bool) (e : Int) : Int := if b then 0 else e
set_option maxHeartbeats 1000000 in
theorem unless_any (b : Bool) (e0 : Int) (w : World) : Calls Tryz.prog 91 #[.bool b, .int .i64 e0] w fun e w' => e = .returned (.int .i64 (unl b e0)) ∧ w' = w := by
  cases b
  · go_enter Tryz.func91, Tryz.ntmps91
    go_wp2
    go_ret
    exact ⟨rfl, rfl⟩
  · go_enter Tryz.func91, Tryz.ntmps91
    go_wp2
    go_ret
    exact ⟨rfl, rfl⟩

set_option maxRecDepth 100000 in
set_option maxHeartbeats 4000000 in
theorem placeOf_any (D : Nat) (x : VW) (a : Option Addr) (c : Nat) (o : OW) (dv : Value) (pn po : Int) (nm : ByteArray) (w : World) (hD : DrB w D x (.slice a x.vs.length c) o dv pn po) (hl : x.vs.length ≤ 16777216) (hR : RdV w.heap.size w a x.vs) :
    Calls Tryz.prog 76 #[.pointer (some ⟨D, 0, none⟩), .string nm] w fun e w' => LkQ w (plcF x.vs nm 0) e w' := by
  obtain ⟨P, hP⟩ : ∃ P, P = w.heap.size := ⟨_, rfl⟩
  obtain ⟨W1, hW1⟩ : ∃ W1, W1 = w.alloc (.cells #[.string nm] 9) := ⟨_, rfl⟩
  have b1 : Below w.heap.size w W1 := by rw [hW1]; exact below1 _ _
  have hS : StB W1 P nm := by rw [hW1, hP]; exact heap_new _ _
  have HC := hid (IndexName_any a c P x.vs nm W1 hl ((hR.below b1).mono b1.size) hS)
  obtain ⟨_, _, _, c3, _⟩ := hD.cs
  have hDl := hD.lt
  have HB := hid b1
  have HW := hid hW1
  have HP := hid hP
  clear b1 hS hW1 hP hR hD
  go_enter Tryz.func76, Tryz.ntmps76
  go_wp2_with fail
  rw [← HW.out, ← HP.out]
  refine HC.out.mono ?_
  rintro e w2 ⟨rfl, hb2⟩
  have HB2 := hid (HB.out.trans (hb2.mono HB.out.size))

  clear hb2 HC
  go_wp2
  go_ret
  exact ⟨rfl, HB2.out⟩

set_option maxRecDepth 100000 in
set_option maxHeartbeats 2000000 in
theorem nameIsThere_any (D : Nat) (x : VW) (u : Value) (o : OW) (dv : Value) (pn po : Int) (w : World) (hD : DrB w D x u o dv pn po) :
    Calls Tryz.prog 55 #[.pointer (some ⟨D, 0, none⟩)] w fun e w' => LkQ w (unl (decide (0 ≤ pn)) 104) e w' := by
  obtain ⟨c0, c1, c2, c3, c4, c5, c6, c7, c8, c9, c10, c11⟩ := hD.cs
  have HB := hid (Below.refl w.heap.size w)
  clear hD
  by_cases h : 0 ≤ pn
  · rw [decide_eq_true h]
    have HC := hid (unless_any true 104 w)
    have h' := h
    go_enter Tryz.func55, Tryz.ntmps55
    go_wp2_with fail
    refine HC.out.mono ?_
    rintro e w2 ⟨rfl, rfl⟩
    go_wp2
    go_ret
    exact ⟨rfl, HB.out⟩
  · rw [decide_eq_false h]
    have HC := hid (unless_any false 104 w)
    go_enter Tryz.func55, Tryz.ntmps55
    go_wp2_with fail
    refine HC.out.mono ?_
    rintro e w2 ⟨rfl, rfl⟩
    go_wp2
    go_ret
    exact ⟨rfl, HB.out⟩

set_option maxRecDepth 100000 in
set_option maxHeartbeats 2000000 in
theorem otherIsThere_any (D : Nat) (x : VW) (u : Value) (o : OW) (dv : Value) (pn po : Int) (w : World) (hD : DrB w D x u o dv pn po) :
    Calls Tryz.prog 51 #[.pointer (some ⟨D, 0, none⟩)] w fun e w' => LkQ w (unl (decide (0 ≤ po)) 104) e w' := by
  obtain ⟨c0, c1, c2, c3, c4, c5, c6, c7, c8, c9, c10, c11⟩ := hD.cs
  have HB := hid (Below.refl w.heap.size w)
  clear hD
  by_cases h : 0 ≤ po
  · rw [decide_eq_true h]
    have HC := hid (unless_any true 104 w)
    have h' := h
    go_enter Tryz.func51, Tryz.ntmps51
    go_wp2_with fail
    refine HC.out.mono ?_
    rintro e w2 ⟨rfl, rfl⟩
    go_wp2
    go_ret
    exact ⟨rfl, HB.out⟩
  · rw [decide_eq_false h]
    have HC := hid (unless_any false 104 w)
    go_enter Tryz.func51, Tryz.ntmps51
    go_wp2_with fail
    refine HC.out.mono ?_
    rintro e w2 ⟨rfl, rfl⟩
    go_wp2
    go_ret
    exact ⟨rfl, HB.out⟩

set_option maxRecDepth 100000 in
set_option maxHeartbeats 2000000 in
theorem nameIsFree_any (D : Nat) (x : VW) (u : Value) (o : OW) (dv : Value) (pn po : Int) (w : World) (hD : DrB w D x u o dv pn po) :
    Calls Tryz.prog 52 #[.pointer (some ⟨D, 0, none⟩)] w fun e w' => LkQ w (unl (decide (pn < 0)) 105) e w' := by
  obtain ⟨c0, c1, c2, c3, c4, c5, c6, c7, c8, c9, c10, c11⟩ := hD.cs
  have HB := hid (Below.refl w.heap.size w)
  clear hD
  by_cases h : pn < 0
  · rw [decide_eq_true h]
    have HC := hid (unless_any true 105 w)
    have h' := h
    go_enter Tryz.func52, Tryz.ntmps52
    go_wp2_with fail
    refine HC.out.mono ?_
    rintro e w2 ⟨rfl, rfl⟩
    go_wp2
    go_ret
    exact ⟨rfl, HB.out⟩
  · rw [decide_eq_false h]
    have HC := hid (unless_any false 105 w)
    go_enter Tryz.func52, Tryz.ntmps52
    go_wp2_with fail
    refine HC.out.mono ?_
    rintro e w2 ⟨rfl, rfl⟩
    go_wp2
    go_ret
    exact ⟨rfl, HB.out⟩

set_option maxRecDepth 100000 in
set_option maxHeartbeats 2000000 in
theorem otherIsFree_any (D : Nat) (x : VW) (u : Value) (o : OW) (dv : Value) (pn po : Int) (w : World) (hD : DrB w D x u o dv pn po) :
    Calls Tryz.prog 64 #[.pointer (some ⟨D, 0, none⟩)] w fun e w' => LkQ w (unl (decide (po < 0)) 105) e w' := by
  obtain ⟨c0, c1, c2, c3, c4, c5, c6, c7, c8, c9, c10, c11⟩ := hD.cs
  have HB := hid (Below.refl w.heap.size w)
  clear hD
  by_cases h : po < 0
  · rw [decide_eq_true h]
    have HC := hid (unless_any true 105 w)
    have h' := h
    go_enter Tryz.func64, Tryz.ntmps64
    go_wp2_with fail
    refine HC.out.mono ?_
    rintro e w2 ⟨rfl, rfl⟩
    go_wp2
    go_ret
    exact ⟨rfl, HB.out⟩
  · rw [decide_eq_false h]
    have HC := hid (unless_any false 105 w)
    go_enter Tryz.func64, Tryz.ntmps64
    go_wp2_with fail
    refine HC.out.mono ?_
    rintro e w2 ⟨rfl, rfl⟩
    go_wp2
    go_ret
    exact ⟨rfl, HB.out⟩

end Go.Proofs.YtddddfankeepkaaGreatDoor
/-
  Sizes, the capacity, the catalog's room.
-/
namespace Go.Proofs.YtddddfankeepkaaGreatDoor
open Go.RowKit

set_option maxRecDepth 100000 in
set_option maxHeartbeats 2000000 in
theorem sizeMayBe_any (D : Nat) (x : VW) (u : Value) (o : OW) (dv : Value) (pn po : Int) (w : World) (hD : DrB w D x u o dv pn po) :
    Calls Tryz.prog 59 #[.pointer (some ⟨D, 0, none⟩)] w fun e w' => LkQ w (unl (decide (1 ≤ o.tt ∧ o.tt ≤ 262144)) 106) e w' := by
  obtain ⟨c0, c1, c2, c3, c4, c5, c6, c7, c8, c9, c10, c11⟩ := hD.cs
  have HB := hid (Below.refl w.heap.size w)
  clear hD
  by_cases h : 1 ≤ o.tt
  · by_cases h2 : o.tt ≤ 262144
    · rw [decide_eq_true (And.intro h h2)]
      have HC := hid (unless_any true 106 w)
      go_enter Tryz.func59, Tryz.ntmps59
      go_wp2_with fail
      refine HC.out.mono ?_
      rintro e w2 ⟨rfl, rfl⟩
      go_wp2
      go_ret
      exact ⟨rfl, HB.out⟩
    · rw [decide_eq_false (fun q : 1 ≤ o.tt ∧ o.tt ≤ 262144 => h2 q.2)]
      have HC := hid (unless_any false 106 w)
      go_enter Tryz.func59, Tryz.ntmps59
      go_wp2_with fail
      refine HC.out.mono ?_
      rintro e w2 ⟨rfl, rfl⟩
      go_wp2
      go_ret
      exact ⟨rfl, HB.out⟩
  · rw [decide_eq_false (fun q : 1 ≤ o.tt ∧ o.tt ≤ 262144 => h q.1)]
    have HC := hid (unless_any false 106 w)
    go_enter Tryz.func59, Tryz.ntmps59
    go_wp2_with fail
    refine HC.out.mono ?_
    rintro e w2 ⟨rfl, rfl⟩
    go_wp2
    go_ret
    exact ⟨rfl, HB.out⟩

set_option maxRecDepth 100000 in
set_option maxHeartbeats 2000000 in
theorem room_any (D : Nat) (x : VW) (a : Option Addr) (n c : Nat) (o : OW) (dv : Value) (pn po : Int) (w : World) (hD : DrB w D x (.slice a n c) o dv pn po) :
    Calls Tryz.prog 54 #[.pointer (some ⟨D, 0, none⟩)] w fun e w' => LkQ w (if 64 ≤ n then 83 else unl (decide (x.nx ≤ 1073741824)) 85) e w' := by
  obtain ⟨c0, c1, c2, c3, c4, c5, c6, c7, c8, c9, c10, c11⟩ := hD.cs
  have HB := hid (Below.refl w.heap.size w)
  clear hD
  by_cases h : 64 ≤ n
  · have h' : (64 : Int) ≤ (n : Int) := by omega
    rw [if_pos h]
    go_enter Tryz.func54, Tryz.ntmps54
    go_wp2
    go_ret
    exact ⟨rfl, HB.out⟩
  · have h' : ¬ (64 : Int) ≤ (n : Int) := by omega
    rw [if_neg h]
    by_cases h2 : x.nx ≤ 1073741824
    · rw [decide_eq_true h2]
      have HC := hid (unless_any true 85 w)
      go_enter Tryz.func54, Tryz.ntmps54
      go_wp2_with fail
      refine HC.out.mono ?_
      rintro e w2 ⟨rfl, rfl⟩
      go_wp2
      go_ret
      exact ⟨rfl, HB.out⟩
    · rw [decide_eq_false h2]
      have HC := hid (unless_any false 85 w)
      go_enter Tryz.func54, Tryz.ntmps54
      go_wp2_with fail
      refine HC.out.mono ?_
      rintro e w2 ⟨rfl, rfl⟩
      go_wp2
      go_ret
      exact ⟨rfl, HB.out⟩

end Go.Proofs.YtddddfankeepkaaGreatDoor
/-
  The volume that a draft speaks of.
-/
namespace Go.Proofs.YtddddfankeepkaaGreatDoor
open Go.RowKit

theorem below_drewN' (B : Nat) (w : World) (n : Nat) : Below B w (w.drewN n) := ⟨rfl, rfl, rfl, Nat.le_refl _, fun _ _ => rfl⟩
set_option maxRecDepth 100000 in
set_option maxHeartbeats 2000000 in
theorem volume_any (D : Nat) (x : VW) (b off n c k : Nat) (o : OW) (dv : Value) (po : Int) (w : World) (hD : DrB w D x (.slice (some ⟨b, off, none⟩) n c) o dv (k : Int) po) (hk : k < n) :
    Calls Tryz.prog 93 #[.pointer (some ⟨D, 0, none⟩)] w fun e w' => e = .returned (.pointer (some ⟨b, off + k * 7, none⟩)) ∧ ∃ q, w' = w.drewN q := by
  obtain ⟨c0, c1, c2, c3, c4, c5, c6, c7, c8, c9, c10, c11⟩ := hD.cs
  have hk' : (k : Int) < (n : Int) := by omega
  clear hD
  go_enter Tryz.func93, Tryz.ntmps93
  go_wp2_with fail
  go_quiet (fail)
  all_goals go_wp2
  all_goals go_ret
  all_goals exact ⟨rfl, _, rfl⟩
set_option maxRecDepth 100000 in
set_option maxHeartbeats 2000000 in
theorem second_any (D : Nat) (x : VW) (b off n c k : Nat) (o : OW) (dv : Value) (pn : Int) (w : World) (hD : DrB w D x (.slice (some ⟨b, off, none⟩) n c) o dv pn (k : Int)) (hk : k < n) :
    Calls Tryz.prog 92 #[.pointer (some ⟨D, 0, none⟩)] w fun e w' => e = .returned (.pointer (some ⟨b, off + k * 7, none⟩)) ∧ ∃ q, w' = w.drewN q := by
  obtain ⟨c0, c1, c2, c3, c4, c5, c6, c7, c8, c9, c10, c11⟩ := hD.cs
  have hk' : (k : Int) < (n : Int) := by omega
  clear hD
  go_enter Tryz.func92, Tryz.ntmps92
  go_wp2_with fail
  go_quiet (fail)
  all_goals go_wp2
  all_goals go_ret
  all_goals exact ⟨rfl, _, rfl⟩

end Go.Proofs.YtddddfankeepkaaGreatDoor
/-
  Looks at the volume that a draft speaks of; the range, the capacity.
-/
namespace Go.Proofs.YtddddfankeepkaaGreatDoor
open Go.RowKit

theorem drewN_below {w w' : World} {q : Nat} (h : w' = w.drewN q) : Below w.heap.size w w' := by rw [h]; exact below_drewN' _ _ _

set_option maxRecDepth 100000 in
set_option maxHeartbeats 4000000 in
theorem nameIsWhole_any (D : Nat) (x : VW) (b off n c k : Nat) (v : PV) (a2 : Option Addr) (c2 : Nat) (o : OW) (dv : Value) (po : Int) (w : World) (hD : DrB w D x (.slice (some ⟨b, off, none⟩) n c) o dv (k : Int) po) (hk : k < n) (hV : VolC w b (off + k * 7) v a2 c2) :
    Calls Tryz.prog 57 #[.pointer (some ⟨D, 0, none⟩)] w fun e w' => LkQ w (unl (!v.pt) 108) e w' := by
  obtain ⟨_, _, _, _, _, v5, _⟩ := hV
  have HC := hid (volume_any D x b off n c k o dv po w hD hk)
  clear hD
  generalize v.pt = pt at *
  cases pt
  · have HU := hid (fun u => unless_any true 108 u)
    go_enter Tryz.func57, Tryz.ntmps57
    go_wp2_with fail
    refine HC.out.mono ?_
    rintro e w2 ⟨rfl, q, hw2⟩
    have HB := hid (drewN_below hw2)
    have v5' : w2.cell? ⟨b, off + k * 7 + 5, none⟩ = some (.bool false) := by rw [hw2]; exact v5
    clear hw2 HC v5
    go_wp2_with fail
    refine (HU.out w2).mono ?_
    rintro e w3 ⟨rfl, rfl⟩
    go_wp2
    go_ret
    exact ⟨rfl, HB.out⟩
  · have HU := hid (fun u => unless_any false 108 u)
    go_enter Tryz.func57, Tryz.ntmps57
    go_wp2_with fail
    refine HC.out.mono ?_
    rintro e w2 ⟨rfl, q, hw2⟩
    have HB := hid (drewN_below hw2)
    have v5' : w2.cell? ⟨b, off + k * 7 + 5, none⟩ = some (.bool true) := by rw [hw2]; exact v5
    clear hw2 HC v5
    go_wp2_with fail
    refine (HU.out w2).mono ?_
    rintro e w3 ⟨rfl, rfl⟩
    go_wp2
    go_ret
    exact ⟨rfl, HB.out⟩

set_option maxRecDepth 100000 in
set_option maxHeartbeats 4000000 in
theorem otherIsWhole_any (D : Nat) (x : VW) (b off n c k : Nat) (v : PV) (a2 : Option Addr) (c2 : Nat) (o : OW) (dv : Value) (pn : Int) (w : World) (hD : DrB w D x (.slice (some ⟨b, off, none⟩) n c) o dv pn (k : Int)) (hk : k < n) (hV : VolC w b (off + k * 7) v a2 c2) :
    Calls Tryz.prog 53 #[.pointer (some ⟨D, 0, none⟩)] w fun e w' => LkQ w (unl (!v.pt) 108) e w' := by
  obtain ⟨_, _, _, _, _, v5, _⟩ := hV
  have HC := hid (second_any D x b off n c k o dv pn w hD hk)
  clear hD
  generalize v.pt = pt at *
  cases pt
  · have HU := hid (fun u => unless_any true 108 u)
    go_enter Tryz.func53, Tryz.ntmps53
    go_wp2_with fail
    refine HC.out.mono ?_
    rintro e w2 ⟨rfl, q, hw2⟩
    have HB := hid (drewN_below hw2)
    have v5' : w2.cell? ⟨b, off + k * 7 + 5, none⟩ = some (.bool false) := by rw [hw2]; exact v5
    clear hw2 HC v5
    go_wp2_with fail
    refine (HU.out w2).mono ?_
    rintro e w3 ⟨rfl, rfl⟩
    go_wp2
    go_ret
    exact ⟨rfl, HB.out⟩
  · have HU := hid (fun u => unless_any false 108 u)
    go_enter Tryz.func53, Tryz.ntmps53
    go_wp2_with fail
    refine HC.out.mono ?_
    rintro e w2 ⟨rfl, q, hw2⟩
    have HB := hid (drewN_below hw2)
    have v5' : w2.cell? ⟨b, off + k * 7 + 5, none⟩ = some (.bool true) := by rw [hw2]; exact v5
    clear hw2 HC v5
    go_wp2_with fail
    refine (HU.out w2).mono ?_
    rintro e w3 ⟨rfl, rfl⟩
    go_wp2
    go_ret
    exact ⟨rfl, HB.out⟩

set_option maxRecDepth 100000 in
set_option maxHeartbeats 4000000 in
theorem rangeIsShort_any (D : Nat) (x : VW) (u : Value) (o : OW) (dv : Value) (pn po : Int) (w : World) (hD : DrB w D x u o dv pn po) :
    Calls Tryz.prog 58 #[.pointer (some ⟨D, 0, none⟩)] w fun e w' => LkQ w (unl (decide (IntKind.i64.wrap (o.tt - o.fr) ≤ 32)) 107) e w' := by
  obtain ⟨c0, c1, c2, c3, c4, c5, c6, c7, c8, c9, c10, c11⟩ := hD.cs
  clear hD
  obtain ⟨z, hz⟩ : ∃ z, IntKind.i64.wrap (o.tt - o.fr) = z := ⟨_, rfl⟩
  rw [hz]
  by_cases h : z ≤ 32
  · rw [decide_eq_true h]
    go_enter Tryz.func58, Tryz.ntmps58
    go_wp2_with fail
    go_quiet ((go_at_call 91; exact Calls.quiet_of_same (unless_any true 107 _)))
    all_goals go_wp2
    all_goals go_ret
    all_goals exact ⟨rfl, below_drewN' _ _ _⟩
  · rw [decide_eq_false h]
    have h' : decide (z ≤ 32) = false := decide_eq_false h
    go_enter Tryz.func58, Tryz.ntmps58
    go_wp2_with fail
    go_quiet ((go_at_call 91; exact Calls.quiet_of_same (unless_any false 107 _)))
    all_goals go_wp2
    all_goals go_ret
    all_goals exact ⟨rfl, below_drewN' _ _ _⟩

set_option maxRecDepth 100000 in
set_option maxHeartbeats 4000000 in
theorem capacityMayBe_any (D : Nat) (x : VW) (u : Value) (o : OW) (dv : Value) (pn po : Int) (w : World) (hD : DrB w D x u o dv pn po) :
    Calls Tryz.prog 73 #[.pointer (some ⟨D, 0, none⟩)] w fun e w' => LkQ w (unl (decide (x.cp < o.tt ∧ o.tt ≤ 262144)) 106) e w' := by
  obtain ⟨c0, c1, c2, c3, c4, c5, c6, c7, c8, c9, c10, c11⟩ := hD.cs
  clear hD
  by_cases h : x.cp < o.tt
  · by_cases h2 : o.tt ≤ 262144
    · rw [decide_eq_true (And.intro h h2)]
      go_enter Tryz.func73, Tryz.ntmps73
      go_wp2_with fail
      go_quiet ((go_at_call 91; exact Calls.quiet_of_same (unless_any true 106 _)))
      all_goals go_wp2
      all_goals go_ret
      all_goals exact ⟨rfl, below_drewN' _ _ _⟩
    · rw [decide_eq_false (fun q : x.cp < o.tt ∧ o.tt ≤ 262144 => h2 q.2)]
      have h' : decide (o.tt ≤ 262144) = false := decide_eq_false h2
      go_enter Tryz.func73, Tryz.ntmps73
      go_wp2_with fail
      go_quiet ((go_at_call 91; exact Calls.quiet_of_same (unless_any false 106 _)))
      all_goals go_wp2
      all_goals go_ret
      all_goals exact ⟨rfl, below_drewN' _ _ _⟩
  · rw [decide_eq_false (fun q : x.cp < o.tt ∧ o.tt ≤ 262144 => h q.1)]
    have h' : decide (x.cp < o.tt) = false := decide_eq_false h
    go_enter Tryz.func73, Tryz.ntmps73
    go_wp2_with fail
    go_quiet ((go_at_call 91; exact Calls.quiet_of_same (unless_any false 106 _)))
    all_goals go_wp2
    all_goals go_ret
    all_goals exact ⟨rfl, below_drewN' _ _ _⟩

set_option maxRecDepth 100000 in
set_option maxHeartbeats 4000000 in
theorem fromIsWithin_any (D : Nat) (x : VW) (b off n c k : Nat) (v : PV) (a2 : Option Addr) (c2' : Nat) (o : OW) (dv : Value) (po : Int) (w : World) (hD : DrB w D x (.slice (some ⟨b, off, none⟩) n c) o dv (k : Int) po) (hk : k < n) (hV : VolC w b (off + k * 7) v a2 c2') :
    Calls Tryz.prog 69 #[.pointer (some ⟨D, 0, none⟩)] w fun e w' => LkQ w (unl (decide (0 ≤ o.fr ∧ o.fr < v.sz)) 107) e w' := by
  obtain ⟨c0, c1, c2, c3, c4, c5, c6, c7, c8, c9, c10, c11⟩ := hD.cs
  obtain ⟨_, _, v2, _, _, _, _⟩ := hV
  have HD := hid hD
  have HC : Hid (∀ q, Calls Tryz.prog 93 #[.pointer (some ⟨D, 0, none⟩)] (w.drewN q) fun e w' => e = .returned (.pointer (some ⟨b, off + k * 7, none⟩)) ∧ ∃ q', w' = (w.drewN q).drewN q') := fun q => volume_any D x b off n c k o dv po (w.drewN q) HD.out hk
  clear hD HD
  by_cases h : 0 ≤ o.fr
  · by_cases h2 : o.fr < v.sz
    · rw [decide_eq_true (And.intro h h2)]
      go_enter Tryz.func69, Tryz.ntmps69
      go_wp2_with fail
      go_quiet (first | (go_at_call 93; exact Calls.quiet_of (HC.out _)) | (go_at_call 91; exact Calls.quiet_of_same (unless_any true 107 _)))
      all_goals go_wp2
      all_goals go_ret
      all_goals exact ⟨rfl, below_drewN' _ _ _⟩
    · rw [decide_eq_false (fun q : 0 ≤ o.fr ∧ o.fr < v.sz => h2 q.2)]
      have h' : decide (o.fr < v.sz) = false := decide_eq_false h2
      go_enter Tryz.func69, Tryz.ntmps69
      go_wp2_with fail
      go_quiet (first | (go_at_call 93; exact Calls.quiet_of (HC.out _)) | (go_at_call 91; exact Calls.quiet_of_same (unless_any false 107 _)))
      all_goals go_wp2
      all_goals go_ret
      all_goals exact ⟨rfl, below_drewN' _ _ _⟩
  · rw [decide_eq_false (fun q : 0 ≤ o.fr ∧ o.fr < v.sz => h q.1)]
    have h' : decide (0 ≤ o.fr) = false := decide_eq_false h
    go_enter Tryz.func69, Tryz.ntmps69
    go_wp2_with fail
    go_quiet ((go_at_call 91; exact Calls.quiet_of_same (unless_any false 107 _)))
    all_goals go_wp2
    all_goals go_ret
    all_goals exact ⟨rfl, below_drewN' _ _ _⟩

end Go.Proofs.YtddddfankeepkaaGreatDoor
/-
  The children of a volume: IndexFunc with its closure, ContainsFunc.
-/
namespace Go.Proofs.YtddddfankeepkaaGreatDoor
open Go.RowKit

/-- the place of the first child of an ID, from k on; -1: there is none -/
def chlF : List PV → Int → Nat → Int
  | [], _, _ => -1
  | v :: r, id, k => if v.og = id then (k : Int) else chlF r id (k + 1)
/-- block P holds a number -/
def NmB (w : World) (P : Nat) (s : Int) : Prop := w.heap[P]? = some (.cells #[.int .i64 s] 3 (0, 0))
theorem NmB.lt {w : World} {P : Nat} {s : Int} (h : NmB w P s) : P < w.heap.size := (Array.getElem?_eq_some_iff.1 h).1
theorem NmB.keep {w w' : World} {P : Nat} {s : Int} (h : NmB w P s) (hw : w'.heap[P]? = w.heap[P]?) : NmB w' P s := by unfold NmB at *; rw [hw]; exact h
theorem NmB.cs {w : World} {P : Nat} {s : Int} (h : NmB w P s) : w.cell? ⟨P, 0, none⟩ = some (.int .i64 s) := by
  unfold NmB at h
  simp [World.cell?, h]

set_option maxRecDepth 100000 in
set_option maxHeartbeats 1000000 in
theorem isChild_any (v : PV) (a : Option Addr) (c P : Nat) (id : Int) (w : World) (hP : NmB w P id) :
    Calls Tryz.prog 98 #[volA v a c, .pointer (some ⟨P, 0, none⟩)] w fun e w' => e = .returned (.bool (v.og == id)) ∧ Below w.heap.size w w' := by
  have c0 := hP.cs
  have hl := hP.lt
  have HB := hid (below1 w (.cells #[.string v.nm, .int .i64 v.id, .int .i64 v.sz, .int .i64 v.og, .int .i64 v.kd, .bool v.pt, .slice a v.mp.length c] 38))
  clear hP
  dsimp only [volA]
  go_enter Tryz.func98, Tryz.ntmps98
  go_wp2
  go_ret
  exact ⟨rfl, HB.out⟩

set_option maxRecDepth 100000 in
set_option maxHeartbeats 4000000 in
theorem IndexChild_any (a : Option Addr) (c P : Nat) (vs : List PV) (id : Int) (w : World) (hl : vs.length ≤ 16777216) (hR : RdV w.heap.size w a vs) (hP : NmB w P id) :
    Calls Tryz.prog 103 #[.slice a vs.length c, .func (.func 98) #[] #[.pointer (some ⟨P, 0, none⟩)]] w fun e w' => e = .returned (.int .i64 (chlF vs id 0)) ∧ Below w.heap.size w w' := by
  have HR := hid hR
  have HP := hid hP
  clear hR hP
  go_enter Tryz.func103, Tryz.ntmps103
  go_wp2_with fail
  go_loopw [8] (fun i wr => ∃ r : Nat, r ≤ vs.length ∧ i = .int .i64 (r : Int) ∧ chlF (vs.drop r) id r = chlF vs id 0 ∧ Below w.heap.size w wr) (fun i _ => vs.length - (intOf i).toNat)
  case atStart => exact ⟨0, Nat.zero_le _, rfl, by simp, Below.refl _ _⟩
  case round =>
    obtain ⟨r, hr, rfl, ht, hb⟩ := hrel
    by_cases hlt : r < vs.length
    · obtain ⟨b, off, rfl, hbl, hc⟩ := (HR.out.below hb).resolve_left (fun e => by rw [e] at hlt; simp at hlt)
      obtain ⟨x, cp, ⟨c0, c1, c2, c3, c4, c5, c6⟩, _, _⟩ := hc r hlt
      have HC := hid (isChild_any vs[r] x cp P id wr (HP.out.keep (hb.block _ HP.out.lt)))
      have hd : vs.drop r = vs[r] :: vs.drop (r + 1) := List.drop_eq_getElem_cons hlt
      rw [hd, chlF] at ht
      have HT := hid ht
      have HB := hid hb
      clear hc ht hd hb HR HP
      dsimp only [volA] at HC
      generalize vs[r] = v at *
      have hr1 : (r : Int) < (vs.length : Int) := by omega
      by_cases e : v.og = id
      · have he : (v.og == id) = true := by simpa using e
        rw [he] at HC
        have HT1 : Hid (chlF vs id 0 = (r : Int)) := by have := HT.out; rw [if_pos e] at this; exact this.symm
        clear e he HT
        go_wp2_with fail
        refine HC.out.mono ?_
        rintro e' w1 ⟨rfl, hb1⟩
        have HB1 := hid (HB.out.trans (hb1.mono HB.out.size))
        clear hb1 HC c0 c1 c2 c3 c4 c5 c6
        go_wp2
        go_ret
        exact ⟨by rw [HT1.out]; rfl, HB1.out⟩
      · have he : (v.og == id) = false := by simpa using e
        rw [he] at HC
        go_wp2_with fail
        refine HC.out.mono ?_
        rintro e' w1 ⟨rfl, hb1⟩
        have HB1 := hid (HB.out.trans (hb1.mono HB.out.size))
        have HT1 : Hid (chlF (vs.drop (r + 1)) id (r + 1) = chlF vs id 0) := by have := HT.out; rw [if_neg e] at this; exact this
        clear hb1 HC c0 c1 c2 c3 c4 c5 c6 HT e he
        go_wp2
        go_roundw
        case rel => exact ⟨r + 1, by omega, by go_num, HT1.out, HB1.out⟩
        case measure => simp [intOf]; omega
    · have e : r = vs.length := by omega
      subst e
      have HB := hid hb
      have HT : Hid (chlF vs id 0 = -1) := by rw [List.drop_length, chlF] at ht; exact ht.symm
      clear hb ht
      go_wp2
      go_ret
      exact ⟨by rw [HT.out]; rfl, HB.out⟩

theorem chlF_ge (vs : List PV) (id : Int) (k : Nat) : decide (0 ≤ chlF vs id k) = vs.any (fun v => decide (v.og = id)) := by
  induction vs generalizing k with
  | nil => simp [chlF]
  | cons v r ih =>
    by_cases h : v.og = id
    · simp [chlF, h]
    · simp only [chlF, if_neg h, ih (k + 1), List.any_cons]
      simp [h]
set_option maxRecDepth 100000 in
set_option maxHeartbeats 4000000 in
theorem HasChild_any (a : Option Addr) (c P : Nat) (vs : List PV) (id : Int) (w : World) (hl : vs.length ≤ 16777216) (hR : RdV w.heap.size w a vs) (hP : NmB w P id) :
    Calls Tryz.prog 99 #[.slice a vs.length c, .func (.func 98) #[] #[.pointer (some ⟨P, 0, none⟩)]] w fun e w' => e = .returned (.bool (decide (0 ≤ chlF vs id 0))) ∧ Below w.heap.size w w' := by
  have HC := hid (IndexChild_any a c P vs id w hl hR hP)
  clear hR hP
  generalize chlF vs id 0 = z at *
  go_enter Tryz.func99, Tryz.ntmps99
  go_wp2_with fail
  refine HC.out.mono ?_
  rintro e w2 ⟨rfl, hb⟩
  have HB := hid hb
  clear hb HC
  go_wp2
  go_ret
  exact ⟨rfl, HB.out⟩

end Go.Proofs.YtddddfankeepkaaGreatDoor
/-
  The children of the volume that a draft speaks of; a range within it.
-/
namespace Go.Proofs.YtddddfankeepkaaGreatDoor
open Go.RowKit

set_option maxRecDepth 100000 in
set_option maxHeartbeats 4000000 in
theorem noChildren_any (D : Nat) (x : VW) (b off c k : Nat) (v : PV) (a2 : Option Addr) (c2' : Nat) (o : OW) (dv : Value) (po : Int) (w : World) (hD : DrB w D x (.slice (some ⟨b, off, none⟩) x.vs.length c) o dv (k : Int) po) (hk : k < x.vs.length) (hV : VolC w b (off + k * 7) v a2 c2') (hl : x.vs.length ≤ 16777216) (hR : RdV w.heap.size w (some ⟨b, off, none⟩) x.vs) :
    Calls Tryz.prog 66 #[.pointer (some ⟨D, 0, none⟩)] w fun e w' => LkQ w (unl (!decide (0 ≤ chlF x.vs v.id 0)) 109) e w' := by
  obtain ⟨_, v1, _, _, _, _, _⟩ := hV
  obtain ⟨t, ht⟩ : ∃ t, decide (0 ≤ chlF x.vs v.id 0) = t := ⟨_, rfl⟩
  rw [ht]
  have HT := hid ht
  clear ht
  have HC := hid (volume_any D x b off x.vs.length c k o dv po w hD hk)
  have HD := hid hD
  have HR := hid hR
  clear hD hR
  go_enter Tryz.func66, Tryz.ntmps66
  go_wp2_with fail
  refine HC.out.mono ?_
  rintro e w2 ⟨rfl, q, hw2⟩
  have hb2 := drewN_below hw2
  have v1' : w2.cell? ⟨b, off + k * 7 + 1, none⟩ = some (.int .i64 v.id) := by rw [hw2]; exact v1
  obtain ⟨P, hP⟩ : ∃ P, P = w2.heap.size := ⟨_, rfl⟩
  obtain ⟨W3, hW3⟩ : ∃ W3, W3 = w2.alloc (.cells #[.int .i64 v.id] 3) := ⟨_, rfl⟩
  have hb3 : Below w2.heap.size w2 W3 := by rw [hW3]; exact below1 _ _
  have hb : Below w.heap.size w W3 := hb2.trans (hb3.mono hb2.size)
  have hN : NmB W3 P v.id := by rw [hW3, hP]; exact heap_new _ _
  have HC2 := hid (HasChild_any (some ⟨b, off, none⟩) c P x.vs v.id W3 hl ((HR.out.below hb).mono hb.size) hN)
  rw [HT.out] at HC2
  obtain ⟨_, _, _, d3, _⟩ := (HD.out.keep (hb2.block _ HD.out.lt)).cs
  have hDl : D < w2.heap.size := Nat.lt_of_lt_of_le HD.out.lt hb2.size
  have HB := hid hb
  have HW := hid hW3
  have HP := hid hP
  clear hw2 HC v1 hb2 hb3 hb hN hW3 hP HD HR
  go_wp2_with fail
  rw [← HW.out, ← HP.out]
  refine HC2.out.mono ?_
  rintro e w4 ⟨rfl, hb4⟩
  have HB4 := hid (HB.out.trans (hb4.mono HB.out.size))
  clear hb4 HC2
  have HU := hid (fun u => unless_any (!t) 109 u)
  go_wp2_with fail
  refine (HU.out w4).mono ?_
  rintro e w5 ⟨rfl, rfl⟩
  go_wp2
  go_ret
  exact ⟨rfl, HB4.out⟩

set_option maxRecDepth 100000 in
set_option maxHeartbeats 4000000 in
theorem rangeIsWithin_any (D : Nat) (x : VW) (b off n c k : Nat) (v : PV) (a2 : Option Addr) (c2' : Nat) (o : OW) (dv : Value) (po : Int) (w : World) (hD : DrB w D x (.slice (some ⟨b, off, none⟩) n c) o dv (k : Int) po) (hk : k < n) (hV : VolC w b (off + k * 7) v a2 c2') :
    Calls Tryz.prog 56 #[.pointer (some ⟨D, 0, none⟩)] w fun e w' => LkQ w (unl (decide (0 ≤ o.fr ∧ o.tt ≤ v.sz ∧ o.fr ≤ o.tt)) 107) e w' := by
  obtain ⟨c0, c1, c2, c3, c4, c5, c6, c7, c8, c9, c10, c11⟩ := hD.cs
  obtain ⟨_, _, v2, _, _, _, _⟩ := hV
  have HD := hid hD
  have HC : Hid (∀ q, Calls Tryz.prog 93 #[.pointer (some ⟨D, 0, none⟩)] (w.drewN q) fun e w' => e = .returned (.pointer (some ⟨b, off + k * 7, none⟩)) ∧ ∃ q', w' = (w.drewN q).drewN q') := fun q => volume_any D x b off n c k o dv po (w.drewN q) HD.out hk
  clear hD HD
  by_cases h : 0 ≤ o.fr
  · by_cases h2 : o.tt ≤ v.sz
    · by_cases h3 : o.fr ≤ o.tt
      · rw [decide_eq_true (And.intro h (And.intro h2 h3))]
        go_enter Tryz.func56, Tryz.ntmps56
        go_wp2_with fail
        go_quiet (first | (go_at_call 93; exact Calls.quiet_of (HC.out _)) | (go_at_call 91; exact Calls.quiet_of_same (unless_any true 107 _)))
        all_goals go_wp2
        all_goals go_ret
        all_goals exact ⟨rfl, below_drewN' _ _ _⟩
      · rw [decide_eq_false (fun q : 0 ≤ o.fr ∧ o.tt ≤ v.sz ∧ o.fr ≤ o.tt => h3 q.2.2)]
        have h' : decide (o.fr ≤ o.tt) = false := decide_eq_false h3
        go_enter Tryz.func56, Tryz.ntmps56
        go_wp2_with fail
        go_quiet (first | (go_at_call 93; exact Calls.quiet_of (HC.out _)) | (go_at_call 91; exact Calls.quiet_of_same (unless_any false 107 _)))
        all_goals go_wp2
        all_goals go_ret
        all_goals exact ⟨rfl, below_drewN' _ _ _⟩
    · rw [decide_eq_false (fun q : 0 ≤ o.fr ∧ o.tt ≤ v.sz ∧ o.fr ≤ o.tt => h2 q.2.1)]
      have h' : decide (o.tt ≤ v.sz) = false := decide_eq_false h2
      go_enter Tryz.func56, Tryz.ntmps56
      go_wp2_with fail
      go_quiet (first | (go_at_call 93; exact Calls.quiet_of (HC.out _)) | (go_at_call 91; exact Calls.quiet_of_same (unless_any false 107 _)))
      all_goals go_wp2
      all_goals go_ret
      all_goals exact ⟨rfl, below_drewN' _ _ _⟩
  · rw [decide_eq_false (fun q : 0 ≤ o.fr ∧ o.tt ≤ v.sz ∧ o.fr ≤ o.tt => h q.1)]
    have h' : decide (0 ≤ o.fr) = false := decide_eq_false h
    go_enter Tryz.func56, Tryz.ntmps56
    go_wp2_with fail
    go_quiet ((go_at_call 91; exact Calls.quiet_of_same (unless_any false 107 _)))
    all_goals go_wp2
    all_goals go_ret
    all_goals exact ⟨rfl, below_drewN' _ _ _⟩

end Go.Proofs.YtddddfankeepkaaGreatDoor
