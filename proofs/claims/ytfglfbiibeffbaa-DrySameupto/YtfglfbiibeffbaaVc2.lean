/-
  CopyView.
-/
import Derived.Test.YtfglfbiibeffbaaVc1
import Derived.Deep.DeepCutAuto
namespace Go.Proofs.Ytfglfbiibeffbaa
open Go.RowKit

theorem step_append_run {ops : Array Oper} {o : Oper} {a : Act} {w : World} {K : Act → World → Prop} {Q : Exit → Act → World → Prop} {E : Prop} (hgd : o.guard = none) (s x : Operand) (t tn : TypeId)
    (ho : o.op = .call { callee := .builtin .append, args := #[s, x], argTypes := #[t, tn] }) (vs vx : Value) (hs : a.eval s = vs) (hx : a.eval x = vx)
    (v' : Value) (w' : World) (hr : (Builtin.append_ #[t, tn] o.type #[vs, vx]).run Try.prog w = .ok v' w') (h : K (a.put o.dst v') w') :
    if Region.wanted o (yielded ops a.tmps) = true then Oper.wp Try.prog o a w K Q else E := by
  have hw : Region.wanted o (yielded ops a.tmps) = true := by simp [Region.wanted, hgd]
  rw [if_pos hw]
  exact Lib.wp_append_run w s x t tn ho vs vx hs hx v' w' hr h

/-- a view in a block -/
def VwB (w : World) (R : Nat) (x : VW) (u : Value) : Prop := w.heap[R]? = some (.cells #[.int .i64 x.cp, .int .i64 x.fr, .int .i64 x.nx, u] 24 (0, 0))
theorem VwB.lt {w : World} {R : Nat} {o : VW} {v : Value} (h : VwB w R o v) : R < w.heap.size := (Array.getElem?_eq_some_iff.1 h).1
theorem VwB.keep {w w' : World} {R : Nat} {o : VW} {v : Value} (h : VwB w R o v) (hw : w'.heap[R]? = w.heap[R]?) : VwB w' R o v := by unfold VwB at *; rw [hw]; exact h
theorem VwB.cs {w : World} {R : Nat} {o : VW} {v : Value} (h : VwB w R o v) : (w.cell? ⟨R, 0, none⟩ = some (.int .i64 o.cp) ∧ w.cell? ⟨R, 1, none⟩ = some (.int .i64 o.fr) ∧ w.cell? ⟨R, 2, none⟩ = some (.int .i64 o.nx) ∧ w.cell? ⟨R, 3, none⟩ = some v) ∧ ∀ i, w.frozen? ⟨R, i, none⟩ = false := by
  unfold VwB at h
  simp [World.cell?, World.frozen?, h]
theorem VwB.set3 {w : World} {R : Nat} {o : VW} {v : Value} (h : VwB w R o v) (u : Value) : VwB (w.setCell ⟨R, 3, none⟩ u) R o u := by
  unfold VwB at *
  simp only [World.setCell, Array.getElem?_modify, if_true]
  rw [h]
  simp
theorem VwB.set1 {w : World} {R : Nat} {o : VW} {v : Value} (h : VwB w R o v) (z : Int) : VwB (w.setCell ⟨R, 1, none⟩ (.int .i64 z)) R ⟨o.cp, z, o.nx, o.vs⟩ v := by
  unfold VwB at *
  simp only [World.setCell, Array.getElem?_modify, if_true]
  rw [h]
  simp
def put4 (w : World) (R : Nat) (o : VW) (v : Value) : World := (((w.setCell ⟨R, 0, none⟩ (.int .i64 o.cp)).setCell ⟨R, 1, none⟩ (.int .i64 o.fr)).setCell ⟨R, 2, none⟩ (.int .i64 o.nx)).setCell ⟨R, 3, none⟩ v
theorem VwB.put4 {w : World} {R : Nat} {o o' : VW} {v v' : Value} (h : VwB w R o v) : VwB (put4 w R o' v') R o' v' := by
  unfold VwB Go.Proofs.Ytfglfbiibeffbaa.put4 at *
  simp only [World.setCell, Array.getElem?_modify, if_true]
  rw [h]
  simp
theorem but_put4 (w : World) (R : Nat) (o : VW) (v : Value) : But (fun x => x = R) w (put4 w R o v) := by
  unfold put4
  exact (((((But.refl (fun x => x = R) w).setCell (p := ⟨R, 0, none⟩) rfl _).setCell (p := ⟨R, 1, none⟩) rfl _).setCell (p := ⟨R, 2, none⟩) rfl _).setCell (p := ⟨R, 3, none⟩) rfl _)
theorem OwV.keep {B : Nat} {w w' : World} {v : Value} {os : List PV} {us : List Value} (h : OwV B w v os us) (hk : ∀ g, B ≤ g → g < w.heap.size → w'.heap[g]? = w.heap[g]?) : OwV B w' v os us :=
  ⟨h.len, own_keep h.row fun g hg => by obtain ⟨a, b, _⟩ := own_blk h.row hg; exact hk g a b, fun i hi => own_keep (h.dat i hi) fun g hg => by obtain ⟨a, b, _⟩ := own_blk (h.dat i hi) hg; exact hk g a b⟩
def VW0 : VW := ⟨0, 0, 0, []⟩

/-- within CopyView -/
structure CvS (w wr : World) (R Q C : Nat) (x : VW) (a : Option Addr) (c : Nat) (u : Value) (r : Nat) : Prop where
  pb : VwB wr R x (.slice a x.vs.length c)
  rb : VwB wr Q VW0 (.slice none 0 0)
  cb : VwB wr C x u
  ow : ∃ us, OwV (C + 1) wr u (x.vs.take r) us
  bel : Below w.heap.size w wr

set_option maxRecDepth 100000 in
set_option maxHeartbeats 4000000 in
theorem CopyView_any (x : VW) (a : Option Addr) (c : Nat) (w : World) (hl : shV x.vs) (hR : RdV w.heap.size w a x.vs) :
    Calls Try.prog 6 #[viewA x a c] w fun e w' => ∃ a' c', e = .returned (viewA x a' c') ∧ RdV w'.heap.size w' a' x.vs ∧ (a' = none → c' = 0) ∧ Below w.heap.size w w' := by
  obtain ⟨R, hRR⟩ : ∃ R, R = w.heap.size := ⟨_, rfl⟩
  obtain ⟨Q, hQQ⟩ : ∃ Q, Q = R + 1 := ⟨_, rfl⟩
  obtain ⟨C, hCC⟩ : ∃ C, C = R + 2 := ⟨_, rfl⟩
  have HSTEP : Hid (∀ (wr : World) (r : Nat) (hr : r < x.vs.length) (u : Value), CvS w wr R Q C x a c u r → ∃ b off a1 c1, a = some ⟨b, off, none⟩ ∧ VolC wr b (off + r * 7) x.vs[r] a1 c1 ∧
      Calls Try.prog 11 #[volA x.vs[r] a1 c1] wr.drew fun e w2 => ∃ va vn vc ua un uc w', e = .returned (.agg #[.string x.vs[r].nm, .int .i64 x.vs[r].id, .int .i64 x.vs[r].sz, .int .i64 x.vs[r].og, .int .i64 x.vs[r].kd, .bool x.vs[r].pt, .slice va vn vc]) ∧ w2.cell? ⟨C, 3, none⟩ = some u ∧ C < w2.heap.size ∧
        (Builtin.append_ #[22, 22] 22 #[u, .slice (some ⟨w2.heap.size, 0, none⟩) 1 1]).run Try.prog (w2.alloc (.cells #[.string x.vs[r].nm, .int .i64 x.vs[r].id, .int .i64 x.vs[r].sz, .int .i64 x.vs[r].og, .int .i64 x.vs[r].kd, .bool x.vs[r].pt, .slice va vn vc] 30)) = .ok (.slice ua un uc) w' ∧
        w'.cell? ⟨C, 3, none⟩ = some u ∧ w'.frozen? ⟨C, 3, none⟩ = false ∧ CvS w (w'.setCell ⟨C, 3, none⟩ (.slice ua un uc)) R Q C x a c (.slice ua un uc) (r + 1)) := by
    intro wr r hr u hS
    have hR2 := hR.below hS.bel
    obtain ⟨b, off, rfl, hbl, hc⟩ := hR2.resolve_left (fun e => by rw [e] at hr; simp at hr)
    obtain ⟨a1, c1, hV, r1, ha⟩ := hc r hr
    refine ⟨b, off, a1, c1, rfl, hV, (CopyVolume_any x.vs[r] a1 c1 wr.drew ((r1.below (below_drew _ _)).mono hS.bel.size) ha (hl.2 _ (List.getElem_mem hr))).mono ?_⟩
    rintro e w2 ⟨va, vc, rfl, ho, hb2⟩
    have hb2' : Below wr.heap.size wr w2 := (below_drew _ _).trans hb2
    obtain ⟨us, how⟩ := hS.ow
    have b3 : Below w2.heap.size w2 (w2.alloc (.cells #[.string x.vs[r].nm, .int .i64 x.vs[r].id, .int .i64 x.vs[r].sz, .int .i64 x.vs[r].og, .int .i64 x.vs[r].kd, .bool x.vs[r].pt, .slice va x.vs[r].mp.length vc] 30)) := below1 _ _
    have hz := hb2'.size
    have hz3 := b3.size
    have q2 := hS.cb.lt
    have how2 := (how.next hb2').next b3
    have hb23 := hb2'.trans (b3.mono hz)
    obtain ⟨u', w', hr', hL, hg⟩ := how2.push 22 x.vs[r] va vc (own_next (own_mono ho (by show C + 1 ≤ wr.drew.heap.size; exact q2)) b3) (g := w2.heap.size) (heap_new _ _) (by rw [List.length_take]; have := hl.1; omega) (by omega)
    obtain ⟨ua, uc, rfl, _, _⟩ := hL.rd
    generalize (List.take r x.vs ++ [x.vs[r]]).length = un at *
    have k0 : ∀ g, g < C + 1 → w'.heap[g]? = wr.heap[g]? := fun g hgl => (hg.block g hgl).trans (hb23.block g (by omega))
    have p1 := hS.pb.keep (k0 R (by omega))
    have p2 := hS.rb.keep (k0 Q (by omega))
    have p3 := hS.cb.keep (k0 C (by omega))
    have p4 := (hS.cb.keep (hb2'.block _ q2)).cs.1.2.2.2
    have bt : But (fun g => g = C) w' (w'.setCell ⟨C, 3, none⟩ (.slice ua un uc)) := (But.refl (fun g => g = C) w').setCell (p := ⟨C, 3, none⟩) rfl _
    refine ⟨va, _, vc, ua, un, uc, w', rfl, p4, by omega, hr', p3.cs.1.2.2.2, p3.cs.2 3, ⟨p1.keep (bt.block _ p1.lt (by omega)), p2.keep (bt.block _ p2.lt (by omega)), p3.set3 _, ⟨us ++ [.slice va x.vs[r].mp.length vc], ?_⟩, ?_⟩⟩
    · rw [List.take_succ_eq_append_getElem hr]
      exact hL.keep fun g hg1 hg2 => bt.block g hg2 (by omega)
    · have := hS.bel.trans (hb23.mono hS.bel.size)
      have q4 := hg.size
      have q5 := hS.bel.size
      exact (this.trans (hg.mono (by omega))).trans (bt.below (by omega) (fun g hg e => by omega))
  have HEND : Hid (∀ (wr : World) (u : Value), CvS w wr R Q C x a c u x.vs.length → ∃ a' c', u = .slice a' x.vs.length c' ∧ VwB wr Q VW0 (.slice none 0 0) ∧ VwB wr C x (.slice a' x.vs.length c') ∧ VwB (put4 wr Q x (.slice a' x.vs.length c')) Q x (.slice a' x.vs.length c') ∧ RdV (put4 wr Q x (.slice a' x.vs.length c')).heap.size (put4 wr Q x (.slice a' x.vs.length c')) a' x.vs ∧ (a' = none → c' = 0) ∧ Below w.heap.size w (put4 wr Q x (.slice a' x.vs.length c'))) := by
    intro wr u hS
    obtain ⟨us, how⟩ := hS.ow
    rw [List.take_length] at how
    obtain ⟨a', c', rfl, _, _⟩ := how.rd
    have bt := but_put4 wr Q x (.slice a' x.vs.length c')
    have how2 : OwV (C + 1) (put4 wr Q x (.slice a' x.vs.length c')) (.slice a' x.vs.length c') x.vs us := how.keep fun g hg1 hg2 => bt.block g hg2 (by omega)
    obtain ⟨a2, c2, e, q, q0⟩ := how2.rd
    simp at e
    obtain ⟨rfl, rfl⟩ := e
    exact ⟨a', c', rfl, hS.rb, hS.cb, hS.rb.put4, q, q0, hS.bel.trans (bt.below hS.bel.size (fun g hg e => by omega))⟩
  have HL1 := hl.1
  have ST : CvS w ((((w.alloc (.cells #[.int .i64 x.cp, .int .i64 x.fr, .int .i64 x.nx, .slice a x.vs.length c] 24)).alloc (.cells #[.int .i64 0, .int .i64 0, .int .i64 0, .slice none 0 0] 24)).alloc (.cells #[.int .i64 x.cp, .int .i64 x.fr, .int .i64 x.nx, .slice (some ⟨C + 1, 0, none⟩) 0 0] 24)).alloc (.cells #[] 30)) R Q C x a c (.slice (some ⟨C + 1, 0, none⟩) 0 0) 0 := by
    have b4 : Below w.heap.size w ((((w.alloc (.cells #[.int .i64 x.cp, .int .i64 x.fr, .int .i64 x.nx, .slice a x.vs.length c] 24)).alloc (.cells #[.int .i64 0, .int .i64 0, .int .i64 0, .slice none 0 0] 24)).alloc (.cells #[.int .i64 x.cp, .int .i64 x.fr, .int .i64 x.nx, .slice (some ⟨C + 1, 0, none⟩) 0 0] 24)).alloc (.cells #[] 30)) := ((two_below w _ _).alloc (by simp; omega) _).alloc (by simp; omega) _
    subst hRR hQQ hCC
    refine ⟨?_, ?_, ?_, ⟨[], rfl, ⟨rfl, .inr ⟨w.heap.size + 2 + 1, 0, #[], rfl, Nat.le_refl _, ?_, Nat.le_refl _, Nat.zero_le _, rfl, rfl⟩⟩, fun i h => by simp at h⟩, b4⟩
    · unfold VwB
      rw [Below.heap_alloc _ _ _ (by simp; omega), Below.heap_alloc _ _ _ (by simp; omega), Below.heap_alloc _ _ _ (by simp)]
      exact heap_new _ _
    · unfold VwB
      rw [Below.heap_alloc _ _ _ (by simp), Below.heap_alloc _ _ _ (by simp)]
      have := heap_new (w.alloc (.cells #[.int .i64 x.cp, .int .i64 x.fr, .int .i64 x.nx, .slice a x.vs.length c] 24)) (.cells #[.int .i64 0, .int .i64 0, .int .i64 0, .slice none 0 0] 24)
      rw [World.size_alloc] at this
      exact this
    · unfold VwB
      rw [Below.heap_alloc _ _ _ (by simp)]
      have := heap_new ((w.alloc (.cells #[.int .i64 x.cp, .int .i64 x.fr, .int .i64 x.nx, .slice a x.vs.length c] 24)).alloc (.cells #[.int .i64 0, .int .i64 0, .int .i64 0, .slice none 0 0] 24)) (.cells #[.int .i64 x.cp, .int .i64 x.fr, .int .i64 x.nx, .slice (some ⟨w.heap.size + 2 + 1, 0, none⟩) 0 0] 24)
      rw [World.size_alloc, World.size_alloc] at this
      exact this
    · have := heap_new (((w.alloc (.cells #[.int .i64 x.cp, .int .i64 x.fr, .int .i64 x.nx, .slice a x.vs.length c] 24)).alloc (.cells #[.int .i64 0, .int .i64 0, .int .i64 0, .slice none 0 0] 24)).alloc (.cells #[.int .i64 x.cp, .int .i64 x.fr, .int .i64 x.nx, .slice (some ⟨w.heap.size + 2 + 1, 0, none⟩) 0 0] 24)) (.cells #[] 30)
      rw [World.size_alloc, World.size_alloc, World.size_alloc] at this
      exact this
  have HST := hid ST
  have E3 : w.heap.size + 1 + 1 = C := by omega
  have E2 : w.heap.size + 1 = Q := by omega
  have E1 := hRR.symm
  have HE := hid (And.intro E1 (And.intro E2 E3))
  clear hR hl ST hRR hQQ hCC E1 E2 E3
  dsimp only [viewA]
  go_enter Try.func6, Try.ntmps6
  go_wp2_with fail
  rw [HE.out.2.2, HE.out.2.1, HE.out.1]
  go_loopw [4] (fun i wr => ∃ (r : Nat) (u : Value), r ≤ x.vs.length ∧ i = .int .i64 (r : Int) ∧ CvS w wr R Q C x a c u r) (fun i _ => x.vs.length - (intOf i).toNat)
  case atStart => exact ⟨0, _, Nat.zero_le _, rfl, HST.out⟩
  case round =>
    clear HST
    obtain ⟨r, u, hr, rfl, hS⟩ := hrel
    obtain ⟨⟨p0, p1, p2, p3⟩, pf⟩ := hS.pb.cs
    obtain ⟨⟨q0, q1, q2, q3⟩, qf⟩ := hS.cb.cs
    clear p0 p1 p2 q0 q1 q2
    by_cases hlt : r < x.vs.length
    · obtain ⟨b, off, a1, c1, rfl, ⟨c0, c1, c2, c3, c4, c5, c6⟩, hC⟩ := HSTEP.out wr r hlt _ hS
      have HC := hid hC
      have hr1 : (r : Int) < (x.vs.length : Int) := by omega
      clear hC hS HSTEP HEND
      dsimp only [volA] at HC
      generalize x.vs[r] = v at *
      go_wp2_with fail
      go_region_law (first
        | (go_simp; go_at_call 11; refine Calls.mono HC.out ?_; rintro e w2 ⟨va, vn, vc, ua, un, uc, w', rfl, k3, hlt2, hrun, g3, gf, hS2⟩; have HS2 := hid hS2; have ka3 : (w2.alloc (.cells #[.string v.nm, .int .i64 v.id, .int .i64 v.sz, .int .i64 v.og, .int .i64 v.kd, .bool v.pt, .slice va vn vc] 30)).cell? ⟨C, 3, none⟩ = some u := (World.cell?_alloc_past _ _ _ hlt2).trans k3; clear hS2; dsimp only)
        | (refine step_append_run rfl _ _ _ _ (by rfl) _ _ (by rfl) (by rfl) _ _ (by exact hrun) ?_))
      all_goals
        clear k3 hlt2 hrun g3 gf ka3 HC c0 c1 c2 c3 c4 c5 c6
        go_wp2
        go_roundw
        case rel => exact ⟨r + 1, _, by omega, by go_num, HS2.out⟩
        case measure => simp [intOf]; omega
    · have e : r = x.vs.length := by omega
      subst e
      obtain ⟨a', c', rfl, t1, t2, t3, t4, t5, t6⟩ := HEND.out wr u hS
      obtain ⟨⟨g0, g1, g2, g3⟩, gf⟩ := t1.cs
      obtain ⟨⟨h0, h1, h2, h3⟩, hf⟩ := t2.cs
      have T3 := hid t3
      have T4 := hid t4
      have T5 := hid t5
      have T6 := hid t6
      clear t1 t2 t3 t4 t5 t6 HSTEP HEND hS
      go_wp2_with fail
      have HFin : Hid (∀ y, y = put4 wr Q x (.slice a' x.vs.length c') → VwB y Q x (.slice a' x.vs.length c') ∧ RdV y.heap.size y a' x.vs ∧ (a' = none → c' = 0) ∧ Below w.heap.size w y) := by
        rintro y rfl
        exact ⟨T3.out, T4.out, T5.out, T6.out⟩
      exact bodyPost_ret (results_row1 rfl _ _ Q 24 _ (0, 0) _ rfl (HFin.out _ rfl).1 Try.underlying24 rfl (by kernel_rfl)) rfl ⟨a', c', rfl, (HFin.out _ rfl).2⟩
end Go.Proofs.Ytfglfbiibeffbaa
