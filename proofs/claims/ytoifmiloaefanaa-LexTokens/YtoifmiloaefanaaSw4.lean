/-
  The Shelf: write: the first loop's list of marks.
-/
import Derived.Test.YtoifmiloaefanaaSw3
namespace Go.Proofs.Ytoifmiloaefanaa
open Go.RowKit

theorem step_append_run {ops : Array Oper} {o : Oper} {a : Act} {w : World} {K : Act → World → Prop} {Q : Exit → Act → World → Prop} {E : Prop} (hgd : o.guard = none) (s x : Operand) (t tn : TypeId)
    (ho : o.op = .call { callee := .builtin .append, args := #[s, x], argTypes := #[t, tn] }) (vs vx : Value) (hs : a.eval s = vs) (hx : a.eval x = vx)
    (v' : Value) (w' : World) (hr : (Builtin.append_ #[t, tn] o.type #[vs, vx]).run Try.prog w = .ok v' w') (h : K (a.put o.dst v') w') :
    if Region.wanted o (yielded ops a.tmps) = true then Oper.wp Try.prog o a w K Q else E := by
  have hw : Region.wanted o (yielded ops a.tmps) = true := by simp [Region.wanted, hgd]
  rw [if_pos hw]
  exact Lib.wp_append_run w s x t tn ho vs vx hs hx v' w' hr h
def mkL (mk : Int) (k : Nat) : List Tk := (List.range k).map fun (j : Nat) => (⟨-(mk + (j : Int) + 1), [109, 105, 110, 101], 0, 0⟩ : Tk)
theorem mkL_len (mk : Int) (k : Nat) : (mkL mk k).length = k := by simp [mkL]
theorem mkL_succ (mk : Int) (k : Nat) : mkL mk (k + 1) = mkL mk k ++ [⟨-(mk + (k : Int) + 1), [109, 105, 110, 101], 0, 0⟩] := by
  unfold mkL
  rw [List.range_succ, List.map_append]
  rfl
/-- what stays over write -/
structure Wfix where
  κ : Nat → Nat
  B : Nat
  s : Nat
  mk0 : Int
  T : Nat
  fv : Value
  hv : Value
  fs : List (Value × List Tk)
  xs : List Value
  ys : List Value
  R : List (Value × List Tk)
  w : World
def W1 (F : Wfix) (i : Nat) (wr : World) : Prop := ∃ κ' kv' wv' mk' pw, Wst κ' F.B F.s mk' (F.T : Int) F.fv F.hv kv' wv' (F.fs.map (·.1)) (lsOf F.fs pw) (F.xs ++ dpOf (F.fs.take i)) (F.ys ++ zsOf F.fs pw) F.R 0 pw wr ∧ pw.length = i ∧ i ≤ F.fs.length ∧ (∀ p (h : p < pw.length) (h' : p < F.fs.length), pw[p].2.length = F.fs[p].2.length + F.T + 70) ∧ 0 ≤ mk' ∧ mk' ≤ F.mk0 + i * 2000000 ∧ Frw F.κ κ' F.w wr
/-- while the marks are laid -/
def W1k (F : Wfix) (i : Nat) (kv' wv' : Value) (mk' : Int) (pw : List (Nat × List Tk)) (q M k : Nat) (wr : World) : Prop := ∃ κ', Wst κ' F.B F.s (mk' + (k : Int)) (F.T : Int) F.fv F.hv kv' wv' (F.fs.map (·.1)) (lsOf F.fs pw) (F.xs ++ dpOf (F.fs.take i)) (F.ys ++ zsOf F.fs pw) F.R 0 pw wr ∧ κ' q = 7 ∧ BlT wr q (mkL mk' k ++ List.replicate (M - k) tkZ) ∧ k ≤ M ∧ Frw F.κ κ' F.w wr
theorem W1k.start {F : Wfix} {i : Nat} {kv' wv' : Value} {mk' : Int} {pw : List (Nat × List Tk)} {κ' : Nat → Nat} {M : Nat} {wr : World} (h : Wst κ' F.B F.s mk' (F.T : Int) F.fv F.hv kv' wv' (F.fs.map (·.1)) (lsOf F.fs pw) (F.xs ++ dpOf (F.fs.take i)) (F.ys ++ zsOf F.fs pw) F.R 0 pw wr) (hF : Frw F.κ κ' F.w wr) : W1k F i kv' wv' mk' pw wr.heap.size M 0 (wr.drew.alloc (.cells (flatT (List.replicate M tkZ)).toArray 29)) := by
  have hk0 : κ' wr.heap.size = 0 := by
    by_cases q : κ' wr.heap.size = 0
    · exact q
    · have := (h.cut _ q).2; omega
  have hb : Below wr.heap.size wr (wr.drew.alloc (.cells (flatT (List.replicate M tkZ)).toArray 29)) := (below_drew _ _).trans (below1 wr.drew _)
  obtain ⟨h1, h2⟩ := h.retagQ wr.heap.size 7 (.inl ⟨hk0, Nat.le_refl _⟩) hb (by simp)
  refine ⟨_, by simpa using h1, by simp, ?_, Nat.zero_le _, hF.trans h2⟩
  exact heap_new wr.drew _
theorem W1k.step {F : Wfix} {i : Nat} {kv' wv' : Value} {mk' : Int} {pw : List (Nat × List Tk)} {q M k : Nat} {wr : World} (h : W1k F i kv' wv' mk' pw q M k wr) (hk : k < M) : W1k F i kv' wv' mk' pw q M (k + 1) (((((wr.setCell ⟨F.s, 0, none⟩ (.int .i64 (mk' + (k : Int) + 1))).setCell ⟨q, k * 4, none⟩ (.int .i64 (-(mk' + (k : Int) + 1)))).setCell ⟨q, k * 4 + 1, none⟩ (.string ⟨#[109, 105, 110, 101]⟩)).setCell ⟨q, k * 4 + 2, none⟩ (.int .i64 0)).setCell ⟨q, k * 4 + 3, none⟩ (.int .i64 0)) := by
  obtain ⟨κ', h1, h2, h3, h4, h5⟩ := h
  obtain ⟨g1, g2⟩ := h1.setS (mk' + (k : Int) + 1)
  obtain ⟨W, hW⟩ : ∃ W, W = wr.setCell ⟨F.s, 0, none⟩ (.int .i64 (mk' + (k : Int) + 1)) := ⟨_, rfl⟩
  rw [← hW] at g1 g2 ⊢
  have hqs : q ≠ F.s := fun e => by rw [e, h1.ks] at h2; omega
  have h3W : BlT W q (mkL mk' k ++ List.replicate (M - k) tkZ) := by
    unfold BlT at *
    rw [hW]
    rw [Below.heap_setCell _ _ _ _ (by simpa using hqs)]
    exact h3
  have h9 := h3W.set4 k ⟨-(mk' + (k : Int) + 1), [109, 105, 110, 101], 0, 0⟩ (by rw [List.length_append, mkL_len, List.length_replicate]; omega)
  have e0 : strOfNums [109, 105, 110, 101] = (⟨#[109, 105, 110, 101]⟩ : ByteArray) := rfl
  simp only [e0] at h9
  have b7 : But (fun g => κ' g = 7) W ((((W.setCell ⟨q, k * 4, none⟩ (.int .i64 (-(mk' + (k : Int) + 1)))).setCell ⟨q, k * 4 + 1, none⟩ (.string ⟨#[109, 105, 110, 101]⟩)).setCell ⟨q, k * 4 + 2, none⟩ (.int .i64 0)).setCell ⟨q, k * 4 + 3, none⟩ (.int .i64 0)) :=
    ((((But.refl _ _).setCell (p := ⟨q, k * 4, none⟩) h2 _).setCell (p := ⟨q, k * 4 + 1, none⟩) h2 _).setCell (p := ⟨q, k * 4 + 2, none⟩) h2 _).setCell (p := ⟨q, k * 4 + 3, none⟩) h2 _
  obtain ⟨f1, f2⟩ := g1.other7 b7
  refine ⟨κ', by rw [show mk' + ((k + 1 : Nat) : Int) = mk' + (k : Int) + 1 by omega]; exact f1, h2, ?_, by omega, (h5.trans g2).trans f2⟩
  rw [List.set_append_right _ _ (by rw [mkL_len]; omega), mkL_len, Nat.sub_self, show M - k = (M - (k + 1)) + 1 by omega, List.replicate_succ, List.set_cons_zero] at h9
  rw [mkL_succ, List.append_assoc]
  exact h9
/-- behind the marks: the list is written over, and both hang in the rows -/
theorem W1k.done {F : Wfix} {i : Nat} {kv' wv' : Value} {mk' : Int} {pw : List (Nat × List Tk)} {q M : Nat} {wr : World} (h : W1k F i kv' wv' mk' pw q M M wr) (hpw : pw.length = i) (hi : i < F.fs.length) (hM : M = F.fs[i].2.length + F.T + 70) (hMb : M ≤ 2000000) (hps : ∀ p (h : p < pw.length) (h' : p < F.fs.length), pw[p].2.length = F.fs[p].2.length + F.T + 70) (h0 : 0 ≤ mk') (hmk : mk' ≤ F.mk0 + i * 2000000) (hxl : F.xs.length ≤ 2000) (hyl : F.ys.length ≤ 2000) (hfl : F.fs.length ≤ 3) (a : Option Addr) (c : Nat) (hv : F.fs[i].1 = .slice a F.fs[i].2.length c) :
    ∃ w3, (Builtin.copy_ #[23, 23] 3 #[.slice a F.fs[i].2.length c, .slice (some ⟨q, 0, none⟩) M M]).run Try.prog wr = .ok (.int .i64 (F.fs[i].2.length : Int)) w3 ∧ w3.heap[F.s]? = some (.cells #[.int .i64 (mk' + (M : Int)), .int .i64 (F.T : Int), .bool false, F.fv, F.hv, kv', wv'] 36 (0, 0)) ∧ OwS F.B w3 F.fv (F.fs.map (·.1)) ∧
    ∃ kv2 w4, (Builtin.append_ #[34, 34] 34 #[kv', .slice (some ⟨w3.heap.size, 0, none⟩) 2 2]).run Try.prog (w3.drew.alloc (.cells #[.slice a F.fs[i].2.length c, .slice a F.fs[i].2.length c] 23)) = .ok kv2 w4 ∧ (∃ fa fc, kv2 = .slice fa ((F.xs ++ dpOf (F.fs.take i)).length + 2) fc) ∧ w4.heap[F.s]? = some (.cells #[.int .i64 (mk' + (M : Int)), .int .i64 (F.T : Int), .bool false, F.fv, F.hv, kv', wv'] 36 (0, 0)) ∧ OwS F.B w4 F.fv (F.fs.map (·.1)) ∧ ∀ w5, w5 = w4.setCell ⟨F.s, 5, none⟩ kv2 → w5.heap[F.s]? = some (.cells #[.int .i64 (mk' + (M : Int)), .int .i64 (F.T : Int), .bool false, F.fv, F.hv, kv2, wv'] 36 (0, 0)) ∧ OwS F.B w5 F.fv (F.fs.map (·.1)) ∧
    ∃ wv2 w6, (Builtin.append_ #[34, 34] 34 #[wv', .slice (some ⟨w5.heap.size, 0, none⟩) 2 2]).run Try.prog (w5.drew.alloc (.cells #[.slice (some ⟨q, 0, none⟩) F.fs[i].2.length M, .slice (some ⟨q, 0, none⟩) M M] 23)) = .ok wv2 w6 ∧ (∃ fa fc, wv2 = .slice fa ((F.ys ++ zsOf F.fs pw).length + 2) fc) ∧ w6.heap[F.s]? = some (.cells #[.int .i64 (mk' + (M : Int)), .int .i64 (F.T : Int), .bool false, F.fv, F.hv, kv2, wv'] 36 (0, 0)) ∧ OwS F.B w6 F.fv (F.fs.map (·.1)) ∧ W1 F (i + 1) (w6.setCell ⟨F.s, 6, none⟩ wv2) := by
  obtain ⟨κ', h1, h2, h3, _, h5⟩ := h
  rw [Nat.sub_self, List.replicate_zero, List.append_nil] at h3
  have hWl := mkL_len mk' M
  obtain ⟨W, hW⟩ : ∃ W, W = mkL mk' M := ⟨_, rfl⟩
  rw [← hW] at h3 hWl
  have hil : i < (lsOf F.fs pw).length := by rw [lsOf_len]; exact hi
  have hat : (lsOf F.fs pw)[i] = F.fs[i] := by
    subst hpw
    exact lsOf_at F.fs pw hi
  obtain ⟨w3, r3, s3, f3, b3⟩ := h1.overL i (Nat.zero_le _) hil h2 h3 (by rw [hat]; omega)
  rw [hat, hv, hWl] at r3
  rw [hat] at s3
  have e3 : lsOf F.fs (pw ++ [(q, W)]) = (lsOf F.fs pw).set i (F.fs[i].1, W.take F.fs[i].2.length) := by
    subst hpw
    exact lsOf_snoc F.fs pw (q, W) hi
  rw [← e3] at s3
  have zsl := zsOf_len F.fs pw (by omega)
  have dpl : (dpOf (F.fs.take i)).length ≤ 6 := by
    rw [← mxOf_nil, mxOf_len, List.length_take]
    omega
  obtain ⟨κ3, s3', f3'⟩ := s3.seal h2 b3
  obtain ⟨s3d, f3d⟩ := s3'.next (below_drew _ w3)
  obtain ⟨kv2, w4, r4, fm4, sb4, κ4, s4, f4, _⟩ := s3d.pushK (.slice a F.fs[i].2.length c) (.slice a F.fs[i].2.length c) rfl rfl (by rw [List.length_append]; omega)
  refine ⟨w3, r3, s3.sb, s3.fr.own, kv2, w4, r4, fm4, sb4, ?_, fun w5 hw5 => ?_⟩
  · have := s4.fr.own
    refine own_keep this fun g hg => ?_
    refine (Below.heap_setCell _ _ _ _ ?_).symm
    intro e
    have h9 := s4.fr.tag g hg
    simp at e
    rw [e, s4.ks] at h9
    omega
  rw [← hw5] at s4 f4
  obtain ⟨s5d, f5d⟩ := s4.next (below_drew _ w5)
  obtain ⟨wv2, w6, r6, fm6, sb6, κ6, s6, f6, _⟩ := s5d.pushW (.slice (some ⟨q, 0, none⟩) F.fs[i].2.length M) (.slice (some ⟨q, 0, none⟩) M M) rfl rfl (by rw [List.length_append]; omega)
  refine ⟨s4.sb, s4.fr.own, wv2, w6, r6, fm6, sb6, ?_, ?_⟩
  · have := s6.fr.own
    refine own_keep this fun g hg => ?_
    refine (Below.heap_setCell _ _ _ _ ?_).symm
    intro e
    have h9 := s6.fr.tag g hg
    simp at e
    rw [e, s6.ks] at h9
    omega
  · refine ⟨κ6, kv2, wv2, mk' + (M : Int), pw ++ [(q, W)], ?_, by simp [hpw], by omega, ?_, by omega, by omega, ((((((h5.trans f3).trans f3').trans f3d).trans f4).trans f5d).trans f6)⟩
    · have ez : zsOf F.fs (pw ++ [(q, W)]) = zsOf F.fs pw ++ [.slice (some ⟨q, 0, none⟩) F.fs[i].2.length M, .slice (some ⟨q, 0, none⟩) M M] := by
        subst hpw
        rw [zsOf_snoc F.fs pw (q, W) hi, hWl]
      rw [dpOf_take F.fs i hi, ez, hv, ← List.append_assoc, ← List.append_assoc]
      exact s6
    · intro p hp hp'
      by_cases e : p < pw.length
      · rw [List.getElem_append_left e]
        exact hps p e hp'
      · obtain rfl : p = pw.length := by simp at hp; omega
        rw [List.getElem_append_right (by omega)]
        simp only [Nat.sub_self, List.getElem_cons_zero]
        subst hpw
        omega

end Go.Proofs.Ytoifmiloaefanaa
