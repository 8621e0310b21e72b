/-
  TxnMarks: the statement.
-/
import Derived.Test.YtldlejpacgphmabGreatG34
import Derived.Test.YtldlejpacgphmabGreatG33
import Derived.Lib.SmallJoins
import Derived.JoinedCond
import Derived.ChangeOld
import Derived.Below
namespace Go.Proofs.YtldlejpacgphmabGreat.txnMarks
open Go.ChangeShapes Go.WideShapes Go.ChangeAt Go.RowKit Go.Deep

theorem open_who {H : Type} {enc : TypeId × Value → H} {W : World} {v : Value} {fuel : Nat} {x : DataW H × List MemPlace} (hf : DataW.trod enc Tryz.prog W 0 (fun _ => true) true fuel 26 [v] = some x) :
    ∃ a c ys, v = .slice a ys.length c ∧ IntL (fun k => W.heap.size ≤ k) W a ys ∧ ys.length ≤ Rows.uptoBulk x.1 := by
  rcases open_ints Tryz.underlying26 Tryz.underlying3 (by kernel_rfl) hf with ⟨hcs, hx⟩ | ⟨x', l, c, zs, hcs, hp, hl, hm, hz, hx, hcell, hwz⟩
  · simp at hcs
    subst hcs
    exact ⟨none, 0, [], rfl, fun i v hv => by simp at hv, by simp⟩
  · simp at hcs
    subst hcs
    have hz' : zs.length = c := by simpa using hz
    have hlt : (zs.take l).length = l := by rw [List.length_take]; omega
    refine ⟨some x', c, zs.take l, by rw [hlt], ?_, ?_⟩
    · intro t y hy
      have htl : t < l := by have := (List.getElem?_eq_some_iff.1 hy).1; omega
      obtain ⟨b, off, rfl⟩ := spot_none (hcell 0 (by omega))
      have h1 := hcell t (by omega)
      rw [add_plain] at h1
      have hb : b < W.heap.size := World.block_lt_of_cell? W ⟨b, off + t, none⟩ (by simpa using h1)
      rw [List.getElem?_take_of_lt htl] at hy
      have : zs.getD t 0 = y := by rw [List.getD_eq_getElem?_getD, hy]; rfl
      exact ⟨b, off, rfl, hb, by omega, by rw [h1, this]⟩
    · rw [hlt, hx]
      have := bulk_slice (H := H) (lits .i64 (zs.take l)) (lits .i64 (zs.drop l))
      simp only [lits, List.length_map, List.length_take] at this
      simp only [lits]
      omega

theorem open_one {H : Type} {enc : TypeId × Value → H} {P : Program} {w : World} {base : Nat} {spare : Nat → Bool} {held : Bool} {t e : TypeId} {fuel : Nat} {cs : List Value} {x : DataW H × List MemPlace}
    (ht : P.underlying t = some (.slice e)) (ce : P.cellsOf e = 1) (h : DataW.trod enc P w base spare held fuel t cs = some x) :
    (cs = [.slice none 0 0] ∧ x = (.nil, [])) ∨
    ∃ (a : Addr) (len cap m n : Nat) (D : Nat → DataW H), cs = [.slice (some a) len cap] ∧ len ≤ cap ∧ m = (if spare a.block then cap else len) ∧ x.1 = .slice ((List.range len).map D) ((List.range (m - len)).map fun j => D (len + j)) ∧
      ∀ i, i < m → ∃ (v0 : Value) (y0 : DataW H × List MemPlace), w.cell? (a.add i) = some v0 ∧ DataW.trod enc P w base spare held n e [v0] = some y0 ∧ D i = y0.1 := by
  rcases open_slice ht h with h0 | ⟨a, len, cap, m, n, D, Pl, rfl, hb, hl, hm, hmm, rfl, hx⟩
  · exact Or.inl h0
  refine .inr ⟨a, len, cap, m, n, D, rfl, hl, hmm, rfl, ?_⟩
  intro i hi
  obtain ⟨cs', h1, h2⟩ := hx i hi
  rw [ce] at h1
  obtain ⟨_, hlen, hcell⟩ := World.cells?_some h1
  match cs', hlen with
  | [v0], _ =>
    have e0 := hcell 0 (by omega)
    rw [add_add] at e0
    exact ⟨v0, _, by simpa using e0, h2, rfl⟩
theorem bulk_snoc {H : Type} (l : List (DataW H)) (d : DataW H) : Rows.uptoBulkAll (l ++ [d]) = Rows.uptoBulkAll l + Rows.uptoBulk d := by
  induction l with
  | nil => simp [Rows.uptoBulkAll]
  | cons c l ih => simp only [List.cons_append, Rows.uptoBulkAll, ih]; omega
theorem bulk_sum {H : Type} (n : Nat) (f : Nat → Nat) (D : Nat → DataW H) (h : ∀ i, i < n → f i ≤ Rows.uptoBulk (D i)) : ((List.range n).map f).sum ≤ Rows.uptoBulkAll ((List.range n).map D) := by
  induction n with
  | zero => simp
  | succ n ih =>
    rw [List.range_succ, List.map_append, List.map_append]
    have h1 := ih (fun i hi => h i (by omega))
    have h2 := h n (by omega)
    have h3 := bulk_snoc ((List.range n).map D) (D n)
    simp only [List.map_cons, List.map_nil, List.sum_append, List.sum_cons, List.sum_nil] at *
    omega
theorem tot_le (Ps : List Pt) (i : Nat) : totP Ps i ≤ (Ps.map (fun q => q.2.2.length)).sum := by
  unfold totP
  conv => rhs; rw [← List.take_append_drop i Ps]
  rw [List.map_append, List.sum_append]
  omega
theorem open_parts {H : Type} {enc : TypeId × Value → H} {W : World} {v : Value} {fuel : Nat} {x : DataW H × List MemPlace} (hf : DataW.trod enc Tryz.prog W 0 (fun _ => true) true fuel 88 [v] = some x) :
    ∃ a c Ps, v = .slice a Ps.length c ∧ PartsL W a Ps ∧ Ps.length ≤ Rows.uptoBulk x.1 ∧ ∀ i, totP Ps i ≤ Rows.uptoBulk x.1 := by
  rcases open_one Tryz.underlying88 (by kernel_rfl) hf with ⟨hcs, hx⟩ | ⟨x1, len, c, m, n, D, hcs, hl, hmm, hx, hall⟩
  · simp at hcs
    subst hcs
    exact ⟨none, 0, [], rfl, fun i q h => by simp at h, by simp, fun i => by simp [totP]⟩
  · simp at hcs
    subst hcs
    have hm' : m = c := by simpa using hmm
    subst hm'
    have each : ∀ i, i < len → ∃ q : Pt, W.cell? (x1.add i) = some (.slice q.1 q.2.2.length q.2.1) ∧ IntL (fun k => W.heap.size ≤ k) W q.1 q.2.2 ∧ q.2.2.length ≤ Rows.uptoBulk (D i) := by
      intro i hi
      obtain ⟨v0, y0, e0, t0, hD⟩ := hall i (by omega)
      obtain ⟨a, c, ys, rfl, r1, r2⟩ := open_who t0
      exact ⟨(a, c, ys), e0, r1, by rw [hD]; exact r2⟩
    have : Inhabited Pt := ⟨(none, 0, [])⟩
    obtain ⟨q, hq⟩ := choose_lt each
    have hlen : ((List.range len).map q).length = len := by simp
    have hb : Rows.uptoBulkAll ((List.range len).map D) ≤ Rows.uptoBulk x.1 := by
      rw [hx]
      simp only [Rows.uptoBulk]
      omega
    have hbl := bulk_len ((List.range len).map D)
    simp only [List.length_map, List.length_range] at hbl
    refine ⟨some x1, m, (List.range len).map q, by rw [hlen], fun i d hi => ?_, by rw [hlen]; omega, fun i => ?_⟩
    · have hil : i < len := by have := (List.getElem?_eq_some_iff.1 hi).1; simpa using this
      have hd : d = q i := by
        rw [List.getElem?_map, List.getElem?_range hil] at hi
        simpa using hi.symm
      subst hd
      obtain ⟨b, off, rfl⟩ := spot_none (by have := (hq 0 (by omega)).1; exact this)
      have hh := (hq i hil).1
      rw [add_plain] at hh
      exact ⟨b, off, rfl, World.block_lt_of_cell? W ⟨b, off + i, none⟩ (by simpa using hh), hh, (hq i hil).2.1⟩
    · refine Nat.le_trans (tot_le _ i) (Nat.le_trans ?_ hb)
      rw [List.map_map]
      exact bulk_sum len (fun i => (q i).2.2.length) D (fun i hi => (hq i hi).2.2)

theorem own : ownKnob Tryz.prog.godebug = none := by kernel_rfl
theorem laidOut : laidOutB Tryz.prog = true := by kernel_rfl

set_option maxRecDepth 100000 in
theorem contract (H : Type) (enc : TypeId × Value → H) (W : World) (base : Nat) (args : Array Value) (ds gs : List (DataW H)) (before : List MemPlace)
    (hval : ∀ (j : Nat) t v, Tryz.f5.params[j]? = some t → args[j]? = some v → Value.okWide Tryz.prog W .any base t v)
    (hW : DataW.Whole enc Tryz.prog Tryz.f5.params.toList Rows.txnMarksSpec.vars false W args.toList ds gs before) (hk : Rows.uptoSmall H (ds ++ gs) = true) :
    Calls Tryz.prog 5 args W fun e W' => ∃ v, e = .returned v ∧ Rows.txnMarksSpec.post enc Tryz.prog Tryz.f5 false true false false W args v W' := by
  have hW' := hW
  obtain ⟨p, q, hA0, hV, rfl, hfz, hnd⟩ := hW
  have hA : DataW.TrodAll enc Tryz.prog W 0 (fun _ => true) true Tryz.f5.params.toList args.toList ds p := hA0
  rw [Tryz.params5] at hA hval
  obtain ⟨v0, vs0, d0, ds0, p0, q0, hargs0, rfl, rfl, h0, r0⟩ := trodAll_cons hA
  obtain ⟨v1, vs1, d1, ds1, p1, q1, hargs1, rfl, rfl, h1, r1⟩ := trodAll_cons r0
  obtain ⟨rfl, rfl, rfl⟩ := trodAll_nil r1
  obtain rfl : args = #[v0, v1] := by cases args; simp_all
  obtain ⟨rfl, rfl⟩ := trodVars_none hV
  have lt0 : ∀ x ∈ p0, x.block < W.heap.size := by obtain ⟨m, hm⟩ := h0; exact DataW.trod_lt m _ _ _ hm
  have lt1 : ∀ x ∈ p1, x.block < W.heap.size := by obtain ⟨m, hm⟩ := h1; exact DataW.trod_lt m _ _ _ hm
  simp only [List.append_nil] at hk
  have hb := bulk_bound hk
  have m0 := bulk_mem (d := d0) (l := [d0, d1]) (by simp)
  have m1 := bulk_mem (d := d1) (l := [d0, d1]) (by simp)
  obtain ⟨a0, len0, cap0, rfl⟩ := okWide_slice Tryz.underlying88 (hval 0 88 v0 rfl rfl)
  have h0k := h0
  obtain ⟨fuel0, h0'⟩ := h0
  obtain ⟨ya0, yc0, Ps, he0, hR0, hyl0, hyt0⟩ := open_parts h0'
  obtain ⟨rfl, rfl, rfl⟩ : a0 = ya0 ∧ len0 = Ps.length ∧ cap0 = yc0 := by injection he0 with x y z; exact ⟨x, y, z⟩
  have hyl0' : Ps.length ≤ Rows.uptoBulk d0 := hyl0
  have hyt0' : ∀ i, totP Ps i ≤ Rows.uptoBulk d0 := hyt0
  obtain ⟨a1, len1, cap1, rfl⟩ := okWide_slice Tryz.underlying26 (hval 1 26 v1 rfl rfl)
  have h1k := h1
  obtain ⟨fuel1, h1'⟩ := h1
  obtain ⟨ya1, yc1, P1, he1, hR1, hyl1⟩ := open_who h1'
  obtain ⟨rfl, rfl, rfl⟩ : a1 = ya1 ∧ len1 = P1.length ∧ cap1 = yc1 := by injection he1 with x y z; exact ⟨x, y, z⟩
  have hyl1' : P1.length ≤ Rows.uptoBulk d1 := hyl1
  clear hA0
  refine (marks_law a0 cap0 Ps a1 cap1 P1 W hR0 hR1 (by omega) (by omega) (fun i => by have := hyt0' i; omega)).mono fun e W' ⟨he, bel⟩ => ?_
  subst he
  exact ⟨_, rfl, _, _, _, [], _, [], hW', trodAll_mk1 (shut_bool Tryz.underlying4 _),
    (trodAll_cons_mk (Below.trod laidOut (by kernel_rfl) (of_decide_eq_true (by kernel_rfl)) h0k bel lt0) (trodAll_cons_mk (Below.trod laidOut (by kernel_rfl) (of_decide_eq_true (by kernel_rfl)) h1k bel lt1) trodAll_mk0)), rfl, bel.frame _, fun h => by cases h⟩

set_option maxRecDepth 100000 in
theorem lifted (os : Os) (started : os.Started) (H : Type) (enc : TypeId × Value → H) (F : Stop.Interp) :
    ReturnsInHanded {} Tryz.checked os 5 .any ((Rows.OpenSpec.upto Rows.txnMarksSpec).pre6 enc Tryz.prog Tryz.f5 Rows.txnMarksUptoRow.domain false) (((Rows.OpenSpec.upto Rows.txnMarksSpec).at F).post enc Tryz.prog Tryz.f5 false true false false) := by
  refine returnsInHanded_of_cond (C := Tryz.checked) (s := Rows.OpenSpec.upto Rows.txnMarksSpec) (k := Rows.uptoSmall) rfl own started (by kernel_rfl) Tryz.func5
    (OpenSpec.witness (enc := enc) (C := Tryz.checked) (s := Rows.OpenSpec.upto Rows.txnMarksSpec) (k := Rows.uptoSmall) rfl false ⟨#[], #[.slice none 0 0, .slice none 0 0], []⟩ 8 (by kernel_rfl) (by kernel_rfl) (by kernel_rfl)
      (x := ([.nil, .nil], [], [])) (by kernel_rfl) rfl (by kernel_rfl)) ?_
  intro W base args ds gs before hval hW _ hk _
  exact contract H enc W base args ds gs before hval hW hk

theorem proved : Rows.TxnMarksUptoSaid :=
  OpenClaim.holds_of_cond 5 Tryz.f5 rfl rfl rfl rfl rfl rfl rfl ⟨rfl, rfl, rfl, rfl, rfl⟩ rfl rfl rfl rfl rfl (by kernel_rfl) Tryz.func5 (by kernel_rfl)
    (of_decide_eq_true (by kernel_rfl)) (by unfold Func.isWrapper; first | (rw [if_pos (by decide +kernel)]; kernel_rfl) | (rw [if_neg (by decide +kernel)]; exact ⟨rfl, rfl⟩))
    (fun os started H enc _ F => lifted os started H enc F)
end Go.Proofs.YtldlejpacgphmabGreat.txnMarks
