/-
  What Lend makes, in plain words; its steps.
-/
import Derived.Test.YtfglfbiibeffbaaVe0
namespace Go.Proofs.Ytfglfbiibeffbaa
open Go.RowKit

def fil (k : Nat) : Rg := ⟨-7 - (k : Int), -8⟩
def fils (n : Nat) : List Rg := (List.range n).map fil
theorem fils_len (n : Nat) : (fils n).length = n := by simp [fils]
theorem fils_succ (n : Nat) : fils (n + 1) = fils n ++ [fil n] := by simp [fils, List.range_succ]
def lentR (mp : List Rg) : List Rg := mp ++ (fils (2 * mp.length + 70)).drop mp.length
theorem lentR_len (mp : List Rg) : (lentR mp).length = 2 * mp.length + 70 := by simp [lentR, fils_len]; omega
theorem lentR_take (mp : List Rg) : (lentR mp).take mp.length = mp := by simp [lentR]
theorem lentR_hi (mp : List Rg) (k : Nat) (h1 : mp.length ≤ k) (h2 : k < (lentR mp).length) : (lentR mp)[k] = fil k := by
  have h3 := h2
  rw [lentR_len] at h3
  have : (lentR mp)[k]? = some (fil k) := by
    unfold lentR fils
    rw [List.getElem?_append_right h1, List.getElem?_drop, List.getElem?_map, show mp.length + (k - mp.length) = k by omega, List.getElem?_range h3]
    rfl
  rw [List.getElem?_eq_getElem h2] at this
  exact Option.some.inj this
def sBeh : ByteArray := ⟨#[98, 101, 104, 105, 110, 100]⟩
def beh (k : Nat) : PV := ⟨sBeh, -9 - (k : Int), 0, 0, 0, false, []⟩
def behs (n m : Nat) : List PV := (List.range m).map fun i => beh (n + i)
theorem behs_len (n m : Nat) : (behs n m).length = m := by simp [behs]
theorem behs_succ (n m : Nat) : behs n (m + 1) = behs n m ++ [beh (n + m)] := by simp [behs, List.range_succ]
abbrev nilS : Value := .slice none 0 0
def sl (v : PV) (g : Nat) : Value := .slice (some ⟨g, 0, none⟩) v.mp.length (2 * v.mp.length + 70)
theorem set_rep {α : Type} (A : List α) (m : Nat) (z v : α) {k : Nat} (hk : k = A.length) : (A ++ List.replicate (m + 1) z).set k v = (A ++ [v]) ++ List.replicate m z := by
  subst hk
  rw [List.set_append_right _ _ (Nat.le_refl _), Nat.sub_self, List.replicate_succ, List.set_cons_zero, List.append_assoc]
  rfl
theorem set_same {α : Type} (A : List α) (m i : Nat) (z : α) {k : Nat} (hk : k = A.length + i) : (A ++ List.replicate m z).set k z = A ++ List.replicate m z := by
  subst hk
  rw [List.set_append_right _ _ (by omega), List.set_replicate_self]

/-- within Lend: F is the block of the lent volumes, C that of the view, all that is copied lies below C -/
structure LeS (w wr : World) (Q C F : Nat) (x : VW) (a1 : Option Addr) (c1 : Nat) (os : List PV) (us : List Value) (gs : List Nat) : Prop where
  rb : VwB wr Q VW0 nilS
  cb : VwB wr C x (.slice a1 x.vs.length c1)
  rd : RdV C wr a1 x.vs
  fb : BlV wr F os us
  gl : gs.length ≤ x.vs.length
  gb : ∀ i (h : i < gs.length), F < gs[i] ∧ BlR wr gs[i] (lentR (x.vs[i]'(by omega)).mp)
  bel : Below w.heap.size w wr
  oQ : w.heap.size ≤ Q
  oC : Q < C
  oF : C < F

theorem LeS.next {w wr wi : World} {Q C F : Nat} {x : VW} {a1 : Option Addr} {c1 : Nat} {os : List PV} {us : List Value} {gs : List Nat} (h : LeS w wr Q C F x a1 c1 os us gs) (hb : Below wr.heap.size wr wi) : LeS w wi Q C F x a1 c1 os us gs :=
  ⟨h.rb.keep (hb.block _ h.rb.lt), h.cb.keep (hb.block _ h.cb.lt), h.rd.below (hb.mono (Nat.le_of_lt h.cb.lt)), h.fb.keep (hb.block _ h.fb.lt), h.gl, fun i hi => ⟨(h.gb i hi).1, (h.gb i hi).2.keep (hb.block _ (h.gb i hi).2.lt)⟩, h.bel.trans (hb.mono h.bel.size), h.oQ, h.oC, h.oF⟩
/-- a store into the block of the volumes -/
theorem LeS.store {w wr wi : World} {Q C F : Nat} {x : VW} {a1 : Option Addr} {c1 : Nat} {os os' : List PV} {us us' : List Value} {gs : List Nat} (h : LeS w wr Q C F x a1 c1 os us gs) (hb : But (fun k => k = F) wr wi) (hf : BlV wi F os' us') : LeS w wi Q C F x a1 c1 os' us' gs :=
  have o1 := h.oF
  have o2 := h.oC
  have o3 := h.oQ
  have o4 := h.fb.lt
  ⟨h.rb.keep (hb.block _ h.rb.lt (by omega)), h.cb.keep (hb.block _ h.cb.lt (by omega)), h.rd.below (hb.below (by omega) (fun k hk e => by omega)), hf, h.gl, fun i hi => ⟨(h.gb i hi).1, (h.gb i hi).2.keep (hb.block _ (h.gb i hi).2.lt (by have := (h.gb i hi).1; omega))⟩, h.bel.trans (hb.below h.bel.size (fun k hk e => by omega)), h.oQ, h.oC, h.oF⟩

/-- one volume more is lent -/
theorem LeS.step {w wr wi : World} {Q C F : Nat} {x : VW} {a1 : Option Addr} {c1 : Nat} {gs : List Nat} {m : Nat} (r : Nat) (hr : r < x.vs.length) (hrg : gs.length = r)
    (h : LeS w wr Q C F x a1 c1 (x.vs.take r ++ List.replicate (m + 1) PV0) (List.zipWith sl (x.vs.take r) gs ++ List.replicate (m + 1) nilS) gs) (b off : Nat) (a2 : Option Addr) (c2 : Nat) (hbC : b < C) (hV : VolC wr b (off + r * 7) x.vs[r] a2 c2) (hRd : RdR C wr a2 x.vs[r].mp)
    (G : Nat) (hG0 : G = wr.heap.size) (hb : Below wr.heap.size wr wi) (hG : BlR wi G (fils (2 * x.vs[r].mp.length + 70))) :
    ∃ w2, (Builtin.copy_ #[28, 28] 3 #[.slice (some ⟨G, 0, none⟩) (2 * x.vs[r].mp.length + 70) (2 * x.vs[r].mp.length + 70), .slice a2 x.vs[r].mp.length c2]).run Try.prog wi = .ok (.int .i64 (x.vs[r].mp.length : Int)) w2 ∧
      LeS w w2 Q C F x a1 c1 (x.vs.take r ++ List.replicate (m + 1) PV0) (List.zipWith sl (x.vs.take r) gs ++ List.replicate (m + 1) nilS) gs ∧ VolC w2 b (off + r * 7) x.vs[r] a2 c2 ∧ VolC wi b (off + r * 7) x.vs[r] a2 c2 ∧
      ∀ y, y = (at7 w2 F (r * 7) x.vs[r] (.slice a2 x.vs[r].mp.length c2)).setCell ⟨F, r * 7 + 6, none⟩ (.slice (some ⟨G, 0, none⟩) x.vs[r].mp.length (2 * x.vs[r].mp.length + 70)) → LeS w y Q C F x a1 c1 (x.vs.take (r + 1) ++ List.replicate m PV0) (List.zipWith sl (x.vs.take (r + 1)) (gs ++ [G]) ++ List.replicate m nilS) (gs ++ [G]) := by
  have o1 := h.oF
  have o2 := h.oC
  have o3 := h.oQ
  have o4 := h.fb.lt
  have z := hb.size
  have h2 := h.next hb
  obtain ⟨w2, hrun, hB2, hb2⟩ := copy_rg (ty := 3) (dCap := 2 * x.vs[r].mp.length + 70) (M := 2 * x.vs[r].mp.length + 70) (sCap := c2) hG (hRd.below (hb.mono (by omega))) (by omega) (by rw [fils_len]; omega)
  have h3 : LeS w w2 Q C F x a1 c1 (x.vs.take r ++ List.replicate (m + 1) PV0) (List.zipWith sl (x.vs.take r) gs ++ List.replicate (m + 1) nilS) gs :=
    ⟨h2.rb.keep (hb2.block _ h2.rb.lt (by omega)), h2.cb.keep (hb2.block _ h2.cb.lt (by omega)), h2.rd.below (hb2.below (by omega) (fun k hk e => by omega)), h2.fb.keep (hb2.block _ h2.fb.lt (by omega)), h2.gl, fun i hi => ⟨(h2.gb i hi).1, (h2.gb i hi).2.keep (hb2.block _ (h2.gb i hi).2.lt (by have := (h.gb i hi).2.lt; omega))⟩, h2.bel.trans (hb2.below h2.bel.size (fun k hk e => by have := h.bel.size; omega)), h2.oQ, h2.oC, h2.oF⟩
  have hVi : VolC wi b (off + r * 7) x.vs[r] a2 c2 := hV.below (hb.mono (by omega : C ≤ wr.heap.size)) hbC
  have hV2 : VolC w2 b (off + r * 7) x.vs[r] a2 c2 := hVi.below (hb2.below (B := C) (by omega) (fun k hk e => by omega)) hbC
  have e1 : (x.vs.take r).length = r := by rw [List.length_take]; omega
  have hlen : (x.vs.take r ++ List.replicate (m + 1) PV0).length = r + (m + 1) := by rw [List.length_append, e1, List.length_replicate]
  have e2 : (List.zipWith sl (x.vs.take r) gs).length = r := by rw [List.length_zipWith, e1, hrg, Nat.min_self]
  refine ⟨w2, hrun, h3, hV2, hVi, fun y hy => ?_⟩
  have s1 := h3.fb.set7 r x.vs[r] (.slice a2 x.vs[r].mp.length c2) (by omega)
  rw [set_rep _ _ _ _ e1.symm, set_rep _ _ _ _ e2.symm] at s1
  have s2 := s1.set6 r (.slice (some ⟨G, 0, none⟩) x.vs[r].mp.length (2 * x.vs[r].mp.length + 70)) (by simp only [List.length_append, e1, List.length_cons, List.length_nil, List.length_replicate]; omega)
  rw [List.append_assoc (List.zipWith sl (x.vs.take r) gs), List.set_append_right _ _ (by omega), e2, Nat.sub_self] at s2
  rw [← hy] at s2
  have bt : But (fun k => k = F) w2 y := by rw [hy]; exact (but_at7 w2 F (r * 7) _ _).setCell (p := ⟨F, r * 7 + 6, none⟩) rfl _
  have ez : List.zipWith sl (x.vs.take (r + 1)) (gs ++ [G]) = List.zipWith sl (x.vs.take r) gs ++ [sl x.vs[r] G] := by
    rw [List.take_succ_eq_append_getElem hr, List.zipWith_append (by rw [e1, hrg])]
    rfl
  have h4 := h3.store bt s2
  rw [ez, List.take_succ_eq_append_getElem hr]
  have hB3 : BlR y G (lentR x.vs[r].mp) := hB2.keep (bt.block _ hB2.lt (by omega))
  exact ⟨h4.rb, h4.cb, h4.rd, by have := h4.fb; simpa [sl] using this, by simp; omega, fun i hi => by
    by_cases he : i < gs.length
    · rw [List.getElem_append_left he]
      exact h4.gb i he
    · have e : i = r := by simp at hi; omega
      subst e
      have e3 : (gs ++ [G])[i] = G := by rw [List.getElem_append_right (by omega)]; simp
      rw [e3]
      exact ⟨by omega, hB3⟩, h4.bel, h4.oQ, h4.oC, h4.oF⟩

/-- one place more behind them -/
theorem LeS.fill {w wr : World} {Q C F : Nat} {x : VW} {a1 : Option Addr} {c1 : Nat} {gs : List Nat} {m i : Nat} (hg : gs.length = x.vs.length) (k : Nat) (hk : k = x.vs.length + i)
    (h : LeS w wr Q C F x a1 c1 (x.vs ++ (behs x.vs.length i ++ List.replicate (m + 1) PV0)) (List.zipWith sl x.vs gs ++ List.replicate (i + (m + 1)) nilS) gs) (y : World) (hy : y = at7 wr F (k * 7) (beh k) nilS) :
    LeS w y Q C F x a1 c1 (x.vs ++ (behs x.vs.length (i + 1) ++ List.replicate m PV0)) (List.zipWith sl x.vs gs ++ List.replicate ((i + 1) + m) nilS) gs := by
  have e2 : (List.zipWith sl x.vs gs).length = x.vs.length := by rw [List.length_zipWith, hg, Nat.min_self]
  have s1 := h.fb.set7 k (beh k) nilS (by simp [behs_len]; omega)
  rw [set_same _ _ i nilS (by rw [e2, hk]), ← List.append_assoc, set_rep _ _ _ _ (by simp [behs_len, hk]), ← hy] at s1
  have h2 := h.store (by rw [hy]; exact but_at7 _ _ _ _ _) s1
  have e3 : x.vs ++ (behs x.vs.length (i + 1) ++ List.replicate m PV0) = x.vs ++ behs x.vs.length i ++ [beh k] ++ List.replicate m PV0 := by
    rw [behs_succ, hk]
    simp
  rw [e3, show i + 1 + m = i + (m + 1) by omega]
  exact h2

/-- VOLUMES THAT ARE LENT -/
structure LentV (w : World) (F : Nat) (gs : List Nat) (vs : List PV) : Prop where
  gl : gs.length = vs.length
  fb : BlV w F (vs ++ behs vs.length (vs.length + 70)) (List.zipWith sl vs gs ++ List.replicate (vs.length + 70) nilS)
  gb : ∀ i (h : i < vs.length), BlR w (gs[i]'(by omega)) (lentR vs[i].mp)
theorem LentV.next {w w' : World} {F : Nat} {gs : List Nat} {vs : List PV} (h : LentV w F gs vs) (hb : Below w.heap.size w w') : LentV w' F gs vs :=
  ⟨h.gl, h.fb.keep (hb.block _ h.fb.lt), fun i hi => (h.gb i hi).keep (hb.block _ (h.gb i hi).lt)⟩
theorem LentV.vol {w : World} {F : Nat} {gs : List Nat} {vs : List PV} (h : LentV w F gs vs) (j : Nat) (hj : j < vs.length) : VolC w F (j * 7) vs[j] (some ⟨gs[j]'(by have := h.gl; omega), 0, none⟩) (2 * vs[j].mp.length + 70) := by
  have hgl := h.gl
  have e2 : (List.zipWith sl vs gs).length = vs.length := by rw [List.length_zipWith, hgl, Nat.min_self]
  have k := fun i hi => h.fb.at j (by simp; omega) i hi
  have e3 : (vs ++ behs vs.length (vs.length + 70))[j]'(by simp; omega) = vs[j] := List.getElem_append_left hj
  have e4 : (List.zipWith sl vs gs ++ List.replicate (vs.length + 70) nilS)[j]'(by simp; omega) = sl vs[j] (gs[j]'(by omega)) := by
    rw [List.getElem_append_left (by omega), List.getElem_zipWith]
  simp only [e3, e4] at k
  exact ⟨k 0 (by omega), k 1 (by omega), k 2 (by omega), k 3 (by omega), k 4 (by omega), k 5 (by omega), k 6 (by omega)⟩
theorem LentV.rd {w : World} {F : Nat} {gs : List Nat} {vs : List PV} (h : LentV w F gs vs) : RdV w.heap.size w (some ⟨F, 0, none⟩) vs :=
  .inr ⟨F, 0, rfl, h.fb.lt, fun j hj => ⟨_, _, by rw [Nat.zero_add]; exact h.vol j hj, by
    have := (h.gb j hj).rd vs[j].mp.length (by rw [lentR_len]; omega)
    rwa [lentR_take] at this, fun e => by cases e⟩⟩
theorem LeS.done {w wr : World} {Q C F : Nat} {x : VW} {a1 : Option Addr} {c1 : Nat} {gs : List Nat} (hg : gs.length = x.vs.length)
    (h : LeS w wr Q C F x a1 c1 (x.vs ++ (behs x.vs.length (x.vs.length + 70) ++ List.replicate 0 PV0)) (List.zipWith sl x.vs gs ++ List.replicate (x.vs.length + 70) nilS) gs) (u : Value) (y : World) (hy : y = put4 (wr.setCell ⟨C, 3, none⟩ u) Q x u) :
    LentV y F gs x.vs ∧ VwB y Q x u ∧ Below w.heap.size w y := by
  have o1 := h.oF
  have o2 := h.oC
  have o3 := h.oQ
  have o4 := h.bel.size
  have b1 : But (fun k => k = C) wr (wr.setCell ⟨C, 3, none⟩ u) := (But.refl (fun k => k = C) wr).setCell (p := ⟨C, 3, none⟩) rfl _
  have b2 := but_put4 (wr.setCell ⟨C, 3, none⟩ u) Q x u
  have s1 := b1.size
  rw [← hy] at b2
  have kk : ∀ g, g < wr.heap.size → C < g → y.heap[g]? = wr.heap[g]? := fun g hg hgC => (b2.block g (by omega) (by omega)).trans (b1.block g hg (by omega))
  have hf := h.fb
  rw [List.replicate_zero, List.append_nil] at hf
  refine ⟨⟨hg, hf.keep (kk F hf.lt (by omega)), fun i hi => (h.gb i (by omega)).2.keep (kk _ (h.gb i (by omega)).2.lt (by have := (h.gb i (by omega)).1; omega))⟩, ?_, ?_⟩
  · rw [hy]
    exact VwB.put4 (h.rb.keep (b1.block _ h.rb.lt (by omega)))
  · exact (h.bel.trans (b1.below o4 (fun k hk e => by omega))).trans (b2.below (by omega) (fun k hk e => by omega))

end Go.Proofs.Ytfglfbiibeffbaa
