import Derived.Test.YthkkdmblkalknaaGreatDoorD05
import Derived.Deep.RegionLaw
/-
  THE BOOK: Own, Holds.
-/
namespace Go.Proofs.YthkkdmblkalknaaGreatDoor.bk
open Go.RowKit

theorem BkI.stepF {B : Nat} {R : Nat → Prop} {w w1 : World} {b : Nat} {cnt tot : Int} {fr he ma ke wa : Value} {nF nH nM : Nat} {fv hv mv : List Value} {nK nW : Nat} {kv wv : List Value} {K : Nat → List Int}
    (h : BkI B R w b cnt tot fr he ma ke wa nF nH nM fv hv mv nK nW kv wv K) {g cap : Nat} {l : Value}
    (hg : w.grownBy w1 fr.ownBlock) (ho : w1.ownsRow B 23 1 (.slice (some ⟨g, 0, none⟩) (nF + 1) cap) (nF + 1) (fv ++ [l])) (hlie : fr.ownBlock = some g ∨ g = w.heap.size) :
    BkI B R (w1.setCell ⟨b, 3, none⟩ (.slice (some ⟨g, 0, none⟩) (nF + 1) cap)) b cnt tot (.slice (some ⟨g, 0, none⟩) (nF + 1) cap) he ma ke wa (nF + 1) nH nM (fv ++ [l]) hv mv nK nW kv wv K ∧ (∀ x, T5 w x → (w1.setCell ⟨b, 3, none⟩ (.slice (some ⟨g, 0, none⟩) (nF + 1) cap)).heap[x]? = w.heap[x]?) := by
  have nb := h.blk.ne_row h.oF (by decide)
  have blk1 := h.blk.of_block (w' := w1) (hg.block b h.blk.lt (fun e => nb e.symm))
  have kT : ∀ x, T5 w x → (w1.setCell ⟨b, 3, none⟩ (.slice (some ⟨g, 0, none⟩) (nF + 1) cap)).heap[x]? = w.heap[x]? := fun x hx => by
    rw [Below.heap_setCell _ _ _ _ (h.blk.ne_t5 hx)]; exact hg.block x hx.lt (fun e => hx.ne_row h.oF (by decide) e.symm)
  have o2 := owns_keep (w' := w1) h.oH (fun x hx => hg.block x (World.ownsRow.lt h.oH x hx).2 (fun e => h.dFH x e.symm hx))
  have o3 := owns_keep (w' := w1) h.oM (fun x hx => hg.block x (World.ownsRow.lt h.oM x hx).2 (fun e => dj_type h.oM h.oF (by decide) x hx e.symm))
  have o4 := owns_keep (w' := w1) h.rK.own (fun x hx => hg.block x (World.ownsRow.lt h.rK.own x hx).2 (fun e => h.dFK x e.symm hx))
  have o5 := owns_keep (w' := w1) h.rW.own (fun x hx => hg.block x (World.ownsRow.lt h.rW.own x hx).2 (fun e => h.dFW x e.symm hx))
  exact ⟨⟨blk1.set 3 _, h.bB, owns_setCell ho (blk1.ne_row ho (by decide)) _, owns_setCell o2 (blk1.ne_row o2 (by decide)) _, owns_setCell o3 (blk1.ne_row o3 (by decide)) _,
    h.rK.keep (owns_setCell o4 (blk1.ne_row o4 (by decide)) _) (fun x hx => kT x (h.rT x hx)), h.rW.keep (owns_setCell o5 (blk1.ne_row o5 (by decide)) _) (fun x hx => kT x (h.rT x hx)), dj_new h.dFH h.oH hlie, dj_new h.dFK h.rK.own hlie, dj_new h.dFW h.rW.own hlie, h.dHK, h.dHW, h.dKW,
    fun x hx => (h.rT x hx).keep (kT x (h.rT x hx))⟩, kT⟩
theorem BkI.stepH {B : Nat} {R : Nat → Prop} {w w1 : World} {b : Nat} {cnt tot : Int} {fr he ma ke wa : Value} {nF nH nM : Nat} {fv hv mv : List Value} {nK nW : Nat} {kv wv : List Value} {K : Nat → List Int}
    (h : BkI B R w b cnt tot fr he ma ke wa nF nH nM fv hv mv nK nW kv wv K) {g cap : Nat} {l : Value}
    (hg : w.grownBy w1 he.ownBlock) (ho : w1.ownsRow B 23 1 (.slice (some ⟨g, 0, none⟩) (nH + 1) cap) (nH + 1) (hv ++ [l])) (hlie : he.ownBlock = some g ∨ g = w.heap.size) :
    BkI B R (w1.setCell ⟨b, 4, none⟩ (.slice (some ⟨g, 0, none⟩) (nH + 1) cap)) b cnt tot fr (.slice (some ⟨g, 0, none⟩) (nH + 1) cap) ma ke wa nF (nH + 1) nM fv (hv ++ [l]) mv nK nW kv wv K ∧ (∀ x, T5 w x → (w1.setCell ⟨b, 4, none⟩ (.slice (some ⟨g, 0, none⟩) (nH + 1) cap)).heap[x]? = w.heap[x]?) := by
  have nb := h.blk.ne_row h.oH (by decide)
  have blk1 := h.blk.of_block (w' := w1) (hg.block b h.blk.lt (fun e => nb e.symm))
  have kT : ∀ x, T5 w x → (w1.setCell ⟨b, 4, none⟩ (.slice (some ⟨g, 0, none⟩) (nH + 1) cap)).heap[x]? = w.heap[x]? := fun x hx => by
    rw [Below.heap_setCell _ _ _ _ (h.blk.ne_t5 hx)]; exact hg.block x hx.lt (fun e => hx.ne_row h.oH (by decide) e.symm)
  have o2 := owns_keep (w' := w1) h.oF (fun x hx => hg.block x (World.ownsRow.lt h.oF x hx).2 (fun e => h.dFH x hx e.symm))
  have o3 := owns_keep (w' := w1) h.oM (fun x hx => hg.block x (World.ownsRow.lt h.oM x hx).2 (fun e => dj_type h.oM h.oH (by decide) x hx e.symm))
  have o4 := owns_keep (w' := w1) h.rK.own (fun x hx => hg.block x (World.ownsRow.lt h.rK.own x hx).2 (fun e => h.dHK x e.symm hx))
  have o5 := owns_keep (w' := w1) h.rW.own (fun x hx => hg.block x (World.ownsRow.lt h.rW.own x hx).2 (fun e => h.dHW x e.symm hx))
  exact ⟨⟨blk1.set 4 _, h.bB, owns_setCell o2 (blk1.ne_row o2 (by decide)) _, owns_setCell ho (blk1.ne_row ho (by decide)) _, owns_setCell o3 (blk1.ne_row o3 (by decide)) _,
    h.rK.keep (owns_setCell o4 (blk1.ne_row o4 (by decide)) _) (fun x hx => kT x (h.rT x hx)), h.rW.keep (owns_setCell o5 (blk1.ne_row o5 (by decide)) _) (fun x hx => kT x (h.rT x hx)), dj_symm (dj_new (dj_symm h.dFH) h.oF hlie), h.dFK, h.dFW, dj_new h.dHK h.rK.own hlie, dj_new h.dHW h.rW.own hlie, h.dKW,
    fun x hx => (h.rT x hx).keep (kT x (h.rT x hx))⟩, kT⟩
theorem BkI.stepM {B : Nat} {R : Nat → Prop} {w w1 : World} {b : Nat} {cnt tot : Int} {fr he ma ke wa : Value} {nF nH nM : Nat} {fv hv mv : List Value} {nK nW : Nat} {kv wv : List Value} {K : Nat → List Int}
    (h : BkI B R w b cnt tot fr he ma ke wa nF nH nM fv hv mv nK nW kv wv K) {g cap : Nat} {l : Value}
    (hg : w.grownBy w1 ma.ownBlock) (ho : w1.ownsRow B 3 1 (.slice (some ⟨g, 0, none⟩) (nM + 1) cap) (nM + 1) (mv ++ [l])) :
    BkI B R (w1.setCell ⟨b, 5, none⟩ (.slice (some ⟨g, 0, none⟩) (nM + 1) cap)) b cnt tot fr he (.slice (some ⟨g, 0, none⟩) (nM + 1) cap) ke wa nF nH (nM + 1) fv hv (mv ++ [l]) nK nW kv wv K ∧ (∀ x, T5 w x → (w1.setCell ⟨b, 5, none⟩ (.slice (some ⟨g, 0, none⟩) (nM + 1) cap)).heap[x]? = w.heap[x]?) := by
  have nb := h.blk.ne_row h.oM (by decide)
  have blk1 := h.blk.of_block (w' := w1) (hg.block b h.blk.lt (fun e => nb e.symm))
  have kT : ∀ x, T5 w x → (w1.setCell ⟨b, 5, none⟩ (.slice (some ⟨g, 0, none⟩) (nM + 1) cap)).heap[x]? = w.heap[x]? := fun x hx => by
    rw [Below.heap_setCell _ _ _ _ (h.blk.ne_t5 hx)]; exact hg.block x hx.lt (fun e => hx.ne_row h.oM (by decide) e.symm)
  have o1 := owns_keep (w' := w1) h.oF (fun x hx => hg.block x (World.ownsRow.lt h.oF x hx).2 (fun e => dj_type h.oF h.oM (by decide) x hx e.symm))
  have o2 := owns_keep (w' := w1) h.oH (fun x hx => hg.block x (World.ownsRow.lt h.oH x hx).2 (fun e => dj_type h.oH h.oM (by decide) x hx e.symm))
  have o4 := owns_keep (w' := w1) h.rK.own (fun x hx => hg.block x (World.ownsRow.lt h.rK.own x hx).2 (fun e => dj_type h.rK.own h.oM (by decide) x hx e.symm))
  have o5 := owns_keep (w' := w1) h.rW.own (fun x hx => hg.block x (World.ownsRow.lt h.rW.own x hx).2 (fun e => dj_type h.rW.own h.oM (by decide) x hx e.symm))
  exact ⟨⟨blk1.set 5 _, h.bB, owns_setCell o1 (blk1.ne_row o1 (by decide)) _, owns_setCell o2 (blk1.ne_row o2 (by decide)) _, owns_setCell ho (blk1.ne_row ho (by decide)) _,
    h.rK.keep (owns_setCell o4 (blk1.ne_row o4 (by decide)) _) (fun x hx => kT x (h.rT x hx)), h.rW.keep (owns_setCell o5 (blk1.ne_row o5 (by decide)) _) (fun x hx => kT x (h.rT x hx)), h.dFH, h.dFK, h.dFW, h.dHK, h.dHW, h.dKW,
    fun x hx => (h.rT x hx).keep (kT x (h.rT x hx))⟩, kT⟩
theorem BkI.setC {B : Nat} {R : Nat → Prop} {w : World} {b : Nat} {cnt tot : Int} {fr he ma ke wa : Value} {nF nH nM : Nat} {fv hv mv : List Value} {nK nW : Nat} {kv wv : List Value} {K : Nat → List Int}
    (h : BkI B R w b cnt tot fr he ma ke wa nF nH nM fv hv mv nK nW kv wv K) (c : Int) : BkI B R (w.setCell ⟨b, 0, none⟩ (.int .i64 c)) b c tot fr he ma ke wa nF nH nM fv hv mv nK nW kv wv K := by
  have kR : ∀ g, R g → (w.setCell ⟨b, 0, none⟩ (.int .i64 c)).heap[g]? = w.heap[g]? := fun g hg => Below.heap_setCell _ _ _ _ (h.blk.ne_t5 (h.rT g hg))
  exact ⟨h.blk.set 0 _, h.bB, owns_setCell h.oF (h.blk.ne_row h.oF (by decide)) _, owns_setCell h.oH (h.blk.ne_row h.oH (by decide)) _, owns_setCell h.oM (h.blk.ne_row h.oM (by decide)) _, h.rK.keep (owns_setCell h.rK.own (h.blk.ne_row h.rK.own (by decide)) _) kR, h.rW.keep (owns_setCell h.rW.own (h.blk.ne_row h.rW.own (by decide)) _) kR,
    h.dFH, h.dFK, h.dFW, h.dHK, h.dHW, h.dKW, fun g hg => (h.rT g hg).keep (kR g hg)⟩
theorem BkI.setT {B : Nat} {R : Nat → Prop} {w : World} {b : Nat} {cnt tot : Int} {fr he ma ke wa : Value} {nF nH nM : Nat} {fv hv mv : List Value} {nK nW : Nat} {kv wv : List Value} {K : Nat → List Int}
    (h : BkI B R w b cnt tot fr he ma ke wa nF nH nM fv hv mv nK nW kv wv K) (c : Int) : BkI B R (w.setCell ⟨b, 1, none⟩ (.int .i64 c)) b cnt c fr he ma ke wa nF nH nM fv hv mv nK nW kv wv K := by
  have kR : ∀ g, R g → (w.setCell ⟨b, 1, none⟩ (.int .i64 c)).heap[g]? = w.heap[g]? := fun g hg => Below.heap_setCell _ _ _ _ (h.blk.ne_t5 (h.rT g hg))
  exact ⟨h.blk.set 1 _, h.bB, owns_setCell h.oF (h.blk.ne_row h.oF (by decide)) _, owns_setCell h.oH (h.blk.ne_row h.oH (by decide)) _, owns_setCell h.oM (h.blk.ne_row h.oM (by decide)) _, h.rK.keep (owns_setCell h.rK.own (h.blk.ne_row h.rK.own (by decide)) _) kR, h.rW.keep (owns_setCell h.rW.own (h.blk.ne_row h.rW.own (by decide)) _) kR,
    h.dFH, h.dFK, h.dFW, h.dHK, h.dHW, h.dKW, fun g hg => (h.rT g hg).keep (kR g hg)⟩
/-- the book between two calls; X: blocks among which its own ones are -/
structure Bok1 (B : Nat) (X : Nat → Prop) (w : World) (b cnt tot nK : Nat) (R : Nat → Prop) (fr he ma ke wa : Value) (n : Nat) (fv hv : List Value) (ms : List Int) (kv wv : List Value) (K Z : Nat → List Int) : Prop where
  hn : n ≤ 2
  hml : ms.length = n
  hms : ∀ i, i < n → 0 ≤ ms.getD i 0 ∧ ms.getD i 0 ≤ 536870912
  hZ : ∀ i, i < n → (Z i).length ≤ 268435456
  bk : BkI B R w b cnt tot fr he ma ke wa n n n fv hv (ms.map (Value.int .i64)) nK nK kv wv K
  fs : Fsh B R w n fv Z
  hd : ∀ i, i < n → Sl R w (hv.getD i (.bool false)) (Z i)
  xx : ∀ x, (x = b ∨ fr.ownBlock = some x ∨ he.ownBlock = some x ∨ ma.ownBlock = some x ∨ ke.ownBlock = some x ∨ wa.ownBlock = some x ∨ R x ∨ ∃ j, j < n ∧ (fv.getD j (.bool false)).ownBlock = some x) → X x
def Bok (B : Nat) (X : Nat → Prop) (w : World) (b cnt tot nK : Nat) : Prop := ∃ R fr he ma ke wa n fv hv ms kv wv K Z, Bok1 B X w b cnt tot nK R fr he ma ke wa n fv hv ms kv wv K Z
theorem Bok1.keep {B : Nat} {X : Nat → Prop} {w : World} {b cnt tot nK : Nat} {R : Nat → Prop} {fr he ma ke wa : Value} {n : Nat} {fv hv : List Value} {ms : List Int} {kv wv : List Value} {K Z : Nat → List Int} (h : Bok1 B X w b cnt tot nK R fr he ma ke wa n fv hv ms kv wv K Z) {w' : World} (hk : ∀ x, x < w.heap.size → X x → w'.heap[x]? = w.heap[x]?) : Bok1 B X w' b cnt tot nK R fr he ma ke wa n fv hv ms kv wv K Z := by
  have nR : ∀ g, R g → w'.heap[g]? = w.heap[g]? := fun g hg => hk g (h.bk.rT g hg).lt (h.xx g (.inr (.inr (.inr (.inr (.inr (.inr (.inl hg))))))))
  refine ⟨h.hn, h.hml, h.hms, h.hZ, h.bk.keep (fun g hg => hk g (h.bk.there hg) (h.xx g ?_)), h.fs.keep (fun i g hi hg => hk g (h.fs.own hi hg).1.lt (h.xx g (.inr (.inr (.inr (.inr (.inr (.inr (.inr ⟨i, hi, hg⟩))))))))), fun i hi => (h.hd i hi).keep nR, h.xx⟩
  rcases hg with q | q | q | q | q | q | q
  · exact .inl q
  · exact .inr (.inl q)
  · exact .inr (.inr (.inl q))
  · exact .inr (.inr (.inr (.inl q)))
  · exact .inr (.inr (.inr (.inr (.inl q))))
  · exact .inr (.inr (.inr (.inr (.inr (.inl q)))))
  · exact .inr (.inr (.inr (.inr (.inr (.inr (.inl q))))))
theorem Bok.but {B : Nat} {X Y : Nat → Prop} {w w' : World} {b cnt tot nK : Nat} (h : Bok B X w b cnt tot nK) (hb : But Y w w') (hXY : ∀ x, x < w.heap.size → X x → ¬ Y x) : Bok B X w' b cnt tot nK := by
  obtain ⟨R, fr, he, ma, ke, wa, n, fv, hv, ms, kv, wv, K, Z, h⟩ := h
  exact ⟨R, fr, he, ma, ke, wa, n, fv, hv, ms, kv, wv, K, Z, h.keep (fun x hx hX => hb.block x hx (hXY x hx hX))⟩
theorem Bok.mono {B : Nat} {X Y : Nat → Prop} {w : World} {b cnt tot nK : Nat} (h : Bok B X w b cnt tot nK) (hXY : ∀ x, X x → Y x) : Bok B Y w b cnt tot nK := by
  obtain ⟨R, fr, he, ma, ke, wa, n, fv, hv, ms, kv, wv, K, Z, h⟩ := h
  exact ⟨R, fr, he, ma, ke, wa, n, fv, hv, ms, kv, wv, K, Z, ⟨h.hn, h.hml, h.hms, h.hZ, h.bk, h.fs, h.hd, fun x hx => hXY x (h.xx x hx)⟩⟩
set_option maxRecDepth 100000 in
set_option maxHeartbeats 2000000 in
theorem Holds_any (B : Nat) (X : Nat → Prop) (w : World) (b cnt tot nK : Nat) (hnK : nK ≤ 134217728) (h : Bok B X w b cnt tot nK) :
    Calls Tryz.prog 54 #[.pointer (some ⟨b, 0, none⟩)] w fun e w' => e = .returned (.bool true) ∧ Bok B X w' b cnt tot nK ∧ But X w w' := by
  obtain ⟨R, fr, he, ma, ke, wa, n, fv, hv, ms, kv, wv, K, Z, h⟩ := h
  have HU := hid (untouched_any (RF R n fv) B b cnt tot fr he ma ke wa n fv hv Z w (by have := h.hn; omega) h.bk.blk ⟨h.bk.oF, h.fs.sl⟩ ⟨h.bk.oH, fun i hi => (h.hd i hi).mono (fun g hg => .inl hg)⟩ (h.fs.t5 h.bk.rT))
  have H := hid h
  clear h
  go_enter Tryz.func54, Tryz.ntmps54
  go_wp2_with fail
  refine Calls.mono HU.out ?_
  rintro e w1 ⟨rfl, hb1, hk1⟩
  have nR : ∀ x, T5 w x → w1.heap[x]? = w.heap[x]? := fun x hx => hb1.block x hx.lt (fun e => H.out.bk.blk.ne_t5 hx e)
  have nO : ∀ {e s m : Nat} {v : Value} {xs : List Value}, w.ownsRow B e s v m xs → e ≠ 56 → w1.ownsRow B e s v m xs := fun hr he => owns_keep hr (fun g hg => hb1.block g (World.ownsRow.lt hr g hg).2 (fun e => H.out.bk.blk.ne_row hr he (by rw [← e]; exact hg)))
  have h := H.out
  have h1 : Bok1 B X w1 b cnt tot nK R fr he ma ke wa n fv hv ms kv wv K Z :=
    ⟨h.hn, h.hml, h.hms, h.hZ, ⟨hk1, h.bk.bB, nO h.bk.oF (by decide), nO h.bk.oH (by decide), nO h.bk.oM (by decide), h.bk.rK.keep (nO h.bk.rK.own (by decide)) (fun g hg => nR g (h.bk.rT g hg)), h.bk.rW.keep (nO h.bk.rW.own (by decide)) (fun g hg => nR g (h.bk.rT g hg)), h.bk.dFH, h.bk.dFK, h.bk.dFW, h.bk.dHK, h.bk.dHW, h.bk.dKW, fun g hg => (h.bk.rT g hg).keep (nR g (h.bk.rT g hg))⟩,
      h.fs.keep (fun i g hi hg => nR g (h.fs.own hi hg).1.t5), fun i hi => (h.hd i hi).keep (fun g hg => nR g (h.bk.rT g hg)), h.xx⟩
  have HB1 := hid (hb1.mono (Y := X) (fun k _ e => h.xx k (.inl e)))
  have H1 := hid h1
  have HS := hid (same_any R B b cnt tot false fr he ma ke wa nK kv wv K w1 hnK h1.bk.blk h1.bk.rK h1.bk.rW h1.bk.rT)
  have c2 := h1.bk.blk.cell 2
  simp only [List.getElem?_toArray, List.getElem?_cons_succ, List.getElem?_cons_zero] at c2
  clear h h1 hb1 hk1 nR nO H HU
  go_wp2_with fail
  refine Calls.mono HS.out ?_
  rintro e w2 ⟨rfl, hb2⟩
  have H2 := hid (H1.out.keep (w' := w2) (fun x hx _ => hb2.block x hx (fun q => q)))
  have HB2 := hid (HB1.out.step hb2 (fun _ _ q => q.elim))
  clear HS hb2 c2
  go_wp2
  go_ret
  exact ⟨rfl, ⟨_, _, _, _, _, _, _, _, _, _, _, _, _, _, H2.out⟩, HB2.out⟩
end Go.Proofs.YthkkdmblkalknaaGreatDoor.bk
/-
  THE BOOK: Own.
-/
namespace Go.Proofs.YthkkdmblkalknaaGreatDoor.bk
open Go.RowKit

theorem newsI (w : World) (v : Value) : ∀ j u, [v][j]? = some u → (w.alloc (.cells #[v] 3)).cell? ((⟨w.heap.size, 0, none⟩ : Addr).add j) = some u := by
  intro j u h
  match j, h with
  | 0, h => simp at h; subst h; simp [Addr.add]
theorem snoc_lt {fv : List Value} {l : Value} {n j : Nat} (hl : fv.length = n) (hj : j < n) : (fv ++ [l]).getD j (.bool false) = fv.getD j (.bool false) := by
  rw [List.getD_eq_getElem?_getD, List.getElem?_append_left (by omega), ← List.getD_eq_getElem?_getD]
theorem snoc_at {fv : List Value} {l : Value} {n : Nat} (hl : fv.length = n) : (fv ++ [l]).getD n (.bool false) = l := by
  rw [List.getD_eq_getElem?_getD, List.getElem?_append_right (by omega), hl, Nat.sub_self]
  rfl
theorem own_snoc {fv : List Value} {l : Value} {n x : Nat} (hl : fv.length = n) (h : ∃ j, j < n + 1 ∧ ((fv ++ [l]).getD j (.bool false)).ownBlock = some x) : (∃ j, j < n ∧ (fv.getD j (.bool false)).ownBlock = some x) ∨ l.ownBlock = some x := by
  obtain ⟨j, hj, h⟩ := h
  by_cases e : j < n
  · rw [snoc_lt hl e] at h; exact .inl ⟨j, e, h⟩
  · obtain rfl : j = n := by omega
    rw [snoc_at hl] at h; exact .inr h
theorem Fsh.snoc {B : Nat} {R : Nat → Prop} {w : World} {n : Nat} {fv : List Value} {Z : Nat → List Int} (h : Fsh B R w n fv Z) (hl : fv.length = n) {w' : World} {R2 : Nat → Prop} {l : Value} {zs : List Int} (hk : ∀ x, T5 w x → w'.heap[x]? = w.heap[x]?) (hR : ∀ x, T5 w x → R2 x → R x) (hz : Pl.isB zs)
    (hnew : (l = .slice none 0 0 ∧ zs = []) ∨ ∃ g, FO w l zs g ∧ ¬ R g ∧ B ≤ g ∧ ∀ i, i < n → (fv.getD i (.bool false)).ownBlock ≠ some g) : Fsh B R2 w' (n + 1) (fv ++ [l]) (upd Z n zs) := by
  refine ⟨fun i hi => ?_, fun i j g hi hj hij => ?_⟩
  · by_cases e : i < n
    · rw [snoc_lt hl e, show upd Z n zs i = Z i from by unfold upd; rw [if_neg (by omega)]]
      obtain ⟨q, r⟩ := h.each i e
      exact ⟨q, r.imp id fun ⟨g, q1, q2, q3⟩ => ⟨g, q1.keep (hk g q1.t5), fun h2 => q2 (hR g q1.t5 h2), q3⟩⟩
    · obtain rfl : i = n := by omega
      rw [snoc_at hl, upd_at]
      exact ⟨hz, hnew.imp id fun ⟨g, q1, q2, q3, _⟩ => ⟨g, q1.keep (hk g q1.t5), fun h2 => q2 (hR g q1.t5 h2), q3⟩⟩
  · have key : ∀ i, i < n → ∀ g, l.ownBlock = some g → (fv.getD i (.bool false)).ownBlock ≠ some g := fun i hi g hg => by
      rcases hnew with ⟨e, _⟩ | ⟨g', e, _, _, q⟩
      · rw [e] at hg; cases hg
      · rw [e.ob] at hg; cases hg; exact q i hi
    by_cases e : i < n
    · rw [snoc_lt hl e]
      by_cases e' : j < n
      · rw [snoc_lt hl e']; exact h.apart i j g e e' hij
      · obtain rfl : j = n := by omega
        rw [snoc_at hl]
        exact fun hg hg' => key i e g hg' hg
    · obtain rfl : i = n := by omega
      rw [snoc_at hl, snoc_lt hl (show j < i by omega)]
      exact fun hg => key j (by omega) g hg
set_option maxRecDepth 100000 in
set_option maxHeartbeats 4000000 in
theorem Own_any (B : Nat) (X : Nat → Prop) (w : World) (b cnt tot nK : Nat) (al : Option Addr) (cl : Nat) (zs : List Int) (mark : Int) (hB : B ≤ w.heap.size) (hnK : nK ≤ 67108864) (hc : cnt ≤ 8388608) (ht : tot + zs.length ≤ 1073741754) (hzl : zs.length ≤ 268435456) (hm0 : 0 ≤ mark) (hm1 : mark ≤ 268435456) (h : Bok B X w b cnt tot nK)
    (hz : Pl.isB zs) (hl : (al = none ∧ zs = [] ∧ cl = 0) ∨ ∃ g, al = some ⟨g, 0, none⟩ ∧ Own w g zs.length cl zs ∧ ¬ X g ∧ B ≤ g) :
    Calls Tryz.prog 53 #[.pointer (some ⟨b, 0, none⟩), .slice al zs.length cl, .int .i64 mark] w fun e w' => e = .returned (.tuple #[]) ∧ ∃ nK', nK' ≤ nK + 15 ∧
      Bok B (fun x => X x ∨ (Value.slice al zs.length cl).ownBlock = some x ∨ w.heap.size ≤ x) w' b (cnt + 1) (tot + zs.length) nK' ∧ But (fun x => X x ∨ (Value.slice al zs.length cl).ownBlock = some x) w w' := by
  obtain ⟨R, fr, he, ma, ke, wa, n, fv, hv, ms, kv, wv, K, Z, h⟩ := h
  obtain ⟨i22, hi22, hz22, hs22, hb22⟩ := info_parts info22
  obtain ⟨i3, hi3, hz3, hs3, hb3⟩ := info_parts infoI
  obtain ⟨a3, c3, rfl, _⟩ := owns_slice h.bk.oF
  obtain ⟨a4, c4, rfl, _⟩ := owns_slice h.bk.oH
  obtain ⟨a5, c5, rfl, _⟩ := owns_slice h.bk.oM
  have I1 := h.bk.setC ((cnt : Int) + 1)
  have I2 := I1.setT ((tot : Int) + (zs.length : Int))
  have q0 := h.bk.blk.cell 0
  have q1 := I1.blk.cell 1
  have q3 := I2.blk.cell 3
  have f0 := h.bk.blk.frozen 0
  have f1 := I1.blk.frozen 1
  simp only [List.getElem?_toArray, List.getElem?_cons_succ, List.getElem?_cons_zero] at q0 q1 q3
  have H0 := hid (I2.below ((Below.refl _ _).alloc (Nat.le_refl _) (.cells #[.slice al zs.length cl] 23)))
  have T0 : Hid (∀ x, T5 w x → (((w.setCell ⟨b, 0, none⟩ (.int .i64 ((cnt : Int) + 1))).setCell ⟨b, 1, none⟩ (.int .i64 ((tot : Int) + (zs.length : Int)))).alloc (.cells #[.slice al zs.length cl] 23)).heap[x]? = w.heap[x]?) := fun x hx => by
    rw [Below.heap_alloc _ _ _ (by simp [World.setCell]; exact hx.lt), Below.heap_setCell _ _ _ _ (h.bk.blk.ne_t5 hx), Below.heap_setCell _ _ _ _ (h.bk.blk.ne_t5 hx)]
  have U0 := hid ((((But.refl (fun x => X x ∨ (Value.slice al zs.length cl).ownBlock = some x) w).setCell (p := ⟨b, 0, none⟩) (.inl (h.xx b (.inl rfl))) (.int .i64 ((cnt : Int) + 1))).setCell (p := ⟨b, 1, none⟩) (.inl (h.xx b (.inl rfl))) (.int .i64 ((tot : Int) + (zs.length : Int)))).alloc (.cells #[.slice al zs.length cl] 23))
  have H := hid h
  have Hl := hid hl
  have hn := h.hn
  clear h hl I2 I1
  generalize hnl : zs.length = nl at *
  have Hnl := hid hnl
  clear hnl
  go_enter Tryz.func53, Tryz.ntmps53
  go_wp2_with (at_builtin; refine wpList_append_lies _ rfl (.tmp 27) (.tmp 29) 54 (by rfl) B 23 i22 (.slice none 0 0) 1 24 Tryz.underlying54 hi22 hz22 hs22 hb22 rfl (by decide) _ n fv (by rfl) H0.out.oF ⟨w.heap.size, 0, none⟩ 1 1 [.slice al nl cl] (by rfl) (by rfl) (by exact newsV' _ (.slice al nl cl) _ (by simp [World.setCell])) (by intro u hu; simp at hu; subst hu; rfl) (by decide) (by unfold maxLen; omega) (by omega) (by simp [World.setCell]; omega) (w.heap.size + 1) (by simp [World.setCell]) ?_)
  intro g3 cap3 w1 ho hg hlie _
  obtain ⟨J1, kT1⟩ := H0.out.stepF hg ho (by simpa [World.setCell] using hlie)
  have bb := H0.out.blk.of_block (w' := w1) (hg.block b H0.out.blk.lt (fun e => H0.out.blk.ne_row H0.out.oF (by decide) e.symm))
  have c3' := bb.cell 3
  have f3 := bb.frozen 3
  simp only [List.getElem?_toArray, List.getElem?_cons_succ, List.getElem?_cons_zero] at c3'
  have U1 := hid ((U0.out.of_grown hg (fun x hx _ => .inl (H.out.xx x (.inr (.inl hx))))).setCell (p := ⟨b, 3, none⟩) (.inl (H.out.xx b (.inl rfl))) (.slice (some ⟨g3, 0, none⟩) (n + 1) cap3))
  have T1 : Hid (∀ x, T5 w x → (w1.setCell ⟨b, 3, none⟩ (.slice (some ⟨g3, 0, none⟩) (n + 1) cap3)).heap[x]? = w.heap[x]?) := fun x hx => (kT1 x (hx.keep (T0.out x hx))).trans (T0.out x hx)
  have L3 := hid hlie
  have HJ1 := hid J1
  have c4' := J1.blk.cell 4
  simp only [List.getElem?_toArray, List.getElem?_cons_succ, List.getElem?_cons_zero] at c4'
  have hrd : Rd (w1.setCell ⟨b, 3, none⟩ (.slice (some ⟨g3, 0, none⟩) (n + 1) cap3)).heap.size (w1.setCell ⟨b, 3, none⟩ (.slice (some ⟨g3, 0, none⟩) (n + 1) cap3)) al nl zs := by
    rcases Hl.out with ⟨e1, e2, _⟩ | ⟨g, e1, hB', _, _⟩
    · exact ⟨Hnl.out, hz, .inl (by have := Hnl.out; rw [e2] at this; simpa using this.symm)⟩
    · rw [e1]
      have hB1 := hB'.keep (T1.out g hB'.t5)
      exact hB1.rd hz
  have HCp := hid (CopyBytes_any al nl cl zs (w1.setCell ⟨b, 3, none⟩ (.slice (some ⟨g3, 0, none⟩) (n + 1) cap3)).drew (by omega) (fun e => by
    rcases Hl.out with ⟨_, _, e2⟩ | ⟨g, e1, _⟩
    · exact e2
    · rw [e1] at e; cases e) hrd)
  clear ho hg hlie J1 kT1 bb hrd q0 q1 q3 f0 f1 H0 T0 U0
  have hbA := HJ1.out.blk.lt
  go_wp2_with fail
  generalize hwA : w1.setCell ⟨b, 3, none⟩ (.slice (some ⟨g3, 0, none⟩) (n + 1) cap3) = wA at *
  have HwA := hid hwA
  clear hwA c3' f3
  go_region_law (first
    | (go_simp; go_at_call 17; refine Calls.mono HCp.out ?_; rintro e w2 ⟨g6, cap6, rfl, hgs6, hO6, hb6⟩; have hb6' := below_undrew hb6; have J2 := hid ((HJ1.out.below hb6').more (R' := fun x => R x ∨ x = g6) (fun _ q => .inl q) (fun g q => q.elim (fun q => (HJ1.out.rT g q).keep (hb6'.block g (HJ1.out.rT g q).lt)) (fun q => by rw [q]; exact hO6.t5))); have J2a := hid (J2.out.below ((Below.refl _ _).alloc (Nat.le_refl _) (.cells #[.slice (some ⟨g6, 0, none⟩) nl cap6] 23))); have HB6 := hid hb6'; have HO6 := hid hO6; have k4 : w2.cell? ⟨b, 4, none⟩ = some (.slice a4 n c4) := (hb6'.cell (p := ⟨b, 4, none⟩) hbA).trans c4'; have hb2 := J2.out.blk.lt; have ka4 : (w2.alloc (.cells #[.slice (some ⟨g6, 0, none⟩) nl cap6] 23)).cell? ⟨b, 4, none⟩ = some (.slice a4 n c4) := (World.cell?_alloc_past _ _ _ hb2).trans k4; clear hb6 hb6' hO6; dsimp only)
    | (refine step_append_lies _ (by rfl) _ _ _ (by rfl) B 23 i22 (.slice none 0 0) 1 24 Tryz.underlying54 hi22 hz22 hs22 hb22 rfl (by decide) _ n hv (by rfl) (by exact J2a.out.oH) ⟨w2.heap.size, 0, none⟩ 1 1 [.slice (some ⟨g6, 0, none⟩) nl cap6] (by rfl) (by rfl) (by exact newsV w2 (.slice (some ⟨g6, 0, none⟩) nl cap6)) (by intro u hu; simp at hu; subst hu; rfl) (by decide) (by unfold maxLen; omega) (by omega) (by have := Nat.le_trans HJ1.out.bB (Nat.le_of_lt hb2); simp; omega) (w2.heap.size + 1) (by simp) ?_; intro g4 cap4 w3 ho4 hg4 hlie4 _; have bb := J2a.out.blk.of_block (w' := w3) (hg4.block b J2a.out.blk.lt (fun e => J2a.out.blk.ne_row J2a.out.oH (by decide) e.symm)); have c4'' := bb.cell 4; have f4'' := bb.frozen 4; simp only [List.getElem?_toArray, List.getElem?_cons_succ, List.getElem?_cons_zero] at c4''; have HO4 := hid ho4; have HG4 : Hid ((w2.alloc (.cells #[.slice (some ⟨g6, 0, none⟩) nl cap6] 23)).grownBy w3 (Value.slice a4 n c4).ownBlock) := hg4; have L4 : Hid ((Value.slice a4 n c4).ownBlock = some g4 ∨ g4 = w2.heap.size + 1) := hlie4; clear ho4 hg4 hlie4 bb))
  all_goals
    obtain ⟨J3, kT3⟩ := J2a.out.stepH HG4.out HO4.out (by simpa using L4.out)
    have hsA := U1.out.size
    have T3 : Hid (∀ x, T5 w x → (w3.setCell ⟨b, 4, none⟩ (.slice (some ⟨g4, 0, none⟩) (n + 1) cap4)).heap[x]? = w.heap[x]?) := fun x hx => by
      have t1 := hx.keep (T1.out x hx)
      have k2 := HB6.out.block x t1.lt
      have t2 := t1.keep k2
      have k3 := Below.heap_alloc w2 (.cells #[.slice (some ⟨g6, 0, none⟩) nl cap6] 23) x t2.lt
      exact (kT3 x (t2.keep k3)).trans (k3.trans (k2.trans (T1.out x hx)))
    have S6 := hid ((Sl.of_own (R := fun x => R x ∨ x = g6) HO6.out hz (.inr rfl)).keep (w' := w3.setCell ⟨b, 4, none⟩ (.slice (some ⟨g4, 0, none⟩) (n + 1) cap4)) (fun g q => by
      have t2 := J2.out.rT g q
      have k3 := Below.heap_alloc w2 (.cells #[.slice (some ⟨g6, 0, none⟩) nl cap6] 23) g t2.lt
      exact (kT3 g (t2.keep k3)).trans k3))
    have U3 := hid ((((U1.out.step (But.of_below (X := fun _ => False) HB6.out) (fun _ _ q => q.elim)).alloc (.cells #[.slice (some ⟨g6, 0, none⟩) nl cap6] 23)).of_grown HG4.out (fun x hx _ => .inl (H.out.xx x (.inr (.inr (.inl hx)))))).setCell (p := ⟨b, 4, none⟩) (.inl (H.out.xx b (.inl rfl))) (.slice (some ⟨g4, 0, none⟩) (n + 1) cap4))
    have HJ3 := hid J3
    have c5' := J3.blk.cell 5
    have c0' := J3.blk.cell 0
    simp only [List.getElem?_toArray, List.getElem?_cons_succ, List.getElem?_cons_zero] at c5' c0'
    have ew1 : IntKind.i64.wrap (31 * ((cnt : Int) + 1)) = 31 * ((cnt : Int) + 1) := by rw [IntKind.wrap_i64]; omega
    have ew2 : IntKind.i64.wrap (mark + 31 * ((cnt : Int) + 1)) = mark + 31 * ((cnt : Int) + 1) := by rw [IntKind.wrap_i64]; omega
    have hG6 : Hid (w.heap.size ≤ g6) := Nat.le_trans hsA hgs6
    have hs2 : Hid (w.heap.size ≤ w2.heap.size) := Nat.le_trans hsA HB6.out.size
    clear J3 kT3 J2 J2a HB6 HO6 HG4 HO4 k4 ka4 hb2 c4'' f4'' HCp HJ1 U1 T1 c4' hbA HwA hsA hgs6
    generalize hwB : w3.setCell ⟨b, 4, none⟩ (.slice (some ⟨g4, 0, none⟩) (n + 1) cap4) = wB at *
    clear hwB
    have J4 := hid (HJ3.out.below ((Below.refl _ _).alloc (Nat.le_refl _) (.cells #[.int .i64 (mark + 31 * ((cnt : Int) + 1))] 3)))
    have hsB : Hid (w.heap.size ≤ wB.heap.size) := U3.out.size
    have ka5 : (wB.alloc (.cells #[.int .i64 (mark + 31 * ((cnt : Int) + 1))] 3)).cell? ⟨b, 5, none⟩ = some (.slice a5 n c5) := (World.cell?_alloc_past _ _ _ HJ3.out.blk.lt).trans c5'
    go_wp2_with fail
    go_region_law (first
      | (refine step_append_lies _ (by rfl) _ _ _ (by rfl) B 3 i3 (.int .i64 0) 1 8 Tryz.underlying25 hi3 hz3 hs3 hb3 rfl (by decide) _ n (ms.map (Value.int .i64)) (by rfl) (by exact J4.out.drew.oM) ⟨wB.heap.size, 0, none⟩ 1 1 [.int .i64 (mark + 31 * ((cnt : Int) + 1))] (by rfl) (by rfl) (by exact newsI wB _) (by intro u hu; simp at hu; subst hu; rfl) (by decide) (by unfold maxLen; omega) (by omega) (by have := Nat.le_trans HJ3.out.bB (Nat.le_of_lt HJ3.out.blk.lt); simp; omega) (wB.heap.size + 1) (by simp) ?_; intro g5 cap5 w5 ho5 hg5 hlie5 _; have L5 : Hid ((Value.slice a5 n c5).ownBlock = some g5 ∨ g5 = wB.heap.size + 1) := hlie5; have bb := J4.out.drew.blk.of_block (w' := w5) (hg5.block b J4.out.drew.blk.lt (fun e => J4.out.drew.blk.ne_row J4.out.drew.oM (by decide) e.symm)); have c5'' := bb.cell 5; have f5'' := bb.frozen 5; simp only [List.getElem?_toArray, List.getElem?_cons_succ, List.getElem?_cons_zero] at c5''; have HO5 := hid ho5; have HG5 : Hid ((wB.alloc (.cells #[.int .i64 (mark + 31 * ((cnt : Int) + 1))] 3)).drew.grownBy w5 (Value.slice a5 n c5).ownBlock) := hg5; clear ho5 hg5 bb hlie5))
  all_goals
    obtain ⟨J6, kT6⟩ := J4.out.drew.stepM HG5.out HO5.out
    have kB : ∀ x, T5 wB x → (w5.setCell ⟨b, 5, none⟩ (.slice (some ⟨g5, 0, none⟩) (n + 1) cap5)).heap[x]? = wB.heap[x]? := fun x hx => by
      have k4 := Below.heap_alloc wB (.cells #[.int .i64 (mark + 31 * ((cnt : Int) + 1))] 3) x hx.lt
      exact (kT6 x ((hx.keep k4).keep rfl)).trans k4
    have T6 : Hid (∀ x, T5 w x → (w5.setCell ⟨b, 5, none⟩ (.slice (some ⟨g5, 0, none⟩) (n + 1) cap5)).heap[x]? = w.heap[x]?) := fun x hx => (kB x (hx.keep (T3.out x hx))).trans (T3.out x hx)
    have S7 := hid (S6.out.keep (w' := w5.setCell ⟨b, 5, none⟩ (.slice (some ⟨g5, 0, none⟩) (n + 1) cap5)) (fun g q => kB g (HJ3.out.rT g q)))
    have U6 := hid (((U3.out.alloc (.cells #[.int .i64 (mark + 31 * ((cnt : Int) + 1))] 3)).drew.of_grown HG5.out (fun x hx _ => .inl (H.out.xx x (.inr (.inr (.inr (.inl hx))))))).setCell (p := ⟨b, 5, none⟩) (.inl (H.out.xx b (.inl rfl))) (.slice (some ⟨g5, 0, none⟩) (n + 1) cap5))
    have hfl : fv.length = n := by simpa using H.out.bk.oF.1
    have hhl : hv.length = n := by simpa using H.out.bk.oH.1
    have F6 := hid (H.out.fs.snoc hfl (w' := w5.setCell ⟨b, 5, none⟩ (.slice (some ⟨g5, 0, none⟩) (n + 1) cap5)) (R2 := fun x => R x ∨ x = g6) (l := .slice al nl cl) (zs := zs) T6.out (fun x hx q => q.elim id (fun e => absurd hx.lt (by have := hG6.out; omega))) hz (by
      rcases Hl.out with ⟨e1, e2, e3⟩ | ⟨g, e1, hB', hnX, hBg⟩
      · left
        have := Hnl.out
        rw [e2] at this
        refine ⟨?_, e2⟩
        rw [e1, e3, ← this]
        rfl
      · right
        refine ⟨g, ⟨cl, by rw [e1, Hnl.out], by rw [Hnl.out]; exact hB'⟩, fun hR => hnX (H.out.xx g (.inr (.inr (.inr (.inr (.inr (.inr (.inl hR)))))))), hBg, fun i hi e => hnX (H.out.xx g (.inr (.inr (.inr (.inr (.inr (.inr (.inr ⟨i, hi, e⟩)))))))) ⟩))
    have D6 : Hid (∀ i, i < n + 1 → Sl (fun x => R x ∨ x = g6) (w5.setCell ⟨b, 5, none⟩ (.slice (some ⟨g5, 0, none⟩) (n + 1) cap5)) ((hv ++ [Value.slice (some ⟨g6, 0, none⟩) nl cap6]).getD i (.bool false)) (upd Z n zs i)) := fun i hi => by
      by_cases e : i < n
      · rw [snoc_lt hhl e, show upd Z n zs i = Z i from by unfold upd; rw [if_neg (by omega)]]
        exact ((H.out.hd i e).keep (fun g hg => T6.out g (H.out.bk.rT g hg))).mono (fun _ q => .inl q)
      · obtain rfl : i = n := by omega
        rw [snoc_at hhl, upd_at]
        exact S7.out
    have J7 : Hid (BkI B (fun x => R x ∨ x = g6) (w5.setCell ⟨b, 5, none⟩ (.slice (some ⟨g5, 0, none⟩) (n + 1) cap5)) b ((cnt + 1 : Nat) : Int) ((tot + nl : Nat) : Int) (.slice (some ⟨g3, 0, none⟩) (n + 1) cap3) (.slice (some ⟨g4, 0, none⟩) (n + 1) cap4) (.slice (some ⟨g5, 0, none⟩) (n + 1) cap5) ke wa (n + 1) (n + 1) (n + 1) (fv ++ [.slice al nl cl]) (hv ++ [.slice (some ⟨g6, 0, none⟩) nl cap6]) ((ms ++ [mark + 31 * ((cnt : Int) + 1)]).map (Value.int .i64)) nK nK kv wv K) := by
      show BkI _ _ _ _ _ _ _ _ _ _ _ _ _ _ _ _ _ _ _ _ _ _
      rw [show ((cnt + 1 : Nat) : Int) = (cnt : Int) + 1 from by omega, show ((tot + nl : Nat) : Int) = (tot : Int) + (nl : Int) from by omega, List.map_append]
      exact J6
    clear J6 kT6 kB HO5 HG5 c5'' f5'' J4 S6 S7 U3 T3 HJ3 ka5 c5' c0' ew1 ew2 hhl
    generalize hwC : w5.setCell ⟨b, 5, none⟩ (.slice (some ⟨g5, 0, none⟩) (n + 1) cap5) = wC at *
    clear hwC
    have hC : B ≤ wC.heap.size := Nat.le_trans hB U6.out.size
    have hnX : Hid (∀ x, (∃ j, j < n + 1 ∧ ((fv ++ [Value.slice al nl cl]).getD j (.bool false)).ownBlock = some x) → X x ∨ (Value.slice al nl cl).ownBlock = some x) := fun x q => (own_snoc hfl q).imp (fun q => H.out.xx x (.inr (.inr (.inr (.inr (.inr (.inr (.inr q)))))))) id
    have hms' : ∀ i, i < n + 1 → 0 ≤ (ms ++ [mark + 31 * ((cnt : Int) + 1)]).getD i 0 ∧ (ms ++ [mark + 31 * ((cnt : Int) + 1)]).getD i 0 ≤ 536870912 := fun i hi => by
      have hl := H.out.hml
      by_cases e : i < n
      · rw [List.getD_eq_getElem?_getD, List.getElem?_append_left (by omega), ← List.getD_eq_getElem?_getD]
        exact H.out.hms i e
      · obtain rfl : i = n := by omega
        rw [List.getD_eq_getElem?_getD, List.getElem?_append_right (by omega), hl, Nat.sub_self]
        simp
        omega
    have hZ' : ∀ i, i < n + 1 → (upd Z n zs i).length ≤ 268435456 := fun i hi => by
      by_cases e : i < n
      · rw [show upd Z n zs i = Z i from by unfold upd; rw [if_neg (by omega)]]
        exact H.out.hZ i e
      · obtain rfl : i = n := by omega
        rw [upd_at, Hnl.out]
        omega
    have hml' : (ms ++ [mark + 31 * ((cnt : Int) + 1)]).length = n + 1 := by rw [List.length_append, H.out.hml]; rfl
    have HWr := hid (write_any B _ b _ (tot + nl) _ _ _ ke wa (n + 1) _ _ _ nK kv wv K _ wC (by omega) hnK hC ht hZ' hms' hml' J7.out F6.out D6.out)
    have FinN : Hid (n + 1 ≤ 2 → Bok B (fun x => X x ∨ (Value.slice al nl cl).ownBlock = some x ∨ w.heap.size ≤ x) wC b (cnt + 1) (tot + nl) nK) := fun h2 => by
      refine ⟨_, _, _, _, _, _, n + 1, _, _, _, _, _, _, _, ⟨h2, hml', hms', hZ', J7.out, F6.out, D6.out, fun x q => ?_⟩⟩
      have s2 := hs2.out
      have sB := hsB.out
      rcases q with q | q | q | q | q | q | q | q
      · exact .inl (H.out.xx x (.inl q))
      · cases q
        rcases L3.out with q | q
        · exact .inl (H.out.xx g3 (.inr (.inl q)))
        · exact .inr (.inr (by show _ ≤ g3; omega))
      · cases q
        rcases L4.out with q | q
        · exact .inl (H.out.xx g4 (.inr (.inr (.inl q))))
        · exact .inr (.inr (by show _ ≤ g4; omega))
      · cases q
        rcases L5.out with q | q
        · exact .inl (H.out.xx g5 (.inr (.inr (.inr (.inl q)))))
        · exact .inr (.inr (by show _ ≤ g5; omega))
      · exact .inl (H.out.xx x (.inr (.inr (.inr (.inr (.inl q))))))
      · exact .inl (H.out.xx x (.inr (.inr (.inr (.inr (.inr (.inl q)))))))
      · rcases q with q | q
        · exact .inl (H.out.xx x (.inr (.inr (.inr (.inr (.inr (.inr (.inl q))))))))
        · exact .inr (.inr (by rw [q]; exact hG6.out))
      · exact (hnX.out x q).imp id .inl
    have FinW : Hid (∀ (w' : World) (R' : Nat → Prop) (ke' wa' : Value) (nK' : Nat) (kv' wv' : List Value) (K' : Nat → List Int), BkI B R' w' b ((cnt + 1 : Nat) : Int) ((tot + nl : Nat) : Int) (.slice none 0 0) (.slice none 0 0) (.slice none 0 0) ke' wa' 0 0 0 [] [] [] nK' nK' kv' wv' K' →
        Wf (WX b ke wa (n + 1) (fv ++ [.slice al nl cl])) (fun x => R x ∨ x = g6) ke wa wC w' R' ke' wa' (.slice none 0 0) → Bok B (fun x => X x ∨ (Value.slice al nl cl).ownBlock = some x ∨ w.heap.size ≤ x) w' b (cnt + 1) (tot + nl) nK' ∧ But (fun x => X x ∨ (Value.slice al nl cl).ownBlock = some x) w w') := fun w' R' ke' wa' nK' kv' wv' K' hI hW => by
      have sC := U6.out.size
      have hWX : ∀ x, WX b ke wa (n + 1) (fv ++ [.slice al nl cl]) x → X x ∨ (Value.slice al nl cl).ownBlock = some x := fun x q => by
        rcases q with q | q | q | q
        · exact .inl (H.out.xx x (.inl q))
        · exact .inl (H.out.xx x (.inr (.inr (.inr (.inr (.inl q))))))
        · exact .inl (H.out.xx x (.inr (.inr (.inr (.inr (.inr (.inl q)))))))
        · exact hnX.out x q
      refine ⟨⟨R', _, _, _, ke', wa', 0, [], [], [], kv', wv', K', Z, ⟨by omega, rfl, (fun i h => by omega), (fun i h => by omega), hI, ⟨fun i h => by omega, fun i j g h => by omega⟩, (fun i h => by omega), fun x q => ?_⟩⟩, U6.out.step hW.but (fun x _ q => hWX x q)⟩
      rcases q with q | q | q | q | q | q | q | q
      · exact .inl (H.out.xx x (.inl q))
      · cases q
      · cases q
      · cases q
      · rcases hW.kk x q with q | q
        · exact .inl (H.out.xx x (.inr (.inr (.inr (.inr (.inl q))))))
        · exact .inr (.inr (by omega))
      · rcases hW.ww x q with q | q
        · exact .inl (H.out.xx x (.inr (.inr (.inr (.inr (.inr (.inl q)))))))
        · exact .inr (.inr (by omega))
      · rcases hW.rr x q with q | q | q
        · rcases q with q | q
          · exact .inl (H.out.xx x (.inr (.inr (.inr (.inr (.inr (.inr (.inl q))))))))
          · exact .inr (.inr (by rw [q]; exact hG6.out))
        · exact (hWX x q).imp id .inl
        · exact .inr (.inr (by omega))
      · obtain ⟨j, hj, _⟩ := q
        omega
    have c3' := J7.out.blk.cell 3
    have c0' := J7.out.blk.cell 0
    simp only [List.getElem?_toArray, List.getElem?_cons_succ, List.getElem?_cons_zero] at c3' c0'
    clear hms' hZ' hml' D6 F6 J7 T6 hnX H Hl L3 L4 L5 hG6 hs2 hsB
    go_wp2_with fail
  all_goals first
    | (go_at_call 85
       refine Calls.mono HWr.out ?_
       rintro e w' ⟨rfl, R', ke', wa', nK', kv', wv', K', hI, hn', hW⟩
       have HFin := hid (FinW.out w' R' ke' wa' nK' kv' wv' K' hI hW)
       clear hI hW FinW FinN HWr
       go_wp2
       go_end0
       exact ⟨rfl, nK', by omega, HFin.out.1, HFin.out.2⟩)
    | (go_end0
       exact ⟨rfl, nK, by omega, FinN.out (by omega), U6.out⟩)
end Go.Proofs.YthkkdmblkalknaaGreatDoor.bk
/-
  settle.
-/
namespace Go.Proofs.YthkkdmblkalknaaGreatDoor.bk
open Go.RowKit

/-- Own of nothing -/
theorem OwnNil (B : Nat) (X : Nat → Prop) (w : World) (b cnt tot nK : Nat) (mark : Int) (hB : B ≤ w.heap.size) (hnK : nK ≤ 67108864) (hc : cnt ≤ 8388608) (ht : tot ≤ 1073741754) (hm0 : 0 ≤ mark) (hm1 : mark ≤ 268435456) (h : Bok B X w b cnt tot nK) :
    Calls Tryz.prog 53 #[.pointer (some ⟨b, 0, none⟩), .slice none 0 0, .int .i64 mark] w fun e w' => e = .returned (.tuple #[]) ∧ ∃ nK', nK' ≤ nK + 15 ∧
      Bok B (fun x => X x ∨ w.heap.size ≤ x) w' b (cnt + 1) tot nK' ∧ But X w w' := by
  refine Calls.mono (Own_any B X w b cnt tot nK none 0 [] mark hB hnK hc ht (by decide) hm0 hm1 h Pl.isB_nil (.inl ⟨rfl, rfl, rfl⟩)) ?_
  rintro e w' ⟨rfl, nK', hn, h1, h2⟩
  refine ⟨rfl, nK', hn, h1.mono (fun x q => ?_), h2.mono (fun x _ q => ?_)⟩
  · rcases q with q | q | q
    · exact .inl q
    · cases q
    · exact .inr q
  · rcases q with q | q
    · exact q
    · cases q
end Go.Proofs.YthkkdmblkalknaaGreatDoor.bk
/-
  THE BOOK: a new one.
-/
namespace Go.Proofs.YthkkdmblkalknaaGreatDoor.bk
open Go.RowKit

theorem Bok.new {w : World} {b B : Nat} (h : w.heap[b]? = some (.cells #[.int .i64 0, .int .i64 0, .bool false, .slice none 0 0, .slice none 0 0, .slice none 0 0, .slice none 0 0, .slice none 0 0] 56 (0, 0))) (hB : B ≤ b) : Bok B (fun x => x = b) w b 0 0 0 := by
  refine ⟨fun _ => False, .slice none 0 0, .slice none 0 0, .slice none 0 0, .slice none 0 0, .slice none 0 0, 0, [], [], [], [], [], fun _ => [], fun _ => [], ⟨by omega, rfl, (fun i h => by omega), (fun i h => by omega), ⟨h, hB, World.ownsRow_nil _ _ _ _, World.ownsRow_nil _ _ _ _, World.ownsRow_nil _ _ _ _, ⟨World.ownsRow_nil _ _ _ _, fun i h => by omega⟩, ⟨World.ownsRow_nil _ _ _ _, fun i h => by omega⟩, dj_nil _, dj_nil _, dj_nil _, dj_nil _, dj_nil _, dj_nil _, fun g h => h.elim⟩,
    ⟨fun i h => by omega, fun i j g h => by omega⟩, (fun i h => by omega), fun x q => ?_⟩⟩
  rcases q with q | q | q | q | q | q | q | q
  · exact q
  · cases q
  · cases q
  · cases q
  · cases q
  · cases q
  · exact q.elim
  · obtain ⟨j, hj, _⟩ := q
    omega
end Go.Proofs.YthkkdmblkalknaaGreatDoor.bk
