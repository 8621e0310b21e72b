/-
  THE BOOK: Own, Holds.
-/
import Derived.Test.YteaebdonnicbkaaBk4
namespace Go.Proofs.Yteaebdonnicbkaa
open Go.RowKit

theorem BkI.stepF {B : Nat} {R : Nat → Prop} {w w1 : World} {b : Nat} {cnt tot : Int} {fr he ma ke wa : Value} {nF nH nM : Nat} {fv hv mv : List Value} {nK nW : Nat} {kv wv : List Value} {K : Nat → List Int}
    (h : BkI B R w b cnt tot fr he ma ke wa nF nH nM fv hv mv nK nW kv wv K) {g cap : Nat} {l : Value}
    (hg : w.grownBy w1 fr.ownBlock) (ho : w1.ownsRow B 22 1 (.slice (some ⟨g, 0, none⟩) (nF + 1) cap) (nF + 1) (fv ++ [l])) (hlie : fr.ownBlock = some g ∨ g = w.heap.size) :
    BkI B R (w1.setCell ⟨b, 3, none⟩ (.slice (some ⟨g, 0, none⟩) (nF + 1) cap)) b cnt tot (.slice (some ⟨g, 0, none⟩) (nF + 1) cap) he ma ke wa (nF + 1) nH nM (fv ++ [l]) hv mv nK nW kv wv K ∧ (∀ x, T5 w x → (w1.setCell ⟨b, 3, none⟩ (.slice (some ⟨g, 0, none⟩) (nF + 1) cap)).heap[x]? = w.heap[x]?) := by
  have nb := h.blk.ne_row h.oF (by decide)
  have blk1 := h.blk.of_block (w' := w1) (hg.block b h.blk.lt (fun e => nb e.symm))
  have kT : ∀ x, T5 w x → (w1.setCell ⟨b, 3, none⟩ (.slice (some ⟨g, 0, none⟩) (nF + 1) cap)).heap[x]? = w.heap[x]? := fun x hx => by
    rw [Below.heap_setCell _ _ _ _ (h.blk.ne_t5 hx)]; exact hg.block x hx.lt (fun e => hx.ne_row h.oF (by decide) e.symm)
  have o2 := owns_keep (w' := w1) h.oH (fun x hx => hg.block x (World.ownsRow.lt h.oH x hx).2 (fun e => h.dFH x e.symm hx))
  have o3 := owns_keep (w' := w1) h.oM (fun x hx => hg.block x (World.ownsRow.lt h.oM x hx).2 (fun e => dj_type h.oM h.oF (by decide) x hx e.symm))
  have o4 := owns_keep (w' := w1) h.rK.own (fun x hx => hg.block x (World.ownsRow.lt h.rK.own x hx).2 (fun e => h.dFK x e.symm hx))
  have o5 := owns_keep (w' := w1) h.rW.own (fun x hx => hg.block x (World.ownsRow.lt h.rW.own x hx).2 (fun e => h.dFW x e.symm hx))
  exact ⟨⟨blk1.set 3 _, h.bB, owns_setCell ho (blk1.ne_row ho (by decide)) _, owns_setCell o2 (blk1.ne_row o2 (by decide)) _, owns_setCell o3 (blk1.ne_row o3 (by decide)) _,
    h.rK.keep (owns_setCell o4 (blk1.ne_row o4 (by decide)) _) (fun x hx => kT x (h.rT x hx)), h.rW.keep (owns_setCell o5 (blk1.ne_row o5 (by decide)) _) (fun x hx => kT x (h.rT x hx)), dj_new h.dFH h.oH hlie, dj_new h.dFK h.rK.own hlie, dj_new h.dFW h.rW.own hlie, h.dHK, h.dHW, h.dKW,
    fun x hx => (h.rT x hx).keep (kT x (h.rT x hx))⟩, kT⟩
theorem BkI.stepH {B : Nat} {R : Nat → Prop} {w w1 : World} {b : Nat} {cnt tot : Int} {fr he ma ke wa : Value} {nF nH nM : Nat} {fv hv mv : List Value} {nK nW : Nat} {kv wv : List Value} {K : Nat → List Int}
    (h : BkI B R w b cnt tot fr he ma ke wa nF nH nM fv hv mv nK nW kv wv K) {g cap : Nat} {l : Value}
    (hg : w.grownBy w1 he.ownBlock) (ho : w1.ownsRow B 22 1 (.slice (some ⟨g, 0, none⟩) (nH + 1) cap) (nH + 1) (hv ++ [l])) (hlie : he.ownBlock = some g ∨ g = w.heap.size) :
    BkI B R (w1.setCell ⟨b, 4, none⟩ (.slice (some ⟨g, 0, none⟩) (nH + 1) cap)) b cnt tot fr (.slice (some ⟨g, 0, none⟩) (nH + 1) cap) ma ke wa nF (nH + 1) nM fv (hv ++ [l]) mv nK nW kv wv K ∧ (∀ x, T5 w x → (w1.setCell ⟨b, 4, none⟩ (.slice (some ⟨g, 0, none⟩) (nH + 1) cap)).heap[x]? = w.heap[x]?) := by
  have nb := h.blk.ne_row h.oH (by decide)
  have blk1 := h.blk.of_block (w' := w1) (hg.block b h.blk.lt (fun e => nb e.symm))
  have kT : ∀ x, T5 w x → (w1.setCell ⟨b, 4, none⟩ (.slice (some ⟨g, 0, none⟩) (nH + 1) cap)).heap[x]? = w.heap[x]? := fun x hx => by
    rw [Below.heap_setCell _ _ _ _ (h.blk.ne_t5 hx)]; exact hg.block x hx.lt (fun e => hx.ne_row h.oH (by decide) e.symm)
  have o2 := owns_keep (w' := w1) h.oF (fun x hx => hg.block x (World.ownsRow.lt h.oF x hx).2 (fun e => h.dFH x hx e.symm))
  have o3 := owns_keep (w' := w1) h.oM (fun x hx => hg.block x (World.ownsRow.lt h.oM x hx).2 (fun e => dj_type h.oM h.oH (by decide) x hx e.symm))
  have o4 := owns_keep (w' := w1) h.rK.own (fun x hx => hg.block x (World.ownsRow.lt h.rK.own x hx).2 (fun e => h.dHK x e.symm hx))
  have o5 := owns_keep (w' := w1) h.rW.own (fun x hx => hg.block x (World.ownsRow.lt h.rW.own x hx).2 (fun e => h.dHW x e.symm hx))
  exact ⟨⟨blk1.set 4 _, h.bB, owns_setCell o2 (blk1.ne_row o2 (by decide)) _, owns_setCell ho (blk1.ne_row ho (by decide)) _, owns_setCell o3 (blk1.ne_row o3 (by decide)) _,
    h.rK.keep (owns_setCell o4 (blk1.ne_row o4 (by decide)) _) (fun x hx => kT x (h.rT x hx)), h.rW.keep (owns_setCell o5 (blk1.ne_row o5 (by decide)) _) (fun x hx => kT x (h.rT x hx)), dj_symm (dj_new (dj_symm h.dFH) h.oF hlie), h.dFK, h.dFW, dj_new h.dHK h.rK.own hlie, dj_new h.dHW h.rW.own hlie, h.dKW,
    fun x hx => (h.rT x hx).keep (kT x (h.rT x hx))⟩, kT⟩
theorem BkI.stepM {B : Nat} {R : Nat → Prop} {w w1 : World} {b : Nat} {cnt tot : Int} {fr he ma ke wa : Value} {nF nH nM : Nat} {fv hv mv : List Value} {nK nW : Nat} {kv wv : List Value} {K : Nat → List Int}
    (h : BkI B R w b cnt tot fr he ma ke wa nF nH nM fv hv mv nK nW kv wv K) {g cap : Nat} {l : Value}
    (hg : w.grownBy w1 ma.ownBlock) (ho : w1.ownsRow B 3 1 (.slice (some ⟨g, 0, none⟩) (nM + 1) cap) (nM + 1) (mv ++ [l])) :
    BkI B R (w1.setCell ⟨b, 5, none⟩ (.slice (some ⟨g, 0, none⟩) (nM + 1) cap)) b cnt tot fr he (.slice (some ⟨g, 0, none⟩) (nM + 1) cap) ke wa nF nH (nM + 1) fv hv (mv ++ [l]) nK nW kv wv K ∧ (∀ x, T5 w x → (w1.setCell ⟨b, 5, none⟩ (.slice (some ⟨g, 0, none⟩) (nM + 1) cap)).heap[x]? = w.heap[x]?) := by
  have nb := h.blk.ne_row h.oM (by decide)
  have blk1 := h.blk.of_block (w' := w1) (hg.block b h.blk.lt (fun e => nb e.symm))
  have kT : ∀ x, T5 w x → (w1.setCell ⟨b, 5, none⟩ (.slice (some ⟨g, 0, none⟩) (nM + 1) cap)).heap[x]? = w.heap[x]? := fun x hx => by
    rw [Below.heap_setCell _ _ _ _ (h.blk.ne_t5 hx)]; exact hg.block x hx.lt (fun e => hx.ne_row h.oM (by decide) e.symm)
  have o1 := owns_keep (w' := w1) h.oF (fun x hx => hg.block x (World.ownsRow.lt h.oF x hx).2 (fun e => dj_type h.oF h.oM (by decide) x hx e.symm))
  have o2 := owns_keep (w' := w1) h.oH (fun x hx => hg.block x (World.ownsRow.lt h.oH x hx).2 (fun e => dj_type h.oH h.oM (by decide) x hx e.symm))
  have o4 := owns_keep (w' := w1) h.rK.own (fun x hx => hg.block x (World.ownsRow.lt h.rK.own x hx).2 (fun e => dj_type h.rK.own h.oM (by decide) x hx e.symm))
  have o5 := owns_keep (w' := w1) h.rW.own (fun x hx => hg.block x (World.ownsRow.lt h.rW.own x hx).2 (fun e => dj_type h.rW.own h.oM (by decide) x hx e.symm))
  exact ⟨⟨blk1.set 5 _, h.bB, owns_setCell o1 (blk1.ne_row o1 (by decide)) _, owns_setCell o2 (blk1.ne_row o2 (by decide)) _, owns_setCell ho (blk1.ne_row ho (by decide)) _,
    h.rK.keep (owns_setCell o4 (blk1.ne_row o4 (by decide)) _) (fun x hx => kT x (h.rT x hx)), h.rW.keep (owns_setCell o5 (blk1.ne_row o5 (by decide)) _) (fun x hx => kT x (h.rT x hx)), h.dFH, h.dFK, h.dFW, h.dHK, h.dHW, h.dKW,
    fun x hx => (h.rT x hx).keep (kT x (h.rT x hx))⟩, kT⟩
theorem BkI.setC {B : Nat} {R : Nat → Prop} {w : World} {b : Nat} {cnt tot : Int} {fr he ma ke wa : Value} {nF nH nM : Nat} {fv hv mv : List Value} {nK nW : Nat} {kv wv : List Value} {K : Nat → List Int}
    (h : BkI B R w b cnt tot fr he ma ke wa nF nH nM fv hv mv nK nW kv wv K) (c : Int) : BkI B R (w.setCell ⟨b, 0, none⟩ (.int .i64 c)) b c tot fr he ma ke wa nF nH nM fv hv mv nK nW kv wv K := by
  have kR : ∀ g, R g → (w.setCell ⟨b, 0, none⟩ (.int .i64 c)).heap[g]? = w.heap[g]? := fun g hg => Below.heap_setCell _ _ _ _ (h.blk.ne_t5 (h.rT g hg))
  exact ⟨h.blk.set 0 _, h.bB, owns_setCell h.oF (h.blk.ne_row h.oF (by decide)) _, owns_setCell h.oH (h.blk.ne_row h.oH (by decide)) _, owns_setCell h.oM (h.blk.ne_row h.oM (by decide)) _, h.rK.keep (owns_setCell h.rK.own (h.blk.ne_row h.rK.own (by decide)) _) kR, h.rW.keep (owns_setCell h.rW.own (h.blk.ne_row h.rW.own (by decide)) _) kR,
    h.dFH, h.dFK, h.dFW, h.dHK, h.dHW, h.dKW, fun g hg => (h.rT g hg).keep (kR g hg)⟩
theorem BkI.setT {B : Nat} {R : Nat → Prop} {w : World} {b : Nat} {cnt tot : Int} {fr he ma ke wa : Value} {nF nH nM : Nat} {fv hv mv : List Value} {nK nW : Nat} {kv wv : List Value} {K : Nat → List Int}
    (h : BkI B R w b cnt tot fr he ma ke wa nF nH nM fv hv mv nK nW kv wv K) (c : Int) : BkI B R (w.setCell ⟨b, 1, none⟩ (.int .i64 c)) b cnt c fr he ma ke wa nF nH nM fv hv mv nK nW kv wv K := by
  have kR : ∀ g, R g → (w.setCell ⟨b, 1, none⟩ (.int .i64 c)).heap[g]? = w.heap[g]? := fun g hg => Below.heap_setCell _ _ _ _ (h.blk.ne_t5 (h.rT g hg))
  exact ⟨h.blk.set 1 _, h.bB, owns_setCell h.oF (h.blk.ne_row h.oF (by decide)) _, owns_setCell h.oH (h.blk.ne_row h.oH (by decide)) _, owns_setCell h.oM (h.blk.ne_row h.oM (by decide)) _, h.rK.keep (owns_setCell h.rK.own (h.blk.ne_row h.rK.own (by decide)) _) kR, h.rW.keep (owns_setCell h.rW.own (h.blk.ne_row h.rW.own (by decide)) _) kR,
    h.dFH, h.dFK, h.dFW, h.dHK, h.dHW, h.dKW, fun g hg => (h.rT g hg).keep (kR g hg)⟩

/-- the book between two calls; X: blocks among which its own ones are -/
structure Bok1 (B : Nat) (X : Nat → Prop) (w : World) (b cnt tot nK : Nat) (R : Nat → Prop) (fr he ma ke wa : Value) (n : Nat) (fv hv : List Value) (ms : List Int) (kv wv : List Value) (K Z : Nat → List Int) : Prop where
  hn : n ≤ 2
  hml : ms.length = n
  hms : ∀ i, i < n → 0 ≤ ms.getD i 0 ∧ ms.getD i 0 ≤ 536870912
  hZ : ∀ i, i < n → (Z i).length ≤ 67108864
  bk : BkI B R w b cnt tot fr he ma ke wa n n n fv hv (ms.map (Value.int .i64)) nK nK kv wv K
  fs : Fsh B R w n fv Z
  hd : ∀ i, i < n → Sl R w (hv.getD i (.bool false)) (Z i)
  xx : ∀ x, (x = b ∨ fr.ownBlock = some x ∨ he.ownBlock = some x ∨ ma.ownBlock = some x ∨ ke.ownBlock = some x ∨ wa.ownBlock = some x ∨ R x ∨ ∃ j, j < n ∧ (fv.getD j (.bool false)).ownBlock = some x) → X x
def Bok (B : Nat) (X : Nat → Prop) (w : World) (b cnt tot nK : Nat) : Prop := ∃ R fr he ma ke wa n fv hv ms kv wv K Z, Bok1 B X w b cnt tot nK R fr he ma ke wa n fv hv ms kv wv K Z

theorem Bok1.keep {B : Nat} {X : Nat → Prop} {w : World} {b cnt tot nK : Nat} {R : Nat → Prop} {fr he ma ke wa : Value} {n : Nat} {fv hv : List Value} {ms : List Int} {kv wv : List Value} {K Z : Nat → List Int} (h : Bok1 B X w b cnt tot nK R fr he ma ke wa n fv hv ms kv wv K Z) {w' : World} (hk : ∀ x, x < w.heap.size → X x → w'.heap[x]? = w.heap[x]?) : Bok1 B X w' b cnt tot nK R fr he ma ke wa n fv hv ms kv wv K Z := by
  have nR : ∀ g, R g → w'.heap[g]? = w.heap[g]? := fun g hg => hk g (h.bk.rT g hg).lt (h.xx g (.inr (.inr (.inr (.inr (.inr (.inr (.inl hg))))))))
  refine ⟨h.hn, h.hml, h.hms, h.hZ, h.bk.keep (fun g hg => hk g (h.bk.there hg) (h.xx g ?_)), h.fs.keep (fun i g hi hg => hk g (h.fs.own hi hg).1.lt (h.xx g (.inr (.inr (.inr (.inr (.inr (.inr (.inr ⟨i, hi, hg⟩))))))))), fun i hi => (h.hd i hi).keep nR, h.xx⟩
  rcases hg with q | q | q | q | q | q | q
  · exact .inl q
  · exact .inr (.inl q)
  · exact .inr (.inr (.inl q))
  · exact .inr (.inr (.inr (.inl q)))
  · exact .inr (.inr (.inr (.inr (.inl q))))
  · exact .inr (.inr (.inr (.inr (.inr (.inl q)))))
  · exact .inr (.inr (.inr (.inr (.inr (.inr (.inl q))))))
theorem Bok.but {B : Nat} {X Y : Nat → Prop} {w w' : World} {b cnt tot nK : Nat} (h : Bok B X w b cnt tot nK) (hb : But Y w w') (hXY : ∀ x, x < w.heap.size → X x → ¬ Y x) : Bok B X w' b cnt tot nK := by
  obtain ⟨R, fr, he, ma, ke, wa, n, fv, hv, ms, kv, wv, K, Z, h⟩ := h
  exact ⟨R, fr, he, ma, ke, wa, n, fv, hv, ms, kv, wv, K, Z, h.keep (fun x hx hX => hb.block x hx (hXY x hx hX))⟩
theorem Bok.mono {B : Nat} {X Y : Nat → Prop} {w : World} {b cnt tot nK : Nat} (h : Bok B X w b cnt tot nK) (hXY : ∀ x, X x → Y x) : Bok B Y w b cnt tot nK := by
  obtain ⟨R, fr, he, ma, ke, wa, n, fv, hv, ms, kv, wv, K, Z, h⟩ := h
  exact ⟨R, fr, he, ma, ke, wa, n, fv, hv, ms, kv, wv, K, Z, ⟨h.hn, h.hml, h.hms, h.hZ, h.bk, h.fs, h.hd, fun x hx => hXY x (h.xx x hx)⟩⟩

set_option maxRecDepth 100000 in
set_option maxHeartbeats 2000000 in
theorem Holds_any (B : Nat) (X : Nat → Prop) (w : World) (b cnt tot nK : Nat) (hnK : nK ≤ 134217728) (h : Bok B X w b cnt tot nK) :
    Calls Try.prog 45 #[.pointer (some ⟨b, 0, none⟩)] w fun e w' => e = .returned (.bool true) ∧ Bok B X w' b cnt tot nK ∧ But X w w' := by
  obtain ⟨R, fr, he, ma, ke, wa, n, fv, hv, ms, kv, wv, K, Z, h⟩ := h
  have HU := hid (untouched_any (RF R n fv) B b cnt tot fr he ma ke wa n fv hv Z w (by have := h.hn; omega) h.bk.blk ⟨h.bk.oF, h.fs.sl⟩ ⟨h.bk.oH, fun i hi => (h.hd i hi).mono (fun g hg => .inl hg)⟩ (h.fs.t5 h.bk.rT))
  have H := hid h
  clear h
  go_enter Try.func45, Try.ntmps45
  go_wp2_with fail
  refine Calls.mono HU.out ?_
  rintro e w1 ⟨rfl, hb1, hk1⟩
  have nR : ∀ x, T5 w x → w1.heap[x]? = w.heap[x]? := fun x hx => hb1.block x hx.lt (fun e => H.out.bk.blk.ne_t5 hx e)
  have nO : ∀ {e s m : Nat} {v : Value} {xs : List Value}, w.ownsRow B e s v m xs → e ≠ 55 → w1.ownsRow B e s v m xs := fun hr he => owns_keep hr (fun g hg => hb1.block g (World.ownsRow.lt hr g hg).2 (fun e => H.out.bk.blk.ne_row hr he (by rw [← e]; exact hg)))
  have h := H.out
  have h1 : Bok1 B X w1 b cnt tot nK R fr he ma ke wa n fv hv ms kv wv K Z :=
    ⟨h.hn, h.hml, h.hms, h.hZ, ⟨hk1, h.bk.bB, nO h.bk.oF (by decide), nO h.bk.oH (by decide), nO h.bk.oM (by decide), h.bk.rK.keep (nO h.bk.rK.own (by decide)) (fun g hg => nR g (h.bk.rT g hg)), h.bk.rW.keep (nO h.bk.rW.own (by decide)) (fun g hg => nR g (h.bk.rT g hg)), h.bk.dFH, h.bk.dFK, h.bk.dFW, h.bk.dHK, h.bk.dHW, h.bk.dKW, fun g hg => (h.bk.rT g hg).keep (nR g (h.bk.rT g hg))⟩,
      h.fs.keep (fun i g hi hg => nR g (T5.blk (h.fs.own hi hg).1)), fun i hi => (h.hd i hi).keep (fun g hg => nR g (h.bk.rT g hg)), h.xx⟩
  have HB1 := hid (hb1.mono (Y := X) (fun k _ e => h.xx k (.inl e)))
  have H1 := hid h1
  have HS := hid (same_any R B b cnt tot false fr he ma ke wa nK kv wv K w1 hnK h1.bk.blk h1.bk.rK h1.bk.rW h1.bk.rT)
  have c2 := h1.bk.blk.cell 2
  simp only [List.getElem?_toArray, List.getElem?_cons_succ, List.getElem?_cons_zero] at c2
  clear h h1 hb1 hk1 nR nO H HU
  go_wp2_with fail
  refine Calls.mono HS.out ?_
  rintro e w2 ⟨rfl, hb2⟩
  have H2 := hid (H1.out.keep (w' := w2) (fun x hx _ => hb2.block x hx (fun q => q)))
  have HB2 := hid (HB1.out.step hb2 (fun _ _ q => q.elim))
  clear HS hb2 c2
  go_wp2
  go_ret
  exact ⟨rfl, ⟨_, _, _, _, _, _, _, _, _, _, _, _, _, _, H2.out⟩, HB2.out⟩

end Go.Proofs.Yteaebdonnicbkaa
