import Derived.Test.YthkkdmblkalknaaGreatDoorD02
import Derived.ArgAppend
import Derived.OwnWalk
/-
  THE BOOK: its rows; keep.
-/
namespace Go.Proofs.YthkkdmblkalknaaGreatDoor.bk
open Go.RowKit

theorem info22 : (Tryz.prog.info? 23).map (fun i => (i.zero, i.size, i.bytes)) = some (some (.slice none 0 0), 1, 24) := by kernel_rfl
/-- the book: its block, its rows, what is kept -/
structure BkI (B : Nat) (R : Nat → Prop) (w : World) (b : Nat) (cnt tot : Int) (fr he ma ke wa : Value) (nF nH nM : Nat) (fv hv mv : List Value) (nK nW : Nat) (kv wv : List Value) (K : Nat → List Int) : Prop where
  blk : Bkb w b cnt tot false fr he ma ke wa
  bB : B ≤ b
  oF : w.ownsRow B 23 1 fr nF fv
  oH : w.ownsRow B 23 1 he nH hv
  oM : w.ownsRow B 3 1 ma nM mv
  rK : RS R B w ke nK kv K
  rW : RS R B w wa nW wv K
  dFH : Dj fr he
  dFK : Dj fr ke
  dFW : Dj fr wa
  dHK : Dj he ke
  dHW : Dj he wa
  dKW : Dj ke wa
  rT : ∀ g, R g → T5 w g
/-- rows of different types share no block -/
theorem dj_type {w : World} {B e e' s s' n n' : Nat} {v u : Value} {xs ys : List Value} (h : w.ownsRow B e s v n xs) (h2 : w.ownsRow B e' s' u n' ys) (hne : e ≠ e') : Dj v u := by
  intro g hv hu
  rcases h.2 with ⟨q, _⟩ | ⟨g1, _, cur, q, _, hh, _⟩
  · rw [q] at hv; cases hv
  · rcases h2.2 with ⟨q', _⟩ | ⟨g2, _, cur', q', _, hh', _⟩
    · rw [q'] at hu; cases hu
    · rw [q] at hv
      rw [q'] at hu
      cases hv
      cases hu
      rw [hh] at hh'
      simp at hh'
      exact hne hh'.2
/-- nothing of the book's turns -/
theorem BkI.keep {B : Nat} {R : Nat → Prop} {w w' : World} {b : Nat} {cnt tot : Int} {fr he ma ke wa : Value} {nF nH nM : Nat} {fv hv mv : List Value} {nK nW : Nat} {kv wv : List Value} {K : Nat → List Int}
    (h : BkI B R w b cnt tot fr he ma ke wa nF nH nM fv hv mv nK nW kv wv K) (hk : ∀ g, (g = b ∨ fr.ownBlock = some g ∨ he.ownBlock = some g ∨ ma.ownBlock = some g ∨ ke.ownBlock = some g ∨ wa.ownBlock = some g ∨ R g) → w'.heap[g]? = w.heap[g]?) :
    BkI B R w' b cnt tot fr he ma ke wa nF nH nM fv hv mv nK nW kv wv K :=
  ⟨h.blk.of_block (hk b (.inl rfl)), h.bB, owns_keep h.oF (fun g hg => hk g (.inr (.inl hg))), owns_keep h.oH (fun g hg => hk g (.inr (.inr (.inl hg)))), owns_keep h.oM (fun g hg => hk g (.inr (.inr (.inr (.inl hg))))),
    h.rK.keep (owns_keep h.rK.own (fun g hg => hk g (.inr (.inr (.inr (.inr (.inl hg))))))) (fun g hg => hk g (.inr (.inr (.inr (.inr (.inr (.inr hg))))))),
    h.rW.keep (owns_keep h.rW.own (fun g hg => hk g (.inr (.inr (.inr (.inr (.inr (.inl hg)))))))) (fun g hg => hk g (.inr (.inr (.inr (.inr (.inr (.inr hg))))))),
    h.dFH, h.dFK, h.dFW, h.dHK, h.dHW, h.dKW, fun g hg => (h.rT g hg).keep (hk g (.inr (.inr (.inr (.inr (.inr (.inr hg))))))) ⟩
/-- a book's block is there -/
theorem BkI.there {B : Nat} {R : Nat → Prop} {w : World} {b : Nat} {cnt tot : Int} {fr he ma ke wa : Value} {nF nH nM : Nat} {fv hv mv : List Value} {nK nW : Nat} {kv wv : List Value} {K : Nat → List Int}
    (h : BkI B R w b cnt tot fr he ma ke wa nF nH nM fv hv mv nK nW kv wv K) {g : Nat} (hg : g = b ∨ fr.ownBlock = some g ∨ he.ownBlock = some g ∨ ma.ownBlock = some g ∨ ke.ownBlock = some g ∨ wa.ownBlock = some g ∨ R g) : g < w.heap.size := by
  rcases hg with rfl | hg | hg | hg | hg | hg | hg
  · exact h.blk.lt
  · exact (World.ownsRow.lt h.oF g hg).2
  · exact (World.ownsRow.lt h.oH g hg).2
  · exact (World.ownsRow.lt h.oM g hg).2
  · exact (World.ownsRow.lt h.rK.own g hg).2
  · exact (World.ownsRow.lt h.rW.own g hg).2
  · exact (h.rT g hg).lt
theorem BkI.below {B : Nat} {R : Nat → Prop} {w w' : World} {b : Nat} {cnt tot : Int} {fr he ma ke wa : Value} {nF nH nM : Nat} {fv hv mv : List Value} {nK nW : Nat} {kv wv : List Value} {K : Nat → List Int}
    (h : BkI B R w b cnt tot fr he ma ke wa nF nH nM fv hv mv nK nW kv wv K) (hb : Below w.heap.size w w') : BkI B R w' b cnt tot fr he ma ke wa nF nH nM fv hv mv nK nW kv wv K :=
  h.keep fun g hg => hb.block g (h.there hg)
theorem BkI.more {B : Nat} {R R' : Nat → Prop} {w : World} {b : Nat} {cnt tot : Int} {fr he ma ke wa : Value} {nF nH nM : Nat} {fv hv mv : List Value} {nK nW : Nat} {kv wv : List Value} {K : Nat → List Int}
    (h : BkI B R w b cnt tot fr he ma ke wa nF nH nM fv hv mv nK nW kv wv K) (hr : ∀ g, R g → R' g) (hT : ∀ g, R' g → T5 w g) : BkI B R' w b cnt tot fr he ma ke wa nF nH nM fv hv mv nK nW kv wv K :=
  ⟨h.blk, h.bB, h.oF, h.oH, h.oM, ⟨h.rK.own, fun i hi => (h.rK.sl i hi).mono hr⟩, ⟨h.rW.own, fun i hi => (h.rW.sl i hi).mono hr⟩, h.dFH, h.dFK, h.dFW, h.dHK, h.dHW, h.dKW, hT⟩
/-- one slice more in a row -/
theorem rs_snoc {S : Nat → Prop} {B : Nat} {w w' : World} {row row' : Value} {n : Nat} {vs : List Value} {Z : Nat → List Int} (h : RS S B w row n vs Z) {v : Value} {zs : List Int} (ho : w'.ownsRow B 23 1 row' (n + 1) (vs ++ [v])) (hk : ∀ g, S g → w'.heap[g]? = w.heap[g]?) (hv : Sl S w v zs) (hz : Z n = zs) : RS S B w' row' (n + 1) (vs ++ [v]) Z := by
  have hl : vs.length = n := by simpa using h.own.1
  refine ⟨ho, fun i hi => ?_⟩
  by_cases hin : i < n
  · rw [List.getD_eq_getElem?_getD, List.getElem?_append_left (by omega), ← List.getD_eq_getElem?_getD]
    exact (h.sl i hin).keep hk
  · have e : i = n := by omega
    subst e
    rw [List.getD_eq_getElem?_getD, List.getElem?_append_right (by omega), hl, Nat.sub_self, hz]
    exact hv.keep hk
/-- behind an append to Kept and its store -/
theorem BkI.stepK {B : Nat} {R : Nat → Prop} {w w1 : World} {b : Nat} {cnt tot : Int} {fr he ma ke wa : Value} {nF nH nM : Nat} {fv hv mv : List Value} {nK nW : Nat} {kv wv : List Value} {K : Nat → List Int}
    (h : BkI B R w b cnt tot fr he ma ke wa nF nH nM fv hv mv nK nW kv wv K) {g cap : Nat} {l : Value} {zs : List Int} (hl : Sl R w l zs) (hz : K nK = zs)
    (hg : w.grownBy w1 ke.ownBlock) (ho : w1.ownsRow B 23 1 (.slice (some ⟨g, 0, none⟩) (nK + 1) cap) (nK + 1) (kv ++ [l])) (hlie : ke.ownBlock = some g ∨ g = w.heap.size) :
    BkI B R (w1.setCell ⟨b, 6, none⟩ (.slice (some ⟨g, 0, none⟩) (nK + 1) cap)) b cnt tot fr he ma (.slice (some ⟨g, 0, none⟩) (nK + 1) cap) wa nF nH nM fv hv mv (nK + 1) nW (kv ++ [l]) wv K := by
  have nb := h.blk.ne_row h.rK.own (by decide)
  have kb : w1.heap[b]? = w.heap[b]? := hg.block b h.blk.lt (fun e => nb e.symm)
  have blk1 := h.blk.of_block kb
  have kR : ∀ x, R x → w1.heap[x]? = w.heap[x]? := fun x hx => hg.block x (h.rT x hx).lt (fun e => (h.rT x hx).ne_row h.rK.own (by decide) e.symm)
  have kR2 : ∀ x, R x → (w1.setCell ⟨b, 6, none⟩ (.slice (some ⟨g, 0, none⟩) (nK + 1) cap)).heap[x]? = w.heap[x]? := fun x hx => by
    rw [Below.heap_setCell _ _ _ _ (h.blk.ne_t5 (h.rT x hx))]; exact kR x hx
  have o1 := owns_keep (w' := w1) h.oF (fun x hx => hg.block x (World.ownsRow.lt h.oF x hx).2 (fun e => h.dFK x hx e.symm))
  have o2 := owns_keep (w' := w1) h.oH (fun x hx => hg.block x (World.ownsRow.lt h.oH x hx).2 (fun e => h.dHK x hx e.symm))
  have o3 := owns_keep (w' := w1) h.oM (fun x hx => hg.block x (World.ownsRow.lt h.oM x hx).2 (fun e => dj_type h.oM h.rK.own (by decide) x hx e.symm))
  have o5 := owns_keep (w' := w1) h.rW.own (fun x hx => hg.block x (World.ownsRow.lt h.rW.own x hx).2 (fun e => h.dKW x e.symm hx))
  refine ⟨blk1.set 6 _, h.bB, owns_setCell o1 (blk1.ne_row o1 (by decide)) _, owns_setCell o2 (blk1.ne_row o2 (by decide)) _, owns_setCell o3 (blk1.ne_row o3 (by decide)) _,
    rs_snoc h.rK (owns_setCell ho (blk1.ne_row ho (by decide)) _) kR2 hl hz, h.rW.keep (owns_setCell o5 (blk1.ne_row o5 (by decide)) _) kR2, h.dFH, dj_symm (dj_new (dj_symm h.dFK) h.oF hlie), h.dFW, dj_symm (dj_new (dj_symm h.dHK) h.oH hlie), h.dHW, dj_new h.dKW h.rW.own hlie,
    fun x hx => (h.rT x hx).keep (kR2 x hx)⟩
/-- behind an append to Want and its store -/
theorem BkI.stepW {B : Nat} {R : Nat → Prop} {w w1 : World} {b : Nat} {cnt tot : Int} {fr he ma ke wa : Value} {nF nH nM : Nat} {fv hv mv : List Value} {nK nW : Nat} {kv wv : List Value} {K : Nat → List Int}
    (h : BkI B R w b cnt tot fr he ma ke wa nF nH nM fv hv mv nK nW kv wv K) {g cap : Nat} {l : Value} {zs : List Int} (hl : Sl R w l zs) (hz : K nW = zs)
    (hg : w.grownBy w1 wa.ownBlock) (ho : w1.ownsRow B 23 1 (.slice (some ⟨g, 0, none⟩) (nW + 1) cap) (nW + 1) (wv ++ [l])) (hlie : wa.ownBlock = some g ∨ g = w.heap.size) :
    BkI B R (w1.setCell ⟨b, 7, none⟩ (.slice (some ⟨g, 0, none⟩) (nW + 1) cap)) b cnt tot fr he ma ke (.slice (some ⟨g, 0, none⟩) (nW + 1) cap) nF nH nM fv hv mv nK (nW + 1) kv (wv ++ [l]) K := by
  have nb := h.blk.ne_row h.rW.own (by decide)
  have kb : w1.heap[b]? = w.heap[b]? := hg.block b h.blk.lt (fun e => nb e.symm)
  have blk1 := h.blk.of_block kb
  have kR : ∀ x, R x → w1.heap[x]? = w.heap[x]? := fun x hx => hg.block x (h.rT x hx).lt (fun e => (h.rT x hx).ne_row h.rW.own (by decide) e.symm)
  have kR2 : ∀ x, R x → (w1.setCell ⟨b, 7, none⟩ (.slice (some ⟨g, 0, none⟩) (nW + 1) cap)).heap[x]? = w.heap[x]? := fun x hx => by
    rw [Below.heap_setCell _ _ _ _ (h.blk.ne_t5 (h.rT x hx))]; exact kR x hx
  have o1 := owns_keep (w' := w1) h.oF (fun x hx => hg.block x (World.ownsRow.lt h.oF x hx).2 (fun e => h.dFW x hx e.symm))
  have o2 := owns_keep (w' := w1) h.oH (fun x hx => hg.block x (World.ownsRow.lt h.oH x hx).2 (fun e => h.dHW x hx e.symm))
  have o3 := owns_keep (w' := w1) h.oM (fun x hx => hg.block x (World.ownsRow.lt h.oM x hx).2 (fun e => dj_type h.oM h.rW.own (by decide) x hx e.symm))
  have o5 := owns_keep (w' := w1) h.rK.own (fun x hx => hg.block x (World.ownsRow.lt h.rK.own x hx).2 (fun e => h.dKW x hx e.symm))
  refine ⟨blk1.set 7 _, h.bB, owns_setCell o1 (blk1.ne_row o1 (by decide)) _, owns_setCell o2 (blk1.ne_row o2 (by decide)) _, owns_setCell o3 (blk1.ne_row o3 (by decide)) _,
    h.rK.keep (owns_setCell o5 (blk1.ne_row o5 (by decide)) _) kR2, rs_snoc h.rW (owns_setCell ho (blk1.ne_row ho (by decide)) _) kR2 hl hz, h.dFH, h.dFK, dj_symm (dj_new (dj_symm h.dFW) h.oF hlie), h.dHK, dj_symm (dj_new (dj_symm h.dHW) h.oH hlie), dj_symm (dj_new (dj_symm h.dKW) h.rK.own hlie),
    fun x hx => (h.rT x hx).keep (kR2 x hx)⟩
theorem newsV (w : World) (v : Value) : ∀ j u, [v][j]? = some u → (w.alloc (.cells #[v] 23)).cell? ((⟨w.heap.size, 0, none⟩ : Addr).add j) = some u := by
  intro j u h
  match j, h with
  | 0, h => simp at h; subst h; simp [Addr.add]
theorem newsV' (w : World) (v : Value) (n : Nat) (hn : w.heap.size = n) : ∀ j u, [v][j]? = some u → (w.alloc (.cells #[v] 23)).cell? ((⟨n, 0, none⟩ : Addr).add j) = some u := by
  subst hn
  exact newsV w v
theorem sl_one {R : Nat → Prop} {w : World} {v : Value} {zs : List Int} (h : Sl R w v zs) : ∀ u ∈ [v], u.oneCell' = true := by
  intro u hu
  simp at hu
  obtain ⟨_, a, c, e, _⟩ := h
  rw [hu, e]
  rfl
set_option maxRecDepth 100000 in
set_option maxHeartbeats 2000000 in
theorem keep_any (B : Nat) (R : Nat → Prop) (b : Nat) (cnt tot : Int) (fr he ma ke wa : Value) (nF nH nM : Nat) (fv hv mv : List Value) (nK : Nat) (kv wv : List Value) (K : Nat → List Int) (l want : Value) (zs : List Int) (w : World) (hn : nK ≤ 134217728) (hB : B ≤ w.heap.size)
    (h : BkI B R w b cnt tot fr he ma ke wa nF nH nM fv hv mv nK nK kv wv K) (hl : Sl R w l zs) (hw : Sl R w want zs) (hz : K nK = zs) :
    Calls Tryz.prog 116 #[.pointer (some ⟨b, 0, none⟩), l, want] w fun e w' => ∃ ke' wa', e = .returned (.tuple #[]) ∧ BkI B R w' b cnt tot fr he ma ke' wa' nF nH nM fv hv mv (nK + 1) (nK + 1) (kv ++ [l]) (wv ++ [want]) K ∧ (∀ g, T5 w g → w'.heap[g]? = w.heap[g]?) ∧ Below B w w' ∧
      But (fun x => x = b ∨ ke.ownBlock = some x ∨ wa.ownBlock = some x) w w' ∧ (∀ g, ke'.ownBlock = some g → ke.ownBlock = some g ∨ w.heap.size ≤ g) ∧ (∀ g, wa'.ownBlock = some g → wa.ownBlock = some g ∨ w.heap.size ≤ g) := by
  obtain ⟨i22, hi, hz0, hz1, hz2⟩ := info_parts info22
  obtain ⟨a6, c6, rfl, _⟩ := owns_slice h.rK.own
  obtain ⟨a7, c7, rfl, _⟩ := owns_slice h.rW.own
  obtain ⟨al, cl, rfl⟩ : ∃ al cl, l = .slice al zs.length cl := by obtain ⟨_, a, c, e, _⟩ := hl; exact ⟨a, c, e⟩
  obtain ⟨aw, cw, rfl⟩ : ∃ aw cw, want = .slice aw zs.length cw := by obtain ⟨_, a, c, e, _⟩ := hw; exact ⟨a, c, e⟩
  have b6 := h.blk.cell 6
  simp only [List.getElem?_toArray, List.getElem?_cons_succ, List.getElem?_cons_zero] at b6
  have H0 := hid (h.below ((Below.refl _ w).alloc (Nat.le_refl _) (.cells #[.slice al zs.length cl] 23)))
  have Hl := hid (hl.keep (w' := w.alloc (.cells #[.slice al zs.length cl] 23)) (fun g hg => Below.heap_alloc _ _ _ (h.rT g hg).lt))
  have Hw := hid hw
  have HT := hid h.rT
  have Hz := hid hz
  have f6 := h.blk.frozen 6
  have hbs := h.blk.lt
  have HbB := hid h.bB
  have nb6 := hid (h.blk.ne_row h.rK.own (by decide))
  have HF := hid h
  clear h hl hw hz
  generalize zs.length = nl at *
  go_enter Tryz.func116, Tryz.ntmps116
  go_wp2_with (at_builtin; refine wpList_append_lies _ rfl (.tmp 10) (.tmp 12) 54 (by rfl) B 23 i22 (.slice none 0 0) 1 24 Tryz.underlying54 hi hz0 hz1 hz2 rfl (by decide) _ nK kv (by rfl) H0.out.rK.own ⟨w.heap.size, 0, none⟩ 1 1 [.slice al nl cl] (by rfl) (by rfl) (by exact newsV w (.slice al nl cl)) (sl_one Hl.out) (by decide) (by unfold maxLen; omega) (by omega) (by simp; omega) (w.heap.size + 1) (by simp) ?_)
  intro g6 cap6 w1 ho hg hlie _
  have L6 := hid hlie
  have H1 := hid (H0.out.stepK Hl.out Hz.out hg ho (by simpa using hlie))
  have hbw1 : w1.cell? ⟨b, 6, none⟩ = some (.slice a6 nK c6) := hg.cell (by rw [World.cell?_alloc_past _ _ _ hbs]; exact b6) (fun e => nb6.out e.symm)
  have hfz1 : w1.frozen? ⟨b, 6, none⟩ = false := by
    have e : w1.heap[b]? = (w.alloc (.cells #[.slice al nl cl] 23)).heap[b]? := hg.block b (by simp; omega) (fun e => nb6.out e.symm)
    rw [World.frozen?_of_block (w := w.alloc (.cells #[.slice al nl cl] 23)) (a := ⟨b, 6, none⟩) e, World.frozen?_of_block (w := w) (a := ⟨b, 6, none⟩) (Below.heap_alloc _ _ _ hbs)]
    exact f6
  have Hb1 := hid ((((But.refl (fun x => x = b ∨ (Value.slice a6 nK c6).ownBlock = some x ∨ (Value.slice a7 nK c7).ownBlock = some x) w).alloc (.cells #[.slice al nl cl] 23)).of_grown hg (fun x hx _ => .inr (.inl hx))).setCell (p := ⟨b, 6, none⟩) (.inl rfl) (.slice (some ⟨g6, 0, none⟩) (nK + 1) cap6))
  have b7 := H1.out.blk.cell 7
  simp only [List.getElem?_toArray, List.getElem?_cons_succ, List.getElem?_cons_zero] at b7
  clear b6 f6 ho hg hlie nb6 H0 Hl
  have hsz1 : (w1.setCell ⟨b, 6, none⟩ (.slice (some ⟨g6, 0, none⟩) (nK + 1) cap6)).heap.size = w1.heap.size := by simp [World.setCell]
  have HSZ := hid hsz1
  have hs1 : Hid (w.heap.size ≤ w1.heap.size) := by have := Hb1.out.size; rw [hsz1] at this; exact this
  have H1a := hid (H1.out.below ((Below.refl _ _).alloc (Nat.le_refl _) (.cells #[.slice aw nl cw] 23)))
  have kR1 : ∀ g, R g → (w1.setCell ⟨b, 6, none⟩ (.slice (some ⟨g6, 0, none⟩) (nK + 1) cap6)).heap[g]? = w.heap[g]? := fun g hg => Hb1.out.block g (HT.out g hg).lt (fun h => by
    rcases h with h | h | h
    · exact HF.out.blk.ne_t5 (HT.out g hg) h
    · exact (HT.out g hg).ne_row HF.out.rK.own (by decide) h
    · exact (HT.out g hg).ne_row HF.out.rW.own (by decide) h)
  have Hwa := hid (Hw.out.keep (w' := (w1.setCell ⟨b, 6, none⟩ (.slice (some ⟨g6, 0, none⟩) (nK + 1) cap6)).alloc (.cells #[.slice aw nl cw] 23)) (fun g hg => (Below.heap_alloc _ _ _ (H1.out.rT g hg).lt).trans (kR1 g hg)))
  have f7 := H1.out.blk.frozen 7
  have nb7 := hid (H1.out.blk.ne_row H1.out.rW.own (by decide))
  have hb1s := H1.out.blk.lt
  clear hsz1 kR1
  go_wp2_with (at_builtin; refine wpList_append_lies _ rfl (.tmp 20) (.tmp 22) 54 (by rfl) B 23 i22 (.slice none 0 0) 1 24 Tryz.underlying54 hi hz0 hz1 hz2 rfl (by decide) _ nK wv (by rfl) H1a.out.rW.own ⟨w1.heap.size, 0, none⟩ 1 1 [.slice aw nl cw] (by rfl) (by rfl) (by exact newsV' _ (.slice aw nl cw) _ HSZ.out) (sl_one Hwa.out) (by decide) (by unfold maxLen; omega) (by omega) (by have := hs1.out; simp; omega) (w1.heap.size + 1) (by simp) ?_)
  intro g7 cap7 w2 ho hg hlie _
  have L7 := hid hlie
  have H2 := hid (H1a.out.stepW Hwa.out Hz.out hg ho (by simpa using hlie))
  have Hb2 := hid (((Hb1.out.alloc (.cells #[.slice aw nl cw] 23)).of_grown hg (fun x hx _ => .inr (.inr hx))).setCell (p := ⟨b, 7, none⟩) (.inl rfl) (.slice (some ⟨g7, 0, none⟩) (nK + 1) cap7))
  have hbw2 : w2.cell? ⟨b, 7, none⟩ = some (.slice a7 nK c7) := hg.cell (by rw [World.cell?_alloc_past _ _ _ hb1s]; exact b7) (fun e => nb7.out e.symm)
  have hfz2 : w2.frozen? ⟨b, 7, none⟩ = false := by
    have e : w2.heap[b]? = ((w1.setCell ⟨b, 6, none⟩ (.slice (some ⟨g6, 0, none⟩) (nK + 1) cap6)).alloc (.cells #[.slice aw nl cw] 23)).heap[b]? := hg.block b (by have := hb1s; simp at this ⊢; omega) (fun e => nb7.out e.symm)
    rw [World.frozen?_of_block (w := (w1.setCell ⟨b, 6, none⟩ (.slice (some ⟨g6, 0, none⟩) (nK + 1) cap6)).alloc (.cells #[.slice aw nl cw] 23)) (a := ⟨b, 7, none⟩) e, World.frozen?_of_block (w := w1.setCell ⟨b, 6, none⟩ (.slice (some ⟨g6, 0, none⟩) (nK + 1) cap6)) (a := ⟨b, 7, none⟩) (Below.heap_alloc _ _ _ hb1s)]
    exact f7
  clear ho hg hlie b7 f7 nb7 H1 H1a Hwa Hb1 hbw1 hfz1
  go_wp2
  go_end0
  refine ⟨_, _, rfl, H2.out, fun g hg => Hb2.out.block g hg.lt (fun h => ?_), Hb2.out.below hB (fun x hx h => ?_), Hb2.out, fun g hg => ?_, fun g hg => ?_⟩
  · rcases h with h | h | h
    · exact HF.out.blk.ne_t5 hg h
    · exact hg.ne_row HF.out.rK.own (by decide) h
    · exact hg.ne_row HF.out.rW.own (by decide) h
  · rcases h with h | h | h
    · have := HbB.out; omega
    · have := (World.ownsRow.lt HF.out.rK.own x h).1; omega
    · have := (World.ownsRow.lt HF.out.rW.own x h).1; omega
  · cases hg
    exact L6.out.imp id (fun e => by show _ ≤ g6; omega)
  · cases hg
    exact L7.out.imp id (fun e => by have := hs1.out; show _ ≤ g7; omega)
end Go.Proofs.YthkkdmblkalknaaGreatDoor.bk
/-
  THE BOOK: lists with spare room, and how they grow.
-/
namespace Go.Proofs.YthkkdmblkalknaaGreatDoor
open Go.RowKit
open Go.Proofs.YthkkdmblkalknaaGreatDoor.bk

theorem Own.cur {w : World} {g n cap : Nat} {zs : List Int} (h : Own w g n cap zs) : ∃ cur : Array Value, w.heap[g]? = some (.cells cur 5 (0, 0)) ∧ n ≤ cap ∧ cap ≤ maxLen ∧ cur.size = cap ∧ cur.toList.take n = zs.map (Value.int .u8) := by
  rcases h.2 with ⟨h1, _⟩ | ⟨g', cap', cur, hv, _, h2, h3, h4, h5, h6⟩
  · cases h1
  · cases hv
    exact ⟨cur, h2, h3, h4, by simpa using h5, by simpa using h6⟩
theorem Own.mk' {w : World} {g n cap : Nat} {zs : List Int} {cur : Array Value} (h2 : w.heap[g]? = some (.cells cur 5 (0, 0))) (h3 : n ≤ cap) (h4 : cap ≤ maxLen) (h5 : cur.size = cap) (h6 : cur.toList.take n = zs.map (Value.int .u8)) (hl : zs.length = n) : Own w g n cap zs :=
  ⟨by simp [hl], .inr ⟨g, cap, cur, rfl, Nat.le_refl _, h2, h3, h4, by simpa using h5, by simpa using h6⟩⟩
/-- the beginning of a list -/
theorem Own.pre {w : World} {g n cap m : Nat} {zs ys : List Int} (h : Own w g n cap zs) (hm : m ≤ n) (hy : zs.take m = ys) : Own w g m cap ys := by
  obtain ⟨cur, h2, h3, h4, h5, h6⟩ := h.cur
  have hl := h.len
  subst hy
  refine Own.mk' h2 (by omega) h4 h5 ?_ (by simp; omega)
  rw [List.map_take, ← h6, List.take_take, Nat.min_eq_left hm]
theorem Own.frozen {w : World} {g n cap : Nat} {zs : List Int} (h : Own w g n cap zs) (t : Nat) : w.frozen? ⟨g, t, none⟩ = false := by
  obtain ⟨cur, h2, _⟩ := h.cur
  simp [World.frozen?, h2]
end Go.Proofs.YthkkdmblkalknaaGreatDoor
namespace Go.Proofs.YthkkdmblkalknaaGreatDoor.bk
open Go.RowKit
/-- a list in a block of its own -/
def FO (w : World) (v : Value) (zs : List Int) (g : Nat) : Prop := ∃ c, v = .slice (some ⟨g, 0, none⟩) zs.length c ∧ Own w g zs.length c zs
theorem FO.ob {w : World} {v : Value} {zs : List Int} {g : Nat} (h : FO w v zs g) : v.ownBlock = some g := by obtain ⟨c, rfl, _⟩ := h; rfl
theorem FO.lt {w : World} {v : Value} {zs : List Int} {g : Nat} (h : FO w v zs g) : g < w.heap.size := by obtain ⟨c, _, h⟩ := h; exact h.lt
theorem FO.keep {w w' : World} {v : Value} {zs : List Int} {g : Nat} (h : FO w v zs g) (hk : w'.heap[g]? = w.heap[g]?) : FO w' v zs g := by obtain ⟨c, e, h⟩ := h; exact ⟨c, e, h.keep hk⟩
theorem FO.t5 {w : World} {v : Value} {zs : List Int} {g : Nat} (h : FO w v zs g) : T5 w g := by obtain ⟨c, _, h⟩ := h; exact h.t5
theorem FO.sl {R : Nat → Prop} {w : World} {v : Value} {zs : List Int} {g : Nat} (h : FO w v zs g) (hb : Pl.isB zs) (hr : R g) : Sl R w v zs := by obtain ⟨c, rfl, h⟩ := h; exact Sl.of_own h hb hr
/-- what an append does: in its room, or in a new block -/
def AppR (ai : Option Addr) (n ci m : Nat) (w : World) (g' cap' : Nat) (w' : World) : Prop :=
  (n + m ≤ ci ∧ ai = some ⟨g', 0, none⟩ ∧ cap' = ci ∧ But (fun x => x = g') w w') ∨ (ci < n + m ∧ w.heap.size ≤ g' ∧ Below w.heap.size w w')
theorem wpList_app {w : World} {ops : Array Oper} {rest : List Oper} {o : Oper} {a : Act} {Q : Exit → Act → World → Prop} (hgd : o.guard = none) (s x : Operand)
    (ho : o.op = .call { callee := .builtin .append, args := #[s, x], argTypes := #[23, 23] }) (ai : Option Addr) (n ci : Nat) (zs : List Int) (hs : a.eval s = .slice ai n ci) (hzl : zs.length = n) (hnil : ai = none → n = 0 ∧ ci = 0) (hL : ∀ b, ai = some b → ∃ g, b = ⟨g, 0, none⟩ ∧ Own w g n ci zs)
    (ad : Addr) (m c : Nat) (nw : List Int) (hx : a.eval x = .slice (some ad) m c) (hl : nw.length = m) (hnews : ∀ j u, (nw.map (Value.int .u8))[j]? = some u → w.cell? (ad.add j) = some u) (hm : 0 < m) (b1 : n + m ≤ maxLen) (b2 : n + m ≤ 140737488355328)
    (hK : ∀ g' cap' w', AppR ai n ci m w g' cap' w' → Own w' g' (n + m) cap' (zs ++ nw) → wpList Tryz.prog ops Q rest (a.put o.dst (.slice (some ⟨g', 0, none⟩) (n + m) cap')) w') : wpList Tryz.prog ops Q (o :: rest) a w := by
  obtain ⟨i5, hi5, hz5, hs5, hb5⟩ := info_parts info5
  have hone : ∀ u ∈ nw.map (Value.int .u8), u.oneCell' = true := by
    intro u hu
    simp at hu
    obtain ⟨_, _, rfl⟩ := hu
    rfl
  by_cases hr : n + m ≤ ci
  · cases ai with
    | none => obtain ⟨rfl, rfl⟩ := hnil rfl; omega
    | some b =>
      obtain ⟨g, rfl, hO⟩ := hL b rfl
      refine wpList_append_fits w hgd s x 23 ho g 5 i5 1 Tryz.underlying23 hi5 hs5 g n ci (zs.map (Value.int .u8)) hs hO ad m c (nw.map (Value.int .u8)) hx (by simp [hl]) hnews hone hr ?_
      intro w' h1 h2
      refine hK g ci w' (.inl ⟨hr, rfl, rfl, ⟨h2.os, h2.tape, h2.output, h2.size, fun k hk hx => h2.block k hk (fun e => hx (Option.some.inj e))⟩⟩) (Own.of (base := g) ?_)
      rw [List.map_append]
      exact h1
  · refine wpList_append_grows w hgd s x 23 ho 5 i5 (.int .u8 0) 1 1 Tryz.underlying23 hi5 hz5 hs5 hb5 rfl (by decide) ai n ci (zs.map (Value.int .u8)) hs hnil (by simp [hzl]) (fun b hb j u hu => ?_) ad m c (nw.map (Value.int .u8)) hx (by simp [hl]) hnews hone (by omega) b1 (by omega) ?_
    · obtain ⟨g, rfl, hO⟩ := hL b hb
      exact hO.src j u hu
    · intro v' w' h1 h2
      rcases h1.2 with ⟨_, h0⟩ | ⟨g, cap, cur, rfl, hge, h3⟩
      · omega
      · refine hK g cap w' (.inr ⟨by omega, hge, ⟨h2.os, h2.tape, h2.output, h2.size, fun k hk => h2.block k hk (by simp)⟩⟩) (Own.of (base := w.heap.size) ?_)
        rw [List.map_append]
        exact h1
/-- the list while it is grown: what lies in its own block -/
structure Gs (W0 w : World) (ai : Option Addr) (n ci : Nat) (zi mo : List Int) (k : Nat) : Prop where
  but : But (fun x => (Value.slice ai n ci).ownBlock = some x) W0 w
  len : zi.length = n
  nil : ai = none → n = 0 ∧ ci = 0
  cap : n ≤ ci
  lst : ∀ b, ai = some b → ∃ g, b = ⟨g, 0, none⟩ ∧ g < W0.heap.size ∧ Own w g (n + min k (ci - n)) ci (zi ++ mo.take (min k (ci - n)))
/-- a list that was grown by j places -/
def Vj (S : Nat) (w : World) (ai : Option Addr) (n ci : Nat) (zi : List Int) (j : Nat) (v : Value) (nw : List Int) : Prop :=
  (n + j ≤ ci ∧ v = .slice ai (n + j) ci) ∨ (ci < n + j ∧ ∃ G cap, v = .slice (some ⟨G, 0, none⟩) (n + j) cap ∧ S ≤ G ∧ Own w G (n + j) cap (zi ++ nw))
theorem Gs.start {W0 : World} {ai : Option Addr} {n ci : Nat} {zi : List Int} (mo : List Int) (hl : zi.length = n) (hnil : ai = none → n = 0 ∧ ci = 0) (hL : ∀ b, ai = some b → ∃ g, b = ⟨g, 0, none⟩ ∧ Own W0 g n ci zi) : Gs W0 W0 ai n ci zi mo 0 := by
  refine ⟨But.refl _ _, hl, hnil, ?_, fun b hb => ?_⟩
  · cases ai with
    | none => obtain ⟨rfl, rfl⟩ := hnil rfl; omega
    | some b => obtain ⟨g, _, h⟩ := hL b rfl; exact h.cap
  · obtain ⟨g, e, h⟩ := hL b hb
    exact ⟨g, e, h.lt, by simpa using h⟩
theorem Gs.below {W0 w w' : World} {ai : Option Addr} {n ci : Nat} {zi mo : List Int} {k : Nat} (h : Gs W0 w ai n ci zi mo k) (hb : Below w.heap.size w w') : Gs W0 w' ai n ci zi mo k :=
  ⟨h.but.trans (But.of_below hb), h.len, h.nil, h.cap, fun b e => by obtain ⟨g, e, l, o⟩ := h.lst b e; exact ⟨g, e, l, o.below hb⟩⟩
theorem Vj.below {S : Nat} {w w' : World} {ai : Option Addr} {n ci : Nat} {zi : List Int} {j : Nat} {v : Value} {nw : List Int} (h : Vj S w ai n ci zi j v nw) (hb : Below w.heap.size w w') : Vj S w' ai n ci zi j v nw :=
  h.imp id (fun ⟨l, G, cap, e, s, o⟩ => ⟨l, G, cap, e, s, o.below hb⟩)
theorem Vj.keep {S : Nat} {w w' : World} {ai : Option Addr} {n ci : Nat} {zi : List Int} {j : Nat} {v : Value} {nw : List Int} (h : Vj S w ai n ci zi j v nw) {X : Nat → Prop} (hb : But X w w') (hX : ∀ x, X x → x < S ∨ w.heap.size ≤ x) : Vj S w' ai n ci zi j v nw :=
  h.imp id (fun ⟨l, G, cap, e, s, o⟩ => ⟨l, G, cap, e, s, o.keep (hb.block G o.lt (fun hx => by have := hX G hx; have := o.lt; omega))⟩)
theorem Gs.at0 {W0 w : World} {ai : Option Addr} {n ci : Nat} {zi mo : List Int} {k : Nat} (h : Gs W0 w ai n ci zi mo k) : ∀ b, ai = some b → ∃ g, b = ⟨g, 0, none⟩ ∧ Own w g n ci zi := fun b e => by
  obtain ⟨g, e, _, o⟩ := h.lst b e
  exact ⟨g, e, o.pre (by omega) (by rw [← h.len]; simp)⟩
theorem Gs.ownlt {W0 w : World} {ai : Option Addr} {n ci : Nat} {zi mo : List Int} {k : Nat} (h : Gs W0 w ai n ci zi mo k) : ∀ x, (Value.slice ai n ci).ownBlock = some x → x < W0.heap.size ∨ w.heap.size ≤ x := fun x e => by
  cases ai with
  | none => cases e
  | some b =>
    obtain ⟨g, rfl, l, _⟩ := h.lst b rfl
    cases e
    exact .inl l
/-- behind an append to the list itself -/
theorem Gs.app {W0 w w' : World} {ai : Option Addr} {n ci : Nat} {zi mo : List Int} (h : Gs W0 w ai n ci zi mo 0) {m g' cap' : Nat} {nw : List Int} (hA : AppR ai n ci m w g' cap' w') (hO : Own w' g' (n + m) cap' (zi ++ nw)) :
    Gs W0 w' ai n ci zi mo 0 ∧ Vj W0.heap.size w' ai n ci zi m (.slice (some ⟨g', 0, none⟩) (n + m) cap') nw ∧ But (fun x => (Value.slice ai n ci).ownBlock = some x) w w' := by
  rcases hA with ⟨h1, rfl, rfl, h2⟩ | ⟨h1, h2, h3⟩
  · have hb : But (fun x => (Value.slice (some ⟨g', 0, none⟩) n cap').ownBlock = some x) w w' := h2.mono (fun x _ e => by rw [e]; rfl)
    refine ⟨⟨h.but.trans hb, h.len, h.nil, h.cap, fun b e => ?_⟩, .inl ⟨h1, rfl⟩, hb⟩
    obtain ⟨g, e2, l, _⟩ := h.lst b e
    cases e
    cases e2
    exact ⟨g', rfl, l, by simpa using hO.pre (m := n) (by omega) (ys := zi) (by rw [← h.len]; simp)⟩
  · refine ⟨h.below h3, .inr ⟨h1, g', cap', rfl, Nat.le_trans h.but.size h2, hO⟩, But.of_below h3⟩
/-- the list that grows, as it stands behind k places -/
theorem Gs.now {W0 w : World} {ai : Option Addr} {n ci : Nat} {zi mo : List Int} {k S : Nat} {v : Value} (h : Gs W0 w ai n ci zi mo k) (hv : Vj S w ai n ci zi k v (mo.take k)) :
    ∃ a' c', v = .slice a' (n + k) c' ∧ (a' = none → n + k = 0 ∧ c' = 0) ∧ (∀ b, a' = some b → ∃ g, b = ⟨g, 0, none⟩ ∧ Own w g (n + k) c' (zi ++ mo.take k)) ∧ ((n + k ≤ ci ∧ a' = ai ∧ c' = ci) ∨ (ci < n + k ∧ ∃ G, a' = some ⟨G, 0, none⟩ ∧ S ≤ G ∧ G < w.heap.size)) := by
  rcases hv with ⟨h1, rfl⟩ | ⟨h1, G, cap, rfl, h2, h3⟩
  · refine ⟨ai, ci, rfl, fun e => ?_, fun b e => ?_, .inl ⟨h1, rfl, rfl⟩⟩
    · obtain ⟨a1, a2⟩ := h.nil e
      omega
    · obtain ⟨g, e, _, o⟩ := h.lst b e
      rw [Nat.min_eq_left (by omega)] at o
      exact ⟨g, e, o⟩
  · exact ⟨_, cap, rfl, (fun e => by cases e), fun b e => by cases e; exact ⟨G, rfl, h3⟩, .inr ⟨h1, G, rfl, h2, h3.lt⟩⟩
theorem Gs.step {W0 w w' : World} {ai : Option Addr} {n ci : Nat} {zi mo : List Int} {k S : Nat} (h : Gs W0 w ai n ci zi mo k) (hS0 : W0.heap.size ≤ S) (hS1 : S ≤ w.heap.size) {a' : Option Addr} {c' g' cap' : Nat} {x : Int} (hc : (n + k ≤ ci ∧ a' = ai ∧ c' = ci) ∨ (ci < n + k ∧ ∃ G, a' = some ⟨G, 0, none⟩ ∧ S ≤ G ∧ G < w.heap.size)) (hA : AppR a' (n + k) c' 1 w g' cap' w') (hO : Own w' g' (n + k + 1) cap' ((zi ++ mo.take k) ++ [x])) (hx : mo.take (k + 1) = mo.take k ++ [x]) :
    Gs W0 w' ai n ci zi mo (k + 1) ∧ Vj S w' ai n ci zi (k + 1) (.slice (some ⟨g', 0, none⟩) (n + k + 1) cap') (mo.take (k + 1)) ∧ But (fun x => (Value.slice ai n ci).ownBlock = some x ∨ S ≤ x) w w' := by
  rw [List.append_assoc, ← hx] at hO
  have hs := h.but.size
  have stay : ∀ w', But (fun x => W0.heap.size ≤ x) w w' → ci ≤ n + k → Gs W0 w' ai n ci zi mo (k + 1) := fun w' hb hle => by
    refine ⟨⟨hb.os.trans h.but.os, hb.tape.trans h.but.tape, hb.output.trans h.but.output, Nat.le_trans hs hb.size, fun y hy hn => (hb.block y (by omega) (by omega)).trans (h.but.block y hy hn)⟩, h.len, h.nil, h.cap, fun b e => ?_⟩
    obtain ⟨g, e, l, o⟩ := h.lst b e
    rw [Nat.min_eq_right (by omega)] at o
    rw [Nat.min_eq_right (by omega)]
    exact ⟨g, e, l, o.keep (hb.block g o.lt (by omega))⟩
  rcases hA with ⟨h1, e1, e2, h2⟩ | ⟨h1, h2, h3⟩
  · rcases hc with ⟨h4, e4, e5⟩ | ⟨h4, G, e4, h5, h6⟩
    · rw [e4] at e1
      subst e5
      subst e2
      have hb : But (fun x => (Value.slice ai n cap').ownBlock = some x) w w' := h2.mono (fun x _ e => by rw [e, e1]; rfl)
      refine ⟨⟨h.but.trans hb, h.len, h.nil, h.cap, fun b e => ?_⟩, .inl ⟨by omega, by rw [e1]; rfl⟩, hb.mono (fun x _ q => .inl q)⟩
      obtain ⟨g, e3, l, _⟩ := h.lst b e
      rw [e1] at e
      cases e
      cases e3
      rw [Nat.min_eq_left (by omega)]
      exact ⟨g', rfl, l, hO⟩
    · rw [e4] at e1
      cases e1
      exact ⟨stay w' (h2.mono (fun x _ e => by rw [e]; exact Nat.le_trans hS0 h5)) (by omega), .inr ⟨by omega, g', cap', rfl, h5, hO⟩, h2.mono (fun x _ e => .inr (by rw [e]; exact h5))⟩
  · have hle : ci ≤ n + k := by
      rcases hc with ⟨h4, e4, e5⟩ | ⟨h4, _⟩
      · omega
      · omega
    exact ⟨stay w' (But.of_below h3) hle, .inr ⟨by omega, g', cap', rfl, Nat.le_trans hS1 h2, hO⟩, But.of_below h3⟩
/-- what a grown list holds in the end -/
theorem Vj.sl {W0 w : World} {ai : Option Addr} {n ci : Nat} {zi mo : List Int} {T j S : Nat} {v : Value} {nw : List Int} (h : Gs W0 w ai n ci zi mo T) (hv : Vj S w ai n ci zi j v nw) (hS : W0.heap.size ≤ S) (hj : j ≤ T) (hT : T ≤ mo.length) (hl : nw.length = j) (hz : Pl.isB zi) (hm : Pl.isB mo) (hw : Pl.isB nw) {R : Nat → Prop} (h1 : ∀ x, (Value.slice ai n ci).ownBlock = some x → R x) (h2 : ∀ x, W0.heap.size ≤ x → T5 w x → R x) :
    ∃ z, z.length = n + j ∧ Sl R w v z ∧ (nw = mo.take j → z = zi ++ nw) := by
  rcases hv with ⟨a1, rfl⟩ | ⟨a1, G, cap, rfl, a2, a3⟩
  · have hlz : (zi ++ mo.take j).length = n + j := by simp [h.len]; omega
    have hbz : Pl.isB (zi ++ mo.take j) := fun z hzz => by
      rcases List.mem_append.1 hzz with q | q
      · exact hz z q
      · exact hm z (List.mem_of_mem_take q)
    refine ⟨zi ++ mo.take j, hlz, ?_, fun e => by rw [e]⟩
    cases ai with
    | none =>
      obtain ⟨rfl, rfl⟩ := h.nil rfl
      obtain rfl : j = 0 := by omega
      have e0 : zi ++ mo.take 0 = [] := List.length_eq_zero_iff.1 hlz
      rw [e0]
      exact ⟨Pl.isB_nil, none, 0, rfl, fun _ => rfl, .inl rfl⟩
    | some b =>
      obtain ⟨g, rfl, _, o⟩ := h.lst b rfl
      have hjm : j ≤ min T (ci - n) := by omega
      refine Sl.of_own (o.pre (m := n + j) (by omega) ?_) hbz (h1 g rfl)
      rw [List.take_append, h.len, List.take_of_length_le (by have := h.len; omega), Nat.add_sub_cancel_left, List.take_take, Nat.min_eq_left hjm]
  · refine ⟨zi ++ nw, by simp [h.len, hl], Sl.of_own a3 (fun z hzz => (List.mem_append.1 hzz).elim (hz z) (hw z)) (h2 G (Nat.le_trans hS a2) a3.t5), fun _ => rfl⟩
end Go.Proofs.YthkkdmblkalknaaGreatDoor.bk
