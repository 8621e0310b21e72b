/-
  THE BOOK: its rows; keep.
-/
import Derived.Test.YteaebdonnicbkaaBk2
namespace Go.Proofs.Yteaebdonnicbkaa
open Go.RowKit

theorem info22 : (Try.prog.info? 22).map (fun i => (i.zero, i.size, i.bytes)) = some (some (.slice none 0 0), 1, 24) := by kernel_rfl

theorem owns_setCell {w : World} {base e size n : Nat} {v : Value} {xs : List Value} (h : w.ownsRow base e size v n xs) {p : Addr} (hp : v.ownBlock ≠ some p.block) (u : Value) : (w.setCell p u).ownsRow base e size v n xs := by
  obtain ⟨h1, h2⟩ := h
  refine ⟨h1, ?_⟩
  rcases h2 with h2 | ⟨g, cap, cur, rfl, hg, hh, r⟩
  · exact .inl h2
  · exact .inr ⟨g, cap, cur, rfl, hg, by rw [Below.heap_setCell _ _ _ _ (fun e => hp (by rw [← e]; rfl))]; exact hh, r⟩
theorem owns_keep {w w' : World} {base e size n : Nat} {v : Value} {xs : List Value} (h : w.ownsRow base e size v n xs) (hk : ∀ g, v.ownBlock = some g → w'.heap[g]? = w.heap[g]?) : w'.ownsRow base e size v n xs := by
  obtain ⟨h1, h2⟩ := h
  refine ⟨h1, ?_⟩
  rcases h2 with h2 | ⟨g, cap, cur, rfl, hg, hh, r⟩
  · exact .inl h2
  · exact .inr ⟨g, cap, cur, rfl, hg, by rw [hk g rfl]; exact hh, r⟩

/-- the book: its block, its rows, what is kept -/
structure BkI (B : Nat) (R : Nat → Prop) (w : World) (b : Nat) (cnt tot : Int) (fr he ma ke wa : Value) (nF nH nM : Nat) (fv hv mv : List Value) (nK nW : Nat) (kv wv : List Value) (K : Nat → List Int) : Prop where
  blk : Bkb w b cnt tot false fr he ma ke wa
  bB : B ≤ b
  oF : w.ownsRow B 22 1 fr nF fv
  oH : w.ownsRow B 22 1 he nH hv
  oM : w.ownsRow B 3 1 ma nM mv
  rK : RS R B w ke nK kv K
  rW : RS R B w wa nW wv K
  dFH : Dj fr he
  dFK : Dj fr ke
  dFW : Dj fr wa
  dHK : Dj he ke
  dHW : Dj he wa
  dKW : Dj ke wa
  rT : ∀ g, R g → T5 w g

/-- rows of different types share no block -/
theorem dj_type {w : World} {B e e' s s' n n' : Nat} {v u : Value} {xs ys : List Value} (h : w.ownsRow B e s v n xs) (h2 : w.ownsRow B e' s' u n' ys) (hne : e ≠ e') : Dj v u := by
  intro g hv hu
  rcases h.2 with ⟨q, _⟩ | ⟨g1, _, cur, q, _, hh, _⟩
  · rw [q] at hv; cases hv
  · rcases h2.2 with ⟨q', _⟩ | ⟨g2, _, cur', q', _, hh', _⟩
    · rw [q'] at hu; cases hu
    · rw [q] at hv
      rw [q'] at hu
      cases hv
      cases hu
      rw [hh] at hh'
      simp at hh'
      exact hne hh'.2

/-- nothing of the book's turns -/
theorem BkI.keep {B : Nat} {R : Nat → Prop} {w w' : World} {b : Nat} {cnt tot : Int} {fr he ma ke wa : Value} {nF nH nM : Nat} {fv hv mv : List Value} {nK nW : Nat} {kv wv : List Value} {K : Nat → List Int}
    (h : BkI B R w b cnt tot fr he ma ke wa nF nH nM fv hv mv nK nW kv wv K) (hk : ∀ g, (g = b ∨ fr.ownBlock = some g ∨ he.ownBlock = some g ∨ ma.ownBlock = some g ∨ ke.ownBlock = some g ∨ wa.ownBlock = some g ∨ R g) → w'.heap[g]? = w.heap[g]?) :
    BkI B R w' b cnt tot fr he ma ke wa nF nH nM fv hv mv nK nW kv wv K :=
  ⟨h.blk.of_block (hk b (.inl rfl)), h.bB, owns_keep h.oF (fun g hg => hk g (.inr (.inl hg))), owns_keep h.oH (fun g hg => hk g (.inr (.inr (.inl hg)))), owns_keep h.oM (fun g hg => hk g (.inr (.inr (.inr (.inl hg))))),
    h.rK.keep (owns_keep h.rK.own (fun g hg => hk g (.inr (.inr (.inr (.inr (.inl hg))))))) (fun g hg => hk g (.inr (.inr (.inr (.inr (.inr (.inr hg))))))),
    h.rW.keep (owns_keep h.rW.own (fun g hg => hk g (.inr (.inr (.inr (.inr (.inr (.inl hg)))))))) (fun g hg => hk g (.inr (.inr (.inr (.inr (.inr (.inr hg))))))),
    h.dFH, h.dFK, h.dFW, h.dHK, h.dHW, h.dKW, fun g hg => (h.rT g hg).keep (hk g (.inr (.inr (.inr (.inr (.inr (.inr hg))))))) ⟩
/-- a book's block is there -/
theorem BkI.there {B : Nat} {R : Nat → Prop} {w : World} {b : Nat} {cnt tot : Int} {fr he ma ke wa : Value} {nF nH nM : Nat} {fv hv mv : List Value} {nK nW : Nat} {kv wv : List Value} {K : Nat → List Int}
    (h : BkI B R w b cnt tot fr he ma ke wa nF nH nM fv hv mv nK nW kv wv K) {g : Nat} (hg : g = b ∨ fr.ownBlock = some g ∨ he.ownBlock = some g ∨ ma.ownBlock = some g ∨ ke.ownBlock = some g ∨ wa.ownBlock = some g ∨ R g) : g < w.heap.size := by
  rcases hg with rfl | hg | hg | hg | hg | hg | hg
  · exact h.blk.lt
  · exact (World.ownsRow.lt h.oF g hg).2
  · exact (World.ownsRow.lt h.oH g hg).2
  · exact (World.ownsRow.lt h.oM g hg).2
  · exact (World.ownsRow.lt h.rK.own g hg).2
  · exact (World.ownsRow.lt h.rW.own g hg).2
  · exact (h.rT g hg).lt
theorem BkI.below {B : Nat} {R : Nat → Prop} {w w' : World} {b : Nat} {cnt tot : Int} {fr he ma ke wa : Value} {nF nH nM : Nat} {fv hv mv : List Value} {nK nW : Nat} {kv wv : List Value} {K : Nat → List Int}
    (h : BkI B R w b cnt tot fr he ma ke wa nF nH nM fv hv mv nK nW kv wv K) (hb : Below w.heap.size w w') : BkI B R w' b cnt tot fr he ma ke wa nF nH nM fv hv mv nK nW kv wv K :=
  h.keep fun g hg => hb.block g (h.there hg)
theorem BkI.more {B : Nat} {R R' : Nat → Prop} {w : World} {b : Nat} {cnt tot : Int} {fr he ma ke wa : Value} {nF nH nM : Nat} {fv hv mv : List Value} {nK nW : Nat} {kv wv : List Value} {K : Nat → List Int}
    (h : BkI B R w b cnt tot fr he ma ke wa nF nH nM fv hv mv nK nW kv wv K) (hr : ∀ g, R g → R' g) (hT : ∀ g, R' g → T5 w g) : BkI B R' w b cnt tot fr he ma ke wa nF nH nM fv hv mv nK nW kv wv K :=
  ⟨h.blk, h.bB, h.oF, h.oH, h.oM, ⟨h.rK.own, fun i hi => (h.rK.sl i hi).mono hr⟩, ⟨h.rW.own, fun i hi => (h.rW.sl i hi).mono hr⟩, h.dFH, h.dFK, h.dFW, h.dHK, h.dHW, h.dKW, hT⟩

/-- one slice more in a row -/
theorem rs_snoc {S : Nat → Prop} {B : Nat} {w w' : World} {row row' : Value} {n : Nat} {vs : List Value} {Z : Nat → List Int} (h : RS S B w row n vs Z) {v : Value} {zs : List Int} (ho : w'.ownsRow B 22 1 row' (n + 1) (vs ++ [v])) (hk : ∀ g, S g → w'.heap[g]? = w.heap[g]?) (hv : Sl S w v zs) (hz : Z n = zs) : RS S B w' row' (n + 1) (vs ++ [v]) Z := by
  have hl : vs.length = n := by simpa using h.own.1
  refine ⟨ho, fun i hi => ?_⟩
  by_cases hin : i < n
  · rw [List.getD_eq_getElem?_getD, List.getElem?_append_left (by omega), ← List.getD_eq_getElem?_getD]
    exact (h.sl i hin).keep hk
  · have e : i = n := by omega
    subst e
    rw [List.getD_eq_getElem?_getD, List.getElem?_append_right (by omega), hl, Nat.sub_self, hz]
    exact hv.keep hk

/-- behind an append to Kept and its store -/
theorem BkI.stepK {B : Nat} {R : Nat → Prop} {w w1 : World} {b : Nat} {cnt tot : Int} {fr he ma ke wa : Value} {nF nH nM : Nat} {fv hv mv : List Value} {nK nW : Nat} {kv wv : List Value} {K : Nat → List Int}
    (h : BkI B R w b cnt tot fr he ma ke wa nF nH nM fv hv mv nK nW kv wv K) {g cap : Nat} {l : Value} {zs : List Int} (hl : Sl R w l zs) (hz : K nK = zs)
    (hg : w.grownBy w1 ke.ownBlock) (ho : w1.ownsRow B 22 1 (.slice (some ⟨g, 0, none⟩) (nK + 1) cap) (nK + 1) (kv ++ [l])) (hlie : ke.ownBlock = some g ∨ g = w.heap.size) :
    BkI B R (w1.setCell ⟨b, 6, none⟩ (.slice (some ⟨g, 0, none⟩) (nK + 1) cap)) b cnt tot fr he ma (.slice (some ⟨g, 0, none⟩) (nK + 1) cap) wa nF nH nM fv hv mv (nK + 1) nW (kv ++ [l]) wv K := by
  have nb := h.blk.ne_row h.rK.own (by decide)
  have kb : w1.heap[b]? = w.heap[b]? := hg.block b h.blk.lt (fun e => nb e.symm)
  have blk1 := h.blk.of_block kb
  have kR : ∀ x, R x → w1.heap[x]? = w.heap[x]? := fun x hx => hg.block x (h.rT x hx).lt (fun e => (h.rT x hx).ne_row h.rK.own (by decide) e.symm)
  have kR2 : ∀ x, R x → (w1.setCell ⟨b, 6, none⟩ (.slice (some ⟨g, 0, none⟩) (nK + 1) cap)).heap[x]? = w.heap[x]? := fun x hx => by
    rw [Below.heap_setCell _ _ _ _ (h.blk.ne_t5 (h.rT x hx))]; exact kR x hx
  have o1 := owns_keep (w' := w1) h.oF (fun x hx => hg.block x (World.ownsRow.lt h.oF x hx).2 (fun e => h.dFK x hx e.symm))
  have o2 := owns_keep (w' := w1) h.oH (fun x hx => hg.block x (World.ownsRow.lt h.oH x hx).2 (fun e => h.dHK x hx e.symm))
  have o3 := owns_keep (w' := w1) h.oM (fun x hx => hg.block x (World.ownsRow.lt h.oM x hx).2 (fun e => dj_type h.oM h.rK.own (by decide) x hx e.symm))
  have o5 := owns_keep (w' := w1) h.rW.own (fun x hx => hg.block x (World.ownsRow.lt h.rW.own x hx).2 (fun e => h.dKW x e.symm hx))
  refine ⟨blk1.set 6 _, h.bB, owns_setCell o1 (blk1.ne_row o1 (by decide)) _, owns_setCell o2 (blk1.ne_row o2 (by decide)) _, owns_setCell o3 (blk1.ne_row o3 (by decide)) _,
    rs_snoc h.rK (owns_setCell ho (blk1.ne_row ho (by decide)) _) kR2 hl hz, h.rW.keep (owns_setCell o5 (blk1.ne_row o5 (by decide)) _) kR2, h.dFH, dj_symm (dj_new (dj_symm h.dFK) h.oF hlie), h.dFW, dj_symm (dj_new (dj_symm h.dHK) h.oH hlie), h.dHW, dj_new h.dKW h.rW.own hlie,
    fun x hx => (h.rT x hx).keep (kR2 x hx)⟩
/-- behind an append to Want and its store -/
theorem BkI.stepW {B : Nat} {R : Nat → Prop} {w w1 : World} {b : Nat} {cnt tot : Int} {fr he ma ke wa : Value} {nF nH nM : Nat} {fv hv mv : List Value} {nK nW : Nat} {kv wv : List Value} {K : Nat → List Int}
    (h : BkI B R w b cnt tot fr he ma ke wa nF nH nM fv hv mv nK nW kv wv K) {g cap : Nat} {l : Value} {zs : List Int} (hl : Sl R w l zs) (hz : K nW = zs)
    (hg : w.grownBy w1 wa.ownBlock) (ho : w1.ownsRow B 22 1 (.slice (some ⟨g, 0, none⟩) (nW + 1) cap) (nW + 1) (wv ++ [l])) (hlie : wa.ownBlock = some g ∨ g = w.heap.size) :
    BkI B R (w1.setCell ⟨b, 7, none⟩ (.slice (some ⟨g, 0, none⟩) (nW + 1) cap)) b cnt tot fr he ma ke (.slice (some ⟨g, 0, none⟩) (nW + 1) cap) nF nH nM fv hv mv nK (nW + 1) kv (wv ++ [l]) K := by
  have nb := h.blk.ne_row h.rW.own (by decide)
  have kb : w1.heap[b]? = w.heap[b]? := hg.block b h.blk.lt (fun e => nb e.symm)
  have blk1 := h.blk.of_block kb
  have kR : ∀ x, R x → w1.heap[x]? = w.heap[x]? := fun x hx => hg.block x (h.rT x hx).lt (fun e => (h.rT x hx).ne_row h.rW.own (by decide) e.symm)
  have kR2 : ∀ x, R x → (w1.setCell ⟨b, 7, none⟩ (.slice (some ⟨g, 0, none⟩) (nW + 1) cap)).heap[x]? = w.heap[x]? := fun x hx => by
    rw [Below.heap_setCell _ _ _ _ (h.blk.ne_t5 (h.rT x hx))]; exact kR x hx
  have o1 := owns_keep (w' := w1) h.oF (fun x hx => hg.block x (World.ownsRow.lt h.oF x hx).2 (fun e => h.dFW x hx e.symm))
  have o2 := owns_keep (w' := w1) h.oH (fun x hx => hg.block x (World.ownsRow.lt h.oH x hx).2 (fun e => h.dHW x hx e.symm))
  have o3 := owns_keep (w' := w1) h.oM (fun x hx => hg.block x (World.ownsRow.lt h.oM x hx).2 (fun e => dj_type h.oM h.rW.own (by decide) x hx e.symm))
  have o5 := owns_keep (w' := w1) h.rK.own (fun x hx => hg.block x (World.ownsRow.lt h.rK.own x hx).2 (fun e => h.dKW x hx e.symm))
  refine ⟨blk1.set 7 _, h.bB, owns_setCell o1 (blk1.ne_row o1 (by decide)) _, owns_setCell o2 (blk1.ne_row o2 (by decide)) _, owns_setCell o3 (blk1.ne_row o3 (by decide)) _,
    h.rK.keep (owns_setCell o5 (blk1.ne_row o5 (by decide)) _) kR2, rs_snoc h.rW (owns_setCell ho (blk1.ne_row ho (by decide)) _) kR2 hl hz, h.dFH, h.dFK, dj_symm (dj_new (dj_symm h.dFW) h.oF hlie), h.dHK, dj_symm (dj_new (dj_symm h.dHW) h.oH hlie), dj_symm (dj_new (dj_symm h.dKW) h.rK.own hlie),
    fun x hx => (h.rT x hx).keep (kR2 x hx)⟩

theorem But.of_grown {X : Nat → Prop} {a w w' : World} {row : Option Nat} (h : But X a w) (hg : w.grownBy w' row) (hr : ∀ x, row = some x → x < a.heap.size → X x) : But X a w' :=
  ⟨hg.os.trans h.os, hg.tape.trans h.tape, hg.output.trans h.output, Nat.le_trans h.size hg.size, fun k hk hx => (hg.block k (Nat.lt_of_lt_of_le hk h.size) (fun e => hx (hr k e.symm hk))).trans (h.block k hk hx)⟩
theorem newsV (w : World) (v : Value) : ∀ j u, [v][j]? = some u → (w.alloc (.cells #[v] 22)).cell? ((⟨w.heap.size, 0, none⟩ : Addr).add j) = some u := by
  intro j u h
  match j, h with
  | 0, h => simp at h; subst h; simp [Addr.add]
theorem newsV' (w : World) (v : Value) (n : Nat) (hn : w.heap.size = n) : ∀ j u, [v][j]? = some u → (w.alloc (.cells #[v] 22)).cell? ((⟨n, 0, none⟩ : Addr).add j) = some u := by
  subst hn
  exact newsV w v
theorem sl_one {R : Nat → Prop} {w : World} {v : Value} {zs : List Int} (h : Sl R w v zs) : ∀ u ∈ [v], u.oneCell' = true := by
  intro u hu
  simp at hu
  obtain ⟨_, a, c, e, _⟩ := h
  rw [hu, e]
  rfl

set_option maxRecDepth 100000 in
set_option maxHeartbeats 2000000 in
theorem keep_any (B : Nat) (R : Nat → Prop) (b : Nat) (cnt tot : Int) (fr he ma ke wa : Value) (nF nH nM : Nat) (fv hv mv : List Value) (nK : Nat) (kv wv : List Value) (K : Nat → List Int) (l want : Value) (zs : List Int) (w : World) (hn : nK ≤ 134217728) (hB : B ≤ w.heap.size)
    (h : BkI B R w b cnt tot fr he ma ke wa nF nH nM fv hv mv nK nK kv wv K) (hl : Sl R w l zs) (hw : Sl R w want zs) (hz : K nK = zs) :
    Calls Try.prog 65 #[.pointer (some ⟨b, 0, none⟩), l, want] w fun e w' => ∃ ke' wa', e = .returned (.tuple #[]) ∧ BkI B R w' b cnt tot fr he ma ke' wa' nF nH nM fv hv mv (nK + 1) (nK + 1) (kv ++ [l]) (wv ++ [want]) K ∧ (∀ g, T5 w g → w'.heap[g]? = w.heap[g]?) ∧ Below B w w' ∧
      But (fun x => x = b ∨ ke.ownBlock = some x ∨ wa.ownBlock = some x) w w' ∧ (∀ g, ke'.ownBlock = some g → ke.ownBlock = some g ∨ w.heap.size ≤ g) ∧ (∀ g, wa'.ownBlock = some g → wa.ownBlock = some g ∨ w.heap.size ≤ g) := by
  obtain ⟨i22, hi, hz0, hz1, hz2⟩ := info_parts info22
  obtain ⟨a6, c6, rfl, _⟩ := owns_slice h.rK.own
  obtain ⟨a7, c7, rfl, _⟩ := owns_slice h.rW.own
  obtain ⟨al, cl, rfl⟩ : ∃ al cl, l = .slice al zs.length cl := by obtain ⟨_, a, c, e, _⟩ := hl; exact ⟨a, c, e⟩
  obtain ⟨aw, cw, rfl⟩ : ∃ aw cw, want = .slice aw zs.length cw := by obtain ⟨_, a, c, e, _⟩ := hw; exact ⟨a, c, e⟩
  have b6 := h.blk.cell 6
  simp only [List.getElem?_toArray, List.getElem?_cons_succ, List.getElem?_cons_zero] at b6
  have H0 := hid (h.below ((Below.refl _ w).alloc (Nat.le_refl _) (.cells #[.slice al zs.length cl] 22)))
  have Hl := hid (hl.keep (w' := w.alloc (.cells #[.slice al zs.length cl] 22)) (fun g hg => Below.heap_alloc _ _ _ (h.rT g hg).lt))
  have Hw := hid hw
  have HT := hid h.rT
  have Hz := hid hz
  have f6 := h.blk.frozen 6
  have hbs := h.blk.lt
  have HbB := hid h.bB
  have nb6 := hid (h.blk.ne_row h.rK.own (by decide))
  have HF := hid h
  clear h hl hw hz
  generalize zs.length = nl at *
  go_enter Try.func65, Try.ntmps65
  go_wp2_with (at_builtin; refine wpList_append_lies _ rfl (.tmp 10) (.tmp 12) 53 (by rfl) B 22 i22 (.slice none 0 0) 1 24 Try.underlying53 hi hz0 hz1 hz2 rfl (by decide) _ nK kv (by rfl) H0.out.rK.own ⟨w.heap.size, 0, none⟩ 1 1 [.slice al nl cl] (by rfl) (by rfl) (by exact newsV w (.slice al nl cl)) (sl_one Hl.out) (by decide) (by unfold maxLen; omega) (by omega) (by simp; omega) (w.heap.size + 1) (by simp) ?_)
  intro g6 cap6 w1 ho hg hlie _
  have L6 := hid hlie
  have H1 := hid (H0.out.stepK Hl.out Hz.out hg ho (by simpa using hlie))
  have hbw1 : w1.cell? ⟨b, 6, none⟩ = some (.slice a6 nK c6) := hg.cell (by rw [World.cell?_alloc_past _ _ _ hbs]; exact b6) (fun e => nb6.out e.symm)
  have hfz1 : w1.frozen? ⟨b, 6, none⟩ = false := by
    have e : w1.heap[b]? = (w.alloc (.cells #[.slice al nl cl] 22)).heap[b]? := hg.block b (by simp; omega) (fun e => nb6.out e.symm)
    rw [World.frozen?_of_block (w := w.alloc (.cells #[.slice al nl cl] 22)) (a := ⟨b, 6, none⟩) e, World.frozen?_of_block (w := w) (a := ⟨b, 6, none⟩) (Below.heap_alloc _ _ _ hbs)]
    exact f6
  have Hb1 := hid ((((But.refl (fun x => x = b ∨ (Value.slice a6 nK c6).ownBlock = some x ∨ (Value.slice a7 nK c7).ownBlock = some x) w).alloc (.cells #[.slice al nl cl] 22)).of_grown hg (fun x hx _ => .inr (.inl hx))).setCell (p := ⟨b, 6, none⟩) (.inl rfl) (.slice (some ⟨g6, 0, none⟩) (nK + 1) cap6))
  have b7 := H1.out.blk.cell 7
  simp only [List.getElem?_toArray, List.getElem?_cons_succ, List.getElem?_cons_zero] at b7
  clear b6 f6 ho hg hlie nb6 H0 Hl
  have hsz1 : (w1.setCell ⟨b, 6, none⟩ (.slice (some ⟨g6, 0, none⟩) (nK + 1) cap6)).heap.size = w1.heap.size := by simp [World.setCell]
  have HSZ := hid hsz1
  have hs1 : Hid (w.heap.size ≤ w1.heap.size) := by have := Hb1.out.size; rw [hsz1] at this; exact this
  have H1a := hid (H1.out.below ((Below.refl _ _).alloc (Nat.le_refl _) (.cells #[.slice aw nl cw] 22)))
  have kR1 : ∀ g, R g → (w1.setCell ⟨b, 6, none⟩ (.slice (some ⟨g6, 0, none⟩) (nK + 1) cap6)).heap[g]? = w.heap[g]? := fun g hg => Hb1.out.block g (HT.out g hg).lt (fun h => by
    rcases h with h | h | h
    · exact HF.out.blk.ne_t5 (HT.out g hg) h
    · exact (HT.out g hg).ne_row HF.out.rK.own (by decide) h
    · exact (HT.out g hg).ne_row HF.out.rW.own (by decide) h)
  have Hwa := hid (Hw.out.keep (w' := (w1.setCell ⟨b, 6, none⟩ (.slice (some ⟨g6, 0, none⟩) (nK + 1) cap6)).alloc (.cells #[.slice aw nl cw] 22)) (fun g hg => (Below.heap_alloc _ _ _ (H1.out.rT g hg).lt).trans (kR1 g hg)))
  have f7 := H1.out.blk.frozen 7
  have nb7 := hid (H1.out.blk.ne_row H1.out.rW.own (by decide))
  have hb1s := H1.out.blk.lt
  clear hsz1 kR1
  go_wp2_with (at_builtin; refine wpList_append_lies _ rfl (.tmp 20) (.tmp 22) 53 (by rfl) B 22 i22 (.slice none 0 0) 1 24 Try.underlying53 hi hz0 hz1 hz2 rfl (by decide) _ nK wv (by rfl) H1a.out.rW.own ⟨w1.heap.size, 0, none⟩ 1 1 [.slice aw nl cw] (by rfl) (by rfl) (by exact newsV' _ (.slice aw nl cw) _ HSZ.out) (sl_one Hwa.out) (by decide) (by unfold maxLen; omega) (by omega) (by have := hs1.out; simp; omega) (w1.heap.size + 1) (by simp) ?_)
  intro g7 cap7 w2 ho hg hlie _
  have L7 := hid hlie
  have H2 := hid (H1a.out.stepW Hwa.out Hz.out hg ho (by simpa using hlie))
  have Hb2 := hid (((Hb1.out.alloc (.cells #[.slice aw nl cw] 22)).of_grown hg (fun x hx _ => .inr (.inr hx))).setCell (p := ⟨b, 7, none⟩) (.inl rfl) (.slice (some ⟨g7, 0, none⟩) (nK + 1) cap7))
  have hbw2 : w2.cell? ⟨b, 7, none⟩ = some (.slice a7 nK c7) := hg.cell (by rw [World.cell?_alloc_past _ _ _ hb1s]; exact b7) (fun e => nb7.out e.symm)
  have hfz2 : w2.frozen? ⟨b, 7, none⟩ = false := by
    have e : w2.heap[b]? = ((w1.setCell ⟨b, 6, none⟩ (.slice (some ⟨g6, 0, none⟩) (nK + 1) cap6)).alloc (.cells #[.slice aw nl cw] 22)).heap[b]? := hg.block b (by have := hb1s; simp at this ⊢; omega) (fun e => nb7.out e.symm)
    rw [World.frozen?_of_block (w := (w1.setCell ⟨b, 6, none⟩ (.slice (some ⟨g6, 0, none⟩) (nK + 1) cap6)).alloc (.cells #[.slice aw nl cw] 22)) (a := ⟨b, 7, none⟩) e, World.frozen?_of_block (w := w1.setCell ⟨b, 6, none⟩ (.slice (some ⟨g6, 0, none⟩) (nK + 1) cap6)) (a := ⟨b, 7, none⟩) (Below.heap_alloc _ _ _ hb1s)]
    exact f7
  clear ho hg hlie b7 f7 nb7 H1 H1a Hwa Hb1 hbw1 hfz1
  go_wp2
  go_end0
  refine ⟨_, _, rfl, H2.out, fun g hg => Hb2.out.block g hg.lt (fun h => ?_), Hb2.out.below hB (fun x hx h => ?_), Hb2.out, fun g hg => ?_, fun g hg => ?_⟩
  · rcases h with h | h | h
    · exact HF.out.blk.ne_t5 hg h
    · exact hg.ne_row HF.out.rK.own (by decide) h
    · exact hg.ne_row HF.out.rW.own (by decide) h
  · rcases h with h | h | h
    · have := HbB.out; omega
    · have := (World.ownsRow.lt HF.out.rK.own x h).1; omega
    · have := (World.ownsRow.lt HF.out.rW.own x h).1; omega
  · cases hg
    exact L6.out.imp id (fun e => by show _ ≤ g6; omega)
  · cases hg
    exact L7.out.imp id (fun e => by have := hs1.out; show _ ≤ g7; omega)

end Go.Proofs.Yteaebdonnicbkaa
