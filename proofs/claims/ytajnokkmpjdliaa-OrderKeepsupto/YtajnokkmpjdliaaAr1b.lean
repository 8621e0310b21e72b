/-
  behind: the iterator's maker.
-/
import Derived.Test.YtajnokkmpjdliaaAr1
namespace Go.Proofs.Ytajnokkmpjdliaa
open Go.RowKit Go.Shelf

set_option maxRecDepth 100000 in
set_option maxHeartbeats 1000000 in
theorem behind_any (Gb x : Nat) (w : World) : Calls Try.prog 35 #[.pointer (some ⟨Gb, 0, none⟩), .int .i64 (x : Int)] w fun e w' => e = .returned (.func (.func 40) #[] #[.pointer (some ⟨w.heap.size, 0, none⟩), .pointer (some ⟨w.heap.size + 1, 0, none⟩)]) ∧ w' = (w.alloc (.cells #[.pointer (some ⟨Gb, 0, none⟩)] 43)).alloc (.cells #[.int .i64 (x : Int)] 3) := by
  go_enter Try.func35, Try.ntmps35
  go_wp2_with fail
  go_ret
  exact ⟨rfl, rfl⟩

/-- the round's inner state -/
structure TS (B D1 : Nat) (w : World) (n m : Nat) (E : List (Nat × Nat)) (Gb Vb wb Rb Lb Bg x : Nat) (out : List Nat) (ov : Value) (ds : List Nat) (rest : List Nat) (ws l : List Int) (av : Option Addr) (M cv : Nat) (W : World) : Prop where
  is : IS n E out rest ws l
  lm : l.length = M
  ab : AB B w n Vb wb ws W
  ah : AH B Rb Lb wb (.slice av M cv) l W
  ao : AO B wb (.slice av M cv) ov out W
  bg : W.heap[Bg]? = some (.cells #[.pointer (some ⟨Gb, 0, none⟩)] 43 (0, 0))
  bt : W.heap[Bg + 1]? = some (.cells #[.int .i64 (x : Int)] 3 (0, 0))
  lt : ∀ g, (Value.slice av M cv).ownBlock = some g → (g < D1 ∨ D1 + 2 ≤ g) ∧ g ≠ Bg + 1
  ot : ∀ g, ov.ownBlock = some g → g < D1
  dd : ∀ D ∈ ds, W.heap[D]? = some (.deferred (some []))
  k1 : Vb < D1 ∧ wb < D1 ∧ Rb < D1 ∧ Lb < D1 ∧ Bg + 1 < D1 ∧ B ≤ Bg ∧ B ≤ D1
  k2 : ∀ D ∈ ds, D < D1 ∧ B ≤ D
  k3 : wb ≠ Bg + 1
theorem own_lt {B : Nat} {w : World} {v : Value} {n m : Nat} {xs : List Value} (h : w.ownsRow B 3 n v m xs) {g : Nat} (hg : v.ownBlock = some g) : g < w.heap.size := (own_blk h hg).2.1
/-- what keeps all that is named -/
theorem TS.keep {B D1 : Nat} {w : World} {n m : Nat} {E : List (Nat × Nat)} {Gb Vb wb Rb Lb Bg x : Nat} {out : List Nat} {ov : Value} {ds rest : List Nat} {ws l : List Int} {av : Option Addr} {M cv : Nat} {W W' : World} (h : TS B D1 w n m E Gb Vb wb Rb Lb Bg x out ov ds rest ws l av M cv W) {X : Nat → Prop} (hb : But X W W') (hX : ∀ k, X k → k = D1 ∨ k = D1 + 1) : TS B D1 w n m E Gb Vb wb Rb Lb Bg x out ov ds rest ws l av M cv W' := by
  obtain ⟨k1, k2, k3, k4, k5, k6, k7⟩ := h.k1
  have no : ∀ k, k < D1 → ¬ X k := fun k hk e => by rcases hX k e with e | e <;> omega
  refine ⟨h.is, h.lm, h.ab.but hb (fun k hk => no k (by omega)) (no _ k1) (no _ k2), h.ah.but hb (no _ k3) (no _ k4) (fun g hg e => ?_), h.ao.but hb (fun g hg => no _ (h.ot g hg)), (hb.block _ ?_ (no _ (by omega))).trans h.bg, (hb.block _ ?_ (no _ k5)).trans h.bt, h.lt, h.ot, fun D hD => (hb.block _ (Array.getElem?_eq_some_iff.1 (h.dd D hD)).1 (no _ (h.k2 D hD).1)).trans (h.dd D hD), h.k1, h.k2, h.k3⟩
  · rcases hX g e with e | e <;> rcases (h.lt g hg).1 with q | q <;> omega
  · exact (Array.getElem?_eq_some_iff.1 h.bg).1
  · exact (Array.getElem?_eq_some_iff.1 h.bt).1
theorem TS.neV {B D1 : Nat} {w : World} {n m : Nat} {E : List (Nat × Nat)} {Gb Vb wb Rb Lb Bg x : Nat} {out : List Nat} {ov : Value} {ds rest : List Nat} {ws l : List Int} {av : Option Addr} {M cv : Nat} {W : World} (h : TS B D1 w n m E Gb Vb wb Rb Lb Bg x out ov ds rest ws l av M cv W) : (∀ g, (Value.slice av M cv).ownBlock = some g → g ≠ Vb ∧ g ≠ Rb ∧ g ≠ Bg ∧ g ≠ Lb) ∧ wb ≠ Rb ∧ wb ≠ Lb ∧ wb ≠ Bg ∧ wb ≠ Vb ∧ Lb ≠ Rb ∧ Lb ≠ Vb ∧ Lb ≠ Bg ∧ Lb ≠ Bg + 1 := by
  have hv := h.ab.vb
  have hw := h.ab.wk
  unfold Blk at hw
  have hr := h.ah.rb
  have hl := h.ah.hp.box
  have hg := h.bg
  have ht := h.bt
  refine ⟨fun g q => ?_, ?_, ?_, ?_, ?_, ?_, ?_, ?_, ?_⟩
  · obtain ⟨_, _, cur, hh⟩ := own_blk h.ah.hp.row q
    refine ⟨?_, ?_, ?_, ?_⟩ <;> (intro e; subst e)
    · rw [hv] at hh; simp at hh
    · rw [hr] at hh; simp at hh
    · rw [hg] at hh; simp at hh
    · rw [hl] at hh; simp at hh
  · intro e; rw [e, hr] at hw; simp at hw
  · intro e; rw [e, hl] at hw; simp at hw
  · intro e; rw [e, hg] at hw; simp at hw
  · intro e; rw [e, hv] at hw; simp at hw
  · intro e; rw [e, hr] at hl; simp at hl
  · intro e; rw [e, hv] at hl; simp at hl
  · intro e; rw [e, hg] at hl; simp at hl
  · intro e; rw [e, ht] at hl; simp at hl
theorem Dl2.of_but2 {B : Nat} {X : Nat → Prop} {W W' : World} (h : But X W W') (hl : B + 1 < W.heap.size) (h1 : ¬ X B) (h2 : ¬ X (B + 1)) : Dl2 B W W' := Dl2.of_but h hl h1 h2
/-- one more edge: a place less waits -/
theorem TS.lower {B D1 : Nat} {w : World} {n m : Nat} {E : List (Nat × Nat)} {Gb Vb wb Rb Lb Bg x : Nat} {out : List Nat} {ov : Value} {ds rest : List Nat} {ws l : List Int} {av : Option Addr} {M cv i : Nat} {W : World} (h : TS B D1 w n m E Gb Vb wb Rb Lb Bg x out ov ds (i :: rest) ws l av M cv W) (y : Nat) (hy : y = (eg E i).2) :
    y < n ∧ 1 ≤ gt ws y ∧ (gt ws y ≠ 1 → TS B D1 w n m E Gb Vb wb Rb Lb Bg x out ov ds rest (ws.set y (gt ws y - 1)) l av M cv (W.setCell ⟨wb, y, none⟩ (.int .i64 (gt ws y - 1)))) ∧
      (gt ws y = 1 → ∀ (W' : World) (g c' : Nat) (l' : List Int), Hp B W' Lb (.slice (some ⟨g, 0, none⟩) l'.length c') l' → IsH l'.length l' → l'.Perm ((y : Int) :: l) → But (fun k => k = Lb ∨ some k = (Value.slice av M cv).ownBlock) (W.setCell ⟨wb, y, none⟩ (.int .i64 (gt ws y - 1))) W' → ((Value.slice av M cv).ownBlock = some g ∨ W.heap.size ≤ g) → D1 + 1 < W.heap.size →
        TS B D1 w n m E Gb Vb wb Rb Lb Bg x out ov ds rest (ws.set y (gt ws y - 1)) l' (some ⟨g, 0, none⟩) l'.length c' W') := by
  obtain ⟨h1, h2, h3, h4⟩ := h.is.one
  rw [← hy] at h1 h2 h3 h4
  obtain ⟨k1, k2, k3, k4, k5, k6, k7⟩ := h.k1
  obtain ⟨n1, n2, n3, n4, n5, n6, n7, n8, n9⟩ := h.neV
  have hb : But (fun k => k = wb) W (W.setCell ⟨wb, y, none⟩ (.int .i64 (gt ws y - 1))) := (But.refl (fun k => k = wb) W).setCell (p := ⟨wb, y, none⟩) rfl _
  have hA := h.ab.set y (gt ws y - 1)
  have hH := h.ah.but hb (fun e => n2 e.symm) (fun e => n3 e.symm) (fun g hg e => h.ah.ne (by rw [hg, e]))
  have hO := h.ao.but hb (fun g hg e => h.ao.ne (by rw [hg, e]))
  have hG := (hb.block _ (Array.getElem?_eq_some_iff.1 h.bg).1 (fun e => n4 e.symm)).trans h.bg
  have hT := (hb.block _ (Array.getElem?_eq_some_iff.1 h.bt).1 (fun e => h.k3 e.symm)).trans h.bt
  have hD : ∀ D ∈ ds, (W.setCell ⟨wb, y, none⟩ (.int .i64 (gt ws y - 1))).heap[D]? = some (.deferred (some [])) := fun D hD => (hb.block _ (Array.getElem?_eq_some_iff.1 (h.dd D hD)).1 (fun e => by
    have := h.dd D hD
    have hw := h.ab.wk
    unfold Blk at hw
    rw [e, hw] at this
    simp at this)).trans (h.dd D hD)
  refine ⟨h1, h2, fun e => ⟨h3 e, h.lm, hA, hH, hO, hG, hT, h.lt, h.ot, hD, h.k1, h.k2, h.k3⟩, fun e W' g c' l' hp hh hpm hb2 hg hsz => ?_⟩
  have hgn : g ≠ wb ∧ g ≠ Bg + 1 ∧ (g < D1 ∨ D1 + 2 ≤ g) ∧ (∀ g', ov.ownBlock = some g' → g ≠ g') := by
    rcases hg with hg | hg
    · exact ⟨fun e => h.ah.ne (by rw [hg, e]), (h.lt g hg).2, (h.lt g hg).1, fun g' q e => h.ao.nl g' q (by rw [hg, e])⟩
    · have := h.ab.wk.lt
      have := (Array.getElem?_eq_some_iff.1 h.bt).1
      exact ⟨by omega, by omega, .inr (by omega), fun g' q => by have := h.ot g' q; omega⟩
  have nX : ∀ k, k ≠ Lb → (∀ g', (Value.slice av M cv).ownBlock = some g' → k ≠ g') → ¬ (k = Lb ∨ some k = (Value.slice av M cv).ownBlock) := fun k q1 q2 e => by
    rcases e with e | e
    · exact q1 e
    · exact q2 k e.symm rfl
  refine ⟨h4 e l' hpm hh, rfl, hA.but hb2 (fun k hk => nX k (by have := h.ah.hL; omega) (fun g' q => by have := (own_blk h.ah.hp.row q).1; omega)) (nX _ (fun e => n7 e.symm) (fun g' q e => (n1 g' q).1 e.symm)) (nX _ n3 (fun g' q e => h.ah.ne (by rw [q, e]))), ⟨?_, hp, h.ah.hR, h.ah.hL, ?_⟩, ?_, ?_, ?_, ?_, h.ot, ?_, h.k1, h.k2, h.k3⟩
  · exact (hb2.block _ hH.rlt (nX _ (fun e => n6 e.symm) (fun g' q e => (n1 g' q).2.1 e.symm))).trans hH.rb
  · simp only [Value.ownBlock]
    intro e
    exact hgn.1 (by simpa using e)
  · have := hO.but hb2 (fun g' q => nX _ (fun e => by
      obtain ⟨_, _, cur, hh⟩ := own_blk hO.ow q
      have hl := hH.hp.box
      rw [e, hl] at hh
      simp at hh) (fun g2 q2 e => h.ao.nl g' q (by rw [q2, e])))
    refine ⟨this.ow, this.ne, fun g' q => ?_⟩
    simp only [Value.ownBlock]
    intro e
    exact hgn.2.2.2 g' q (by simpa using e)
  · exact (hb2.block _ (Array.getElem?_eq_some_iff.1 hG).1 (nX _ (fun e => n8 e.symm) (fun g' q e => (n1 g' q).2.2.1 e.symm))).trans hG
  · exact (hb2.block _ (Array.getElem?_eq_some_iff.1 hT).1 (nX _ (fun e => n9 e.symm) (fun g' q e => (h.lt g' q).2 e.symm))).trans hT
  · intro g' q
    simp [Value.ownBlock] at q
    subst q
    exact ⟨hgn.2.2.1, hgn.2.1⟩
  · intro D hDs
    refine (hb2.block _ (Array.getElem?_eq_some_iff.1 (hD D hDs)).1 (nX _ (fun e => ?_) (fun g' q e => ?_))).trans (hD D hDs)
    · have h9 := hD D hDs
      have hl := hH.hp.box
      rw [e, hl] at h9
      simp at h9
    · have h9 := hD D hDs
      obtain ⟨_, _, cur, hh⟩ := own_blk hH.hp.row q
      rw [e, hh] at h9
      simp at h9
end Go.Proofs.Ytajnokkmpjdliaa
