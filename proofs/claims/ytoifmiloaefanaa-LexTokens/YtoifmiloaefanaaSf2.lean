/-
  The Shelf: what an untouched list held.
-/
import Derived.Test.YtoifmiloaefanaaSf1
namespace Go.Proofs.Ytoifmiloaefanaa
open Go.RowKit

theorem Shf.next {κ : Nat → Nat} {B s : Nat} {mk tot : Int} {fs : List (Value × List Tk)} {fv hv kv wv : Value} {hs xs ys : List Value} {Ms : List (List Tk)} {w w' : World} (h : Shf κ B s mk tot fs fv hv kv wv hs xs ys Ms w) (hb : Below w.heap.size w w') : Shf κ B s mk tot fs fv hv kv wv hs xs ys Ms w' := by
  have b : But (fun _ => False) w w' := But.of_below hb
  have e := Ext.refl κ w.heap.size
  have z := hb.size
  exact ⟨(hb.block s h.lt).trans h.sb, h.ks, h.fr.keep b (fun _ _ => id) (by decide) e, h.hr.keep b (fun _ _ => id) (by decide) e, h.kr.keep b (fun _ _ => id) (by decide) e, h.wr.keep b (fun _ _ => id) (by decide) e, fun i hi => ⟨(h.fl i hi).1.keep b (fun _ _ => id) (by omega) e, (h.fl i hi).2⟩, h.hl, fun i hi h' => (h.hk i hi h').keep b (fun _ _ => id) e, h.xl, h.yl, fun i hi h1 h2 => ⟨(h.kk i hi h1 h2).1.keep b (fun _ _ => id) e, (h.kk i hi h1 h2).2.keep b (fun _ _ => id) e⟩, fun g hg => ⟨(h.cut g hg).1, by have := (h.cut g hg).2; omega⟩, h.bd, by have := h.bw; omega⟩
theorem owT_cap {B : Nat} {w : World} {a : Option Addr} {m c : Nat} {ts : List Tk} (h : OwT B w (.slice a m c) ts) (hm : m = ts.length) : ts.length ≤ c := by
  subst hm
  rcases h.2 with ⟨e, q⟩ | ⟨g, cap, cur, e, _, _, hc, _⟩
  · omega
  · simp at e
    obtain ⟨_, rfl⟩ := e
    exact hc
theorem Rl.of {κ : Nat → Nat} {B : Nat} {w : World} {v : Value} {L : List Tk} (h : OwT B w v L) (ht : ∀ g, v.ownBlock = some g → κ g = 6) (hl : L.length ≤ 16777216) : Rl κ w v L := by
  obtain ⟨a, c, rfl⟩ := h.form
  refine ⟨a, c, rfl, owT_cap h rfl, hl, ?_, h.rd rfl⟩
  by_cases q : 0 < L.length
  · obtain ⟨g, rfl, _⟩ := h.some q
    exact .inr ⟨g, rfl, ht g rfl⟩
  · exact .inl (List.eq_nil_of_length_eq_zero (by omega))
theorem Shf.held {κ : Nat → Nat} {B s : Nat} {mk tot : Int} {fs : List (Value × List Tk)} {fv hv kv wv : Value} {hs xs ys : List Value} {Ms : List (List Tk)} {w : World} (h : Shf κ B s mk tot fs fv hv kv wv hs xs ys Ms w) (v : Value) (hm : hs.length < fs.length) (hO : OwT B w v fs[hs.length].2) (h0 : ∀ g, v.ownBlock = some g → κ g = 0) :
    ∃ hv' w2, (Builtin.append_ #[34, 34] 34 #[hv, .slice (some ⟨w.heap.size, 0, none⟩) 1 1]).run Try.prog (w.alloc (.cells #[v] 23)) = .ok hv' w2 ∧ (∃ fa fc, hv' = .slice fa (hs.length + 1) fc) ∧ w2.heap[s]? = some (.cells #[.int .i64 mk, .int .i64 tot, .bool false, fv, hv, kv, wv] 36 (0, 0)) ∧
      ∃ κ', Shf κ' B s mk tot fs fv hv' kv wv (hs ++ [v]) xs ys Ms (w2.setCell ⟨s, 4, none⟩ hv') ∧ Fra κ κ' (fun g => v.ownBlock = some g) w (w2.setCell ⟨s, 4, none⟩ hv') := by
  have hsl := h.lt
  obtain ⟨L, hL⟩ : ∃ L, L = fs[hs.length].2 := ⟨_, rfl⟩
  have hLb : L.length ≤ 16384 := by rw [hL]; exact (h.fl _ hm).2
  rw [← hL] at hO
  obtain ⟨v1, c1, rfl⟩ := hO.form
  have hb5 := h.bd.2.2.2.2.1
  obtain ⟨hv', w2, hr, k1, g1⟩ := (show OwS B (w.alloc (.cells #[.slice v1 L.length c1] 23)) hv hs from own_keep h.hr.own fun g hg => (below1 _ _).block g (own_blk h.hr.own hg).2.1).push 34 [.slice v1 L.length c1] rfl (heap_new _ _) (fun u hu => by simp at hu; rw [hu]; rfl) (by simp; omega) (by have := h.bw; simp; omega)
  have hsf : ∀ g, hv.ownBlock = some g → g ≠ s := fun g hg e => by have := h.hr.tag g hg; rw [e, h.ks] at this; omega
  have b2 : But (fun g => g = s ∨ hv.ownBlock = some g) w w2 := by
    refine ⟨g1.os, g1.tape, g1.output, by have := g1.size; simp at this; omega, fun k hk hx => ?_⟩
    rw [g1.block k (by simp; omega) (fun e => hx (.inr e.symm)), (below1 w _).block k (by omega)]
  have z2 := b2.size
  have sb2 : w2.heap[s]? = some (.cells #[.int .i64 mk, .int .i64 tot, .bool false, fv, hv, kv, wv] 36 (0, 0)) := by
    rw [g1.block s (by simp; omega) (fun e => hsf s e.symm rfl), (below1 w _).block s (by omega)]
    exact h.sb
  obtain ⟨fa, fc, hfv⟩ := k1.form
  obtain ⟨w3, hw3⟩ : ∃ w3, w3 = w2.setCell ⟨s, 4, none⟩ hv' := ⟨_, rfl⟩
  have sb3 : w3.heap[s]? = some (.cells #[.int .i64 mk, .int .i64 tot, .bool false, fv, hv', kv, wv] 36 (0, 0)) := by rw [hw3]; exact shelf_set sb2 rfl
  have z3 : w3.heap.size = w2.heap.size := by rw [hw3]; simp [World.setCell]
  have b3 : But (fun g => g = s ∨ hv.ownBlock = some g) w w3 := by rw [hw3]; exact b2.setCell (p := ⟨s, 4, none⟩) (.inl rfl) _
  have hX : ∀ g, (g = s ∨ hv.ownBlock = some g) → κ g = 1 ∨ κ g = 3 := fun g hg => hg.imp (fun e => by rw [e]; exact h.ks) (fun e => h.hr.tag g e)
  have fr3 : OwS B w3 hv' (hs ++ [.slice v1 L.length c1]) := by
    rw [hw3]
    refine own_keep k1 fun g hg => Below.heap_setCell _ _ _ _ ?_
    intro e
    obtain ⟨cur, hc⟩ := (own_blk k1 hg).2.2
    simp at e
    rw [e, sb2] at hc
    simp at hc
  have hnew : ∀ g, hv'.ownBlock = some g → g < w.heap.size → κ g = 3 := fun g hg hl => by
    rcases g1.own with e | ⟨g', e, hl'⟩
    · rw [e] at hg
      exact h.hr.tag g hg
    · rw [e] at hg
      simp at hg
      simp at hl'
      omega
  refine ⟨hv', w2, hr, ⟨fa, fc, by rw [hfv]; simp⟩, sb2, ?_⟩
  rw [← hw3]
  obtain ⟨κ', hκ⟩ : ∃ κ' : Nat → Nat, κ' = fun g => if hv'.ownBlock = some g then 3 else if (Value.slice v1 L.length c1).ownBlock = some g then 6 else κ g := ⟨_, rfl⟩
  have hxt : Ext κ κ' w.heap.size := fun g hg hk => by
    rw [hκ]
    simp only
    split
    · rename_i e; exact (hnew g e hg).symm
    split
    · rename_i e; exact absurd (h0 g e) hk
    · rfl
  have other : ∀ t, t ≠ 1 → t ≠ 3 → ∀ g, κ g = t → ¬ (g = s ∨ hv.ownBlock = some g) := fun t h1 h2 g e hx => by rcases hX g hx with q | q <;> omega
  have hvl : ∀ g, (Value.slice v1 L.length c1).ownBlock = some g → g < w.heap.size := fun g hg => (own_blk hO hg).2.1
  have hO3 : OwT B w3 (.slice v1 L.length c1) L := own_keep hO fun g hg => b3.block g (hvl g hg) (by intro hx; have := hX g hx; rw [h0 g hg] at this; omega)
  refine ⟨κ', ⟨sb3, ?_, h.fr.keep b3 (other 2 (by decide) (by decide)) (by decide) hxt, ⟨fr3, ?_⟩, h.kr.keep b3 (other 4 (by decide) (by decide)) (by decide) hxt, h.wr.keep b3 (other 5 (by decide) (by decide)) (by decide) hxt, fun i hi => ⟨(h.fl i hi).1.keep b3 (other _ (by omega) (by omega)) (by omega) hxt, (h.fl i hi).2⟩, by simp; omega, ?_, h.xl, h.yl, ?_, ?_, h.bd, ?_⟩, ⟨?_, hxt, ?_⟩⟩
  · rw [hxt s hsl (by rw [h.ks]; decide), h.ks]
  · intro g hg
    rw [hκ]
    simp only
    rw [if_pos hg]
  · intro i hi h'
    by_cases q : i < hs.length
    · rw [List.getElem_append_left q]
      exact (h.hk i hi q).keep b3 (other 6 (by decide) (by decide)) hxt
    · obtain rfl : i = hs.length := by simp at h'; omega
      rw [List.getElem_append_right (by omega)]
      simp only [Nat.sub_self, List.getElem_cons_zero]
      rw [← hL]
      refine Rl.of hO3 (fun g hg => ?_) (by omega)
      rw [hκ]
      simp only
      rw [if_neg, if_pos hg]
      intro e
      have := hnew g e (hvl g hg)
      rw [h0 g hg] at this
      omega
  · intro i hi h1 h2
    exact ⟨(h.kk i hi h1 h2).1.keep b3 (other 6 (by decide) (by decide)) hxt, (h.kk i hi h1 h2).2.keep b3 (other 6 (by decide) (by decide)) hxt⟩
  · intro g hg
    rw [hκ] at hg
    simp only at hg
    split at hg
    · rename_i e; exact ⟨(own_blk fr3 e).1, (own_blk fr3 e).2.1⟩
    split at hg
    · rename_i e; exact ⟨(own_blk hO e).1, by have := hvl g e; omega⟩
    · have := h.cut g hg; exact ⟨this.1, by omega⟩
  · have := h.bw; omega
  · exact b3.mono (fun g _ hx => by have := hX g hx; omega)
  · intro g hg hk
    rw [hκ] at hk
    simp only at hk
    split at hk
    · rename_i e; exact .inl (by rw [hnew g e hg]; decide)
    split at hk
    · rename_i e; exact .inr e
    · exact .inl hk

end Go.Proofs.Ytoifmiloaefanaa
