/-
  The Shelf: one list more that lies untouched.
-/
import Derived.Test.YtoifmiloaefanaaSf0
namespace Go.Proofs.Ytoifmiloaefanaa
open Go.RowKit

/-- what a call may have turned -/
structure Fra (κ κ' : Nat → Nat) (N : Nat → Prop) (w w' : World) : Prop where
  but : But (fun g => κ g ≠ 0) w w'
  ext : Ext κ κ' w.heap.size
  new : ∀ g, g < w.heap.size → κ' g ≠ 0 → κ g ≠ 0 ∨ N g
theorem Fra.trans {κ κ' κ'' : Nat → Nat} {N : Nat → Prop} {a b c : World} (h : Fra κ κ' N a b) (k : Fra κ' κ'' N b c) (hN : ∀ g, g < a.heap.size → N g → b.heap[g]? = c.heap[g]? ) : Fra κ κ'' N a c := by
  have z := h.but.size
  refine ⟨⟨k.but.os.trans h.but.os, k.but.tape.trans h.but.tape, k.but.output.trans h.but.output, by have := k.but.size; omega, fun g hg h0 => ?_⟩, fun g hg h0 => ?_, fun g hg h0 => ?_⟩
  · have h0' : κ g = 0 := by simpa using h0
    by_cases q : κ' g = 0
    · rw [k.but.block g (by omega) (by simpa using q), h.but.block g hg h0]
    · rcases h.new g hg q with h1 | h1
      · exact absurd h0' h1
      · rw [← hN g hg h1, h.but.block g hg h0]
  · have h1 := h.ext g hg h0
    rw [k.ext g (by omega) (by rw [h1]; exact h0), h1]
  · rcases k.new g (by omega) h0 with h1 | h1
    · exact h.new g hg h1
    · exact .inr h1
theorem shelf_set {w : World} {s i : Nat} {cs cs' : Array Value} {v : Value} (h : w.heap[s]? = some (.cells cs 36 (0, 0))) (hv : cs.setIfInBounds i v = cs') : (w.setCell ⟨s, i, none⟩ v).heap[s]? = some (.cells cs' 36 (0, 0)) := by
  simp only [World.setCell, Array.getElem?_modify]
  rw [h, ← hv]
  simp
theorem Shf.kN {κ : Nat → Nat} {B s : Nat} {mk tot : Int} {fs : List (Value × List Tk)} {fv hv kv wv : Value} {hs xs ys : List Value} {Ms : List (List Tk)} {w : World} (h : Shf κ B s mk tot fs fv hv kv wv hs xs ys Ms w) {g : Nat} (hg : w.heap.size ≤ g) : κ g = 0 := by
  by_cases q : κ g = 0
  · exact q
  · have := (h.cut g q).2
    omega
/-- a list is laid to the untouched ones -/
theorem Shf.fresh {κ : Nat → Nat} {B s : Nat} {mk tot tot' : Int} {fs : List (Value × List Tk)} {fv hv kv wv : Value} {hs xs ys : List Value} {Ms : List (List Tk)} {w : World} (h : Shf κ B s mk tot fs fv hv kv wv hs xs ys Ms w) (v : Value) (L : List Tk) (hO : OwT B w v L) (h0 : ∀ g, v.ownBlock = some g → κ g = 0) (hL : L.length ≤ 16384) (hf : fs.length ≤ 2) (ht : 0 ≤ tot' ∧ tot' ≤ 1000000) :
    ∃ fv' w2, (Builtin.append_ #[34, 34] 34 #[fv, .slice (some ⟨w.heap.size, 0, none⟩) 1 1]).run Try.prog ((w.setCell ⟨s, 1, none⟩ (.int .i64 tot')).alloc (.cells #[v] 23)) = .ok fv' w2 ∧ (∃ fa fc, fv' = .slice fa (fs.length + 1) fc) ∧ w2.heap[s]? = some (.cells #[.int .i64 mk, .int .i64 tot', .bool false, fv, hv, kv, wv] 36 (0, 0)) ∧
      ∃ κ', Shf κ' B s mk tot' (fs ++ [(v, L)]) fv' hv kv wv hs xs ys Ms (w2.setCell ⟨s, 3, none⟩ fv') ∧ Fra κ κ' (fun g => v.ownBlock = some g) w (w2.setCell ⟨s, 3, none⟩ fv') ∧ OwT B (w2.setCell ⟨s, 3, none⟩ fv') v L := by
  have hs := h.lt
  obtain ⟨w1, hw1⟩ : ∃ w1, w1 = w.setCell ⟨s, 1, none⟩ (.int .i64 tot') := ⟨_, rfl⟩
  have b1 : But (fun g => g = s) w w1 := by rw [hw1]; exact set_but _ _ _ _ rfl
  have z1 : w1.heap.size = w.heap.size := by rw [hw1]; simp [World.setCell]
  have sb1 : w1.heap[s]? = some (.cells #[.int .i64 mk, .int .i64 tot', .bool false, fv, hv, kv, wv] 36 (0, 0)) := by rw [hw1]; exact shelf_set h.sb rfl
  have fr1 : OwS B w1 fv (fs.map (·.1)) := own_keep h.fr.own fun g hg => b1.block g (own_blk h.fr.own hg).2.1 (by intro e; have := h.fr.tag g hg; rw [e, h.ks] at this; omega)
  obtain ⟨v1, c1, rfl⟩ := hO.form
  obtain ⟨fv', w2, hr, k1, g1⟩ := (show OwS B (w1.alloc (.cells #[.slice v1 L.length c1] 23)) fv (fs.map (·.1)) from own_keep fr1 fun g hg => (below1 _ _).block g (own_blk fr1 hg).2.1).push 34 [.slice v1 L.length c1] rfl (heap_new _ _) (fun u hu => by simp at hu; rw [hu]; rfl) (by simp; omega) (by have := h.bw; simp; omega)
  have hsf : ∀ g, fv.ownBlock = some g → g ≠ s := fun g hg e => by have := h.fr.tag g hg; rw [e, h.ks] at this; omega
  have b2 : But (fun g => g = s ∨ fv.ownBlock = some g) w w2 := by
    refine ⟨g1.os.trans (by rw [hw1]; rfl), g1.tape.trans (by rw [hw1]; rfl), g1.output.trans (by rw [hw1]; rfl), by have := g1.size; simp at this; omega, fun k hk hx => ?_⟩
    rw [g1.block k (by simp; omega) (fun e => hx (.inr e.symm)), (below1 w1 _).block k (by omega), b1.block k hk (fun e => hx (.inl e))]
  have z2 := b2.size
  have z2' : w1.heap.size + 1 ≤ w2.heap.size := by have := g1.size; simpa using this
  have sb2 : w2.heap[s]? = some (.cells #[.int .i64 mk, .int .i64 tot', .bool false, fv, hv, kv, wv] 36 (0, 0)) := by
    rw [g1.block s (by simp; omega) (fun e => hsf s e.symm rfl), (below1 w1 _).block s (by omega)]
    exact sb1
  obtain ⟨fa, fc, hfv⟩ := k1.form
  obtain ⟨w3, hw3⟩ : ∃ w3, w3 = w2.setCell ⟨s, 3, none⟩ fv' := ⟨_, rfl⟩
  have sb3 : w3.heap[s]? = some (.cells #[.int .i64 mk, .int .i64 tot', .bool false, fv', hv, kv, wv] 36 (0, 0)) := by rw [hw3]; exact shelf_set sb2 rfl
  have z3 : w3.heap.size = w2.heap.size := by rw [hw3]; simp [World.setCell]
  have b3 : But (fun g => g = s ∨ fv.ownBlock = some g) w w3 := by rw [hw3]; exact b2.setCell (p := ⟨s, 3, none⟩) (.inl rfl) _
  have hX : ∀ g, (g = s ∨ fv.ownBlock = some g) → κ g = 1 ∨ κ g = 2 := fun g hg => hg.imp (fun e => by rw [e]; exact h.ks) (fun e => h.fr.tag g e)
  have fr3 : OwS B w3 fv' (fs.map (·.1) ++ [.slice v1 L.length c1]) := by
    rw [hw3]
    refine own_keep k1 fun g hg => Below.heap_setCell _ _ _ _ ?_
    intro e
    obtain ⟨cur, hc⟩ := (own_blk k1 hg).2.2
    simp at e
    rw [e, sb2] at hc
    simp at hc
  have hnew : ∀ g, fv'.ownBlock = some g → g < w.heap.size → κ g = 2 := fun g hg hl => by
    rcases g1.own with e | ⟨g', e, hl'⟩
    · rw [e] at hg
      exact h.fr.tag g hg
    · rw [e] at hg
      simp at hg
      simp at hl'
      omega
  have hfl : ∀ g, fv'.ownBlock = some g → g < w3.heap.size := fun g hg => (own_blk fr3 hg).2.1
  refine ⟨fv', w2, ?_, ⟨fa, fc, by rw [hfv]; simp⟩, sb2, ?_⟩
  · rw [← hw1, ← z1]; exact hr
  rw [← hw3]
  obtain ⟨κ', hκ⟩ : ∃ κ' : Nat → Nat, κ' = fun g => if fv'.ownBlock = some g then 2 else if (Value.slice v1 L.length c1).ownBlock = some g then 10 + fs.length else κ g := ⟨_, rfl⟩
  have hxt : Ext κ κ' w.heap.size := fun g hg hk => by
    rw [hκ]
    simp only
    split
    · rename_i e; exact (hnew g e hg).symm
    split
    · rename_i e; exact absurd (h0 g e) hk
    · rfl
  have other : ∀ t, t ≠ 1 → t ≠ 2 → ∀ g, κ g = t → ¬ (g = s ∨ fv.ownBlock = some g) := fun t h1 h2 g e hx => by rcases hX g hx with q | q <;> omega
  have hvl : ∀ g, (Value.slice v1 L.length c1).ownBlock = some g → g < w.heap.size := fun g hg => (own_blk hO hg).2.1
  have hO3 : OwT B w3 (.slice v1 L.length c1) L := own_keep hO fun g hg => b3.block g (hvl g hg) (by intro hx; have := hX g hx; rw [h0 g hg] at this; omega)
  refine ⟨κ', ⟨sb3, ?_, ⟨by rw [List.map_append]; exact fr3, ?_⟩, h.hr.keep b3 (other 3 (by decide) (by decide)) (by decide) hxt, h.kr.keep b3 (other 4 (by decide) (by decide)) (by decide) hxt, h.wr.keep b3 (other 5 (by decide) (by decide)) (by decide) hxt, ?_, by have := h.hl; simp; omega, ?_, h.xl, h.yl, ?_, ?_, ?_, ?_⟩, ⟨?_, hxt, ?_⟩, hO3⟩
  · rw [hxt s hs (by rw [h.ks]; decide), h.ks]
  · intro g hg
    rw [hκ]
    simp only
    rw [if_pos hg]
  · intro i hi
    by_cases q : i < fs.length
    · rw [List.getElem_append_left q]
      exact ⟨(h.fl i q).1.keep b3 (other _ (by omega) (by omega)) (by omega) hxt, (h.fl i q).2⟩
    · obtain rfl : i = fs.length := by simp at hi; omega
      rw [List.getElem_append_right (by omega)]
      simp only [Nat.sub_self, List.getElem_cons_zero]
      refine ⟨⟨hO3, fun g hg => ?_⟩, hL⟩
      rw [hκ]
      simp only
      rw [if_neg, if_pos hg]
      intro e
      have := hnew g e (hvl g hg)
      rw [h0 g hg] at this
      omega
  · intro i hi h'
    have q : i < fs.length := by have := h.hl; omega
    rw [List.getElem_append_left q]
    exact (h.hk i q h').keep b3 (other 6 (by decide) (by decide)) hxt
  · intro i hi h1 h2
    exact ⟨(h.kk i hi h1 h2).1.keep b3 (other 6 (by decide) (by decide)) hxt, (h.kk i hi h1 h2).2.keep b3 (other 6 (by decide) (by decide)) hxt⟩
  · intro g hg
    rw [hκ] at hg
    simp only at hg
    split at hg
    · rename_i e; exact ⟨(own_blk fr3 e).1, hfl g e⟩
    split at hg
    · rename_i e; exact ⟨(own_blk hO e).1, by have := hvl g e; omega⟩
    · have := h.cut g hg; exact ⟨this.1, by omega⟩
  · have := h.bd
    exact ⟨this.1, this.2.1, ht.1, ht.2, by simp; omega, this.2.2.2.2.2⟩
  · have := h.bw; omega
  · exact b3.mono (fun g _ hx => by have := hX g hx; omega)
  · intro g hg hk
    rw [hκ] at hk
    simp only at hk
    split at hk
    · rename_i e; exact .inl (by rw [hnew g e hg]; decide)
    split at hk
    · rename_i e; exact .inr e
    · exact .inl hk

end Go.Proofs.Ytoifmiloaefanaa
