/-
  The Shelf: write: its state, and what turns it.
-/
import Derived.Test.YtoifmiloaefanaaSf2
import Derived.Test.YtoifmiloaefanaaTm0
import Derived.ArgAppend
namespace Go.Proofs.Ytoifmiloaefanaa
open Go.RowKit

theorem Row.keep2 {κ κ' : Nat → Nat} {t B : Nat} {w w' : World} {v : Value} {xs : List Value} {X : Nat → Prop} (h : Row κ t B w v xs) (hb : But X w w') (hx : ∀ g, κ g = t → ¬ X g) (he : ∀ g, g < w.heap.size → κ g = t → κ' g = t) : Row κ' t B w' v xs :=
  ⟨own_keep h.own fun g hg => hb.block g (own_blk h.own hg).2.1 (hx g (h.tag g hg)), fun g hg => he g (own_blk h.own hg).2.1 (h.tag g hg)⟩
theorem Lst.keep2 {κ κ' : Nat → Nat} {t B : Nat} {w w' : World} {v : Value} {L : List Tk} {X : Nat → Prop} (h : Lst κ t B w v L) (hb : But X w w') (hx : ∀ g, κ g = t → ¬ X g) (he : ∀ g, g < w.heap.size → κ g = t → κ' g = t) : Lst κ' t B w' v L :=
  ⟨own_keep h.own fun g hg => hb.block g (own_blk h.own hg).2.1 (hx g (h.tag g hg)), fun g hg => he g (own_blk h.own hg).2.1 (h.tag g hg)⟩
theorem Rl.keep2 {κ κ' : Nat → Nat} {w w' : World} {v : Value} {L : List Tk} {X : Nat → Prop} (h : Rl κ w v L) (hb : But X w w') (hx : ∀ g, κ g = 6 → ¬ X g) (he : ∀ g, g < w.heap.size → κ g = 6 → κ' g = 6) : Rl κ' w' v L := by
  obtain ⟨a, c, e, h1, h2, h3, h4⟩ := h
  refine ⟨a, c, e, h1, h2, ?_, h4.but hb ?_⟩
  · rcases h3 with h3 | ⟨g, e2, hk⟩
    · exact .inl h3
    · rcases h4 with h4 | ⟨g', e3, hg, _⟩
      · exact .inl h4
      · rw [e2] at e3
        simp at e3
        subst e3
        exact .inr ⟨g, e2, he g hg hk⟩
  · exact h3.imp id (fun ⟨g, e2, hk⟩ => ⟨g, e2, hx g hk⟩)
theorem blQ {κ κ' : Nat → Nat} {w w' : World} {q : Nat} {W : List Tk} {X : Nat → Prop} (h : BlT w q W ∧ κ q = 6) (hb : But X w w') (hx : ∀ g, κ g = 6 → ¬ X g) (he : ∀ g, g < w.heap.size → κ g = 6 → κ' g = 6) : BlT w' q W ∧ κ' q = 6 := by
  have hl := h.1.lt
  refine ⟨?_, he q hl h.2⟩
  have h1 := h.1
  unfold BlT at *
  rw [hb.block q hl (hx q h.2)]
  exact h1
/-- the state within write -/
structure Wst (κ : Nat → Nat) (B s : Nat) (mk tot : Int) (fv hv kv wv : Value) (frs : List Value) (ls : List (Value × List Tk)) (xs ys : List Value) (R : List (Value × List Tk)) (lo : Nat) (Q : List (Nat × List Tk)) (w : World) : Prop where
  sb : w.heap[s]? = some (.cells #[.int .i64 mk, .int .i64 tot, .bool false, fv, hv, kv, wv] 36 (0, 0))
  ks : κ s = 1
  fr : Row κ 2 B w fv frs
  kr : Row κ 4 B w kv xs
  wr : Row κ 5 B w wv ys
  ll : ∀ i (_ : lo ≤ i) (h : i < ls.length), Lst κ (10 + i) B w ls[i].1 ls[i].2
  rl : ∀ p ∈ R, Rl κ w p.1 p.2
  qb : ∀ p ∈ Q, BlT w p.1 p.2 ∧ κ p.1 = 6
  cut : ∀ g, κ g ≠ 0 → B ≤ g ∧ g < w.heap.size
  bw : B ≤ w.heap.size
/-- what may have turned -/
structure Frw (κ κ' : Nat → Nat) (w w' : World) : Prop where
  but : But (fun g => κ g ≠ 0) w w'
  old : ∀ g, g < w.heap.size → κ' g ≠ 0 → κ g ≠ 0
theorem Frw.trans {κ κ' κ'' : Nat → Nat} {a b c : World} (h : Frw κ κ' a b) (k : Frw κ' κ'' b c) : Frw κ κ'' a c := by
  have z := h.but.size
  refine ⟨⟨k.but.os.trans h.but.os, k.but.tape.trans h.but.tape, k.but.output.trans h.but.output, by have := k.but.size; omega, fun g hg h0 => ?_⟩, fun g hg h0 => h.old g hg (k.old g (by omega) h0)⟩
  rw [k.but.block g (by omega) (fun q => h0 (h.old g hg q)), h.but.block g hg h0]
theorem Frw.refl (κ : Nat → Nat) (w : World) : Frw κ κ w w := ⟨But.refl _ _, fun _ _ h => h⟩
theorem Wst.lt {κ : Nat → Nat} {B s : Nat} {mk tot : Int} {fv hv kv wv : Value} {frs xs ys : List Value} {ls R : List (Value × List Tk)} {lo : Nat} {Q : List (Nat × List Tk)} {w : World} (h : Wst κ B s mk tot fv hv kv wv frs ls xs ys R lo Q w) : s < w.heap.size := (Array.getElem?_eq_some_iff.1 h.sb).1
theorem Wst.next {κ : Nat → Nat} {B s : Nat} {mk tot : Int} {fv hv kv wv : Value} {frs xs ys : List Value} {ls R : List (Value × List Tk)} {lo : Nat} {Q : List (Nat × List Tk)} {w w' : World} (h : Wst κ B s mk tot fv hv kv wv frs ls xs ys R lo Q w) (hb : Below w.heap.size w w') : Wst κ B s mk tot fv hv kv wv frs ls xs ys R lo Q w' ∧ Frw κ κ w w' := by
  have b : But (fun _ => False) w w' := But.of_below hb
  have z := hb.size
  exact ⟨⟨(hb.block s h.lt).trans h.sb, h.ks, h.fr.keep2 b (fun _ _ => id) (fun _ _ e => e), h.kr.keep2 b (fun _ _ => id) (fun _ _ e => e), h.wr.keep2 b (fun _ _ => id) (fun _ _ e => e), fun i hlo hi => (h.ll i hlo hi).keep2 b (fun _ _ => id) (fun _ _ e => e), fun p hp => (h.rl p hp).keep2 b (fun _ _ => id) (fun _ _ e => e), fun p hp => blQ (h.qb p hp) b (fun _ _ => id) (fun _ _ e => e), fun g hg => ⟨(h.cut g hg).1, by have := (h.cut g hg).2; omega⟩, by have := h.bw; omega⟩, ⟨But.of_below hb, fun _ _ h => h⟩⟩
/-- a cell of the shelf's block -/
theorem Wst.setS {κ : Nat → Nat} {B s : Nat} {mk tot : Int} {fv hv kv wv : Value} {frs xs ys : List Value} {ls R : List (Value × List Tk)} {lo : Nat} {Q : List (Nat × List Tk)} {w : World} (h : Wst κ B s mk tot fv hv kv wv frs ls xs ys R lo Q w) (mk' : Int) : Wst κ B s mk' tot fv hv kv wv frs ls xs ys R lo Q (w.setCell ⟨s, 0, none⟩ (.int .i64 mk')) ∧ Frw κ κ w (w.setCell ⟨s, 0, none⟩ (.int .i64 mk')) := by
  have b : But (fun g => g = s) w (w.setCell ⟨s, 0, none⟩ (.int .i64 mk')) := set_but _ _ _ _ rfl
  have z : (w.setCell ⟨s, 0, none⟩ (.int .i64 mk')).heap.size = w.heap.size := by simp [World.setCell]
  have o : ∀ t, t ≠ 1 → ∀ g, κ g = t → ¬ g = s := fun t ht g e q => by rw [q, h.ks] at e; omega
  exact ⟨⟨shelf_set h.sb rfl, h.ks, h.fr.keep2 b (o 2 (by decide)) (fun _ _ e => e), h.kr.keep2 b (o 4 (by decide)) (fun _ _ e => e), h.wr.keep2 b (o 5 (by decide)) (fun _ _ e => e), fun i hlo hi => (h.ll i hlo hi).keep2 b (o _ (by omega)) (fun _ _ e => e), fun p hp => (h.rl p hp).keep2 b (o 6 (by decide)) (fun _ _ e => e), fun p hp => blQ (h.qb p hp) b (o 6 (by decide)) (fun _ _ e => e), fun g hg => by rw [z]; exact h.cut g hg, by rw [z]; exact h.bw⟩, ⟨b.mono (fun g _ e => by rw [e, h.ks]; decide), fun _ _ h => h⟩⟩
/-- two lists more in a row that hangs in the shelf's block -/
theorem row_push {κ : Nat → Nat} {t B s i : Nat} {w : World} {v : Value} {xs : List Value} {cs : Array Value} (hsb : w.heap[s]? = some (.cells cs 36 (0, 0))) (hks : κ s = 1) (hR : Row κ t B w v xs) (ht : t ≠ 1) (hbw : B ≤ w.heap.size) (u1 u2 : Value) (h1 : u1.oneCell' = true) (h2 : u2.oneCell' = true) (hl : xs.length ≤ 16777000) :
    ∃ v' w2, (Builtin.append_ #[34, 34] 34 #[v, .slice (some ⟨w.heap.size, 0, none⟩) 2 2]).run Try.prog (w.alloc (.cells #[u1, u2] 23)) = .ok v' w2 ∧ (∃ fa fc, v' = .slice fa (xs.length + 2) fc) ∧ w2.heap[s]? = some (.cells cs 36 (0, 0)) ∧ But (fun g => g = s ∨ κ g = t) w w2 ∧
      (w2.setCell ⟨s, i, none⟩ v').heap[s]? = some (.cells (cs.setIfInBounds i v') 36 (0, 0)) ∧ But (fun g => g = s ∨ κ g = t) w (w2.setCell ⟨s, i, none⟩ v') ∧ OwS B (w2.setCell ⟨s, i, none⟩ v') v' (xs ++ [u1, u2]) ∧ ∀ g, v'.ownBlock = some g → g < w.heap.size → κ g = t := by
  have hsl : s < w.heap.size := (Array.getElem?_eq_some_iff.1 hsb).1
  obtain ⟨v', w2, hr, k1, g1⟩ := (show OwS B (w.alloc (.cells #[u1, u2] 23)) v xs from own_keep hR.own fun g hg => (below1 _ _).block g (own_blk hR.own hg).2.1).push 34 [u1, u2] rfl (heap_new _ _) (fun u hu => by simp at hu; rcases hu with rfl | rfl <;> assumption) (by simp; omega) (by simp; omega)
  have hsf : ∀ g, v.ownBlock = some g → g ≠ s := fun g hg e => by have := hR.tag g hg; rw [e, hks] at this; omega
  have b2 : But (fun g => g = s ∨ κ g = t) w w2 := by
    refine ⟨g1.os, g1.tape, g1.output, by have := g1.size; simp at this; omega, fun k hk hx => ?_⟩
    rw [g1.block k (by simp; omega) (fun e => hx (.inr (hR.tag k e.symm))), (below1 w _).block k (by omega)]
  have sb2 : w2.heap[s]? = some (.cells cs 36 (0, 0)) := by
    rw [g1.block s (by simp; omega) (fun e => hsf s e.symm rfl), (below1 w _).block s (by omega)]
    exact hsb
  obtain ⟨fa, fc, hfv⟩ := k1.form
  refine ⟨v', w2, hr, ⟨fa, fc, by rw [hfv]; simp⟩, sb2, b2, shelf_set sb2 rfl, b2.setCell (p := ⟨s, i, none⟩) (.inl rfl) _, ?_, fun g hg hlt => ?_⟩
  · refine own_keep k1 fun g hg => Below.heap_setCell _ _ _ _ ?_
    intro e
    obtain ⟨cur, hc⟩ := (own_blk k1 hg).2.2
    simp at e
    rw [e, sb2] at hc
    simp at hc
  · rcases g1.own with e | ⟨g', e, hl'⟩
    · rw [e] at hg
      exact hR.tag g hg
    · rw [e] at hg
      simp at hg
      simp at hl'
      omega
/-- new tags for one new block -/
def retag (κ : Nat → Nat) (v : Value) (t : Nat) : Nat → Nat := fun g => if v.ownBlock = some g then t else κ g
theorem retag_at {κ : Nat → Nat} {v : Value} {t g : Nat} (h : v.ownBlock = some g) : retag κ v t g = t := by unfold retag; rw [if_pos h]
theorem retag_not {κ : Nat → Nat} {v : Value} {t g : Nat} (h : v.ownBlock ≠ some g) : retag κ v t g = κ g := by unfold retag; rw [if_neg h]
theorem Wst.pushK {κ : Nat → Nat} {B s : Nat} {mk tot : Int} {fv hv kv wv : Value} {frs xs ys : List Value} {ls R : List (Value × List Tk)} {lo : Nat} {Q : List (Nat × List Tk)} {w : World} (h : Wst κ B s mk tot fv hv kv wv frs ls xs ys R lo Q w) (u1 u2 : Value) (h1 : u1.oneCell' = true) (h2 : u2.oneCell' = true) (hl : xs.length ≤ 16777000) :
    ∃ kv' w2, (Builtin.append_ #[34, 34] 34 #[kv, .slice (some ⟨w.heap.size, 0, none⟩) 2 2]).run Try.prog (w.alloc (.cells #[u1, u2] 23)) = .ok kv' w2 ∧ (∃ fa fc, kv' = .slice fa (xs.length + 2) fc) ∧ w2.heap[s]? = some (.cells #[.int .i64 mk, .int .i64 tot, .bool false, fv, hv, kv, wv] 36 (0, 0)) ∧
      ∃ κ', Wst κ' B s mk tot fv hv kv' wv frs ls (xs ++ [u1, u2]) ys R lo Q (w2.setCell ⟨s, 5, none⟩ kv') ∧ Frw κ κ' w (w2.setCell ⟨s, 5, none⟩ kv') ∧ ∀ g, g < w.heap.size → κ' g = κ g := by
  obtain ⟨kv', w2, hr, hf, sb2, b2, sb3, b3, ow3, hnew⟩ := row_push (i := 5) h.sb h.ks h.kr (by decide) h.bw u1 u2 h1 h2 hl
  have z3 := b3.size
  refine ⟨kv', w2, hr, hf, sb2, retag κ kv' 4, ?_, ⟨b3.mono (fun g _ e => by rcases e with e | e; rw [e, h.ks]; decide; rw [e]; decide), fun g hg hk => ?_⟩, ?_⟩
  · have he : ∀ t g, g < w.heap.size → κ g = t → retag κ kv' 4 g = t := fun t g hg e => by
      by_cases q : kv'.ownBlock = some g
      · rw [retag_at q, ← e, hnew g q hg]
      · rw [retag_not q, e]
    have o : ∀ t, t ≠ 1 → t ≠ 4 → ∀ g, κ g = t → ¬ (g = s ∨ κ g = 4) := fun t ht ht4 g e q => by rcases q with q | q; rw [q, h.ks] at e; omega; omega
    exact ⟨sb3, he 1 s h.lt h.ks, h.fr.keep2 b3 (o 2 (by decide) (by decide)) (he 2), ⟨ow3, fun g hg => retag_at hg⟩, h.wr.keep2 b3 (o 5 (by decide) (by decide)) (he 5), fun i hlo hi => (h.ll i hlo hi).keep2 b3 (o _ (by omega) (by omega)) (he _), fun p hp => (h.rl p hp).keep2 b3 (o 6 (by decide) (by decide)) (he 6), fun p hp => blQ (h.qb p hp) b3 (o 6 (by decide) (by decide)) (he 6), fun g hg => by
      by_cases q : kv'.ownBlock = some g
      · exact ⟨(own_blk ow3 q).1, (own_blk ow3 q).2.1⟩
      · rw [retag_not q] at hg
        have := h.cut g hg
        exact ⟨this.1, by omega⟩, by have := h.bw; omega⟩
  · by_cases q : kv'.ownBlock = some g
    · rw [hnew g q hg]; decide
    · rw [retag_not q] at hk; exact hk
  · intro g hg
    by_cases q : kv'.ownBlock = some g
    · rw [retag_at q, hnew g q hg]
    · rw [retag_not q]
theorem Wst.pushW {κ : Nat → Nat} {B s : Nat} {mk tot : Int} {fv hv kv wv : Value} {frs xs ys : List Value} {ls R : List (Value × List Tk)} {lo : Nat} {Q : List (Nat × List Tk)} {w : World} (h : Wst κ B s mk tot fv hv kv wv frs ls xs ys R lo Q w) (u1 u2 : Value) (h1 : u1.oneCell' = true) (h2 : u2.oneCell' = true) (hl : ys.length ≤ 16777000) :
    ∃ wv' w2, (Builtin.append_ #[34, 34] 34 #[wv, .slice (some ⟨w.heap.size, 0, none⟩) 2 2]).run Try.prog (w.alloc (.cells #[u1, u2] 23)) = .ok wv' w2 ∧ (∃ fa fc, wv' = .slice fa (ys.length + 2) fc) ∧ w2.heap[s]? = some (.cells #[.int .i64 mk, .int .i64 tot, .bool false, fv, hv, kv, wv] 36 (0, 0)) ∧
      ∃ κ', Wst κ' B s mk tot fv hv kv wv' frs ls xs (ys ++ [u1, u2]) R lo Q (w2.setCell ⟨s, 6, none⟩ wv') ∧ Frw κ κ' w (w2.setCell ⟨s, 6, none⟩ wv') ∧ ∀ g, g < w.heap.size → κ' g = κ g := by
  obtain ⟨wv', w2, hr, hf, sb2, b2, sb3, b3, ow3, hnew⟩ := row_push (i := 6) h.sb h.ks h.wr (by decide) h.bw u1 u2 h1 h2 hl
  have z3 := b3.size
  refine ⟨wv', w2, hr, hf, sb2, retag κ wv' 5, ?_, ⟨b3.mono (fun g _ e => by rcases e with e | e; rw [e, h.ks]; decide; rw [e]; decide), fun g hg hk => ?_⟩, ?_⟩
  · have he : ∀ t g, g < w.heap.size → κ g = t → retag κ wv' 5 g = t := fun t g hg e => by
      by_cases q : wv'.ownBlock = some g
      · rw [retag_at q, ← e, hnew g q hg]
      · rw [retag_not q, e]
    have o : ∀ t, t ≠ 1 → t ≠ 5 → ∀ g, κ g = t → ¬ (g = s ∨ κ g = 5) := fun t ht ht4 g e q => by rcases q with q | q; rw [q, h.ks] at e; omega; omega
    exact ⟨sb3, he 1 s h.lt h.ks, h.fr.keep2 b3 (o 2 (by decide) (by decide)) (he 2), h.kr.keep2 b3 (o 4 (by decide) (by decide)) (he 4), ⟨ow3, fun g hg => retag_at hg⟩, fun i hlo hi => (h.ll i hlo hi).keep2 b3 (o _ (by omega) (by omega)) (he _), fun p hp => (h.rl p hp).keep2 b3 (o 6 (by decide) (by decide)) (he 6), fun p hp => blQ (h.qb p hp) b3 (o 6 (by decide) (by decide)) (he 6), fun g hg => by
      by_cases q : wv'.ownBlock = some g
      · exact ⟨(own_blk ow3 q).1, (own_blk ow3 q).2.1⟩
      · rw [retag_not q] at hg
        have := h.cut g hg
        exact ⟨this.1, by omega⟩, by have := h.bw; omega⟩
  · by_cases q : wv'.ownBlock = some g
    · rw [hnew g q hg]; decide
    · rw [retag_not q] at hk; exact hk
  · intro g hg
    by_cases q : wv'.ownBlock = some g
    · rw [retag_at q, hnew g q hg]
    · rw [retag_not q]

end Go.Proofs.Ytoifmiloaefanaa
