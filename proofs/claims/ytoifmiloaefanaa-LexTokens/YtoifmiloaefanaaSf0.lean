/-
  The Shelf: its state in tagged blocks.
-/
import Derived.Test.YtoifmiloaefanaaSh1
import Derived.Test.YtoifmiloaefanaaPw0
namespace Go.Proofs.Ytoifmiloaefanaa
open Go.RowKit

theorem info23 : (Try.prog.info? 23).map (fun i => (i.zero, i.size, i.bytes)) = some (some (.slice none 0 0), 1, 24) := by kernel_rfl
/-- a row of lists of one's own -/
def OwS (B : Nat) (w : World) (v : Value) (xs : List Value) : Prop := w.ownsRow B 23 1 v xs.length xs
theorem OwS.form {B : Nat} {w : World} {v : Value} {xs : List Value} (h : OwS B w v xs) : ∃ a c, v = .slice a xs.length c := by
  rcases h.2 with ⟨e, q⟩ | ⟨g, cap, cur, e, _⟩
  · exact ⟨none, 0, by rw [e, q]⟩
  · exact ⟨_, cap, e⟩
theorem OwS.at {B : Nat} {w : World} {a : Option Addr} {m c : Nat} {xs : List Value} (h : OwS B w (.slice a m c) xs) (hm : m = xs.length) (j : Nat) (hj : j < xs.length) : ∃ g, a = some ⟨g, 0, none⟩ ∧ g < w.heap.size ∧ w.cell? ⟨g, j, none⟩ = some xs[j] ∧ w.frozen? ⟨g, j, none⟩ = false := by
  subst hm
  have h' := h
  rcases h.2 with ⟨e, q⟩ | ⟨g, cap, cur, e, hb, hh, _⟩
  · omega
  · simp at e
    obtain ⟨rfl, rfl⟩ := e
    have h2 := World.ownsRow.cellAt h' j (by omega)
    refine ⟨g, rfl, (Array.getElem?_eq_some_iff.1 hh).1, ?_, by simp [World.frozen?, hh]⟩
    rw [h2, List.getElem?_eq_getElem hj]
/-- lists are laid behind a row's -/
theorem OwS.push {B : Nat} {w : World} {v : Value} {xs : List Value} (ty : TypeId) (h : OwS B w v xs) (us : List Value) {g m : Nat} (hm : m = us.length) (hg : w.heap[g]? = some (.cells us.toArray 23 (0, 0))) (h1 : ∀ u ∈ us, u.oneCell' = true) (hl : xs.length + us.length ≤ 16777216) (hw : B ≤ w.heap.size) :
    ∃ v' w', (Builtin.append_ #[34, 34] ty #[v, .slice (some ⟨g, 0, none⟩) m m]).run Try.prog w = .ok v' w' ∧ OwS B w' v' (xs ++ us) ∧ Gr w w' v v' := by
  subst hm
  obtain ⟨i0, hi, hz0, hz1, hz2⟩ := info_parts info23
  obtain ⟨v', w', hr, h2, h3, _, h5⟩ := run_append_own_at (P := Try.prog) w B 34 ty 23 i0 _ 1 24 Try.underlying34 hi hz0 hz1 hz2 rfl (by decide) v xs.length xs h ⟨g, 0, none⟩ us.length us.length us (by simp) (fun j u hu => by
    rw [Addr.add_lit, Nat.zero_add]
    simp only [World.cell?, hg]
    simpa using hu) h1 (by unfold maxLen; omega) (by omega) hw
  refine ⟨v', w', hr, ?_, ⟨h3.os, h3.tape, h3.output, h3.size, h3.block, h5.elim .inl fun e => .inr ⟨_, e, Nat.le_refl _⟩⟩⟩
  unfold OwS
  rw [List.length_append]
  exact h2

/-! ### tags -/
/-- tags of old blocks stay -/
def Ext (κ κ' : Nat → Nat) (n : Nat) : Prop := ∀ g, g < n → κ g ≠ 0 → κ' g = κ g
structure Row (κ : Nat → Nat) (t B : Nat) (w : World) (v : Value) (xs : List Value) : Prop where
  own : OwS B w v xs
  tag : ∀ g, v.ownBlock = some g → κ g = t
theorem Row.keep {κ κ' : Nat → Nat} {t B : Nat} {w w' : World} {v : Value} {xs : List Value} {X : Nat → Prop} (h : Row κ t B w v xs) (hb : But X w w') (hx : ∀ g, κ g = t → ¬ X g) (h0 : t ≠ 0) (he : Ext κ κ' w.heap.size) : Row κ' t B w' v xs :=
  ⟨own_keep h.own fun g hg => hb.block g (own_blk h.own hg).2.1 (hx g (h.tag g hg)), fun g hg => by rw [he g (own_blk h.own hg).2.1 (by rw [h.tag g hg]; exact h0), h.tag g hg]⟩
theorem Row.nil (κ : Nat → Nat) (t B : Nat) (w : World) : Row κ t B w (.slice none 0 0) [] := ⟨⟨rfl, .inl ⟨rfl, rfl⟩⟩, fun g hg => by simp [Value.ownBlock] at hg⟩
structure Lst (κ : Nat → Nat) (t B : Nat) (w : World) (v : Value) (L : List Tk) : Prop where
  own : OwT B w v L
  tag : ∀ g, v.ownBlock = some g → κ g = t
theorem Lst.keep {κ κ' : Nat → Nat} {t B : Nat} {w w' : World} {v : Value} {L : List Tk} {X : Nat → Prop} (h : Lst κ t B w v L) (hb : But X w w') (hx : ∀ g, κ g = t → ¬ X g) (h0 : t ≠ 0) (he : Ext κ κ' w.heap.size) : Lst κ' t B w' v L :=
  ⟨own_keep h.own fun g hg => hb.block g (own_blk h.own hg).2.1 (hx g (h.tag g hg)), fun g hg => by rw [he g (own_blk h.own hg).2.1 (by rw [h.tag g hg]; exact h0), h.tag g hg]⟩
/-- a list that is only read: its block has the tag 6 -/
def Rl (κ : Nat → Nat) (w : World) (v : Value) (L : List Tk) : Prop := ∃ a c, v = .slice a L.length c ∧ L.length ≤ c ∧ L.length ≤ 16777216 ∧ (L = [] ∨ ∃ g, a = some ⟨g, 0, none⟩ ∧ κ g = 6) ∧ TkR w a L
theorem TkR.but {X : Nat → Prop} {w w' : World} {a : Option Addr} {ts : List Tk} (h : TkR w a ts) (hb : But X w w') (hx : ts = [] ∨ ∃ g, a = some ⟨g, 0, none⟩ ∧ ¬ X g) : TkR w' a ts := by
  rcases h with h | ⟨g, h1, h2, h3⟩
  · exact .inl h
  rcases hx with hx | ⟨g', e', hx⟩
  · exact .inl hx
  rw [h1] at e'
  simp at e'
  subst e'
  have e : ∀ o, w'.cell? ⟨g, o, none⟩ = w.cell? ⟨g, o, none⟩ := fun o => by simp only [World.cell?]; rw [hb.block g h2 hx]
  exact .inr ⟨g, h1, by have := hb.size; omega, fun j hj => by rw [e, e, e, e]; exact h3 j hj⟩
theorem Rl.keep {κ κ' : Nat → Nat} {w w' : World} {v : Value} {L : List Tk} {X : Nat → Prop} (h : Rl κ w v L) (hb : But X w w') (hx : ∀ g, κ g = 6 → ¬ X g) (he : Ext κ κ' w.heap.size) : Rl κ' w' v L := by
  obtain ⟨a, c, e, h1, h2, h3, h4⟩ := h
  refine ⟨a, c, e, h1, h2, ?_, h4.but hb ?_⟩
  · rcases h3 with h3 | ⟨g, e2, hk⟩
    · exact .inl h3
    · rcases h4 with h4 | ⟨g', e3, hg, _⟩
      · exact .inl h4
      · rw [e2] at e3
        simp at e3
        subst e3
        exact .inr ⟨g, e2, by rw [he g hg (by rw [hk]; decide), hk]⟩
  · exact h3.imp id (fun ⟨g, e2, hk⟩ => ⟨g, e2, hx g hk⟩)
theorem Rl.one {κ : Nat → Nat} {w : World} {v : Value} {L : List Tk} (h : Rl κ w v L) : v.oneCell' = true := by
  obtain ⟨a, c, rfl, _⟩ := h
  rfl
/-- THE SHELF -/
structure Shf (κ : Nat → Nat) (B s : Nat) (mk tot : Int) (fs : List (Value × List Tk)) (fv hv kv wv : Value) (hs xs ys : List Value) (Ms : List (List Tk)) (w : World) : Prop where
  sb : w.heap[s]? = some (.cells #[.int .i64 mk, .int .i64 tot, .bool false, fv, hv, kv, wv] 36 (0, 0))
  ks : κ s = 1
  fr : Row κ 2 B w fv (fs.map (·.1))
  hr : Row κ 3 B w hv hs
  kr : Row κ 4 B w kv xs
  wr : Row κ 5 B w wv ys
  fl : ∀ i (h : i < fs.length), Lst κ (10 + i) B w fs[i].1 fs[i].2 ∧ fs[i].2.length ≤ 16384
  hl : hs.length ≤ fs.length
  hk : ∀ i (h : i < fs.length) (h' : i < hs.length), Rl κ w hs[i] fs[i].2
  xl : xs.length = Ms.length
  yl : ys.length = Ms.length
  kk : ∀ i (h : i < Ms.length) (h1 : i < xs.length) (h2 : i < ys.length), Rl κ w xs[i] Ms[i] ∧ Rl κ w ys[i] Ms[i]
  cut : ∀ g, κ g ≠ 0 → B ≤ g ∧ g < w.heap.size
  bd : 0 ≤ mk ∧ mk ≤ 1099511627776 ∧ 0 ≤ tot ∧ tot ≤ 1000000 ∧ fs.length ≤ 3 ∧ Ms.length ≤ 1000
  bw : B ≤ w.heap.size
theorem Shf.lt {κ : Nat → Nat} {B s : Nat} {mk tot : Int} {fs : List (Value × List Tk)} {fv hv kv wv : Value} {hs xs ys : List Value} {Ms : List (List Tk)} {w : World} (h : Shf κ B s mk tot fs fv hv kv wv hs xs ys Ms w) : s < w.heap.size := (Array.getElem?_eq_some_iff.1 h.sb).1
/-- what lies beside the shelf's block and is told by tags other than t stays -/
theorem Ext.refl (κ : Nat → Nat) (n : Nat) : Ext κ κ n := fun _ _ _ => rfl
/-- two rows of lists that hold the same -/
theorem prl {κ : Nat → Nat} {B : Nat} {w : World} {xs ys : List Value} {a a2 : Option Addr} {m c c2 : Nat} {Ms : List (List Tk)} (hx : OwS B w (.slice a m c) xs) (hy : OwS B w (.slice a2 m c2) ys) (h1 : xs.length = m) (h2 : ys.length = m) (h3 : Ms.length = m) (hk : ∀ i (h : i < Ms.length) (h1 : i < xs.length) (h2 : i < ys.length), Rl κ w xs[i] Ms[i] ∧ Rl κ w ys[i] Ms[i]) : PrL m a a2 (fun i => Ms.getD i []) w := fun j hj => by
  obtain ⟨g, rfl, hg, e1, _⟩ := hx.at h1.symm j (by omega)
  obtain ⟨g2, rfl, hg2, e2, _⟩ := hy.at h2.symm j (by omega)
  obtain ⟨⟨b1, d1, f1, _, n1, _, r1⟩, ⟨b2, d2, f2, _, n2, _, r2⟩⟩ := hk j (by omega) (by omega) (by omega)
  have e : Ms.getD j [] = Ms[j] := by rw [List.getD_eq_getElem?_getD, List.getElem?_eq_getElem (by omega)]; rfl
  rw [f1] at e1
  rw [f2] at e2
  exact ⟨g, g2, b1, b2, _, d1, d2, rfl, rfl, hg, hg2, e1, e2, by show (Ms.getD j []).length = _; rw [e], n1, by show TkR w b1 (Ms.getD j []); rw [e]; exact r1, by show TkR w b2 (Ms.getD j []); rw [e]; exact r2⟩

end Go.Proofs.Ytoifmiloaefanaa
