import Derived.Test.YthkkdmblkalknaaGreatDoorD03
import Derived.Deep.RegionHeld3
/-
  THE BOOK: the lists that lie untouched; the book while its lists are grown.
-/
namespace Go.Proofs.YthkkdmblkalknaaGreatDoor.bk
open Go.RowKit

/-- n lists that lie untouched, each in a block of its own that is none of R -/
structure Fsh (B : Nat) (R : Nat → Prop) (w : World) (n : Nat) (fv : List Value) (Z : Nat → List Int) : Prop where
  each : ∀ i, i < n → Pl.isB (Z i) ∧ ((fv.getD i (.bool false) = .slice none 0 0 ∧ Z i = []) ∨ ∃ g, FO w (fv.getD i (.bool false)) (Z i) g ∧ ¬ R g ∧ B ≤ g)
  apart : ∀ i j g, i < n → j < n → i ≠ j → (fv.getD i (.bool false)).ownBlock = some g → (fv.getD j (.bool false)).ownBlock ≠ some g
theorem Fsh.own {B : Nat} {R : Nat → Prop} {w : World} {n : Nat} {fv : List Value} {Z : Nat → List Int} (h : Fsh B R w n fv Z) {i g : Nat} (hi : i < n) (hg : (fv.getD i (.bool false)).ownBlock = some g) : FO w (fv.getD i (.bool false)) (Z i) g ∧ ¬ R g ∧ B ≤ g := by
  rcases (h.each i hi).2 with ⟨e, _⟩ | ⟨g', q1, q2, q3⟩
  · rw [e] at hg; cases hg
  · rw [q1.ob] at hg
    cases hg
    exact ⟨q1, q2, q3⟩
theorem Fsh.keep {B : Nat} {R : Nat → Prop} {w w' : World} {n : Nat} {fv : List Value} {Z : Nat → List Int} (h : Fsh B R w n fv Z) (hk : ∀ i g, i < n → (fv.getD i (.bool false)).ownBlock = some g → w'.heap[g]? = w.heap[g]?) : Fsh B R w' n fv Z :=
  ⟨fun i hi => ⟨(h.each i hi).1, (h.each i hi).2.imp id fun ⟨g, q1, q2, q3⟩ => ⟨g, q1.keep (hk i g hi q1.ob), q2, q3⟩⟩, h.apart⟩
theorem Fsh.below {B : Nat} {R : Nat → Prop} {w w' : World} {n : Nat} {fv : List Value} {Z : Nat → List Int} (h : Fsh B R w n fv Z) (hb : Below w.heap.size w w') : Fsh B R w' n fv Z :=
  h.keep fun _ g hi hg => hb.block g (h.own hi hg).1.lt
def upd (Z : Nat → List Int) (i : Nat) (zs : List Int) (j : Nat) : List Int := if j = i then zs else Z j
theorem Fsh.wrote {B : Nat} {R : Nat → Prop} {w w' : World} {n : Nat} {fv : List Value} {Z : Nat → List Int} (h : Fsh B R w n fv Z) {i : Nat} (hi : i < n) {zs : List Int} (hl : zs.length = (Z i).length) (hz : Pl.isB zs)
    (hb : But (fun x => (fv.getD i (.bool false)).ownBlock = some x) w w') (hnew : ∀ g c, fv.getD i (.bool false) = .slice (some ⟨g, 0, none⟩) (Z i).length c → Own w' g (Z i).length c zs) : Fsh B R w' n fv (upd Z i zs) := by
  refine ⟨fun j hj => ?_, h.apart⟩
  unfold upd
  by_cases e : j = i
  · subst e
    rw [if_pos rfl]
    refine ⟨hz, ?_⟩
    rcases (h.each j hj).2 with ⟨e1, e2⟩ | ⟨g, ⟨c, e1, q1⟩, q2, q3⟩
    · left
      refine ⟨e1, List.length_eq_zero_iff.1 ?_⟩
      rw [hl, e2]
      rfl
    · right
      refine ⟨g, ⟨c, ?_, ?_⟩, q2, q3⟩
      · rw [hl]; exact e1
      · rw [hl]; exact hnew g c e1
  · rw [if_neg e]
    refine ⟨(h.each j hj).1, (h.each j hj).2.imp id fun ⟨g, q1, q2, q3⟩ => ⟨g, q1.keep (hb.block g q1.lt (fun hx => h.apart i j g hi hj (Ne.symm e) hx q1.ob)), q2, q3⟩⟩
/-- the settled blocks and those of the untouched lists -/
def RF (R : Nat → Prop) (n : Nat) (fv : List Value) (x : Nat) : Prop := R x ∨ ∃ i, i < n ∧ (fv.getD i (.bool false)).ownBlock = some x
theorem Fsh.sl {B : Nat} {R : Nat → Prop} {w : World} {n : Nat} {fv : List Value} {Z : Nat → List Int} (h : Fsh B R w n fv Z) (i : Nat) (hi : i < n) : Sl (RF R n fv) w (fv.getD i (.bool false)) (Z i) := by
  obtain ⟨hz, h2⟩ := h.each i hi
  rcases h2 with ⟨e1, e2⟩ | ⟨g, q1, q2, q3⟩
  · rw [e1, e2]
    exact ⟨Pl.isB_nil, none, 0, rfl, fun _ => rfl, .inl rfl⟩
  · exact q1.sl hz (.inr ⟨i, hi, q1.ob⟩)
theorem Fsh.t5 {B : Nat} {R : Nat → Prop} {w : World} {n : Nat} {fv : List Value} {Z : Nat → List Int} (h : Fsh B R w n fv Z) (hT : ∀ g, R g → T5 w g) : ∀ g, RF R n fv g → T5 w g := by
  intro g hg
  rcases hg with hg | ⟨i, hi, hg⟩
  · exact hT g hg
  · exact (h.own hi hg).1.t5
theorem below_undrew {B : Nat} {w w' : World} (h : Below B w.drew w') : Below B w w' := ⟨h.os, h.tape, h.output, h.size, h.block⟩
/-- the lists behind i rounds: marks in the first i -/
def Zw (Z : Nat → List Int) (ms : List Int) (i j : Nat) : List Int := if j < i then markL (Z j).length (ms.getD j 0) else Z j
theorem Zw_succ (Z : Nat → List Int) (ms : List Int) (i : Nat) : upd (Zw Z ms i) i (markL (Z i).length (ms.getD i 0)) = Zw Z ms (i + 1) := by
  funext j
  unfold upd Zw
  by_cases e : j = i
  · subst e; rw [if_pos rfl, if_pos (by omega)]
  · rw [if_neg e]
    by_cases h : j < i
    · rw [if_pos h, if_pos (by omega)]
    · rw [if_neg h, if_neg (by omega)]
theorem Zw_at (Z : Nat → List Int) (ms : List Int) (i : Nat) : Zw Z ms i i = Z i := by unfold Zw; rw [if_neg (by omega)]
theorem add_plain' (b off t : Nat) : (⟨b, off, none⟩ : Addr).add t = ⟨b, off + t, none⟩ := by unfold Addr.add; split <;> simp_all
/-- an untouched list at place j -/
def Fr1 (B : Nat) (R : Nat → Prop) (w : World) (fv : List Value) (Z : Nat → List Int) (j : Nat) : Prop :=
  Pl.isB (Z j) ∧ ((fv.getD j (.bool false) = .slice none 0 0 ∧ Z j = []) ∨ ∃ g, FO w (fv.getD j (.bool false)) (Z j) g ∧ ¬ R g ∧ B ≤ g)
/-- the book while its lists are grown: i of them are done; gr: what has been grown -/
structure W3 (B : Nat) (R : Nat → Prop) (w : World) (b : Nat) (cnt tot : Int) (fr he ma ke wa : Value) (n : Nat) (fv hv mv : List Value) (nK : Nat) (kv wv : List Value) (K : Nat → List Int) (gr : Value) (ng : Nat) (grv : List Value) (Zg : Nat → List Int) (Z : Nat → List Int) (i : Nat) : Prop where
  bk : BkI B R w b cnt tot fr he ma ke wa n n n fv hv mv nK nK kv wv K
  rg : RS R B w gr ng grv Zg
  dF : Dj gr fr
  dH : Dj gr he
  dK : Dj gr ke
  dW : Dj gr wa
  fs : ∀ j, i ≤ j → j < n → Fr1 B R w fv Z j
theorem grown_own {w1 : World} {H k : Nat} {v' : Value} {xs : List Value} {zs : List Int} (ho : w1.ownsRow H 5 1 v' k xs) (hx : xs = zs.map (Value.int .u8)) (hk : 0 < k) : ∃ g cap, v' = .slice (some ⟨g, 0, none⟩) k cap ∧ H ≤ g ∧ Own w1 g k cap zs := by
  obtain ⟨g, cap, e, hg, _⟩ := owns_form ho (by
    intro e
    rcases ho.2 with ⟨_, h2⟩ | ⟨_, _, _, h2, _⟩
    · omega
    · rw [e] at h2; cases h2)
  subst e
  rw [hx] at ho
  exact ⟨g, cap, rfl, hg, Own.of ho⟩
theorem owns_base {w : World} {g B e s n : Nat} {v : Value} {xs : List Value} (h : w.ownsRow g e s v n xs) (hb : B ≤ g) : w.ownsRow B e s v n xs := by
  obtain ⟨h1, h2⟩ := h
  exact ⟨h1, h2.imp id fun ⟨g', cap, cur, q1, q2, r⟩ => ⟨g', cap, cur, q1, Nat.le_trans hb q2, r⟩⟩
theorem below_grown {w w' : World} (h : w.grownBy w' none) : Below w.heap.size w w' := ⟨h.os, h.tape, h.output, h.size, fun k hk => h.block k hk (by simp)⟩
theorem newsB (w : World) (cs : List Int) : ∀ j u, (cs.map (Value.int .u8))[j]? = some u → (w.alloc (.cells (cs.map (Value.int .u8)).toArray 5)).cell? ((⟨w.heap.size, 0, none⟩ : Addr).add j) = some u := by
  intro j u h
  have hB := Blk.new (k := .u8) (e := 5) w cs
  rw [add_plain', Nat.zero_add]
  have hj : j < cs.length := by
    have := (List.getElem?_eq_some_iff.1 h).1
    simpa using this
  rw [hB.cell j hj]
  simp [hj] at h
  rw [← h]
  simp [hj]
theorem newsS (w : World) (vs : List Value) : ∀ j u, vs[j]? = some u → (w.alloc (.cells vs.toArray 23)).cell? ((⟨w.heap.size, 0, none⟩ : Addr).add j) = some u := by
  intro j u h
  rw [add_plain', Nat.zero_add]
  exact cell_new rfl j u (by simpa using h)
/-- the list's cells, for an append -/
theorem Fr1.olds {B : Nat} {R : Nat → Prop} {w : World} {fv : List Value} {Z : Nat → List Int} {j : Nat} (h : Fr1 B R w fv Z j) : ∃ ai ci, fv.getD j (.bool false) = .slice ai (Z j).length ci ∧ (ai = none → (Z j).length = 0 ∧ ci = 0) ∧
    (∀ g, (fv.getD j (.bool false)).ownBlock = some g → T5 w g ∧ ¬ R g ∧ B ≤ g) ∧ (∀ a, ai = some a → ∃ g, a = ⟨g, 0, none⟩ ∧ Own w g (Z j).length ci (Z j)) := by
  obtain ⟨_, h2⟩ := h
  rcases h2 with ⟨e1, e2⟩ | ⟨g, ⟨c, e1, q1⟩, q2, q3⟩
  · refine ⟨none, 0, by rw [e1, e2]; rfl, fun _ => by rw [e2]; exact ⟨rfl, rfl⟩, fun g hg => (by rw [e1] at hg; cases hg), fun a ha => by cases ha⟩
  · refine ⟨_, c, e1, (fun h => by cases h), fun g' hg' => ?_, fun a ha => ?_⟩
    · rw [e1] at hg'
      cases hg'
      exact ⟨q1.t5, q2, q3⟩
    · cases ha
      exact ⟨g, rfl, q1⟩
theorem olds_cells {w : World} {ai : Option Addr} {zs : List Int} (h : ∀ a, ai = some a → ∃ g, a = ⟨g, 0, none⟩ ∧ Blk .u8 5 w g zs) : ∀ b', ai = some b' → ∀ j u, (zs.map (Value.int .u8))[j]? = some u → w.cell? (b'.add j) = some u := by
  intro b' hb' j u hu
  obtain ⟨g, rfl, hB⟩ := h b' hb'
  have hj : j < zs.length := by
    have := (List.getElem?_eq_some_iff.1 hu).1
    simpa using this
  rw [add_plain', Nat.zero_add, hB.cell j hj]
  simp [hj] at hu
  rw [← hu]
  simp [hj]
theorem RS.congr {S : Nat → Prop} {B : Nat} {w : World} {row : Value} {n : Nat} {vs : List Value} {Z Z' : Nat → List Int} (h : RS S B w row n vs Z) (hz : ∀ i, i < n → Z i = Z' i) : RS S B w row n vs Z' := ⟨h.own, fun i hi => by rw [← hz i hi]; exact h.sl i hi⟩
theorem owns_at {w : World} {B e n c g i : Nat} {xs : List Value} (h : w.ownsRow B e 1 (.slice (some ⟨g, 0, none⟩) n c) n xs) (hi : i < n) : w.cell? ⟨g, i, none⟩ = some (xs.getD i (.bool false)) := by
  obtain ⟨g', e, _, _, hc⟩ := owns_cells h (by omega)
  cases e
  exact hc i hi
theorem isB_app {a b : List Int} (ha : Pl.isB a) (hb : Pl.isB b) : Pl.isB (a ++ b) := by
  intro z hz
  rcases List.mem_append.1 hz with h | h
  · exact ha z h
  · exact hb z h
/-- three lists more -/
def Z3 (Z : Nat → List Int) (n : Nat) (z1 z2 z3 : List Int) (j : Nat) : List Int := if j < n then Z j else if j = n then z1 else if j = n + 1 then z2 else z3
theorem rs_app3 {S : Nat → Prop} {B : Nat} {w w' : World} {row row' : Value} {n : Nat} {vs : List Value} {Z : Nat → List Int} (h : RS S B w row n vs Z) {v1 v2 v3 : Value} {z1 z2 z3 : List Int} (ho : w'.ownsRow B 23 1 row' (n + 3) (vs ++ [v1, v2, v3])) (hk : ∀ g, S g → w'.heap[g]? = w.heap[g]?)
    (h1 : Sl S w v1 z1) (h2 : Sl S w v2 z2) (h3 : Sl S w v3 z3) : RS S B w' row' (n + 3) (vs ++ [v1, v2, v3]) (Z3 Z n z1 z2 z3) := by
  have hl : vs.length = n := by simpa using h.own.1
  refine ⟨ho, fun i hi => ?_⟩
  unfold Z3
  by_cases hin : i < n
  · rw [List.getD_eq_getElem?_getD, List.getElem?_append_left (by omega), ← List.getD_eq_getElem?_getD, if_pos hin]
    exact (h.sl i hin).keep hk
  · rw [List.getD_eq_getElem?_getD, List.getElem?_append_right (by omega), hl, if_neg hin]
    by_cases e1 : i = n
    · subst e1; rw [Nat.sub_self, if_pos rfl]; exact h1.keep hk
    · rw [if_neg e1]
      by_cases e2 : i = n + 1
      · subst e2; rw [show n + 1 - n = 1 by omega, if_pos rfl]; exact h2.keep hk
      · obtain rfl : i = n + 2 := by omega
        rw [if_neg e2, show n + 2 - n = 2 by omega]; exact h3.keep hk
theorem W3.next {B : Nat} {R : Nat → Prop} {w : World} {b : Nat} {cnt tot : Int} {fr he ma ke wa : Value} {n : Nat} {fv hv mv : List Value} {nK : Nat} {kv wv : List Value} {K : Nat → List Int} {gr : Value} {ng : Nat} {grv : List Value} {Zg Z : Nat → List Int} {i : Nat}
    (h : W3 B R w b cnt tot fr he ma ke wa n fv hv mv nK kv wv K gr ng grv Zg Z i) : W3 B R w b cnt tot fr he ma ke wa n fv hv mv nK kv wv K gr ng grv Zg Z (i + 1) :=
  ⟨h.bk, h.rg, h.dF, h.dH, h.dK, h.dW, fun j hj hn => h.fs j (by omega) hn⟩
theorem W3.wide {B : Nat} {R : Nat → Prop} {w : World} {b : Nat} {cnt tot : Int} {fr he ma ke wa : Value} {n : Nat} {fv hv mv : List Value} {nK : Nat} {kv wv : List Value} {K : Nat → List Int} {gr : Value} {ng : Nat} {grv : List Value} {Zg Z : Nat → List Int} {i : Nat}
    (h : W3 B R w b cnt tot fr he ma ke wa n fv hv mv nK kv wv K gr ng grv Zg Z i) {w' : World} {R2 : Nat → Prop} {K2 : Nat → List Int} (hb : Below w.heap.size w w') (hR : ∀ g, R g → R2 g) (hT : ∀ g, R2 g → T5 w' g) (hf : ∀ j g, i ≤ j → j < n → (fv.getD j (.bool false)).ownBlock = some g → ¬ R2 g) (hK : ∀ j, j < nK → K j = K2 j) :
    W3 B R2 w' b cnt tot fr he ma ke wa n fv hv mv nK kv wv K2 gr ng grv Zg Z i := by
  have q := (h.bk.below hb).more hR hT
  refine ⟨⟨q.blk, q.bB, q.oF, q.oH, q.oM, q.rK.congr hK, q.rW.congr hK, q.dFH, q.dFK, q.dFW, q.dHK, q.dHW, q.dKW, q.rT⟩, ⟨owns_below h.rg.own hb, fun i hi => ((h.rg.sl i hi).keep (fun g hg => hb.block g (h.bk.rT g hg).lt)).mono hR⟩, h.dF, h.dH, h.dK, h.dW, fun j hj hn => ?_⟩
  obtain ⟨hz, h2⟩ := h.fs j hj hn
  refine ⟨hz, h2.imp id fun ⟨g, q1, q2, q3⟩ => ⟨g, q1.keep (hb.block g q1.lt), hf j g hj hn q1.ob, q3⟩⟩
/-- as wide, where blocks of bytes that are neither settled nor untouched have been turned -/
theorem W3.wideB {B : Nat} {R : Nat → Prop} {w : World} {b : Nat} {cnt tot : Int} {fr he ma ke wa : Value} {n : Nat} {fv hv mv : List Value} {nK : Nat} {kv wv : List Value} {K : Nat → List Int} {gr : Value} {ng : Nat} {grv : List Value} {Zg Z : Nat → List Int} {i : Nat}
    (h : W3 B R w b cnt tot fr he ma ke wa n fv hv mv nK kv wv K gr ng grv Zg Z i) {w' : World} {R2 Y : Nat → Prop} {K2 : Nat → List Int} (hb : But Y w w') (hY : ∀ x, x < w.heap.size → Y x → T5 w x ∧ ¬ R x ∧ ∀ j, i ≤ j → j < n → (fv.getD j (.bool false)).ownBlock ≠ some x) (hR : ∀ g, R g → R2 g) (hT : ∀ g, R2 g → T5 w' g) (hf : ∀ j g, i ≤ j → j < n → (fv.getD j (.bool false)).ownBlock = some g → ¬ R2 g) (hK : ∀ j, j < nK → K j = K2 j) :
    W3 B R2 w' b cnt tot fr he ma ke wa n fv hv mv nK kv wv K2 gr ng grv Zg Z i := by
  have nRow : ∀ {e : Nat} {v : Value} {m : Nat} {xs : List Value}, w.ownsRow B e 1 v m xs → e ≠ 5 → ∀ g, v.ownBlock = some g → w'.heap[g]? = w.heap[g]? := fun hv hne g hg => hb.block g (World.ownsRow.lt hv g hg).2 (fun hy => (hY g (World.ownsRow.lt hv g hg).2 hy).1.ne_row hv hne hg)
  have kR : ∀ g, R g → w'.heap[g]? = w.heap[g]? := fun g hg => hb.block g (h.bk.rT g hg).lt (fun hy => (hY g (h.bk.rT g hg).lt hy).2.1 hg)
  have q := (h.bk.keep (w' := w') (fun g hg => by
    rcases hg with q | q | q | q | q | q | q
    · rw [q]; exact hb.block b h.bk.blk.lt (fun hy => h.bk.blk.ne_t5 (hY b h.bk.blk.lt hy).1 rfl)
    · exact nRow h.bk.oF (by decide) g q
    · exact nRow h.bk.oH (by decide) g q
    · exact nRow h.bk.oM (by decide) g q
    · exact nRow h.bk.rK.own (by decide) g q
    · exact nRow h.bk.rW.own (by decide) g q
    · exact kR g q)).more hR hT
  refine ⟨⟨q.blk, q.bB, q.oF, q.oH, q.oM, q.rK.congr hK, q.rW.congr hK, q.dFH, q.dFK, q.dFW, q.dHK, q.dHW, q.dKW, q.rT⟩, ⟨owns_keep h.rg.own (fun g hg => nRow h.rg.own (by decide) g hg), fun i hi => ((h.rg.sl i hi).keep kR).mono hR⟩, h.dF, h.dH, h.dK, h.dW, fun j hj hn => ?_⟩
  obtain ⟨hz, h2⟩ := h.fs j hj hn
  refine ⟨hz, h2.imp id fun ⟨g, q1, q2, q3⟩ => ⟨g, q1.keep (hb.block g q1.lt (fun hy => (hY g q1.lt hy).2.2 j hj hn q1.ob)), hf j g hj hn q1.ob, q3⟩⟩
theorem W3.app {B : Nat} {R : Nat → Prop} {w : World} {b : Nat} {cnt tot : Int} {fr he ma ke wa : Value} {n : Nat} {fv hv mv : List Value} {nK : Nat} {kv wv : List Value} {K : Nat → List Int} {gr : Value} {ng : Nat} {grv : List Value} {Zg Z : Nat → List Int} {i : Nat}
    (h : W3 B R w b cnt tot fr he ma ke wa n fv hv mv nK kv wv K gr ng grv Zg Z i) {w1 : World} {o : Obj} {gg capg : Nat} {v1 v2 v3 : Value} {z1 z2 z3 : List Int} (hg : (w.alloc o).grownBy w1 gr.ownBlock) (ho : w1.ownsRow B 23 1 (.slice (some ⟨gg, 0, none⟩) (ng + 3) capg) (ng + 3) (grv ++ [v1, v2, v3]))
    (hlie : gr.ownBlock = some gg ∨ gg = w.heap.size + 1) (h1 : Sl R w v1 z1) (h2 : Sl R w v2 z2) (h3 : Sl R w v3 z3) :
    W3 B R w1 b cnt tot fr he ma ke wa n fv hv mv nK kv wv K (.slice (some ⟨gg, 0, none⟩) (ng + 3) capg) (ng + 3) (grv ++ [v1, v2, v3]) (Z3 Zg ng z1 z2 z3) Z i ∧ But (fun x => gr.ownBlock = some x) w w1 := by
  have hbut : But (fun x => gr.ownBlock = some x) w w1 := ((But.refl _ w).alloc o).of_grown hg (fun x hx _ => hx)
  have nT : ∀ x, T5 w x → gr.ownBlock ≠ some x := fun x hx => hx.ne_row h.rg.own (by decide)
  have hnew : ∀ {e : Nat} {v : Value} {m : Nat} {xs : List Value}, w.ownsRow B e 1 v m xs → Dj gr v → Dj (.slice (some ⟨gg, 0, none⟩) (ng + 3) capg) v := by
    intro e v m xs hv hd g hgg hgv
    cases hgg
    rcases hlie with q | q
    · exact hd gg q hgv
    · have := (World.ownsRow.lt hv gg hgv).2
      omega
  refine ⟨⟨h.bk.keep fun x hx => hbut.block x (h.bk.there hx) (fun e => ?_), rs_app3 h.rg ho (fun g hgR => hbut.block g (h.bk.rT g hgR).lt (nT g (h.bk.rT g hgR))) h1 h2 h3, hnew h.bk.oF h.dF, hnew h.bk.oH h.dH, hnew h.bk.rK.own h.dK, hnew h.bk.rW.own h.dW, fun j hj hn => ?_⟩, hbut⟩
  · rcases hx with q | q | q | q | q | q | q
    · exact h.bk.blk.ne_row h.rg.own (by decide) (by rw [← q]; exact e)
    · exact h.dF x e q
    · exact h.dH x e q
    · exact dj_type h.bk.oM h.rg.own (by decide) x q e
    · exact h.dK x e q
    · exact h.dW x e q
    · exact nT x (h.bk.rT x q) e
  · obtain ⟨hz, q⟩ := h.fs j hj hn
    exact ⟨hz, q.imp id fun ⟨g, q1, q2, q3⟩ => ⟨g, q1.keep (hbut.block g q1.lt (nT g q1.t5)), q2, q3⟩⟩
theorem W3.kept {B : Nat} {R : Nat → Prop} {w : World} {b : Nat} {cnt tot : Int} {fr he ma ke wa : Value} {n : Nat} {fv hv mv : List Value} {nK : Nat} {kv wv : List Value} {K : Nat → List Int} {gr : Value} {ng : Nat} {grv : List Value} {Zg Z : Nat → List Int} {i : Nat}
    (h : W3 B R w b cnt tot fr he ma ke wa n fv hv mv nK kv wv K gr ng grv Zg Z i) {w' : World} {ke' wa' : Value} {nK' : Nat} {kv' wv' : List Value} (hI : BkI B R w' b cnt tot fr he ma ke' wa' n n n fv hv mv nK' nK' kv' wv' K) (hb : But (fun x => x = b ∨ ke.ownBlock = some x ∨ wa.ownBlock = some x) w w')
    (h1 : ∀ g, ke'.ownBlock = some g → ke.ownBlock = some g ∨ w.heap.size ≤ g) (h2 : ∀ g, wa'.ownBlock = some g → wa.ownBlock = some g ∨ w.heap.size ≤ g) : W3 B R w' b cnt tot fr he ma ke' wa' n fv hv mv nK' kv' wv' K gr ng grv Zg Z i := by
  have nT : ∀ x, T5 w x → ¬ (x = b ∨ ke.ownBlock = some x ∨ wa.ownBlock = some x) := fun x hx e => by
    rcases e with e | e | e
    · exact h.bk.blk.ne_t5 hx e
    · exact hx.ne_row h.bk.rK.own (by decide) e
    · exact hx.ne_row h.bk.rW.own (by decide) e
  have hnew : ∀ {v v' : Value}, Dj gr v → (∀ g, v'.ownBlock = some g → v.ownBlock = some g ∨ w.heap.size ≤ g) → Dj gr v' := by
    intro v v' hd hq g hg hv
    rcases hq g hv with e | e
    · exact hd g hg e
    · have := (World.ownsRow.lt h.rg.own g hg).2
      omega
  refine ⟨hI, h.rg.but hb (fun g hg => ⟨(h.bk.rT g hg).lt, nT g (h.bk.rT g hg)⟩) (fun g hg e => ?_), h.dF, h.dH, hnew h.dK h1, hnew h.dW h2, fun j hj hn => ?_⟩
  · rcases e with e | e | e
    · exact h.bk.blk.ne_row h.rg.own (by decide) (by rw [← e]; exact hg)
    · exact h.dK g hg e
    · exact h.dW g hg e
  · obtain ⟨hz, q⟩ := h.fs j hj hn
    exact ⟨hz, q.imp id fun ⟨g, q1, q2, q3⟩ => ⟨g, q1.keep (hb.block g q1.lt (nT g q1.t5)), q2, q3⟩⟩
/-- the blocks that write turns -/
def WX (b : Nat) (ke wa : Value) (n : Nat) (fv : List Value) (x : Nat) : Prop := x = b ∨ ke.ownBlock = some x ∨ wa.ownBlock = some x ∨ ∃ j, j < n ∧ (fv.getD j (.bool false)).ownBlock = some x
/-- what has been turned so far, and where the new rows lie -/
structure Wf (X R : Nat → Prop) (ke wa : Value) (w wt : World) (R' : Nat → Prop) (ke' wa' gr : Value) : Prop where
  but : But X w wt
  rr : ∀ x, R' x → R x ∨ X x ∨ w.heap.size ≤ x
  kk : ∀ g, ke'.ownBlock = some g → ke.ownBlock = some g ∨ w.heap.size ≤ g
  ww : ∀ g, wa'.ownBlock = some g → wa.ownBlock = some g ∨ w.heap.size ≤ g
  gg : ∀ g, gr.ownBlock = some g → w.heap.size ≤ g
theorem Wf.wide {X R : Nat → Prop} {ke wa : Value} {w wt : World} {R' : Nat → Prop} {ke' wa' gr : Value} (h : Wf X R ke wa w wt R' ke' wa' gr) {w' : World} {R2 : Nat → Prop} (hb : Below wt.heap.size wt w') (hR : ∀ x, R2 x → R' x ∨ X x ∨ wt.heap.size ≤ x) : Wf X R ke wa w w' R2 ke' wa' gr :=
  ⟨h.but.step (But.of_below (X := fun _ => False) hb) (fun _ _ q => q.elim), fun x hx => by
    rcases hR x hx with q | q | q
    · exact h.rr x q
    · exact .inr (.inl q)
    · exact .inr (.inr (Nat.le_trans h.but.size q)), h.kk, h.ww, h.gg⟩
theorem Wf.wideB {X R : Nat → Prop} {ke wa : Value} {w wt : World} {R' : Nat → Prop} {ke' wa' gr : Value} (h : Wf X R ke wa w wt R' ke' wa' gr) {w' : World} {R2 Y : Nat → Prop} (hb : But Y wt w') (hY : ∀ x, x < w.heap.size → Y x → X x) (hR : ∀ x, R2 x → R' x ∨ X x ∨ wt.heap.size ≤ x) : Wf X R ke wa w w' R2 ke' wa' gr :=
  ⟨h.but.step hb hY, fun x hx => by
    rcases hR x hx with q | q | q
    · exact h.rr x q
    · exact .inr (.inl q)
    · exact .inr (.inr (Nat.le_trans h.but.size q)), h.kk, h.ww, h.gg⟩
theorem Wf.app {X R : Nat → Prop} {ke wa : Value} {w wt : World} {R' : Nat → Prop} {ke' wa' gr : Value} (h : Wf X R ke wa w wt R' ke' wa' gr) {w' : World} {gg m c : Nat} (hb : But (fun x => gr.ownBlock = some x) wt w') (hlie : gr.ownBlock = some gg ∨ gg = wt.heap.size + 1) : Wf X R ke wa w w' R' ke' wa' (.slice (some ⟨gg, 0, none⟩) m c) :=
  ⟨h.but.step hb (fun x hx q => absurd (h.gg x q) (by omega)), h.rr, h.kk, h.ww, fun g hg => by
    cases hg
    rcases hlie with q | q
    · exact h.gg gg q
    · have := h.but.size
      show _ ≤ gg
      omega⟩
theorem Wf.kept {X R : Nat → Prop} {ke wa : Value} {w wt : World} {R' : Nat → Prop} {ke' wa' gr : Value} (h : Wf X R ke wa w wt R' ke' wa' gr) {w' : World} {b : Nat} {ke2 wa2 : Value} (hb : But (fun x => x = b ∨ ke'.ownBlock = some x ∨ wa'.ownBlock = some x) wt w') (hX : ∀ x, (x = b ∨ ke.ownBlock = some x ∨ wa.ownBlock = some x) → X x)
    (h1 : ∀ g, ke2.ownBlock = some g → ke'.ownBlock = some g ∨ wt.heap.size ≤ g) (h2 : ∀ g, wa2.ownBlock = some g → wa'.ownBlock = some g ∨ wt.heap.size ≤ g) : Wf X R ke wa w w' R' ke2 wa2 gr := by
  have hs := h.but.size
  refine ⟨h.but.step hb (fun x hx q => ?_), h.rr, fun g hg => ?_, fun g hg => ?_, h.gg⟩
  · rcases q with q | q | q
    · exact hX x (.inl q)
    · exact hX x (.inr (.inl ((h.kk x q).resolve_right (by omega))))
    · exact hX x (.inr (.inr ((h.ww x q).resolve_right (by omega))))
  · rcases h1 g hg with q | q
    · exact h.kk g q
    · exact .inr (by omega)
  · rcases h2 g hg with q | q
    · exact h.ww g q
    · exact .inr (by omega)
theorem Fr1.sl {B : Nat} {R R2 : Nat → Prop} {w : World} {fv : List Value} {Z : Nat → List Int} {j : Nat} (h : Fr1 B R w fv Z j) (hR : ∀ g, (fv.getD j (.bool false)).ownBlock = some g → R2 g) : Sl R2 w (fv.getD j (.bool false)) (Z j) := by
  obtain ⟨hz, h2⟩ := h
  rcases h2 with ⟨e1, e2⟩ | ⟨g, q1, q2, q3⟩
  · rw [e1, e2]
    exact ⟨Pl.isB_nil, none, 0, rfl, fun _ => rfl, .inl rfl⟩
  · exact q1.sl hz (hR g q1.ob)
/-- one block more is settled -/
theorem W3.wide1 {B : Nat} {R : Nat → Prop} {w : World} {b : Nat} {cnt tot : Int} {fr he ma ke wa : Value} {n : Nat} {fv hv mv : List Value} {nK : Nat} {kv wv : List Value} {K : Nat → List Int} {gr : Value} {ng : Nat} {grv : List Value} {Zg Z : Nat → List Int} {i : Nat}
    (h : W3 B R w b cnt tot fr he ma ke wa n fv hv mv nK kv wv K gr ng grv Zg Z i) {w' : World} {g0 : Nat} (zs : List Int) (hb : Below w.heap.size w w') (hg : w.heap.size ≤ g0) (hT : T5 w' g0) :
    W3 B (fun x => R x ∨ x = g0) w' b cnt tot fr he ma ke wa n fv hv mv nK kv wv (upd K nK zs) gr ng grv Zg Z i := by
  refine h.wide hb (fun _ q => .inl q) (fun g q => ?_) (fun j g hj hn hg' q => ?_) (fun j hj => ?_)
  · rcases q with q | rfl
    · exact (h.bk.rT g q).keep (hb.block g (h.bk.rT g q).lt)
    · exact hT
  · rcases (h.fs j hj hn).2 with ⟨e, _⟩ | ⟨g', q1, q2, _⟩
    · rw [e] at hg'; cases hg'
    · obtain rfl : g' = g := Option.some.inj (q1.ob.symm.trans hg')
      have := q1.lt
      rcases q with q | q
      · exact q2 q
      · have : g' = g0 := q
        omega
  · unfold upd
    rw [if_neg (by omega)]
theorem upd_at (K : Nat → List Int) (n : Nat) (zs : List Int) : upd K n zs n = zs := if_pos rfl
theorem dj_nil (v : Value) : Dj (.slice none 0 0) v := fun g h => by cases h
theorem dj_nil' (v : Value) : Dj v (.slice none 0 0) := fun g _ h => by cases h
theorem BkI.setF {B : Nat} {R : Nat → Prop} {w : World} {b : Nat} {cnt tot : Int} {fr he ma ke wa : Value} {nF nH nM : Nat} {fv hv mv : List Value} {nK nW : Nat} {kv wv : List Value} {K : Nat → List Int}
    (h : BkI B R w b cnt tot fr he ma ke wa nF nH nM fv hv mv nK nW kv wv K) : BkI B R (w.setCell ⟨b, 3, none⟩ (.slice none 0 0)) b cnt tot (.slice none 0 0) he ma ke wa 0 nH nM [] hv mv nK nW kv wv K := by
  have kR : ∀ g, R g → (w.setCell ⟨b, 3, none⟩ (.slice none 0 0)).heap[g]? = w.heap[g]? := fun g hg => Below.heap_setCell _ _ _ _ (h.blk.ne_t5 (h.rT g hg))
  exact ⟨h.blk.set 3 _, h.bB, World.ownsRow_nil _ _ _ _, owns_setCell h.oH (h.blk.ne_row h.oH (by decide)) _, owns_setCell h.oM (h.blk.ne_row h.oM (by decide)) _, h.rK.keep (owns_setCell h.rK.own (h.blk.ne_row h.rK.own (by decide)) _) kR, h.rW.keep (owns_setCell h.rW.own (h.blk.ne_row h.rW.own (by decide)) _) kR,
    dj_nil _, dj_nil _, dj_nil _, h.dHK, h.dHW, h.dKW, fun g hg => (h.rT g hg).keep (kR g hg)⟩
theorem BkI.setH {B : Nat} {R : Nat → Prop} {w : World} {b : Nat} {cnt tot : Int} {fr he ma ke wa : Value} {nF nH nM : Nat} {fv hv mv : List Value} {nK nW : Nat} {kv wv : List Value} {K : Nat → List Int}
    (h : BkI B R w b cnt tot fr he ma ke wa nF nH nM fv hv mv nK nW kv wv K) : BkI B R (w.setCell ⟨b, 4, none⟩ (.slice none 0 0)) b cnt tot fr (.slice none 0 0) ma ke wa nF 0 nM fv [] mv nK nW kv wv K := by
  have kR : ∀ g, R g → (w.setCell ⟨b, 4, none⟩ (.slice none 0 0)).heap[g]? = w.heap[g]? := fun g hg => Below.heap_setCell _ _ _ _ (h.blk.ne_t5 (h.rT g hg))
  exact ⟨h.blk.set 4 _, h.bB, owns_setCell h.oF (h.blk.ne_row h.oF (by decide)) _, World.ownsRow_nil _ _ _ _, owns_setCell h.oM (h.blk.ne_row h.oM (by decide)) _, h.rK.keep (owns_setCell h.rK.own (h.blk.ne_row h.rK.own (by decide)) _) kR, h.rW.keep (owns_setCell h.rW.own (h.blk.ne_row h.rW.own (by decide)) _) kR,
    dj_nil' _, h.dFK, h.dFW, dj_nil _, dj_nil _, h.dKW, fun g hg => (h.rT g hg).keep (kR g hg)⟩
theorem BkI.setM {B : Nat} {R : Nat → Prop} {w : World} {b : Nat} {cnt tot : Int} {fr he ma ke wa : Value} {nF nH nM : Nat} {fv hv mv : List Value} {nK nW : Nat} {kv wv : List Value} {K : Nat → List Int}
    (h : BkI B R w b cnt tot fr he ma ke wa nF nH nM fv hv mv nK nW kv wv K) : BkI B R (w.setCell ⟨b, 5, none⟩ (.slice none 0 0)) b cnt tot fr he (.slice none 0 0) ke wa nF nH 0 fv hv [] nK nW kv wv K := by
  have kR : ∀ g, R g → (w.setCell ⟨b, 5, none⟩ (.slice none 0 0)).heap[g]? = w.heap[g]? := fun g hg => Below.heap_setCell _ _ _ _ (h.blk.ne_t5 (h.rT g hg))
  exact ⟨h.blk.set 5 _, h.bB, owns_setCell h.oF (h.blk.ne_row h.oF (by decide)) _, owns_setCell h.oH (h.blk.ne_row h.oH (by decide)) _, World.ownsRow_nil _ _ _ _, h.rK.keep (owns_setCell h.rK.own (h.blk.ne_row h.rK.own (by decide)) _) kR, h.rW.keep (owns_setCell h.rW.own (h.blk.ne_row h.rW.own (by decide)) _) kR,
    h.dFH, h.dFK, h.dFW, h.dHK, h.dHW, h.dKW, fun g hg => (h.rT g hg).keep (kR g hg)⟩
theorem BkI.setB {B : Nat} {R : Nat → Prop} {w : World} {b : Nat} {cnt tot : Int} {fr he ma ke wa : Value} {nF nH nM : Nat} {fv hv mv : List Value} {nK nW : Nat} {kv wv : List Value} {K : Nat → List Int}
    (h : BkI B R w b cnt tot fr he ma ke wa nF nH nM fv hv mv nK nW kv wv K) : BkI B R (w.setCell ⟨b, 2, none⟩ (.bool false)) b cnt tot fr he ma ke wa nF nH nM fv hv mv nK nW kv wv K := by
  have kR : ∀ g, R g → (w.setCell ⟨b, 2, none⟩ (.bool false)).heap[g]? = w.heap[g]? := fun g hg => Below.heap_setCell _ _ _ _ (h.blk.ne_t5 (h.rT g hg))
  exact ⟨h.blk.set 2 _, h.bB, owns_setCell h.oF (h.blk.ne_row h.oF (by decide)) _, owns_setCell h.oH (h.blk.ne_row h.oH (by decide)) _, owns_setCell h.oM (h.blk.ne_row h.oM (by decide)) _, h.rK.keep (owns_setCell h.rK.own (h.blk.ne_row h.rK.own (by decide)) _) kR, h.rW.keep (owns_setCell h.rW.own (h.blk.ne_row h.rW.own (by decide)) _) kR,
    h.dFH, h.dFK, h.dFW, h.dHK, h.dHW, h.dKW, fun g hg => (h.rT g hg).keep (kR g hg)⟩
theorem BkI.drew {B : Nat} {R : Nat → Prop} {w : World} {b : Nat} {cnt tot : Int} {fr he ma ke wa : Value} {nF nH nM : Nat} {fv hv mv : List Value} {nK nW : Nat} {kv wv : List Value} {K : Nat → List Int}
    (h : BkI B R w b cnt tot fr he ma ke wa nF nH nM fv hv mv nK nW kv wv K) : BkI B R w.drew b cnt tot fr he ma ke wa nF nH nM fv hv mv nK nW kv wv K := h.keep fun _ _ => rfl
end Go.Proofs.YthkkdmblkalknaaGreatDoor.bk
