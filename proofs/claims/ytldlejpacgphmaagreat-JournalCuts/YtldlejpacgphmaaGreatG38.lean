import Derived.Test.YtldlejpacgphmaaGreatG37
namespace Go.Proofs.YtldlejpacgphmaaGreat
open Go.RowKit
theorem LdL.rd {w : World} {L G : Nat} {zs : List Int} (h : LdL w L G zs) (hb : Pl.isB zs) : Rd w.heap.size w (some ⟨G, 0, none⟩) zs.length zs := by
 obtain ⟨M, ys, h1, h2, h3, _, h5, _⟩ := h
 refine ⟨rfl, hb, .inr ⟨G, 0, rfl, h1.lt, fun t ht => ?_⟩⟩
 rw [Nat.zero_add, h1.cell t (by omega)]
 have e : (ys.take (2 * zs.length + 70)).getD t 0 = (lent zs).getD t 0 := by rw [h3]
 rw [lent_lo ht, List.getD_eq_getElem?_getD, List.getElem?_take_of_lt (by omega), ← List.getD_eq_getElem?_getD] at e
 rw [e]
theorem bhd_get (n i : Nat) (hi : i < n) : (bhd n)[i * 2]? = some (.int .i64 (-7 - (i : Int))) ∧ (bhd n)[i * 2 + 1]? = some (.slice none 0 0) := by
 induction n with
 | zero => omega
 | succ n ih =>
  have hl := length_bhd n
  rw [bhd_succ]
  by_cases h : i < n
  ·rw [List.getElem?_append_left (by omega), List.getElem?_append_left (by omega)]
   exact ih h
  ·have e : i = n := by omega
   subst e
   rw [List.getElem?_append_right (by omega), List.getElem?_append_right (by omega), hl]
   refine ⟨?_, ?_⟩
   ·rw [Nat.sub_self]; rfl
   ·rw [show i * 2 + 1 - i * 2 = 1 by omega]; rfl
theorem fld68 (v : Int) (w : World) : (Instr.field 68 (.agg #[.int .i64 v, .slice none 0 0]) 0).run Tryz.prog w = .ok (.int .i64 v) w := by
 unfold Instr.field
 simp [run_underlying Tryz.underlying68, go_sem, part, asAgg]
theorem Tr.backed {w w' : World} {td : Value} {Ls : List Ln} {i L G : Nat} (h : Tr w td Ls []) (hi : Ls[i]? = some (L, some G)) (hl : LdA w' L (some G)) (hb : But (fun x => x = G) w w') : Tr w' td Ls [] where
 row := owns_keep h.row (fun k e => hb.block k (World.ownsRow.lt h.row k e).2 (fun q => h.nr k e i _ hi (.inr (by rw [q]))))
 all := fun j l hj => by
  by_cases hij : j = i
  ·subst hij
   rw [hi] at hj
   cases hj
   exact hl
  ·exact (h.all j l hj).keep (hb.block _ (h.all j l hj).lt.1 (fun q => h.dj j i l _ hj hi hij _ (.inl rfl) (.inr (by rw [q])))) (fun G' e => hb.block _ ((h.all j l hj).lt.2 G' e) (fun q => h.dj j i l _ hj hi hij _ (.inr e) (.inr (by rw [q]))))
 lnt := fun j z hj => by simp at hj
 dj := h.dj
 ne := h.ne
 nr := h.nr
def BackP (w : World) (wb p c : Nat) (jv : Value) (g : Nat) (rm lasted : Int) (off trying : Bool) (tried : Value) (lb n1 lc : Nat) (td : Value) (Ls : List Ln) (e : Ending) (w' : World) : Prop :=
 e = .returned (.bool true) ∧ Wb w' wb p c jv g rm lasted off trying tried (.slice (some ⟨lb, 0, none⟩) n1 lc) td ∧ Tr w' td Ls [] ∧ (∃ cs, w'.ownsRow 0 68 2 (.slice (some ⟨lb, 0, none⟩) n1 lc) n1 cs) ∧ But (fun k => k = lb ∨ TrB td Ls k) w w'
structure Bq (w wr : World) (wb p c : Nat) (jv : Value) (g : Nat) (rm lasted : Int) (off trying : Bool) (tried : Value) (lb n1 lc : Nat) (td : Value) (Ls : List Ln) (ps : List Pm) (xs0 xs : List Value) (i : Nat) : Prop where
 wd : Wb wr wb p c jv g rm lasted off trying tried (.slice (some ⟨lb, 0, none⟩) n1 lc) td
 tr : Tr wr td Ls []
 row : wr.ownsRow 0 68 2 (.slice (some ⟨lb, 0, none⟩) n1 lc) n1 xs
 same : ∀ m, i * 2 ≤ m → xs[m]? = xs0[m]?
 lnt : ∀ (j : Nat) (pp : Pm), i ≤ j → ps[j]? = some pp → ∃ L G, Ls[j]? = some (L, some G) ∧ LdL wr L G pp.data
 bt : But (fun k => k = lb ∨ TrB td Ls k) w wr
theorem Bq.next {w wr w2 : World} {wb p c : Nat} {jv : Value} {g : Nat} {rm lasted : Int} {off trying : Bool} {tried : Value} {lb n1 lc : Nat} {td : Value} {Ls : List Ln} {ps : List Pm} {xs0 xs : List Value} {i L G : Nat} (h : Bq w wr wb p c jv g rm lasted off trying tried lb n1 lc td Ls ps xs0 xs i) (hlw : lb ≠ wb) (hwT : ¬ TrB td Ls wb) (hlT : ¬ TrB td Ls lb) (hi : Ls[i]? = some (L, some G)) (hl : LdA w2 L (some G)) (hb : But (fun x => x = G) wr.drew w2) :
  Bq w ((w2.setCell ⟨lb, i * 2, none⟩ (.int .i64 1)).setCell ⟨lb, i * 2 + 1, none⟩ (.slice none 0 0)) wb p c jv g rm lasted off trying tried lb n1 lc td Ls ps xs0 ((xs.set (i * 2) (.int .i64 1)).set (i * 2 + 1) (.slice none 0 0)) (i + 1) := by
 have hGT : TrB td Ls G := .inr ⟨_, List.mem_of_getElem? hi, .inr rfl⟩
 have hGw : wb ≠ G := fun e => hwT (by rw [e]; exact hGT)
 have hGl : lb ≠ G := fun e => hlT (by rw [e]; exact hGT)
 have hwl := h.wd.lt
 have hll := (World.ownsRow.lt h.row lb rfl).2
 have b2 : But (fun x => x = G) wr w2 := (But.refl (fun x => x = G) wr).drew.comp hb (fun _ _ q => q)
 have tr2 := Tr.backed h.tr hi hl b2
 have bs : But (fun k => k = lb) w2 ((w2.setCell ⟨lb, i * 2, none⟩ (.int .i64 1)).setCell ⟨lb, i * 2 + 1, none⟩ (.slice none 0 0)) := ((But.refl (fun k => k = lb) w2).setCell rfl _).setCell rfl _
 refine ⟨?_, ?_, ?_, fun m hm => ?_, fun j pp hj hpj => ?_, ?_⟩
 ·exact (h.wd.keep (b2.block wb hwl hGw)).keep (bs.block wb (Nat.lt_of_lt_of_le hwl b2.size) (Ne.symm hlw))
 ·exact tr2.but bs (fun k _ r q => hlT (by rw [← q]; exact r))
 ·have r2 : w2.ownsRow 0 68 2 (.slice (some ⟨lb, 0, none⟩) n1 lc) n1 xs := owns_keep h.row (fun k e => by
   have e2 : lb = k := by injection e
   subst e2
   exact b2.block lb hll hGl)
  obtain ⟨a1, a2⟩ := r2
  rcases a2 with ⟨e, _⟩ | ⟨g9, cap, cur, e, _, hg, c1, c2, c3, c4⟩
  ·simp at e
  ·simp only [Value.slice.injEq, Option.some.injEq, Addr.mk.injEq] at e
   obtain ⟨⟨rfl, _⟩, _, rfl⟩ := e
   refine ⟨by simp [a1], .inr ⟨lb, lc, (cur.setIfInBounds (i * 2) (.int .i64 1)).setIfInBounds (i * 2 + 1) (.slice none 0 0), rfl, Nat.zero_le _, ?_, c1, c2, by simp [c3], ?_⟩⟩
   ·have h1 : (w2.setCell ⟨lb, i * 2, none⟩ (.int .i64 1)).heap[lb]? = some (.cells (cur.setIfInBounds (i * 2) (.int .i64 1)) 68 (0, 0)) := by
     simp only [World.setCell, Array.getElem?_modify]
     rw [hg]
     simp
    generalize w2.setCell ⟨lb, i * 2, none⟩ (.int .i64 1) = w9 at h1
    simp only [World.setCell, Array.getElem?_modify]
    rw [h1]
    simp
   ·rw [Array.toList_setIfInBounds, Array.toList_setIfInBounds, List.take_set, List.take_set, c4]
 ·rw [List.getElem?_set_ne (by omega), List.getElem?_set_ne (by omega)]
  exact h.same m (by omega)
 ·obtain ⟨L2, G2, q1, q2⟩ := h.lnt j pp (by omega) hpj
  have hne : j ≠ i := by omega
  have k2 := h.tr.all j _ q1
  have hk : ∀ k, Ln.has (L2, some G2) k → k ≠ G ∧ k ≠ lb := fun k r => ⟨fun e => h.tr.dj j i _ _ q1 hi hne k r (.inr (by rw [e])), fun e => hlT (by rw [← e]; exact .inr ⟨_, List.mem_of_getElem? q1, r⟩)⟩
  have hkb : ∀ k, k < wr.heap.size → Ln.has (L2, some G2) k → ((w2.setCell ⟨lb, i * 2, none⟩ (.int .i64 1)).setCell ⟨lb, i * 2 + 1, none⟩ (.slice none 0 0)).heap[k]? = wr.heap[k]? := fun k hkl r => (bs.block k (Nat.lt_of_lt_of_le hkl b2.size) (hk k r).2).trans (b2.block k hkl (hk k r).1)
  exact ⟨L2, G2, q1, q2.keep (hkb L2 k2.lt.1 (.inl rfl)) (hkb G2 (k2.lt.2 G2 rfl) (.inr rfl))⟩
 ·exact (h.bt.comp b2 (fun k hk q => .inr (by rw [q]; exact hGT))).comp bs (fun k hk q => .inl q)
end Go.Proofs.YtldlejpacgphmaaGreat
