import Derived.Test.YtldlejpacgphmabGreatG27
namespace Go.Proofs.YtldlejpacgphmabGreat
open Go.RowKit
theorem Lq.push {B0 : Nat} {w wr w6 : World} {wb p c : Nat} {jv : Value} {g : Nat} {rm lasted : Int} {off trying : Bool} {tried tl td : Value} {Ls : List Ln} {ps : List Pm} {q : Nat} {fa : Option Addr} {fc : Nat} {td' : Value} {Ls' : List Ln} {qs : List Pm} {g4 cap4 : Nat} (h : Lq B0 w wr wb p c jv g rm lasted off trying tried tl td Ls ps q fa fc td' Ls' qs) (hB : w.heap.size ≤ B0) (hwl : wb < w.heap.size) (hwT : ¬ TrB td Ls wb) (hnl : Ls'.length + 1 ≤ 1073741823)
  (ho : w6.ownsRow 0 233 1 (.slice (some ⟨g4, 0, none⟩) (Ls'.length + 1) cap4) (Ls'.length + 1) ((Ls'.map fun l => Value.pointer (some ⟨l.1, 0, none⟩)) ++ [.pointer (some ⟨wr.heap.size, 0, none⟩)])) (hg : ((wr.alloc (.cells #[.slice none 0 0, .int .i64 0] 78)).alloc (.cells #[.pointer (some ⟨wr.heap.size, 0, none⟩)] 233)).grownBy w6 td'.ownBlock) (hlie : td'.ownBlock = some g4 ∨ g4 = wr.heap.size + 1 + 1) :
  Lq B0 w (w6.setCell ⟨wb, 10, none⟩ (.slice (some ⟨g4, 0, none⟩) (Ls'.length + 1) cap4)) wb p c jv g rm lasted off trying tried tl td Ls ps q fa fc (.slice (some ⟨g4, 0, none⟩) (Ls'.length + 1) cap4) (Ls' ++ [(wr.heap.size, none)]) qs := by
 have hwbr := h.bt.size
 have hwn : ¬ TrB td' Ls' wb := fun q => hwT (h.gr wb hwl q)
 have hz : ((wr.alloc (.cells #[.slice none 0 0, .int .i64 0] 78)).alloc (.cells #[.pointer (some ⟨wr.heap.size, 0, none⟩)] 233)).heap.size = wr.heap.size + 2 := by simp
 have hs6 : wr.heap.size + 2 ≤ w6.heap.size := by rw [← hz]; exact hg.size
 have htd : ∀ k, td'.ownBlock = some k → k < wr.heap.size := fun k e => (World.ownsRow.lt h.tr.row k e).2
 have b6 : But (fun k => td'.ownBlock = some k) wr w6 := (((But.refl (fun k => td'.ownBlock = some k) wr).alloc _).alloc _).of_grown hg (fun x e _ => e)
 have hL6 : Lnd w6 wr.heap.size (.slice none 0 0) 0 := by
  have h1 : Lnd ((wr.alloc (.cells #[.slice none 0 0, .int .i64 0] 78)).alloc (.cells #[.pointer (some ⟨wr.heap.size, 0, none⟩)] 233)) wr.heap.size (.slice none 0 0) 0 := by
   have h0 : Lnd (wr.alloc (.cells #[.slice none 0 0, .int .i64 0] 78)) wr.heap.size (.slice none 0 0) 0 := by
    unfold Lnd
    exact Array.getElem?_push_size
   exact h0.alloc _
  exact h1.of_block (hg.block wr.heap.size (by omega) (fun e => by have := htd _ e.symm; omega))
 have hne : g4 ≠ wb := fun e => by
  rcases hlie with r | r
  ·exact hwn (.inl (by rw [r, e]))
  ·omega
 have ht : ∀ k, (Value.slice (some ⟨g4, 0, none⟩) (Ls'.length + 1) cap4).ownBlock = some k → td'.ownBlock = some k ∨ (wr.heap.size ≤ k ∧ k ≠ wr.heap.size) := fun k e => by
  have e2 : g4 = k := by injection e
  subst e2
  rcases hlie with r | r
  ·exact .inl r
  ·exact .inr ⟨by omega, by omega⟩
 have hwl6 : wb < w6.heap.size := by omega
 have b7 : But (fun k => k = wb ∨ td'.ownBlock = some k) wr (w6.setCell ⟨wb, 10, none⟩ (.slice (some ⟨g4, 0, none⟩) (Ls'.length + 1) cap4)) := (b6.mono (fun k _ r => .inr r)).setCell (.inl rfl) _
 have tr6 : Tr w6 (.slice (some ⟨g4, 0, none⟩) (Ls'.length + 1) cap4) (Ls' ++ [(wr.heap.size, none)]) ((ps.take q).map Pm.data) := Tr.push h.tr (Nat.le_refl _) ho hL6 (fun k hk e => b6.block k hk e) ht
 have hgr : ∀ k, k < wr.heap.size → TrB (.slice (some ⟨g4, 0, none⟩) (Ls'.length + 1) cap4) (Ls' ++ [(wr.heap.size, none)]) k → TrB td' Ls' k := TrB.push (Nat.le_refl _) ht
 have hfr : ∀ k, (Value.slice fa q fc).ownBlock = some k → B0 ≤ k ∧ k < wr.heap.size := fun k e => World.ownsRow.lt h.row k e
 refine ⟨?_, ?_, ?_, ⟨h.lp.1, fun i r hi => ?_⟩, ?_, fun k hk r => ?_, fun k e r => ?_, by simpa using hnl⟩
 ·exact (h.wd.keep (b6.block wb (by omega) (fun e => hwn (.inl e)))).set10 _
 ·refine tr6.keep (fun k r hk => Below.heap_setCell _ _ _ _ ?_)
  intro e
  have e2 : k = wb := e
  rw [e2] at r
  exact hwn (hgr wb (by omega) r)
 ·refine owns_keep h.row (fun k e => b7.block k (hfr k e).2 (fun r => ?_))
  rcases r with r | r
  ·have := (hfr k e).1
   omega
  ·exact h.nf k e (.inl r)
 ·obtain ⟨L2, G2, q1, q2⟩ := h.lp.2 i r hi
  have hil := (List.getElem?_eq_some_iff.1 q1).1
  exact ⟨L2, G2, by rw [List.getElem?_append_left hil]; exact q1, q2⟩
 ·exact h.bt.comp b7 (fun k hk r => r.elim .inl (fun r => .inr (h.gr k hk (.inl r))))
 ·exact h.gr k hk (hgr k (by omega) r)
 ·exact h.nf k e (hgr k (hfr k e).2 r)
theorem Lq.le {B0 : Nat} {w wr : World} {wb p c : Nat} {jv : Value} {g : Nat} {rm lasted : Int} {off trying : Bool} {tried tl td : Value} {Ls : List Ln} {ps : List Pm} {q : Nat} {fa : Option Addr} {fc : Nat} {td' : Value} {Ls' : List Ln} {qs : List Pm} (h : Lq B0 w wr wb p c jv g rm lasted off trying tried tl td Ls ps q fa fc td' Ls' qs) (hq : q ≤ ps.length) : q ≤ Ls'.length := by
 by_cases h0 : q = 0
 ·omega
 ·obtain ⟨z, hz⟩ : ∃ z, ((ps.take q).map Pm.data)[q - 1]? = some z := ⟨_, List.getElem?_eq_getElem (by rw [List.length_map, List.length_take]; omega)⟩
  obtain ⟨L, G, q1, _⟩ := h.tr.lnt (q - 1) z hz
  have := (List.getElem?_eq_some_iff.1 q1).1
  omega
theorem Lq.ready {B0 : Nat} {w wr : World} {wb p c : Nat} {jv : Value} {g : Nat} {rm lasted : Int} {off trying : Bool} {tried tl td : Value} {Ls : List Ln} {ps : List Pm} {q : Nat} {fa : Option Addr} {fc : Nat} {td' : Value} {Ls' : List Ln} {qs : List Pm} {pp : Pm} {a0 : Option Addr} (h : Lq B0 w wr wb p c jv g rm lasted off trying tried tl td Ls ps q fa fc td' Ls' qs) (hB : w.heap.size ≤ B0) (hwl : wb < w.heap.size) (hwT : ¬ TrB td Ls wb) (hpp : ps[q]? = some pp) (hq : q < Ls'.length) (hR : RdP (fun k => k = wb ∨ TrB td Ls k) w a0 ps) (hd : pp.data.length ≤ 16777216) :
  ∃ tb dc L o pb po, td' = .slice (some ⟨tb, 0, none⟩) Ls'.length dc ∧ Ls'[q]? = some (L, o) ∧ a0 = some ⟨pb, po, none⟩ ∧ wr.cell? ⟨wb, 10, none⟩ = some (.slice (some ⟨tb, 0, none⟩) Ls'.length dc) ∧ wr.cell? ⟨tb, q, none⟩ = some (.pointer (some ⟨L, 0, none⟩)) ∧ wr.cell? ⟨pb, po + q * 2, none⟩ = some (.int .i64 pp.at_) ∧ wr.cell? ⟨pb, po + q * 2 + 1, none⟩ = some (.slice pp.ad pp.data.length pp.cap) ∧
   Calls Tryz.prog 152 #[.pointer (some ⟨L, 0, none⟩), .slice pp.ad pp.data.length pp.cap] wr.drew (fun e w' => ∃ G', e = .returned (.slice (some ⟨G', 0, none⟩) pp.data.length (2 * pp.data.length + 70)) ∧ LdL w' L G' pp.data ∧ (o = some G' ∨ wr.drew.heap.size ≤ G') ∧ But (fun x => x = L ∨ o = some x) wr.drew w') ∧
   (wb < wr.heap.size ∧ ¬ (wb = L ∨ o = some wb)) ∧ (tb < wr.heap.size ∧ ¬ (tb = L ∨ o = some tb)) ∧ (pb < wr.heap.size ∧ ¬ (pb = L ∨ o = some pb)) ∧ (∀ k, (Value.slice fa q fc).ownBlock = some k → ¬ (k = L ∨ o = some k)) ∧ ((Value.slice fa q fc).ownBlock ≠ some wb ∧ (Value.slice fa q fc).ownBlock ≠ some tb ∧ (Value.slice fa q fc).ownBlock ≠ some pb) := by
 obtain ⟨da, dc, hde, _⟩ := owns_slice h.tr.row
 have hrow := h.tr.row
 rw [hde] at hrow
 obtain ⟨tb, hta, _, htl, hcs⟩ := owns_cells hrow (by omega)
 subst hta
 obtain ⟨lo, hlo⟩ : ∃ lo, Ls'[q]? = some lo := ⟨_, List.getElem?_eq_getElem hq⟩
 obtain ⟨L, o⟩ := lo
 have hwbr := h.bt.size
 have hmem : ((L, o) : Ln) ∈ Ls' := List.mem_of_getElem? hlo
 have hT : ∀ k, (k = L ∨ o = some k) → TrB td' Ls' k := fun k r => .inr ⟨(L, o), hmem, r⟩
 have hwn : ¬ TrB td' Ls' wb := fun q => hwT (h.gr wb hwl q)
 have hto : td'.ownBlock = some tb := by rw [hde]; rfl
 obtain ⟨pb, po, ha0, hpb, hpn, hpc⟩ : ∃ b off, a0 = some ⟨b, off, none⟩ ∧ b < w.heap.size ∧ ¬ (b = wb ∨ TrB td Ls b) ∧ ∀ (t : Nat) (p : Pm), ps[t]? = some p → w.cell? ⟨b, off + t * 2, none⟩ = some (.int .i64 p.at_) ∧ w.cell? ⟨b, off + t * 2 + 1, none⟩ = some (.slice p.ad p.data.length p.cap) := by
  rcases hR.2 with e | e
  ·rw [e] at hpp; cases hpp
  ·exact e
 obtain ⟨d0, d1⟩ := hpc q pp hpp
 have hfr : ∀ k, (Value.slice fa q fc).ownBlock = some k → B0 ≤ k ∧ k < wr.heap.size := fun k e => World.ownsRow.lt h.row k e
 have hrd : RdN (fun x => x = L ∨ o = some x) wr.drew pp.ad pp.data.length pp.data := (hR.1 pp (List.mem_of_getElem? hpp)).turn h.bt.drew (fun k _ r => r) _ (fun k hk r => .inr (h.gr k hk (hT k r)))
 refine ⟨tb, dc, L, o, pb, po, hde, hlo, ha0, ?_, ?_, ?_, ?_, ?_, ⟨by omega, fun r => hwn (hT wb r)⟩, ⟨htl, fun r => h.tr.nr tb hto q (L, o) hlo r⟩, ⟨by omega, fun r => hpn (.inr (h.gr pb hpb (hT pb r)))⟩, fun k e r => h.nf k e (hT k r), fun e => by have := (hfr _ e).1; omega, fun e => h.nf tb e (.inl hto), fun e => by have := (hfr _ e).1; omega⟩
 ·have := h.wd.cell 10
  rw [hde] at this
  exact this
 ·rw [hcs q hq, List.getD_eq_getElem?_getD, List.getElem?_map, hlo]
  rfl
 ·exact (h.bt.cell (p := ⟨pb, po + q * 2, none⟩) hpb hpn).trans d0
 ·exact (h.bt.cell (p := ⟨pb, po + q * 2 + 1, none⟩) hpb hpn).trans d1
 ·exact Lend_any ((h.tr.all q _ hlo).keep (w' := wr.drew) rfl (fun _ _ => rfl)) (h.tr.ne q _ hlo) pp.ad pp.data.length pp.cap pp.data hd hrd
end Go.Proofs.YtldlejpacgphmabGreat
