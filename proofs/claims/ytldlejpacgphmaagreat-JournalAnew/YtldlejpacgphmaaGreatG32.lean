import Derived.Test.YtldlejpacgphmaaGreatG31
namespace Go.Proofs.YtldlejpacgphmaaGreat
open Go.RowKit
theorem Lend_any {w : World} {L : Nat} {o : Option Nat} (h : LdA w L o) (hne : o ≠ some L) (a : Option Addr) (n c : Nat) (zs : List Int) (hn : n ≤ 16777216) (hR : RdN (fun x => x = L ∨ o = some x) w a n zs) :
  Calls Tryz.prog 115 #[.pointer (some ⟨L, 0, none⟩), .slice a n c] w fun e w' => ∃ G', e = .returned (.slice (some ⟨G', 0, none⟩) n (2 * n + 70)) ∧ LdL w' L G' zs ∧ (o = some G' ∨ w.heap.size ≤ G') ∧ But (fun x => x = L ∨ o = some x) w w' := by
 have hzl := hR.1
 cases o with
 | none =>
  refine Calls.mono (Lend_new L none 0 0 0 a n c zs w hn h (by omega) (hR.mono (fun k _ q => .inl q))) ?_
  rintro e w' ⟨G', M', ys, rfl, q1, q2, q3, q4, q5, q6, q7⟩
  refine ⟨G', rfl, ⟨M', ys, q1, q2, by rw [hzl]; exact q3, by rw [hzl]; exact q4, by omega, by omega⟩, .inr (by omega), q7.mono (fun k _ q => .inl q)⟩
 | some G =>
  obtain ⟨M, ys, N, h1, h2, h3, h4⟩ := h
  by_cases hM : 2 * n + 70 ≤ M
  ·refine Calls.mono (Lend_old L G M N a n c ys zs w hn h1 h2 h3 (fun e => hne (by rw [e])) hM h4 (hR.mono (fun k _ q => q.elim .inl (fun q => .inr (by rw [q]))))) ?_
   rintro e w' ⟨G', M', ys', rfl, q1, q2, q3, q4, q5, q6, q7⟩
   subst q5 q6
   exact ⟨G', rfl, ⟨M', ys', q1, q2, by rw [hzl]; exact q3, by rw [hzl]; exact q4, by omega, h4⟩, .inl rfl, q7.mono (fun k _ q => q.elim .inl (fun q => .inr (by rw [q])))⟩
  ·refine Calls.mono (Lend_new L (some ⟨G, 0, none⟩) M M N a n c zs w hn h3 (by omega) (hR.mono (fun k _ q => .inl q))) ?_
   rintro e w' ⟨G', M', ys', rfl, q1, q2, q3, q4, q5, q6, q7⟩
   refine ⟨G', rfl, ⟨M', ys', q1, q2, by rw [hzl]; exact q3, by rw [hzl]; exact q4, by omega, by omega⟩, .inr (by omega), q7.mono (fun k _ q => .inl q)⟩
theorem Tr.lend {w w' : World} {td : Value} {Ls : List Ln} {Zs : List (List Int)} {L G' : Nat} {o : Option Nat} {zs : List Int} (h : Tr w td Ls Zs) (hq : Ls[Zs.length]? = some (L, o)) (hl : LdL w' L G' zs) (hG : o = some G' ∨ w.heap.size ≤ G') (hb : But (fun x => x = L ∨ o = some x) w w') : Tr w' td (Ls.set Zs.length (L, some G')) (Zs ++ [zs]) := by
 have hqlt := (List.getElem?_eq_some_iff.1 hq).1
 have hset : ∀ (i : Nat) (l : Ln), (Ls.set Zs.length (L, some G'))[i]? = some l → (i = Zs.length ∧ l = (L, some G')) ∨ (i ≠ Zs.length ∧ Ls[i]? = some l) := fun i l hi => by
  by_cases hiq : i = Zs.length
  ·subst hiq
   rw [List.getElem?_set_self hqlt] at hi
   injection hi with hi
   exact .inl ⟨rfl, hi.symm⟩
  ·rw [List.getElem?_set_ne (Ne.symm hiq)] at hi
   exact .inr ⟨hiq, hi⟩
 have hothers : ∀ (i : Nat) (l : Ln), Ls[i]? = some l → i ≠ Zs.length → ∀ k, l.has k → w'.heap[k]? = w.heap[k]? := fun i l hi hne k hk => hb.block k (Ln.has_lt (h.all i l hi) hk) (fun q => h.dj i Zs.length l (L, o) hi hq hne k hk (q.elim .inl .inr))
 have hrowk : ∀ k, td.ownBlock = some k → w'.heap[k]? = w.heap[k]? := fun k e => hb.block k (World.ownsRow.lt h.row k e).2 (fun q => h.nr k e Zs.length (L, o) hq (q.elim .inl .inr))
 have hnew : ∀ (i : Nat) (l : Ln), Ls[i]? = some l → i ≠ Zs.length → ∀ k, l.has k → ¬ Ln.has (L, some G') k := fun i l hi hne k hk q => by
  rcases q with q | q
  ·exact h.dj i Zs.length l (L, o) hi hq hne k hk (.inl q)
  ·injection q with q
   subst q
   rcases hG with hG | hG
   ·exact h.dj i Zs.length l (L, o) hi hq hne G' hk (.inr hG)
   ·have := Ln.has_lt (h.all i l hi) hk
    omega
 refine ⟨?_, fun i l hi => ?_, fun i z hi => ?_, fun i j a b hi hj hne k hk => ?_, fun i l hi => ?_, fun k e i l hi => ?_⟩
 ·have e : (Ls.set Zs.length (L, some G')).map (fun l => Value.pointer (some ⟨l.1, 0, none⟩)) = Ls.map fun l => Value.pointer (some ⟨l.1, 0, none⟩) := by
   rw [List.map_set]
   refine List.ext_getElem? fun i => ?_
   by_cases hiq : Zs.length = i
   ·subst hiq
    rw [List.getElem?_set_self (by simpa using hqlt), List.getElem?_map, hq]
    rfl
   ·rw [List.getElem?_set_ne hiq]
  rw [e, List.length_set]
  exact owns_keep h.row hrowk
 ·rcases hset i l hi with ⟨_, rfl⟩ | ⟨hne, hi⟩
  ·exact hl.a
  ·exact (h.all i l hi).keep (hothers i l hi hne _ (.inl rfl)) (fun G e => hothers i l hi hne _ (.inr e))
 ·by_cases hiq : i < Zs.length
  ·rw [List.getElem?_append_left hiq] at hi
   obtain ⟨L2, G2, q1, q2⟩ := h.lnt i z hi
   have hne : i ≠ Zs.length := by omega
   exact ⟨L2, G2, by rw [List.getElem?_set_ne (Ne.symm hne)]; exact q1, q2.keep (hothers i _ q1 hne _ (.inl rfl)) (hothers i _ q1 hne _ (.inr rfl))⟩
  ·have hie : i = Zs.length := by
    have := (List.getElem?_eq_some_iff.1 hi).1
    simp at this
    omega
   subst hie
   rw [List.getElem?_append_right (Nat.le_refl _)] at hi
   simp at hi
   subst hi
   exact ⟨L, G', List.getElem?_set_self hqlt, hl⟩
 ·rcases hset i a hi with ⟨rfl, rfl⟩ | ⟨hni, hi⟩
  ·rcases hset j b hj with ⟨rfl, _⟩ | ⟨hnj, hj⟩
   ·exact absurd rfl hne
   ·exact fun q => hnew j b hj hnj k q hk
  ·rcases hset j b hj with ⟨rfl, rfl⟩ | ⟨hnj, hj⟩
   ·exact hnew i a hi hni k hk
   ·exact h.dj i j a b hi hj hne k hk
 ·rcases hset i l hi with ⟨_, rfl⟩ | ⟨_, hi⟩
  ·intro e
   injection e with e
   rcases hG with hG | hG
   ·exact h.ne Zs.length _ hq (by rw [← e]; exact hG)
   ·have := (h.all _ _ hq).lt.1
    simp only at this e
    omega
  ·exact h.ne i l hi
 ·rcases hset i l hi with ⟨_, rfl⟩ | ⟨_, hi⟩
  ·intro q
   rcases q with q | q
   ·exact h.nr k e Zs.length (L, o) hq (.inl q)
   ·injection q with q
    subst q
    rcases hG with hG | hG
    ·exact h.nr G' e Zs.length (L, o) hq (.inr hG)
    ·have := (World.ownsRow.lt h.row G' e).2
     omega
  ·exact h.nr k e i l hi
theorem TrB.lend {w : World} {td : Value} {Ls : List Ln} {q L G' : Nat} {o : Option Nat} (hq : Ls[q]? = some (L, o)) (hG : o = some G' ∨ w.heap.size ≤ G') : ∀ k, k < w.heap.size → TrB td (Ls.set q (L, some G')) k → TrB td Ls k := fun k hk h => by
 rcases h with h | ⟨l, hl, h⟩
 ·exact .inl h
 ·rcases List.mem_or_eq_of_mem_set hl with hl | rfl
  ·exact .inr ⟨l, hl, h⟩
  ·rcases h with h | h
   ·exact .inr ⟨(L, o), List.mem_of_getElem? hq, .inl h⟩
   ·injection h with h
    subst h
    rcases hG with hG | hG
    ·exact .inr ⟨(L, o), List.mem_of_getElem? hq, .inr hG⟩
    ·omega
theorem Tr.push {w w' : World} {td td' : Value} {Ls : List Ln} {Zs : List (List Int)} {L : Nat} (h : Tr w td Ls Zs) (hL : w.heap.size ≤ L) (hrow : w'.ownsRow 0 158 1 td' (Ls.length + 1) ((Ls.map fun l => Value.pointer (some ⟨l.1, 0, none⟩)) ++ [.pointer (some ⟨L, 0, none⟩)])) (hlnd : Lnd w' L (.slice none 0 0) 0) (hk : ∀ k, k < w.heap.size → td.ownBlock ≠ some k → w'.heap[k]? = w.heap[k]?) (ht : ∀ k, td'.ownBlock = some k → td.ownBlock = some k ∨ (w.heap.size ≤ k ∧ k ≠ L)) : Tr w' td' (Ls ++ [(L, none)]) Zs := by
 have hget : ∀ (i : Nat) (l : Ln), (Ls ++ [(L, none)])[i]? = some l → (Ls[i]? = some l ∧ i < Ls.length) ∨ (i = Ls.length ∧ l = (L, none)) := fun i l hi => by
  by_cases hil : i < Ls.length
  ·rw [List.getElem?_append_left hil] at hi
   exact .inl ⟨hi, hil⟩
  ·have hie : i = Ls.length := by
    have := (List.getElem?_eq_some_iff.1 hi).1
    simp at this
    omega
   subst hie
   rw [List.getElem?_append_right (Nat.le_refl _)] at hi
   simp at hi
   exact .inr ⟨rfl, hi.symm⟩
 have hold : ∀ (i : Nat) (l : Ln), Ls[i]? = some l → ∀ k, l.has k → w'.heap[k]? = w.heap[k]? := fun i l hi k q => hk k (Ln.has_lt (h.all i l hi) q) (fun e => h.nr k e i l hi q)
 have hnL : ∀ (i : Nat) (l : Ln), Ls[i]? = some l → ∀ k, l.has k → ¬ Ln.has (L, none) k := fun i l hi k q r => by
  have := Ln.has_lt (h.all i l hi) q
  rcases r with r | r
  ·simp only at r
   omega
  ·cases r
 refine ⟨by simpa using hrow, fun i l hi => ?_, fun i z hi => ?_, fun i j a b hi hj hne k q => ?_, fun i l hi => ?_, fun k e i l hi => ?_⟩
 ·rcases hget i l hi with ⟨hi, _⟩ | ⟨_, rfl⟩
  ·exact (h.all i l hi).keep (hold i l hi _ (.inl rfl)) (fun G e => hold i l hi _ (.inr e))
  ·exact hlnd
 ·obtain ⟨L2, G2, q1, q2⟩ := h.lnt i z hi
  have hil := (List.getElem?_eq_some_iff.1 q1).1
  exact ⟨L2, G2, by rw [List.getElem?_append_left hil]; exact q1, q2.keep (hold i _ q1 _ (.inl rfl)) (hold i _ q1 _ (.inr rfl))⟩
 ·rcases hget i a hi with ⟨hi, _⟩ | ⟨rfl, rfl⟩
  ·rcases hget j b hj with ⟨hj, _⟩ | ⟨rfl, rfl⟩
   ·exact h.dj i j a b hi hj hne k q
   ·exact hnL i a hi k q
  ·rcases hget j b hj with ⟨hj, _⟩ | ⟨rfl, _⟩
   ·exact fun r => hnL j b hj k r q
   ·exact absurd rfl hne
 ·rcases hget i l hi with ⟨hi, _⟩ | ⟨_, rfl⟩
  ·exact h.ne i l hi
  ·intro e; cases e
 ·intro q
  rcases hget i l hi with ⟨hi, _⟩ | ⟨_, rfl⟩
  ·rcases ht k e with r | ⟨r, _⟩
   ·exact h.nr k r i l hi q
   ·have := Ln.has_lt (h.all i l hi) q
    omega
  ·rcases q with q | q
   ·simp only at q
    subst q
    rcases ht k e with r | ⟨_, r⟩
    ·have := (World.ownsRow.lt h.row k r).2
     omega
    ·exact r rfl
   ·cases q
theorem TrB.push {w : World} {td td' : Value} {Ls : List Ln} {L : Nat} (hL : w.heap.size ≤ L) (ht : ∀ k, td'.ownBlock = some k → td.ownBlock = some k ∨ (w.heap.size ≤ k ∧ k ≠ L)) : ∀ k, k < w.heap.size → TrB td' (Ls ++ [(L, none)]) k → TrB td Ls k := fun k hk h => by
 rcases h with h | ⟨l, hl, h⟩
 ·rcases ht k h with r | ⟨r, _⟩
  ·exact .inl r
  ·omega
 ·rcases List.mem_append.1 hl with hl | hl
  ·exact .inr ⟨l, hl, h⟩
  ·simp only [List.mem_singleton] at hl
   subst hl
   rcases h with h | h
   ·simp only at h
    omega
   ·cases h
end Go.Proofs.YtldlejpacgphmaaGreat
namespace Go.Proofs.YtldlejpacgphmaaGreat
open Go.RowKit
theorem info158 : (Tryz.prog.info? 158).map (fun i => (i.zero, i.size, i.bytes)) = some (some (.pointer none), 1, 8) := by kernel_rfl
def LentP (Ls : List Ln) (ps qs : List Pm) : Prop := qs.map Pm.say = ps.map Pm.say ∧ ∀ (i : Nat) (p : Pm), qs[i]? = some p → ∃ L G, Ls[i]? = some (L, some G) ∧ p.ad = some ⟨G, 0, none⟩ ∧ p.cap = 2 * p.data.length + 70
structure Lq (B0 : Nat) (w wr : World) (wb p c : Nat) (jv : Value) (g : Nat) (rm lasted : Int) (off trying : Bool) (tried tl td : Value) (Ls : List Ln) (ps : List Pm) (q : Nat) (fa : Option Addr) (fc : Nat) (td' : Value) (Ls' : List Ln) (qs : List Pm) : Prop where
 wd : Wb wr wb p c jv g rm lasted off trying tried tl td'
 tr : Tr wr td' Ls' ((ps.take q).map Pm.data)
 row : wr.ownsRow B0 68 2 (.slice fa q fc) q (pmCells qs)
 lp : LentP Ls' (ps.take q) qs
 bt : But (fun k => k = wb ∨ TrB td Ls k) w wr
 gr : ∀ k, k < w.heap.size → TrB td' Ls' k → TrB td Ls k
 nf : ∀ k, (Value.slice fa q fc).ownBlock = some k → ¬ TrB td' Ls' k
 nl : Ls'.length ≤ 1073741823
theorem Wb.set10 {w : World} {wb p c : Nat} {jv : Value} {g : Nat} {rm lasted : Int} {off trying : Bool} {tried tl td : Value} (h : Wb w wb p c jv g rm lasted off trying tried tl td) (td' : Value) : Wb (w.setCell ⟨wb, 10, none⟩ td') wb p c jv g rm lasted off trying tried tl td' := by
 refine ⟨?_⟩
 have h1 := h.blk
 simp only [World.setCell, Array.getElem?_modify]
 rw [h1]
 simp
theorem Wb.set9 {w : World} {wb p c : Nat} {jv : Value} {g : Nat} {rm lasted : Int} {off trying : Bool} {tried tl td : Value} (h : Wb w wb p c jv g rm lasted off trying tried tl td) (tl' : Value) : Wb (w.setCell ⟨wb, 9, none⟩ tl') wb p c jv g rm lasted off trying tried tl' td := by
 refine ⟨?_⟩
 have h1 := h.blk
 simp only [World.setCell, Array.getElem?_modify]
 rw [h1]
 simp
theorem Lq.next {B0 : Nat} {w wr w2 w6 : World} {wb p c : Nat} {jv : Value} {g : Nat} {rm lasted : Int} {off trying : Bool} {tried tl td : Value} {Ls : List Ln} {ps : List Pm} {q : Nat} {fa : Option Addr} {fc : Nat} {td' : Value} {Ls' : List Ln} {qs : List Pm} {pp : Pm} {L G' g4 cap4 : Nat} {o : Option Nat} (h : Lq B0 w wr wb p c jv g rm lasted off trying tried tl td Ls ps q fa fc td' Ls' qs) (hB : w.heap.size ≤ B0) (hwl : wb < w.heap.size) (hwT : ¬ TrB td Ls wb) (hpp : ps[q]? = some pp) (hq : Ls'[q]? = some (L, o)) (hl : LdL w2 L G' pp.data) (hG : o = some G' ∨ wr.heap.size ≤ G') (hb : But (fun x => x = L ∨ o = some x) wr.drew w2)
  (ho : w6.ownsRow B0 68 2 (.slice (some ⟨g4, 0, none⟩) (q + 1) cap4) (q + 1) (pmCells qs ++ [.int .i64 pp.at_, .slice (some ⟨G', 0, none⟩) pp.data.length (2 * pp.data.length + 70)])) (hg : (w2.alloc (.cells #[.int .i64 pp.at_, .slice (some ⟨G', 0, none⟩) pp.data.length (2 * pp.data.length + 70)] 68)).grownBy w6 (Value.slice fa q fc).ownBlock) (hlie : (Value.slice fa q fc).ownBlock = some g4 ∨ g4 = w2.heap.size + 1) :
  Lq B0 w w6 wb p c jv g rm lasted off trying tried tl td Ls ps (q + 1) (some ⟨g4, 0, none⟩) cap4 td' (Ls'.set q (L, some G')) (qs ++ [⟨pp.at_, some ⟨G', 0, none⟩, 2 * pp.data.length + 70, pp.data⟩]) := by
 have hqN : q < ps.length := (List.getElem?_eq_some_iff.1 hpp).1
 have hzl : ((ps.take q).map Pm.data).length = q := by rw [List.length_map, List.length_take]; omega
 have hwbr := h.bt.size
 have hs2 : wr.heap.size ≤ w2.heap.size := hb.size
 have hql : qs.length = q := by
  have := congrArg List.length h.lp.1
  rw [List.length_map, List.length_map, List.length_take] at this
  omega
 have hmem : ((L, o) : Ln) ∈ Ls' := List.mem_of_getElem? hq
 have hbF : But (fun k => (Value.slice fa q fc).ownBlock = some k) w2 w6 := ((But.refl (fun k => (Value.slice fa q fc).ownBlock = some k) w2).alloc _).of_grown hg (fun x e _ => e)
 have hfr : ∀ k, (Value.slice fa q fc).ownBlock = some k → B0 ≤ k ∧ k < wr.heap.size := fun k e => World.ownsRow.lt h.row k e
 have tr2 := h.tr.keep (w' := wr.drew) (fun _ _ _ => rfl)
 have tr3 := Tr.lend tr2 (by rw [hzl]; exact hq) hl hG hb
 rw [hzl] at tr3
 have hGlt : G' < w2.heap.size := (hl.a.lt).2 G' rfl
 have hTn : ∀ k, TrB td' (Ls'.set q (L, some G')) k → (Value.slice fa q fc).ownBlock ≠ some k := fun k hk e => by
  have h1 := hfr k e
  exact h.nf k e (TrB.lend (w := wr) hq hG k h1.2 hk)
 have hwn : ¬ TrB td' Ls' wb := fun q => hwT (h.gr wb hwl q)
 refine ⟨?_, ?_, ?_, ⟨?_, fun i r hi => ?_⟩, ?_, fun k hk r => ?_, fun k e r => ?_, ?_⟩
 ·refine h.wd.keep ((hbF.block wb (by omega) (fun e => by have := (hfr wb e).1; omega)).trans ?_)
  exact (hb.block wb (by show wb < wr.heap.size; omega) (fun r => hwn (.inr ⟨(L, o), hmem, r⟩))).trans rfl
 ·have e : (ps.take (q + 1)).map Pm.data = (ps.take q).map Pm.data ++ [pp.data] := by rw [List.take_add_one, hpp, List.map_append]; rfl
  rw [e]
  exact tr3.but hbF (fun k _ r => hTn k r)
 ·rw [pmCells_snoc]
  exact ho
 ·rw [List.take_add_one, hpp, List.map_append, List.map_append, h.lp.1]
  rfl
 ·by_cases hiq : i < q
  ·rw [List.getElem?_append_left (by omega)] at hi
   obtain ⟨L2, G2, q1, q2⟩ := h.lp.2 i r hi
   exact ⟨L2, G2, by rw [List.getElem?_set_ne (by omega)]; exact q1, q2⟩
  ·have hie : i = q := by
    have := (List.getElem?_eq_some_iff.1 hi).1
    simp at this
    omega
   subst hie
   rw [List.getElem?_append_right (by omega), hql, Nat.sub_self] at hi
   simp at hi
   subst hi
   exact ⟨L, G', List.getElem?_set_self (List.getElem?_eq_some_iff.1 hq).1, rfl, rfl⟩
 ·have b2 : But (fun k => k = wb ∨ TrB td Ls k) w w2 := h.bt.drew.comp hb (fun k hk r => .inr (h.gr k hk (.inr ⟨(L, o), hmem, r⟩)))
  exact b2.comp hbF (fun k hk e => by have := (hfr k e).1; omega)
 ·exact h.gr k hk (TrB.lend (w := wr) hq hG k (Nat.lt_of_lt_of_le hk hwbr) r)
 ·have e2 : g4 = k := by injection e
  subst e2
  rcases hlie with e4 | e4
  ·exact hTn g4 r e4
  ·have := tr3.lt r
   omega
 ·rw [List.length_set]; exact h.nl
end Go.Proofs.YtldlejpacgphmaaGreat
namespace Go.Proofs.YtldlejpacgphmaaGreat
open Go.RowKit
theorem Lq.push {B0 : Nat} {w wr w6 : World} {wb p c : Nat} {jv : Value} {g : Nat} {rm lasted : Int} {off trying : Bool} {tried tl td : Value} {Ls : List Ln} {ps : List Pm} {q : Nat} {fa : Option Addr} {fc : Nat} {td' : Value} {Ls' : List Ln} {qs : List Pm} {g4 cap4 : Nat} (h : Lq B0 w wr wb p c jv g rm lasted off trying tried tl td Ls ps q fa fc td' Ls' qs) (hB : w.heap.size ≤ B0) (hwl : wb < w.heap.size) (hwT : ¬ TrB td Ls wb) (hnl : Ls'.length + 1 ≤ 1073741823)
  (ho : w6.ownsRow 0 158 1 (.slice (some ⟨g4, 0, none⟩) (Ls'.length + 1) cap4) (Ls'.length + 1) ((Ls'.map fun l => Value.pointer (some ⟨l.1, 0, none⟩)) ++ [.pointer (some ⟨wr.heap.size, 0, none⟩)])) (hg : ((wr.alloc (.cells #[.slice none 0 0, .int .i64 0] 160)).alloc (.cells #[.pointer (some ⟨wr.heap.size, 0, none⟩)] 158)).grownBy w6 td'.ownBlock) (hlie : td'.ownBlock = some g4 ∨ g4 = wr.heap.size + 1 + 1) :
  Lq B0 w (w6.setCell ⟨wb, 10, none⟩ (.slice (some ⟨g4, 0, none⟩) (Ls'.length + 1) cap4)) wb p c jv g rm lasted off trying tried tl td Ls ps q fa fc (.slice (some ⟨g4, 0, none⟩) (Ls'.length + 1) cap4) (Ls' ++ [(wr.heap.size, none)]) qs := by
 have hwbr := h.bt.size
 have hwn : ¬ TrB td' Ls' wb := fun q => hwT (h.gr wb hwl q)
 have hz : ((wr.alloc (.cells #[.slice none 0 0, .int .i64 0] 160)).alloc (.cells #[.pointer (some ⟨wr.heap.size, 0, none⟩)] 158)).heap.size = wr.heap.size + 2 := by simp
 have hs6 : wr.heap.size + 2 ≤ w6.heap.size := by rw [← hz]; exact hg.size
 have htd : ∀ k, td'.ownBlock = some k → k < wr.heap.size := fun k e => (World.ownsRow.lt h.tr.row k e).2
 have b6 : But (fun k => td'.ownBlock = some k) wr w6 := (((But.refl (fun k => td'.ownBlock = some k) wr).alloc _).alloc _).of_grown hg (fun x e _ => e)
 have hL6 : Lnd w6 wr.heap.size (.slice none 0 0) 0 := by
  have h1 : Lnd ((wr.alloc (.cells #[.slice none 0 0, .int .i64 0] 160)).alloc (.cells #[.pointer (some ⟨wr.heap.size, 0, none⟩)] 158)) wr.heap.size (.slice none 0 0) 0 := by
   have h0 : Lnd (wr.alloc (.cells #[.slice none 0 0, .int .i64 0] 160)) wr.heap.size (.slice none 0 0) 0 := by
    unfold Lnd
    exact Array.getElem?_push_size
   exact h0.alloc _
  exact h1.of_block (hg.block wr.heap.size (by omega) (fun e => by have := htd _ e.symm; omega))
 have hne : g4 ≠ wb := fun e => by
  rcases hlie with r | r
  ·exact hwn (.inl (by rw [r, e]))
  ·omega
 have ht : ∀ k, (Value.slice (some ⟨g4, 0, none⟩) (Ls'.length + 1) cap4).ownBlock = some k → td'.ownBlock = some k ∨ (wr.heap.size ≤ k ∧ k ≠ wr.heap.size) := fun k e => by
  have e2 : g4 = k := by injection e
  subst e2
  rcases hlie with r | r
  ·exact .inl r
  ·exact .inr ⟨by omega, by omega⟩
 have hwl6 : wb < w6.heap.size := by omega
 have b7 : But (fun k => k = wb ∨ td'.ownBlock = some k) wr (w6.setCell ⟨wb, 10, none⟩ (.slice (some ⟨g4, 0, none⟩) (Ls'.length + 1) cap4)) := (b6.mono (fun k _ r => .inr r)).setCell (.inl rfl) _
 have tr6 : Tr w6 (.slice (some ⟨g4, 0, none⟩) (Ls'.length + 1) cap4) (Ls' ++ [(wr.heap.size, none)]) ((ps.take q).map Pm.data) := Tr.push h.tr (Nat.le_refl _) ho hL6 (fun k hk e => b6.block k hk e) ht
 have hgr : ∀ k, k < wr.heap.size → TrB (.slice (some ⟨g4, 0, none⟩) (Ls'.length + 1) cap4) (Ls' ++ [(wr.heap.size, none)]) k → TrB td' Ls' k := TrB.push (Nat.le_refl _) ht
 have hfr : ∀ k, (Value.slice fa q fc).ownBlock = some k → B0 ≤ k ∧ k < wr.heap.size := fun k e => World.ownsRow.lt h.row k e
 refine ⟨?_, ?_, ?_, ⟨h.lp.1, fun i r hi => ?_⟩, ?_, fun k hk r => ?_, fun k e r => ?_, by simpa using hnl⟩
 ·exact (h.wd.keep (b6.block wb (by omega) (fun e => hwn (.inl e)))).set10 _
 ·refine tr6.keep (fun k r hk => Below.heap_setCell _ _ _ _ ?_)
  intro e
  have e2 : k = wb := e
  rw [e2] at r
  exact hwn (hgr wb (by omega) r)
 ·refine owns_keep h.row (fun k e => b7.block k (hfr k e).2 (fun r => ?_))
  rcases r with r | r
  ·have := (hfr k e).1
   omega
  ·exact h.nf k e (.inl r)
 ·obtain ⟨L2, G2, q1, q2⟩ := h.lp.2 i r hi
  have hil := (List.getElem?_eq_some_iff.1 q1).1
  exact ⟨L2, G2, by rw [List.getElem?_append_left hil]; exact q1, q2⟩
 ·exact h.bt.comp b7 (fun k hk r => r.elim .inl (fun r => .inr (h.gr k hk (.inl r))))
 ·exact h.gr k hk (hgr k (by omega) r)
 ·exact h.nf k e (hgr k (hfr k e).2 r)
theorem Lq.le {B0 : Nat} {w wr : World} {wb p c : Nat} {jv : Value} {g : Nat} {rm lasted : Int} {off trying : Bool} {tried tl td : Value} {Ls : List Ln} {ps : List Pm} {q : Nat} {fa : Option Addr} {fc : Nat} {td' : Value} {Ls' : List Ln} {qs : List Pm} (h : Lq B0 w wr wb p c jv g rm lasted off trying tried tl td Ls ps q fa fc td' Ls' qs) (hq : q ≤ ps.length) : q ≤ Ls'.length := by
 by_cases h0 : q = 0
 ·omega
 ·obtain ⟨z, hz⟩ : ∃ z, ((ps.take q).map Pm.data)[q - 1]? = some z := ⟨_, List.getElem?_eq_getElem (by rw [List.length_map, List.length_take]; omega)⟩
  obtain ⟨L, G, q1, _⟩ := h.tr.lnt (q - 1) z hz
  have := (List.getElem?_eq_some_iff.1 q1).1
  omega
theorem Lq.ready {B0 : Nat} {w wr : World} {wb p c : Nat} {jv : Value} {g : Nat} {rm lasted : Int} {off trying : Bool} {tried tl td : Value} {Ls : List Ln} {ps : List Pm} {q : Nat} {fa : Option Addr} {fc : Nat} {td' : Value} {Ls' : List Ln} {qs : List Pm} {pp : Pm} {a0 : Option Addr} (h : Lq B0 w wr wb p c jv g rm lasted off trying tried tl td Ls ps q fa fc td' Ls' qs) (hB : w.heap.size ≤ B0) (hwl : wb < w.heap.size) (hwT : ¬ TrB td Ls wb) (hpp : ps[q]? = some pp) (hq : q < Ls'.length) (hR : RdP (fun k => k = wb ∨ TrB td Ls k) w a0 ps) (hd : pp.data.length ≤ 16777216) :
  ∃ tb dc L o pb po, td' = .slice (some ⟨tb, 0, none⟩) Ls'.length dc ∧ Ls'[q]? = some (L, o) ∧ a0 = some ⟨pb, po, none⟩ ∧ wr.cell? ⟨wb, 10, none⟩ = some (.slice (some ⟨tb, 0, none⟩) Ls'.length dc) ∧ wr.cell? ⟨tb, q, none⟩ = some (.pointer (some ⟨L, 0, none⟩)) ∧ wr.cell? ⟨pb, po + q * 2, none⟩ = some (.int .i64 pp.at_) ∧ wr.cell? ⟨pb, po + q * 2 + 1, none⟩ = some (.slice pp.ad pp.data.length pp.cap) ∧
   Calls Tryz.prog 115 #[.pointer (some ⟨L, 0, none⟩), .slice pp.ad pp.data.length pp.cap] wr.drew (fun e w' => ∃ G', e = .returned (.slice (some ⟨G', 0, none⟩) pp.data.length (2 * pp.data.length + 70)) ∧ LdL w' L G' pp.data ∧ (o = some G' ∨ wr.drew.heap.size ≤ G') ∧ But (fun x => x = L ∨ o = some x) wr.drew w') ∧
   (wb < wr.heap.size ∧ ¬ (wb = L ∨ o = some wb)) ∧ (tb < wr.heap.size ∧ ¬ (tb = L ∨ o = some tb)) ∧ (pb < wr.heap.size ∧ ¬ (pb = L ∨ o = some pb)) ∧ (∀ k, (Value.slice fa q fc).ownBlock = some k → ¬ (k = L ∨ o = some k)) ∧ ((Value.slice fa q fc).ownBlock ≠ some wb ∧ (Value.slice fa q fc).ownBlock ≠ some tb ∧ (Value.slice fa q fc).ownBlock ≠ some pb) := by
 obtain ⟨da, dc, hde, _⟩ := owns_slice h.tr.row
 have hrow := h.tr.row
 rw [hde] at hrow
 obtain ⟨tb, hta, _, htl, hcs⟩ := owns_cells hrow (by omega)
 subst hta
 obtain ⟨lo, hlo⟩ : ∃ lo, Ls'[q]? = some lo := ⟨_, List.getElem?_eq_getElem hq⟩
 obtain ⟨L, o⟩ := lo
 have hwbr := h.bt.size
 have hmem : ((L, o) : Ln) ∈ Ls' := List.mem_of_getElem? hlo
 have hT : ∀ k, (k = L ∨ o = some k) → TrB td' Ls' k := fun k r => .inr ⟨(L, o), hmem, r⟩
 have hwn : ¬ TrB td' Ls' wb := fun q => hwT (h.gr wb hwl q)
 have hto : td'.ownBlock = some tb := by rw [hde]; rfl
 obtain ⟨pb, po, ha0, hpb, hpn, hpc⟩ : ∃ b off, a0 = some ⟨b, off, none⟩ ∧ b < w.heap.size ∧ ¬ (b = wb ∨ TrB td Ls b) ∧ ∀ (t : Nat) (p : Pm), ps[t]? = some p → w.cell? ⟨b, off + t * 2, none⟩ = some (.int .i64 p.at_) ∧ w.cell? ⟨b, off + t * 2 + 1, none⟩ = some (.slice p.ad p.data.length p.cap) := by
  rcases hR.2 with e | e
  ·rw [e] at hpp; cases hpp
  ·exact e
 obtain ⟨d0, d1⟩ := hpc q pp hpp
 have hfr : ∀ k, (Value.slice fa q fc).ownBlock = some k → B0 ≤ k ∧ k < wr.heap.size := fun k e => World.ownsRow.lt h.row k e
 have hrd : RdN (fun x => x = L ∨ o = some x) wr.drew pp.ad pp.data.length pp.data := (hR.1 pp (List.mem_of_getElem? hpp)).turn h.bt.drew (fun k _ r => r) _ (fun k hk r => .inr (h.gr k hk (hT k r)))
 refine ⟨tb, dc, L, o, pb, po, hde, hlo, ha0, ?_, ?_, ?_, ?_, ?_, ⟨by omega, fun r => hwn (hT wb r)⟩, ⟨htl, fun r => h.tr.nr tb hto q (L, o) hlo r⟩, ⟨by omega, fun r => hpn (.inr (h.gr pb hpb (hT pb r)))⟩, fun k e r => h.nf k e (hT k r), fun e => by have := (hfr _ e).1; omega, fun e => h.nf tb e (.inl hto), fun e => by have := (hfr _ e).1; omega⟩
 ·have := h.wd.cell 10
  rw [hde] at this
  exact this
 ·rw [hcs q hq, List.getD_eq_getElem?_getD, List.getElem?_map, hlo]
  rfl
 ·exact (h.bt.cell (p := ⟨pb, po + q * 2, none⟩) hpb hpn).trans d0
 ·exact (h.bt.cell (p := ⟨pb, po + q * 2 + 1, none⟩) hpb hpn).trans d1
 ·exact Lend_any ((h.tr.all q _ hlo).keep (w' := wr.drew) rfl (fun _ _ => rfl)) (h.tr.ne q _ hlo) pp.ad pp.data.length pp.cap pp.data hd hrd
end Go.Proofs.YtldlejpacgphmaaGreat
