import Derived.Test.YtldlejpacgphmaaGreatG26
import Derived.Test.YtldlejpacgphmaaGreatG00
import Derived.Deep.RegionHeld3
namespace Go.Proofs.YtldlejpacgphmaaGreat
open Go.RowKit
theorem aheadP_cons (ah : Nat → Option (List Int)) (p : Nat × List Int) (ps : Tn) : aheadP ah (p :: ps) = aheadP (fun y => if y = p.1 then some p.2 else ah y) ps := rfl
theorem aheadP_away {ah : Nat → Option (List Int)} {ps : Tn} {x : Nat} (h : ∀ q ∈ ps, q.1 ≠ x) : aheadP ah ps x = ah x := by
 induction ps generalizing ah with
 | nil => rfl
 | cons p ps ih =>
  rw [aheadP_cons, ih (fun q hq => h q (by simp [hq]))]
  exact if_neg (fun e => h p (by simp) e.symm)
theorem aheadP_at {ah ah' : Nat → Option (List Int)} {x : Nat} (h : ah x = ah' x) (ps : Tn) : aheadP ah ps x = aheadP ah' ps x := by rw [aheadP_or ah, aheadP_or ah', h]
theorem aheadP_set {ps : Tn} {i : Nat} {p q : Nat × List Int} (hd : (ps.map Prod.fst).Nodup) (hi : ps[i]? = some q) (hq : q.1 = p.1) (ah : Nat → Option (List Int)) (x : Nat) : aheadP ah (ps.set i p) x = if x = p.1 then some p.2 else aheadP ah ps x := by
 induction ps generalizing ah i with
 | nil => cases hi
 | cons a ps ih =>
  rw [List.map_cons, List.nodup_cons] at hd
  cases i with
  | zero =>
   simp at hi
   subst hi
   rw [List.set_cons_zero, aheadP_cons, aheadP_cons]
   by_cases e : x = p.1
   ·rw [if_pos e, aheadP_away (fun r hr er => hd.1 (by rw [hq, ← e, ← er]; exact List.mem_map_of_mem hr)), if_pos e]
   ·rw [if_neg e]
    refine aheadP_at ?_ ps
    rw [if_neg e, if_neg (by rw [hq]; exact e)]
  | succ i =>
   rw [List.set_cons_succ, aheadP_cons, aheadP_cons]
   exact ih hd.2 (by simpa using hi) _
def Apart (S : List Pm) : Prop := (S.map Pm.at_).Nodup
theorem Apart.step {S : List Pm} (h : Apart S) (p : Pm) : Apart (standStep S p) ∧ ∀ a, (∃ q ∈ standStep S p, q.at_ = a) ↔ ((∃ q ∈ S, q.at_ = a) ∨ p.at_ = a) := by
 cases hf : S.findIdx? (fun q => q.at_ == p.at_) with
 | some i =>
  obtain ⟨e, q, hq, hqa⟩ := standStep_hit hf
  rw [e]
  have hm : (S.set i p).map Pm.at_ = S.map Pm.at_ := by
   rw [List.map_set]
   have : (S.map Pm.at_)[i]? = some p.at_ := by rw [List.getElem?_map, hq]; simp [hqa]
   apply List.ext_getElem?
   intro t
   by_cases et : i = t
   ·subst et
    rw [List.getElem?_set_self (List.getElem?_eq_some_iff.1 this).1, this]
   ·rw [List.getElem?_set_ne et]
  refine ⟨by unfold Apart; rw [hm]; exact h, fun a => ?_⟩
  have e1 : (∃ r ∈ S.set i p, r.at_ = a) ↔ a ∈ (S.set i p).map Pm.at_ := List.mem_map.symm
  have e2 : (∃ r ∈ S, r.at_ = a) ↔ a ∈ S.map Pm.at_ := List.mem_map.symm
  rw [e1, e2, hm]
  refine ⟨.inl, fun r => r.elim id (fun r => ?_)⟩
  rw [← r, ← hqa]
  exact List.mem_map_of_mem (List.mem_of_getElem? hq)
 | none =>
  obtain ⟨e, hno⟩ := standStep_miss hf
  rw [e]
  refine ⟨?_, fun a => ?_⟩
  ·unfold Apart
   rw [List.map_append, List.map_cons, List.map_nil, List.nodup_append]
   refine ⟨h, by simp, fun a ha b hb => ?_⟩
   simp at hb
   subst hb
   obtain ⟨r, hr, rfl⟩ := List.mem_map.1 ha
   exact hno r hr
  ·constructor
   ·rintro ⟨r, hr, hra⟩
    rcases List.mem_append.1 hr with hr | hr
    ·exact .inl ⟨r, hr, hra⟩
    ·simp at hr
     subst hr
     exact .inr hra
   ·rintro (⟨r, hr, hra⟩ | r)
    ·exact ⟨r, by simp [hr], hra⟩
    ·exact ⟨p, by simp, r⟩
theorem standP_apart (ps : List Pm) : Apart (standP ps) ∧ ∀ a, (∃ q ∈ standP ps, q.at_ = a) ↔ ∃ q ∈ ps, q.at_ = a := by
 have : ∀ (n : Nat), n ≤ ps.length → Apart (standP (ps.take n)) ∧ ∀ a, (∃ q ∈ standP (ps.take n), q.at_ = a) ↔ ∃ q ∈ ps.take n, q.at_ = a := by
  intro n
  induction n with
  | zero => intro _; exact ⟨by simp [Apart, standP], fun a => by simp [standP]⟩
  | succ n ih =>
   intro hn
   obtain ⟨h1, h2⟩ := ih (by omega)
   rw [List.take_succ_eq_append_getElem (by omega), standP_snoc]
   obtain ⟨h3, h4⟩ := h1.step ps[n]
   refine ⟨h3, fun a => ?_⟩
   rw [h4, h2]
   simp only [List.mem_append, List.mem_singleton]
   constructor
   ·rintro (⟨r, hr, e⟩ | e)
    ·exact ⟨r, .inl hr, e⟩
    ·exact ⟨_, .inr rfl, e⟩
   ·rintro ⟨r, hr | hr, e⟩
    ·exact .inl ⟨r, hr, e⟩
    ·exact .inr (by rw [← hr]; exact e)
 have := this ps.length (Nat.le_refl _)
 rwa [List.take_length] at this
theorem standP_ahead {ps : List Pm} (h0 : ∀ p ∈ ps, 0 ≤ p.at_) (ah : Nat → Option (List Int)) : aheadP ah ((standP ps).map Pm.put) = aheadP ah (ps.map Pm.put) := by
 have : ∀ (n : Nat), n ≤ ps.length → aheadP ah ((standP (ps.take n)).map Pm.put) = aheadP ah ((ps.take n).map Pm.put) := by
  intro n
  induction n with
  | zero => intro _; rfl
  | succ n ih =>
   intro hn
   have ih' := ih (by omega)
   rw [List.take_succ_eq_append_getElem (by omega), standP_snoc, List.map_append]
   show _ = aheadP ah (_ ++ [ps[n].put])
   rw [aheadP_snoc, ← ih']
   funext x
   have hp := h0 ps[n] (List.getElem_mem _)
   have hS : ∀ q ∈ standP (ps.take n), 0 ≤ q.at_ := fun q hq => h0 q (List.mem_of_mem_take (standP_mem hq))
   have hap := (standP_apart (ps.take n)).1
   generalize standP (ps.take n) = S at *
   cases hf : S.findIdx? (fun q => q.at_ == ps[n].at_) with
   | some i =>
    obtain ⟨e, q, hq, hqa⟩ := standStep_hit hf
    rw [e, List.map_set]
    refine aheadP_set (q := q.put) ?_ (by rw [List.getElem?_map, hq]; rfl) (by show q.at_.toNat = ps[n].at_.toNat; rw [hqa]) ah x
    rw [List.map_map]
    unfold Apart at hap
    have e2 : S.map (Prod.fst ∘ Pm.put) = (S.map Pm.at_).map Int.toNat := by rw [List.map_map]; rfl
    rw [e2]
    unfold List.Nodup at hap ⊢
    rw [List.pairwise_map]
    refine List.Pairwise.imp_of_mem (fun {a b} ha hb hne => ?_) hap
    obtain ⟨r, hr, rfl⟩ := List.mem_map.1 ha
    obtain ⟨r', hr', rfl⟩ := List.mem_map.1 hb
    have := hS r hr
    have := hS r' hr'
    omega
   | none =>
    obtain ⟨e, _⟩ := standStep_miss hf
    rw [e, List.map_append]
    show aheadP ah (_ ++ [ps[n].put]) x = _
    rw [aheadP_snoc]
 have := this ps.length (Nat.le_refl _)
 rwa [List.take_length] at this
end Go.Proofs.YtldlejpacgphmaaGreat
namespace Go.Proofs.YtldlejpacgphmaaGreat
open Go.RowKit
theorem putC_good {nb fr bl : Nat} {p : Pm} (h : putC nb fr bl p.at_ p.data.length = 0) (hb : Pl.isB p.data) : p.put.1 < nb ∧ homeC nb fr bl (p.put.1 : Int) = 0 ∧ p.put.2.length = 512 ∧ Pl.isB p.put.2 := by
 obtain ⟨h1, h2, h3, h4⟩ := putC_zero h
 have e : ((p.at_.toNat : Nat) : Int) = p.at_ := by omega
 refine ⟨by show p.at_.toNat < nb; omega, ?_, h1, hb⟩
 show homeC nb fr bl ((p.at_.toNat : Nat) : Int) = 0
 rw [e]
 unfold homeC
 rw [if_neg (by omega)]
theorem stand_good {nb fr bl : Nat} {ps : List Pm} (h : ∀ p ∈ ps, putC nb fr bl p.at_ p.data.length = 0 ∧ Pl.isB p.data) : GoodT nb fr bl ((standP ps).map Pm.put) := fun x hx => by
 obtain ⟨p, hp, rfl⟩ := List.mem_map.1 hx
 exact putC_good (h p (standP_mem hp)).1 (h p (standP_mem hp)).2
theorem after_stand {ps : List Pm} (h0 : ∀ p ∈ ps, 0 ≤ p.at_) (base : Nat → List Int) (ts : List Tn) : after base (ts ++ [(standP ps).map Pm.put]) = after base (ts ++ [ps.map Pm.put]) := by
 funext x
 unfold after
 rw [List.flatten_append, List.flatten_append, aheadP_append, aheadP_append]
 simp only [List.flatten_cons, List.flatten_nil, List.append_nil]
 rw [standP_ahead h0]
theorem Nm.appendP {d : Pd} {s : Js} {nb fr bl q : Nat} {base : Nat → List Int} {ts : List Tn} {k lo : Nat} {cont : Nat → Nat → List Int} (h : Nm d s nb fr bl q base ts k lo s.seq cont) (hf : d.Fits nb) (hfit : fr + bl ≤ nb) (hlo : 16 ≤ bl) {ps : List Pm} (hp : ∀ p ∈ ps, putC nb fr bl p.at_ p.data.length = 0 ∧ Pl.isB p.data) (hk : (standP ps).length ≤ bl / 2 - 4) (hsq : s.seq < 1099511627776) (c3 : ∀ x, HomeB nb fr bl x → after base (ts ++ [ps.map Pm.put]) x = cont (s.seq + 1) x) :
  G (d.runs (wlCmds nb fr bl s (appRecs ps))).2.poss nb fr bl lo (s.seq + 1) cont ∧ ((d.runs (wlCmds nb fr bl s (appRecs ps))).1 = 0 → (d.runs (wlCmds nb fr bl s (appRecs ps))).2.Fits nb ∧ ∃ q' base' ts' k', Nm (d.runs (wlCmds nb fr bl s (appRecs ps))).2 (appE bl s ps) nb fr bl q' base' ts' k' lo (s.seq + 1) cont) := by
 have hg := stand_good hp
 have hr : (txRecs ((standP ps).map Pm.put)).length + 1 ≤ bl := by
  unfold txRecs
  rw [length_recsZ, length_bytesZ (fun p hp => (hg p hp).2.2.1), List.length_map]
  exact recs_fit hlo hk
 exact h.append hf hfit hg hsq hr (fun x hx => by rw [after_stand (fun p hq => (putC_zero (hp p hq).1).2.1)]; exact c3 x hx)
theorem Nm.jn {d : Pd} {s : Js} {nb fr bl q : Nat} {base : Nat → List Int} {ts : List Tn} {k lo hi : Nat} {cont : Nat → Nat → List Int} (h : Nm d s nb fr bl q base ts k lo hi cont) (hlo : 16 ≤ bl) (hfit : fr + bl ≤ nb) (hnb : nb ≤ 524288) : Jn nb fr bl s :=
 ⟨hlo, hfit, hnb, h.sole.hd.life, h.seq_le, by have := h.sole.hd.fit; rw [List.append_nil] at this; rw [h.used]; exact this⟩
theorem appE_seq (bl : Nat) (s : Js) (ps : List Pm) : (appE bl s ps).seq = s.seq + 1 := by
 show (wlE bl s (appRecs ps).length).seq + 1 = s.seq + 1
 rw [wlE_seq]
def diffs (ps : List Pm) : Nat := ((List.range ps.length).filter fun i => (ps.take i).all fun q => decide (q.at_ ≠ (ps.getD i ⟨0, none, 0, []⟩).at_)).length
theorem standStep_count (S : List Pm) (p : Pm) : (standStep S p).length = S.length + if ∃ q ∈ S, q.at_ = p.at_ then 0 else 1 := by
 cases hf : S.findIdx? (fun q => q.at_ == p.at_) with
 | some i =>
  obtain ⟨e, q, hq, hqa⟩ := standStep_hit hf
  rw [e, List.length_set, if_pos ⟨q, List.mem_of_getElem? hq, hqa⟩]
  rfl
 | none =>
  obtain ⟨e, hno⟩ := standStep_miss hf
  rw [e, if_neg (fun ⟨q, hq, hqa⟩ => hno q hq hqa), List.length_append]
  rfl
theorem standP_count (ps : List Pm) : (standP ps).length = diffs ps := by
 have key : ∀ n, n ≤ ps.length → (standP (ps.take n)).length = ((List.range n).filter fun i => (ps.take i).all fun q => decide (q.at_ ≠ (ps.getD i ⟨0, none, 0, []⟩).at_)).length := by
  intro n
  induction n with
  | zero => intro _; rfl
  | succ n ih =>
   intro hn
   have ih' := ih (by omega)
   rw [List.take_succ_eq_append_getElem (by omega), standP_snoc, standStep_count, ih', List.range_succ, List.filter_append, List.length_append]
   congr 1
   have hgd : ps.getD n ⟨0, none, 0, []⟩ = ps[n] := by rw [List.getD_eq_getElem?_getD, List.getElem?_eq_getElem (by omega)]; rfl
   have hiff := (standP_apart (ps.take n)).2 ps[n].at_
   by_cases hh : ∃ q ∈ ps.take n, q.at_ = ps[n].at_
   ·rw [if_pos (hiff.2 hh)]
    have : ((ps.take n).all fun q => decide (q.at_ ≠ (ps.getD n ⟨0, none, 0, []⟩).at_)) = false := by
     rw [hgd, List.all_eq_false]
     obtain ⟨q, hq, e⟩ := hh
     exact ⟨q, hq, by simp [e]⟩
    simp only [List.filter_cons, List.filter_nil]
    rw [this]
    rfl
   ·rw [if_neg (fun q => hh (hiff.1 q))]
    have : ((ps.take n).all fun q => decide (q.at_ ≠ (ps.getD n ⟨0, none, 0, []⟩).at_)) = true := by
     rw [hgd, List.all_eq_true]
     intro q hq
     exact decide_eq_true (fun e => hh ⟨q, hq, e⟩)
    simp only [List.filter_cons, List.filter_nil]
    rw [this]
    rfl
 have := key ps.length (Nat.le_refl _)
 rwa [List.take_length] at this
end Go.Proofs.YtldlejpacgphmaaGreat
namespace Go.Proofs.YtldlejpacgphmaaGreat
open Go.RowKit
set_option maxRecDepth 100000 in
theorem refMost_any (bl : Int) (w : World) : Calls Tryz.prog 19 #[.int .i64 bl] w fun e w' => e = .returned (.tuple #[.int .i64 (if bl < 16 ∨ 524288 < bl then 0 else bl / 2 - 4), .int .i64 (mostC bl)]) ∧ w' = w := by
 unfold mostC
 by_cases h1 : bl < 16
 ·rw [if_pos (.inl h1), if_pos (.inl h1)]
  go_enter Tryz.func19, Tryz.ntmps19
  go_wp2
  go_ret2
  exact ⟨rfl, rfl⟩
 ·by_cases h2 : 524288 < bl
  ·rw [if_pos (.inr h2), if_pos (.inr h2)]
   go_enter Tryz.func19, Tryz.ntmps19
   go_wp2
   go_ret2
   exact ⟨rfl, rfl⟩
  ·rw [if_neg (by omega), if_neg (by omega)]
   have hq : bl.tdiv 2 = bl / 2 := Int.tdiv_eq_ediv_of_nonneg (by omega)
   have hw1 : IntKind.i64.wrap (bl / 2) = bl / 2 := by rw [IntKind.wrap_i64]; omega
   have hw2 : IntKind.i64.wrap (bl / 2 - 4) = bl / 2 - 4 := by rw [IntKind.wrap_i64]; omega
   go_enter Tryz.func19, Tryz.ntmps19
   go_wp2
   go_ret2
   exact ⟨by simp, rfl⟩
set_option maxRecDepth 100000 in
theorem refPlaced_any (nb : Nat) (hnb : nb ≤ 524288) (fr bl : Int) (w : World) : Calls Tryz.prog 26 #[.int .i64 (nb : Int), .int .i64 fr, .int .i64 bl] w fun e w' => e = .returned (.int .i64 (placeC nb fr bl)) ∧ w' = w := by
 have H := hid (refMost_any bl w)
 unfold mostC at H
 unfold placeC
 by_cases h1 : bl < 16 ∨ 524288 < bl
 ·rw [if_pos h1]
  rw [if_pos h1, if_pos h1] at H
  clear h1
  go_enter Tryz.func26, Tryz.ntmps26
  go_wp2_with fail
  refine Calls.mono H.out ?_
  rintro e w1 ⟨rfl, rfl⟩
  clear H
  go_wp2
  go_ret
  exact ⟨rfl, rfl⟩
 ·rw [if_neg h1]
  rw [if_neg h1, if_neg h1] at H
  by_cases h2 : fr < 0
  ·rw [if_pos (.inl h2)]
   clear h1
   generalize bl / 2 - 4 = M at *
   go_enter Tryz.func26, Tryz.ntmps26
   go_wp2_with fail
   refine Calls.mono H.out ?_
   rintro e w1 ⟨rfl, rfl⟩
   clear H
   go_wp2
   go_ret
   exact ⟨rfl, rfl⟩
  ·by_cases h3 : (nb : Int) < fr
   ·rw [if_pos (by omega)]
    clear h1
    generalize bl / 2 - 4 = M at *
    go_enter Tryz.func26, Tryz.ntmps26
    go_wp2_with fail
    refine Calls.mono H.out ?_
    rintro e w1 ⟨rfl, rfl⟩
    clear H
    go_wp2
    go_ret
    exact ⟨rfl, rfl⟩
   ·have hw : IntKind.i64.wrap ((nb : Int) - fr) = (nb : Int) - fr := by rw [IntKind.wrap_i64]; omega
    by_cases h4 : (nb : Int) - fr < bl
    ·rw [if_pos (by omega)]
     clear h1
     generalize bl / 2 - 4 = M at *
     go_enter Tryz.func26, Tryz.ntmps26
     go_wp2_with fail
     refine Calls.mono H.out ?_
     rintro e w1 ⟨rfl, rfl⟩
     clear H
     go_wp2
     go_ret
     exact ⟨rfl, rfl⟩
    ·rw [if_neg (by omega)]
     clear h1
     generalize bl / 2 - 4 = M at *
     go_enter Tryz.func26, Tryz.ntmps26
     go_wp2_with fail
     refine Calls.mono H.out ?_
     rintro e w1 ⟨rfl, rfl⟩
     clear H
     go_wp2
     go_ret
     exact ⟨rfl, rfl⟩
structure Lg (w : World) (g : Nat) (ha : Option Addr) (nb hc fr bl : Nat) (ta : Option Addr) (tn tc : Nat) : Prop where
 blk : w.heap[g]? = some (.cells #[.slice ha (512 * nb) hc, .int .i64 (fr : Int), .int .i64 (bl : Int), .slice ta tn tc] 48 (0, 0))
theorem Lg.c0 {w : World} {g : Nat} {ha : Option Addr} {nb hc fr bl : Nat} {ta : Option Addr} {tn tc : Nat} (h : Lg w g ha nb hc fr bl ta tn tc) : w.cell? ⟨g, 0, none⟩ = some (.slice ha (512 * nb) hc) := by simp [World.cell?, h.blk]
theorem Lg.c1 {w : World} {g : Nat} {ha : Option Addr} {nb hc fr bl : Nat} {ta : Option Addr} {tn tc : Nat} (h : Lg w g ha nb hc fr bl ta tn tc) : w.cell? ⟨g, 1, none⟩ = some (.int .i64 (fr : Int)) := by simp [World.cell?, h.blk]
theorem Lg.c2 {w : World} {g : Nat} {ha : Option Addr} {nb hc fr bl : Nat} {ta : Option Addr} {tn tc : Nat} (h : Lg w g ha nb hc fr bl ta tn tc) : w.cell? ⟨g, 2, none⟩ = some (.int .i64 (bl : Int)) := by simp [World.cell?, h.blk]
theorem Lg.c3 {w : World} {g : Nat} {ha : Option Addr} {nb hc fr bl : Nat} {ta : Option Addr} {tn tc : Nat} (h : Lg w g ha nb hc fr bl ta tn tc) : w.cell? ⟨g, 3, none⟩ = some (.slice ta tn tc) := by simp [World.cell?, h.blk]
theorem Lg.frozen {w : World} {g : Nat} {ha : Option Addr} {nb hc fr bl : Nat} {ta : Option Addr} {tn tc : Nat} (h : Lg w g ha nb hc fr bl ta tn tc) (t : Nat) : w.frozen? ⟨g, t, none⟩ = false := by simp [World.frozen?, h.blk]
theorem Lg.lt {w : World} {g : Nat} {ha : Option Addr} {nb hc fr bl : Nat} {ta : Option Addr} {tn tc : Nat} (h : Lg w g ha nb hc fr bl ta tn tc) : g < w.heap.size := (Array.getElem?_eq_some_iff.1 h.blk).1
theorem Lg.keep {w w' : World} {g : Nat} {ha : Option Addr} {nb hc fr bl : Nat} {ta : Option Addr} {tn tc : Nat} (h : Lg w g ha nb hc fr bl ta tn tc) (hk : w'.heap[g]? = w.heap[g]?) : Lg w' g ha nb hc fr bl ta tn tc := ⟨hk.trans h.blk⟩
theorem Lg.set {w : World} {g : Nat} {ha : Option Addr} {nb hc fr bl : Nat} {ta : Option Addr} {tn tc : Nat} (h : Lg w g ha nb hc fr bl ta tn tc) (ta' : Option Addr) (tn' tc' : Nat) : Lg (w.setCell ⟨g, 3, none⟩ (.slice ta' tn' tc')) g ha nb hc fr bl ta' tn' tc' := by
 refine ⟨?_⟩
 have h1 := h.blk
 simp only [World.setCell, Array.getElem?_modify]
 rw [h1]
 simp
theorem refDisk_cell {w : World} {g : Nat} {ha : Option Addr} {nb hc : Nat} (c0 : w.cell? ⟨g, 0, none⟩ = some (.slice ha (512 * nb) hc)) (hnb : nb ≤ 524288) : Calls Tryz.prog 14 #[.pointer (some ⟨g, 0, none⟩)] w fun e w' => e = .returned (.int .i64 (nb : Int)) ∧ w' = w := by
 obtain ⟨L, hL⟩ : ∃ L, L = 512 * nb := ⟨_, rfl⟩
 rw [← hL] at c0
 have hq : (L : Int).tdiv 512 = (nb : Int) := by rw [Int.tdiv_eq_ediv_of_nonneg (by omega)]; omega
 have hq2 : (L : Int) / 512 = (nb : Int) := by omega
 have hw1 : IntKind.i64.wrap (nb : Int) = (nb : Int) := by rw [IntKind.wrap_i64]; omega
 clear hL
 go_enter Tryz.func14, Tryz.ntmps14
 go_wp2
 go_ret
 exact ⟨by simp, rfl⟩
theorem refDisk_any {w : World} {g : Nat} {ha : Option Addr} {nb hc fr bl : Nat} {ta : Option Addr} {tn tc : Nat} (h : Lg w g ha nb hc fr bl ta tn tc) (hnb : nb ≤ 524288) : Calls Tryz.prog 14 #[.pointer (some ⟨g, 0, none⟩)] w fun e w' => e = .returned (.int .i64 (nb : Int)) ∧ w' = w := refDisk_cell h.c0 hnb
end Go.Proofs.YtldlejpacgphmaaGreat
namespace Go.Proofs.YtldlejpacgphmaaGreat
open Go.RowKit
theorem tk {P : Program} {ops : Array Oper} {Q : Exit → Act → World → Prop} {md : Region.Mode} {S : World → Prop} (i : Nat) (d : Option Tmp) (o : Op) (t : TypeId) (g : Option (Nat × Bool)) {po : String} {af : Array Edge} {v : Value} {fuel : Nat} {listed : Array Bool} {a : Act} {w : World} (hi : ops[i]? = some ⟨d, o, t, po, af, g⟩)
  (hk : (Region.noSelect ops && (Region.free md ops listed i && (Region.ready md ops listed).contains i)) = true) (hQ : ∀ c a w, Q (.panic c) (a.put d v) w → Q (.panic c) a w) (hw : Region.wanted ⟨d, o, t, po, af, g⟩ (yielded ops a.tmps) = true) (hS : S w) (hy : ∀ w, S w → (execOp a.eval ⟨d, o, t, po, af, g⟩).run P w = .ok (.value v) w)
  (h : wpAnyH P md ops Q S fuel (listed.setIfInBounds i true) (a.put d v) w) : wpAnyH P md ops Q S (fuel + 1) listed a w := by
 simp only [Bool.and_eq_true] at hk
 exact wpAnyH_take hi hk.1 hk.2.1 hk.2.2 hQ (Or.inl ⟨hw, hy⟩) hS h
theorem sk {P : Program} {ops : Array Oper} {Q : Exit → Act → World → Prop} {md : Region.Mode} {S : World → Prop} (i : Nat) (d : Option Tmp) (o : Op) (t : TypeId) (g : Option (Nat × Bool)) {po : String} {af : Array Edge} {fuel : Nat} {listed : Array Bool} {a : Act} {w : World} (hi : ops[i]? = some ⟨d, o, t, po, af, g⟩)
  (hk : (Region.noSelect ops && (Region.free md ops listed i && (Region.ready md ops listed).contains i)) = true) (hQ : ∀ c a w, Q (.panic c) (a.put d undef) w → Q (.panic c) a w) (hw : Region.wanted ⟨d, o, t, po, af, g⟩ (yielded ops a.tmps) = false) (hS : S w)
  (h : wpAnyH P md ops Q S fuel (listed.setIfInBounds i true) (a.put d undef) w) : wpAnyH P md ops Q S (fuel + 1) listed a w := by
 simp only [Bool.and_eq_true] at hk
 exact wpAnyH_take hi hk.1 hk.2.1 hk.2.2 hQ (Or.inr ⟨hw, rfl⟩) hS h
end Go.Proofs.YtldlejpacgphmaaGreat
