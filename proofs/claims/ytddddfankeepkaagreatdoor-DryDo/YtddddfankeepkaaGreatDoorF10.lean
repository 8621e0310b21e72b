import Derived.Test.YtddddfankeepkaaGreatDoorF00
import Derived.Deep.RegionHeld
namespace Go.Proofs.YtddddfankeepkaaGreatDoor
open Go Go.RowKit
section
variable {P : Program} {ops : Array Oper} {Q : Exit → Act → World → Prop} {md : Region.Mode} {S : World → Prop}
theorem wp_agree {Q1 : Exit → Act → World → Prop} (hp : ∀ c a w, Q1 (.panic c) a w → Q (.panic c) a w) (hl : LetsOut Q1 → LetsOut Q) {o : Oper} {a : Act} {w : World} {K : Act → World → Prop}
  (hh : o.wp P a w K Q1) : o.wp P a w K Q := by
 unfold Oper.wp at *
 generalize (execOp a.eval o).run P w = r at *
 cases r with
 | ok n w' =>
  cases n <;> simp only [Oper.upon] at hh ⊢ <;>
   first
    | exact hh
    | exact Calls.mono hh (fun e w'' he => by cases e <;> first | exact he | exact hp _ _ _ he | exact hl he)
 | halt x w' => cases x <;> simp only [Oper.upon] at hh ⊢ <;> first | exact hh | exact hp _ _ _ hh
theorem wpOp_agree {Q1 : Exit → Act → World → Prop} (hp : ∀ c a w, Q1 (.panic c) a w → Q (.panic c) a w) (hl : LetsOut Q1 → LetsOut Q) {i : Nat} {a : Act} {w : World} {K : Act → World → Prop}
  (hh : wpOp P ops Q1 i K a w) : wpOp P ops Q i K a w := by
 unfold wpOp at *
 split
 ·simpa [*] using hh
 ·rename_i o ho
  simp only [ho] at hh
  split
  ·rename_i hw; simp only [hw, if_true] at hh; exact hh.imp (wp_agree hp hl) (fun q => ⟨q.1, hl q.2⟩)
  ·rename_i hw; simp only [hw] at hh; exact hh
def QL (P : Program) (ops : Array Oper) (Q : Exit → Act → World → Prop) (L : Nat) : Exit → Act → World → Prop := fun e a w => match e with
 | .normal => wpOp P ops Q L (Q .normal) a w
 | x => Q x a w
def lastOk (md : Region.Mode) (ops : Array Oper) (L : Nat) : Bool :=
 decide (L < ops.size) && ((List.range ops.size).all fun j => j == L || (List.range ops.size).any fun m => ((ops[m]?).map fun o => o.after.any fun e => Region.binds md e && e.on == j).getD false) &&
 (List.range ops.size).all fun j => ((ops[j]?).map fun o => o.after.all fun e => !Region.binds md e || (e.on != L && decide (e.on < j))).getD false
theorem lastOk_all {L : Nat} (h : lastOk md ops L = true) : L < ops.size ∧ ∀ j, j < ops.size → j ≠ L → ∃ (m : Nat) (o : Oper), ops[m]? = some o ∧ ∃ e ∈ o.after, Region.binds md e = true ∧ e.on = j := by
 unfold lastOk at h
 rw [Bool.and_eq_true, Bool.and_eq_true, decide_eq_true_eq] at h
 refine ⟨h.1.1, fun j hj hne => ?_⟩
 have := h.1.2
 simp only [List.all_eq_true, List.mem_range] at this
 have := this j hj
 simp only [Bool.or_eq_true, beq_iff_eq, hne, false_or, List.any_eq_true, List.mem_range] at this
 obtain ⟨m, hm, hx⟩ := this
 rw [Array.getElem?_eq_getElem hm] at hx
 simp only [Option.map_some, Option.getD_some, Array.any_eq_true', Bool.and_eq_true, beq_iff_eq] at hx
 exact ⟨m, _, Array.getElem?_eq_getElem hm, hx⟩
theorem lastOk_no {L : Nat} (h : lastOk md ops L = true) {j : Nat} {o : Oper} (ho : ops[j]? = some o) {e : Edge} (he : e ∈ o.after) (hb : Region.binds md e = true) : e.on ≠ L ∧ e.on < j := by
 unfold lastOk at h
 rw [Bool.and_eq_true, Bool.and_eq_true] at h
 have hj : j < ops.size := (Array.getElem?_eq_some_iff.1 ho).1
 have := h.2
 simp only [List.all_eq_true, List.mem_range] at this
 have := this j hj
 rw [ho] at this
 simp only [Option.map_some, Option.getD_some, Array.all_eq_true'] at this
 have := this e he
 simpa [hb] using this
theorem set_getD {l : Array Bool} {i j : Nat} (d : Bool) (hj : j < l.size) : (l.setIfInBounds i true).getD j d = if i = j then true else l.getD j d := by
 by_cases h : i = j
 ·subst h
  simp [hj]
 ·rw [if_neg h]
  exact getD_set_ne d h
theorem ready_last {L : Nat} (h : lastOk md ops L = true) {listed : Array Bool} (hs : listed.size = ops.size) (hr : Region.ready md ops (listed.setIfInBounds L true) = []) : ∀ j, j < ops.size → j ≠ L → listed.getD j false = true := by
 intro j
 induction j using Nat.strongRecOn with
 | _ j ih =>
  intro hj hne
  rcases hc : listed.getD j false with _ | _
  ·exfalso
   have hm : j ∈ Region.ready md ops (listed.setIfInBounds L true) := by
    rw [mem_ready]
    obtain ⟨o, ho⟩ : ∃ o, ops[j]? = some o := ⟨ops[j], Array.getElem?_eq_getElem hj⟩
    refine ⟨?_, o, ho, fun e he hb => ?_⟩
    ·rw [set_getD true (by omega), if_neg (Ne.symm hne)]
     have hjl : j < listed.size := by omega
     simp [hjl] at hc ⊢
     exact hc
    ·have q := lastOk_no h ho he hb
     rw [set_getD false (by omega), if_neg (Ne.symm q.1)]
     exact ih e.on q.2 (by omega) q.1
   rw [hr] at hm
   cases hm
  ·rfl
def Dc (md : Region.Mode) (ops : Array Oper) (listed : Array Bool) : Prop := ∀ (j : Nat) (o : Oper), ops[j]? = some o → listed.getD j false = true → ∀ e ∈ o.after, Region.binds md e = true → listed.getD e.on false = true
theorem Dc.step {listed : Array Bool} (hd : Dc md ops listed) {i : Nat} (hi : i ∈ Region.ready md ops listed) : Dc md ops (listed.setIfInBounds i true) := fun j o ho hl e he hb => by
 obtain ⟨_, oi, hoi, hw⟩ := mem_ready.1 hi
 refine getD_set_true ?_
 by_cases h : i = j
 ·subst h
  rw [ho] at hoi
  cases hoi
  exact hw e he hb
 ·rw [getD_set_ne false h] at hl
  exact hd j o ho hl e he hb
theorem all_listed {L : Nat} (h : lastOk md ops L = true) {listed : Array Bool} (hd : Dc md ops listed) (hL : L ∈ Region.ready md ops listed) : ∀ (k j : Nat), ops.size - j = k → j < ops.size → j ≠ L → listed.getD j false = true := by
 intro k
 induction k using Nat.strongRecOn with
 | _ k ih =>
  intro j hk hj hne
  obtain ⟨m, o, ho, e, he, hb, hon⟩ := (lastOk_all h).2 j hj hne
  have q := lastOk_no h ho he hb
  have hm : m < ops.size := (Array.getElem?_eq_some_iff.1 ho).1
  by_cases e1 : m = L
  ·subst e1
   obtain ⟨_, o', ho', hw⟩ := mem_ready.1 hL
   rw [ho] at ho'
   cases ho'
   rw [← hon]
   exact hw e he hb
  ·have := ih (ops.size - m) (by omega) m rfl hm e1
   rw [← hon]
   exact hd m o ho this e he hb
theorem wpAny_last {L : Nat} (h : lastOk md ops L = true) : ∀ (fuel : Nat) (listed : Array Bool) (a : Act) (w : World), listed.size = ops.size → listed.getD L true = false → Dc md ops listed →
  wpAnyH P md ops (QL P ops Q L) S fuel (listed.setIfInBounds L true) a w → wpAny P md ops Q (fuel + 1) listed a w := by
 have hLs : L < ops.size := (lastOk_all h).1
 obtain ⟨oL, hoL⟩ : ∃ oL, ops[L]? = some oL := ⟨ops[L], Array.getElem?_eq_getElem hLs⟩
 have hdone : ∀ (fuel : Nat) (listed : Array Bool) (a : Act) (w : World), listed.size = ops.size → listed.getD L true = false → Region.ready md ops (listed.setIfInBounds L true) = [] → wpOp P ops Q L (Q .normal) a w → wpAny P md ops Q (fuel + 1) listed a w := fun fuel listed a w hs h0 hr hq => by
  have hls := ready_last h hs hr
  have hmL : L ∈ Region.ready md ops listed := by
   rw [mem_ready]
   refine ⟨h0, oL, hoL, fun e he hb => ?_⟩
   have q := lastOk_no h hoL he hb
   exact hls e.on (by omega) q.1
  refine ⟨fun e => by rw [e] at hmL; (cases hmL), fun i hi => ?_⟩
  have hiL : i = L := by
   by_cases e : i = L
   ·exact e
   ·exfalso
    have := ready_mono hi e
    rw [hr] at this
    cases this
  subst hiL
  refine wpOp_mono (fun a' w' hq' => ?_) hq
  have he : Region.ready md ops (listed.setIfInBounds i true) = [] := hr
  cases fuel with
  | zero => exact ⟨he, hq'⟩
  | succ k => exact ⟨fun _ => hq', by rw [he]; simp⟩
 intro fuel
 induction fuel with
 | zero =>
  intro listed a w hs h0 _ H
  exact hdone 0 listed a w hs h0 H.1 H.2
 | succ fuel ih =>
  intro listed a w hs h0 hdc H
  by_cases hr : Region.ready md ops (listed.setIfInBounds L true) = []
  ·exact hdone (fuel + 1) listed a w hs h0 hr (H.1 hr)
  ·have hnL : L ∉ Region.ready md ops listed := fun hm => by
    obtain ⟨j, hj⟩ := List.exists_mem_of_ne_nil _ hr
    obtain ⟨hju, oj, hoj, _⟩ := mem_ready.1 hj
    have hjs : j < ops.size := (Array.getElem?_eq_some_iff.1 hoj).1
    have hne : j ≠ L := fun e => by
     rw [e, set_getD true (by omega), if_pos rfl] at hju
     cases hju
    have h1 := all_listed h hdc hm _ j rfl hjs hne
    rw [set_getD true (by omega), if_neg (Ne.symm hne)] at hju
    have hjl : j < listed.size := by omega
    simp [hjl] at hju h1
    rw [hju] at h1
    cases h1
   refine ⟨fun e => ?_, fun i hi => ?_⟩
   ·exfalso
    obtain ⟨j, hj⟩ := List.exists_mem_of_ne_nil _ hr
    obtain ⟨hju, oj, hoj, hw⟩ := mem_ready.1 hj
    have hjs : j < ops.size := (Array.getElem?_eq_some_iff.1 hoj).1
    have hne : j ≠ L := fun e => by
     rw [e, set_getD true (by omega), if_pos rfl] at hju
     cases hju
    have hm : j ∈ Region.ready md ops listed := by
     rw [mem_ready]
     refine ⟨by rw [set_getD true (by omega), if_neg (Ne.symm hne)] at hju; exact hju, oj, hoj, fun x hx hb => ?_⟩
     have q := lastOk_no h hoj hx hb
     have := hw x hx hb
     rw [set_getD false (by omega), if_neg (Ne.symm q.1)] at this
     exact this
    rw [e] at hm
    cases hm
   ·have hiL : i ≠ L := fun e => hnL (e ▸ hi)
    have hi' := ready_mono hi hiL
    have h1 := H.2 i hi'
    refine wpOp_agree (Q1 := QL P ops Q L) (fun _ _ _ q => q) (fun q => q) ?_
    refine wpOp_mono (fun a' w' h3 => ?_) h1
    refine ih (listed.setIfInBounds i true) a' w' (by simp [hs]) ?_ (hdc.step hi) ?_
    ·rw [set_getD true (by omega), if_neg hiL]
     exact h0
    ·rw [Array.setIfInBounds_comm _ _ hiL]
     exact h3.2
theorem wp_region_last {id : Nat} {a : Act} {w : World} (L n : Nat) (hm : P.follows .mixedOrders = true) (hn : ops.size = n + 1) (hchk : lastOk .any ops L = true) (hS : S w.drew)
  (h : S w.drew → wpAnyH P .any ops (QL P ops Q L) S n ((Array.replicate (n + 1) false).setIfInBounds L true) a w.drew) : (Code.region id ops true).wp P Q a w := by
 obtain rfl : n = ops.size - 1 := by omega
 have hLs : L < ops.size := (lastOk_all hchk).1
 refine wp_region_any hm ?_
 rw [show ops.size - 1 + 1 = ops.size by omega] at h
 have := wpAny_last (P := P) (Q := Q) (S := S) hchk (ops.size - 1) (Array.replicate ops.size false) a w.drew (by simp) (by simp [hLs]) (fun j o _ hl => by by_cases hj : j < ops.size <;> simp [hj] at hl) (h hS)
 rw [show ops.size - 1 + 1 = ops.size by omega] at this
 exact this
theorem last_step {L : Nat} {o : Oper} {a : Act} {w : World} (ho : ops[L]? = some o)
  (h : ∀ K' : Act → World → Prop, Shut (∀ a w, Q .normal a w → K' a w) → if Region.wanted o (yielded ops a.tmps) = true then Oper.wp P o a w K' Q else K' (a.put o.dst undef) w) : QL P ops Q L .normal a w :=
 wpOp_step ho (fun K' hK => h K' (fun a w hq => hK a w hq))
end
end Go.Proofs.YtddddfankeepkaaGreatDoor
/-
 A step of a walk through a region that draws, short: what is plain is found by itself.
-/
namespace Go.Proofs.YtddddfankeepkaaGreatDoor
open Go.RowKit

theorem zA {α : Type} (l : List α) (i : Nat) (a : α) : l.toArray.setIfInBounds i a = (l.set i a).toArray := by simp only [List.setIfInBounds_toArray]
theorem zB {α : Type} (l : List α) (a b : α) : (a :: l).set 0 b = b :: l := rfl
theorem zC {α : Type} (l : List α) (n : Nat) (a b : α) : (a :: l).set (n + 1) b = a :: l.set n b := rfl
theorem Ti {P : Program} {ops : Array Oper} {Q : Exit → Act → World → Prop} {md : Region.Mode} {S : World → Prop} {po : String} {af : Array Edge} {fuel : Nat} {listed : Array Bool} {a : Act} {w : World} {d : Option Tmp} {o : Op} {t : TypeId} {g : Option (Nat × Bool)} {v : Value} (i : Nat) (hi : ops[i]? = some ⟨d, o, t, po, af, g⟩)
  (h : wpAnyH P md ops Q S fuel (listed.setIfInBounds i true) (a.put d v) w)
  (hS : S w := by assumption) (hk : (Region.noSelect ops && (Region.free md ops listed i && (Region.ready md ops listed).contains i)) = true := by kernel_rfl) (hQ : ∀ c a w, Q (.panic c) (a.put d v) w → Q (.panic c) a w := by exact fun _ _ _ h => h) (hw : Region.wanted ⟨d, o, t, po, af, g⟩ (yielded ops a.tmps) = true := by rfl) (hy : ∀ w, S w → (execOp a.eval ⟨d, o, t, po, af, g⟩).run P w = .ok (.value v) w := by (intro a h; (try dsimp only at h); (try go_split_ands); go_simp; try with_reducible rfl)) : wpAnyH P md ops Q S (fuel + 1) listed a w := by
 simp only [Bool.and_eq_true] at hk
 exact wpAnyH_take hi hk.1 hk.2.1 hk.2.2 hQ (Or.inl ⟨hw, hy⟩) hS h
theorem Si {P : Program} {ops : Array Oper} {Q : Exit → Act → World → Prop} {md : Region.Mode} {S : World → Prop} {po : String} {af : Array Edge} {fuel : Nat} {listed : Array Bool} {a : Act} {w : World} {d : Option Tmp} {o : Op} {t : TypeId} {g : Option (Nat × Bool)} (i : Nat) (hi : ops[i]? = some ⟨d, o, t, po, af, g⟩)
  (h : wpAnyH P md ops Q S fuel (listed.setIfInBounds i true) (a.put d undef) w)
  (hS : S w := by assumption) (hk : (Region.noSelect ops && (Region.free md ops listed i && (Region.ready md ops listed).contains i)) = true := by kernel_rfl) (hQ : ∀ c a w, Q (.panic c) (a.put d undef) w → Q (.panic c) a w := by exact fun _ _ _ h => h) (hw : Region.wanted ⟨d, o, t, po, af, g⟩ (yielded ops a.tmps) = false := by rfl) : wpAnyH P md ops Q S (fuel + 1) listed a w := by
 simp only [Bool.and_eq_true] at hk
 exact wpAnyH_take hi hk.1 hk.2.1 hk.2.2 hQ (Or.inr ⟨hw, rfl⟩) hS h
theorem Ri {P : Program} {ops : Array Oper} {Q : Exit → Act → World → Prop} {md : Region.Mode} {S : World → Prop} {po : String} {af : Array Edge} {fuel : Nat} {listed : Array Bool} {a : Act} {w : World} {d : Option Tmp} {o : Op} {t : TypeId} {g : Option (Nat × Bool)} (i : Nat) (ho : ops[i]? = some ⟨d, o, t, po, af, g⟩)
  (h : ∀ K' : Act → World → Prop, Shut (∀ a w, S w → (S w → wpAnyH P md ops Q S fuel (listed.setIfInBounds i true) a w) → K' a w) → if Region.wanted ⟨d, o, t, po, af, g⟩ (yielded ops a.tmps) = true then Oper.wp P ⟨d, o, t, po, af, g⟩ a w K' Q else K' (a.put d undef) w) (hr : Region.ready md ops listed = [i] := by kernel_rfl) : wpAnyH P md ops Q S (fuel + 1) listed a w := wpAnyH_ready hr (by simp) (AllReadyH.cons ho h AllReadyH.nil)
theorem Rr {P : Program} {ops : Array Oper} {Q : Exit → Act → World → Prop} {md : Region.Mode} {S : World → Prop} {po p2 : String} {af f2 : Array Edge} {fuel : Nat} {listed : Array Bool} {a : Act} {w : World} {d d2 : Option Tmp} {o o2 : Op} {t t2 : TypeId} {g g2 : Option (Nat × Bool)} (i k : Nat) (ho : ops[i]? = some ⟨d, o, t, po, af, g⟩) (hp : ops[k]? = some ⟨d2, o2, t2, p2, f2, g2⟩) (h : ∀ K' : Act → World → Prop, Shut (∀ a w, S w → (S w → wpAnyH P md ops Q S fuel (listed.setIfInBounds i true) a w) → K' a w) → if Region.wanted ⟨d, o, t, po, af, g⟩ (yielded ops a.tmps) = true then Oper.wp P ⟨d, o, t, po, af, g⟩ a w K' Q else K' (a.put d undef) w) (h2 : ∀ K' : Act → World → Prop, Shut (∀ a w, S w → (S w → wpAnyH P md ops Q S fuel (listed.setIfInBounds k true) a w) → K' a w) → if Region.wanted ⟨d2, o2, t2, p2, f2, g2⟩ (yielded ops a.tmps) = true then Oper.wp P ⟨d2, o2, t2, p2, f2, g2⟩ a w K' Q else K' (a.put d2 undef) w) (hr : Region.ready md ops listed = [i, k] := by kernel_rfl) : wpAnyH P md ops Q S (fuel + 1) listed a w := wpAnyH_ready hr (by simp) (AllReadyH.cons ho h (AllReadyH.cons hp h2 AllReadyH.nil))
theorem Gz {P : Program} {ops : Array Oper} {Q : Exit → Act → World → Prop} {S : World → Prop} {id : Nat} {a : Act} {w : World} (hS : S w.drew) (h : S w.drew → wpAnyH P .any ops Q S ops.size (Array.replicate ops.size false) a w.drew) (hm : P.follows .mixedOrders = true := by kernel_rfl) : (Code.region id ops true).wp P Q a w := wp_region_held_drew hm hS h
theorem Dn {P : Program} {ops : Array Oper} {Q : Exit → Act → World → Prop} {md : Region.Mode} {S : World → Prop} {fuel : Nat} {listed : Array Bool} {a : Act} {w : World} (h : Q .normal a w) (hr : Region.ready md ops listed = [] := by kernel_rfl) : wpAnyH P md ops Q S fuel listed a w := wpAnyH_done hr h _

end Go.Proofs.YtddddfankeepkaaGreatDoor
