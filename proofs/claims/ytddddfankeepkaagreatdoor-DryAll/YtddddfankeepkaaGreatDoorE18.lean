import Derived.Test.YtddddfankeepkaaGreatDoorE10
import Derived.Test.YtddddfankeepkaaGreatDoorE17
import Derived.Deep.DeepCutAuto
namespace Go.Proofs.YtddddfankeepkaaGreatDoor
open Go.RowKit
theorem LoS.set {B : Nat} {w w' : World} {F M : Nat} {os : List PO} {us : List Value} (h : LoS B w F os us M) (t : Nat) (ht : t < os.length) (o : PO) (u : Value) (hu : Ow B w u o.da) (hw : w' = at6 w F (t * 6) o u) : LoS B w' F (os.set t o) (us.set t u) M := by
 have hl := h.len
 have h2 := h.bl.set6 t o u (by simp; omega)
 rw [List.set_append_left _ _ ht, List.set_append_left _ _ (by omega), ← hw] at h2
 have bt : But (fun x => x = F) w w' := by rw [hw]; exact but_at6 _ _ _ _ _
 have kp : ∀ {v : Value} {zs : List Int}, Ow B w v zs → Ow B w' v zs := fun hv => hv.keep fun g hg => bt.block g (hv.lt g hg) (fun e => h.bl.ne hv (e ▸ hg))
 refine ⟨by simp [hl], by simp; exact h.le, by rw [List.length_set]; exact h2, fun i hi => ?_, h.hF⟩
 rw [List.length_set] at hi
 rw [List.getElem_set]
 by_cases e : t = i
 ·subst e
  rw [if_pos rfl]
  simp only [List.getElem_set_self]
  exact kp hu
 ·rw [if_neg e]
  simp only [List.getElem_set_ne e]
  exact kp (h.dat i hi)
theorem LoS.set5 {B : Nat} {w w' : World} {F M : Nat} {os : List PO} {us : List Value} (h : LoS B w F os us M) (t : Nat) (ht : t < os.length) (u : Value) (hu : Ow B w u os[t].da) (hw : w' = w.setCell ⟨F, t * 6 + 5, none⟩ u) : LoS B w' F os (us.set t u) M := by
 have hl := h.len
 have h2 := h.bl.set5 t u (by simp; omega)
 rw [List.set_append_left _ _ (by omega), ← hw] at h2
 have bt : But (fun x => x = F) w w' := by rw [hw]; exact (But.refl (fun x => x = F) w).setCell (p := ⟨F, t * 6 + 5, none⟩) rfl _
 have kp : ∀ {v : Value} {zs : List Int}, Ow B w v zs → Ow B w' v zs := fun hv => hv.keep fun g hg => bt.block g (hv.lt g hg) (fun e => h.bl.ne hv (e ▸ hg))
 refine ⟨by simp [hl], h.le, h2, fun i hi => ?_, h.hF⟩
 rw [List.getElem_set]
 by_cases e : t = i
 ·subst e
  rw [if_pos rfl]
  exact kp hu
 ·rw [if_neg e]
  exact kp (h.dat i hi)
theorem OwL.setOp {B : Nat} {w w' : World} {g c : Nat} {os : List PO} {vs : List Value} (h : OwL B w (.slice (some ⟨g, 0, none⟩) os.length c) os vs) (t : Nat) (ht : t < os.length) (o : PO) (ho : o.da = []) (hw : w' = at6 w g (t * 6) o nilS) : OwL B w' (.slice (some ⟨g, 0, none⟩) os.length c) (os.set t o) (vs.set t nilS) := by
 have hl := h.len
 have hr := (((((h.row.stored (t * 6) (.int .i64 o.k)).1.stored (t * 6 + 1) (.string o.nm)).1.stored (t * 6 + 2) (.string o.ot)).1.stored (t * 6 + 3) (.int .i64 o.fr)).1.stored (t * 6 + 4) (.int .i64 o.tt)).1.stored (t * 6 + 5) nilS
 have hr2 := hr.1
 rw [← flatO_set os vs t o nilS hl ht] at hr2
 have hw2 : w' = (((((w.setCell ⟨g, t * 6, none⟩ (.int .i64 o.k)).setCell ⟨g, t * 6 + 1, none⟩ (.string o.nm)).setCell ⟨g, t * 6 + 2, none⟩ (.string o.ot)).setCell ⟨g, t * 6 + 3, none⟩ (.int .i64 o.fr)).setCell ⟨g, t * 6 + 4, none⟩ (.int .i64 o.tt)).setCell ⟨g, t * 6 + 5, none⟩ nilS := hw
 rw [← hw2] at hr2
 have bt : But (fun x => x = g) w w' := by rw [hw]; exact but_at6 _ _ _ _ _
 have kp : ∀ {v : Value} {zs : List Int}, Ow B w v zs → Ow B w' v zs := fun hv => hv.keep fun g' hg => bt.block g' (hv.lt g' hg) (fun e => h.ne hv (e ▸ hg) rfl)
 refine ⟨by simp [hl], by rw [List.length_set]; exact hr2, fun i hi => ?_, fun i j hij hj x hx => ?_⟩
 ·rw [List.length_set] at hi
  rw [List.getElem_set]
  by_cases e : t = i
  ·subst e
   rw [if_pos rfl]
   simp only [List.getElem_set_self]
   rw [ho]
   exact Ow.nil _ _
  ·rw [if_neg e]
   simp only [List.getElem_set_ne e]
   exact kp (h.dat i hi)
 ·rw [List.length_set] at hj
  rw [List.getElem_set] at hx ⊢
  by_cases e1 : t = i
  ·rw [if_pos e1] at hx
   simp [Value.ownBlock] at hx
  ·rw [if_neg e1] at hx
   by_cases e2 : t = j
   ·rw [if_pos e2]
    simp [Value.ownBlock]
   ·rw [if_neg e2]
    exact h.apart i j hij hj x hx
theorem OwL.rdO {B : Nat} {w : World} {v : Value} {os : List PO} {vs : List Value} (h : OwL B w v os vs) (hok : ∀ o ∈ os, okO o) (hB : ∀ o ∈ os, Pl.isB o.da) : ∃ z c, v = .slice z os.length c ∧ RdO w.heap.size w z os := by
 rcases own_form h.row with ⟨rfl, hn⟩ | ⟨g, c, rfl, hg⟩
 ·exact ⟨none, 0, by rw [hn], hok, .inl (List.eq_nil_of_length_eq_zero hn)⟩
 ·refine ⟨_, c, rfl, hok, .inr ⟨g, 0, rfl, (own_blk h.row hg).2.1, fun t ht => ?_⟩⟩
  obtain ⟨a', c', e, _, hR, ha⟩ := (h.dat t ht).rd (hB _ (List.getElem_mem ht))
  have k : ∀ i u, i < 6 → (cells6 os[t] (vs[t]'(by have := h.len; omega)))[i]? = some u → w.cell? ⟨g, 0 + t * 6 + i, none⟩ = some u := fun i u hi hu => by
   have := World.ownsRow.cells h.row hg (t * 6 + i) u (by rw [flatO_at os vs h.len t ht i hi]; exact hu)
   rw [Addr.add_lit] at this
   rw [← this]
   congr 2
   omega
  exact ⟨a', c', ⟨k 0 _ (by decide) rfl, k 1 _ (by decide) rfl, k 2 _ (by decide) rfl, k 3 _ (by decide) rfl, k 4 _ (by decide) rfl, k 5 _ (by decide) (by rw [e]; rfl)⟩, hR, ha⟩
end Go.Proofs.YtddddfankeepkaaGreatDoor
