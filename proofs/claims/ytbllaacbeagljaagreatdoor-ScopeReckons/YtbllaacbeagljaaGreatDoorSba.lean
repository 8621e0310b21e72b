/-
  scope: number, of a number of numbers.
-/
import Derived.Test.YtbllaacbeagljaaGreatDoorSb9
namespace Go.Proofs.YtbllaacbeagljaaGreatDoor
open Go.RowKit Go.Maps

theorem rkN_ok (d : Nat) (t : Nd) (h : (rkN d t).e = 0) : 0 ≤ (rkN d t).v ∧ (rkN d t).v ≤ 1099511627776 := by
  cases d with
  | zero => exact ⟨Int.le_refl _, by show (0 : Int) ≤ _; omega⟩
  | succ d => exact chkR_ok h
theorem nu_step (d : Nat) (ih : NuS d) : NuS (d + 1) := by
  intro P rb t v w hN
  show Calls Tryz.prog 36 _ w (RkQ (chkR t.at_ (rawR t.k t.n t.at_ (t.kids.map (rkN d)))) w)
  rcases hN with ⟨hk, rfl⟩ | ⟨h1, h2, v1, v2, h3, rfl, h5, h6⟩ | ⟨hk, g, c, rfl, ⟨h3, h3'⟩, h4, h5, hp, h6⟩
  · have e : rawR t.k t.n t.at_ (t.kids.map (rkN d)) = ⟨t.n, 0, 0⟩ := by unfold rawR; rw [if_pos hk]
    rw [e]
    exact number_of rb 110 t.at_ _ _ w (fun s hs u => plc110 _ _ s hs u) (hid (reck_const rb t.at_ t.n w))
  · have e : rawR t.k t.n t.at_ (t.kids.map (rkN d)) = cplR t.k t.at_ (rkN d (t.kids[0]'(by omega))) (rkN d (t.kids[1]'(by omega))) := by
      unfold rawR
      rw [if_neg (by omega), if_pos h2]
      simp [List.getD_eq_getElem?_getD, show 0 < t.kids.length by omega, show 1 < t.kids.length by omega]
    rw [e]
    obtain ⟨T1, X1, rfl⟩ := h5.iface
    obtain ⟨T2, X2, rfl⟩ := h6.iface
    refine number_of rb 125 t.at_ _ _ w (fun s hs u => plc125 _ _ _ _ s hs u) (hid (reck_couple rb t.at_ t.k T1 T2 X1 X2 _ _ w (fun u hu => ih P rb _ _ u (h5.next hu)) (fun u hu => ih P rb _ _ u (h6.next hu)) (rkN_ok d _) (rkN_ok d _)))
  · have hn : (t.kids.map (rkN d)).length = t.kids.length := List.length_map _
    have hv : ∀ i (hi : i < (t.kids.map (rkN d)).length), ∃ T X, w.cell? ⟨g, i, none⟩ = some (.iface T X) ∧ ∀ u, Below w.heap.size w u → Nu rb (.iface T X) (t.kids.map (rkN d))[i] u := fun i hi => by
      obtain ⟨vi, q1, q2⟩ := h6 i (by rw [hn] at hi; exact hi)
      obtain ⟨T, X, rfl⟩ := q2.iface
      refine ⟨T, X, q1, fun u hu => ?_⟩
      rw [List.getElem_map]
      exact ih P rb _ _ u (q2.next hu)
    have hx : ∀ i (hi : i < (t.kids.map (rkN d)).length), (t.kids.map (rkN d))[i].e = 0 → 0 ≤ (t.kids.map (rkN d))[i].v ∧ (t.kids.map (rkN d))[i].v ≤ 1099511627776 := fun i hi => by
      rw [List.getElem_map]
      exact rkN_ok d _
    rcases hk with hk | hk
    · have e : rawR t.k t.n t.at_ (t.kids.map (rkN d)) = foldR min ((t.kids.map (rkN d)).headD ⟨0, 0, 0⟩) (t.kids.map (rkN d)).tail := by
        unfold rawR
        rw [if_neg (by omega), if_neg (by omega), if_pos hk]
      rw [e, if_pos hk]
      exact number_of rb 122 t.at_ _ _ w (fun s hs u => plc122 _ _ s hs u) (hid (reck_least rb t.at_ g t.kids.length c _ w hn h3 h3' h4 h5 hv hx))
    · have e : rawR t.k t.n t.at_ (t.kids.map (rkN d)) = foldR max ((t.kids.map (rkN d)).headD ⟨0, 0, 0⟩) (t.kids.map (rkN d)).tail := by
        unfold rawR
        rw [if_neg (by omega), if_neg (by omega), if_neg (by omega)]
      rw [e, if_neg (by omega)]
      exact number_of rb 123 t.at_ _ _ w (fun s hs u => plc123 _ _ s hs u) (hid (reck_most rb t.at_ g t.kids.length c _ w hn h3 h3' h4 h5 hv hx))
theorem number_all : ∀ d, NuS d
  | 0 => fun _ _ _ _ _ h => h.elim
  | d + 1 => nu_step d (number_all d)

end Go.Proofs.YtbllaacbeagljaaGreatDoor
