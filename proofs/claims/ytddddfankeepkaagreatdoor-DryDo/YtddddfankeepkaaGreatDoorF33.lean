import Derived.Test.YtddddfankeepkaaGreatDoorF04
import Derived.Test.YtddddfankeepkaaGreatDoorF32
namespace Go.Proofs.YtddddfankeepkaaGreatDoor
open Go.RowKit
theorem zip_set : ∀ (vs : List PV) (gs : List Nat) (r : Nat) (v : PV) (hr : r < gs.length), gs.length = vs.length → (List.zipWith sl vs gs).set r (sl v gs[r]) = List.zipWith sl (vs.set r v) gs
 | [], [], r, v, h, _ => by simp at h
 | [], _ :: _, _, _, _, h => by simp at h
 | _ :: _, [], _, _, _, h => by simp at h
 | x :: ts, g :: gs, 0, v, _, _ => by simp
 | x :: ts, g :: gs, r + 1, v, h, hl => by
  have ih := zip_set ts gs r v (by simpa using h) (by simpa using hl)
  simp only [List.zipWith_cons_cons, List.set_cons_succ, List.getElem_cons_succ]
  rw [ih]
theorem LentV.lay {w : World} {F : Nat} {gs : List Nat} {vs : List PV} (h : LentV w F gs vs) (r : Nat) (hr : r < vs.length) (hg : r < gs.length) (v : PV) (hm : v.mp.length = vs[r].mp.length) {B : Nat} {a2 : Option Addr} {c2 : Nat} (hRd : RdR B w a2 v.mp) :
  ∃ w2, (Builtin.copy_ #[36, 36] 3 #[.slice (some ⟨gs[r], 0, none⟩) v.mp.length (2 * v.mp.length + 70), .slice a2 v.mp.length c2]).run Tryz.prog w = .ok (.int .i64 (v.mp.length : Int)) w2 ∧ But (fun k => k = gs[r]) w w2 ∧
   ∀ y, y = (at7 w2 F (r * 7) v (.slice a2 v.mp.length c2)).setCell ⟨F, r * 7 + 6, none⟩ (.slice (some ⟨gs[r], 0, none⟩) v.mp.length (2 * v.mp.length + 70)) → LentV y F gs (vs.set r v) ∧ But (fun k => k = F) w2 y := by
 have hgl := h.gl
 have hb := h.gb r hr
 have hlo := h.lo _ (List.getElem_mem hg)
 obtain ⟨w2, hrun, hB2, hb2⟩ := copy_rg (ty := 3) (dCap := 2 * v.mp.length + 70) (M := v.mp.length) (sCap := c2) hb hRd (Nat.le_refl _) (by rw [lentR_len]; omega)
 have hB3 : BlR w2 gs[r] (lentR v.mp) := by
  have e : v.mp ++ (lentR vs[r].mp).drop v.mp.length = lentR v.mp := by
   unfold lentR
   rw [hm, List.drop_append_of_le_length (Nat.le_refl _), List.drop_length, List.nil_append]
  rw [e] at hB2
  exact hB2
 refine ⟨w2, hrun, hb2, fun y hy => ?_⟩
 have hf2 := h.fb.keep (hb2.block F h.fb.lt (by omega))
 have e2 : (List.zipWith sl vs gs).length = vs.length := by rw [List.length_zipWith, hgl, Nat.min_self]
 have s1 := hf2.set7 r v (.slice a2 v.mp.length c2) (by simp; omega)
 have s2 := s1.set6 r (.slice (some ⟨gs[r], 0, none⟩) v.mp.length (2 * v.mp.length + 70)) (by simp; omega)
 rw [List.set_set, List.set_append_left _ _ hr, List.set_append_left _ _ (by omega), show (Value.slice (some ⟨gs[r], 0, none⟩) v.mp.length (2 * v.mp.length + 70)) = sl v gs[r] from rfl, zip_set vs gs r v hg hgl] at s2
 have hy' : y = (at7 w2 F (r * 7) v (.slice a2 v.mp.length c2)).setCell ⟨F, r * 7 + 6, none⟩ (sl v gs[r]) := hy
 rw [← hy'] at s2
 have bt : But (fun k => k = F) w2 y := by rw [hy]; exact (but_at7 w2 F (r * 7) _ _).setCell (p := ⟨F, r * 7 + 6, none⟩) rfl _
 refine ⟨⟨by rw [List.length_set]; exact hgl, by rw [List.length_set]; exact s2, fun i hi => ?_, h.nd, h.lo⟩, bt⟩
 rw [List.length_set] at hi
 have hlt := h.gb i hi
 have hgi := h.lo _ (List.getElem_mem (h := (by omega : i < gs.length)))
 by_cases e : r = i
 ·subst e
  simp only [List.getElem_set_self]
  exact hB3.keep (bt.block _ hB3.lt (by omega))
 ·simp only [List.getElem_set_ne e]
  have hne : ¬ gs[i]'(by omega) = gs[r] := fun q => e ((List.getElem_inj h.nd).1 q.symm)
  have h1 := hlt.keep (hb2.block _ hlt.lt hne)
  exact h1.keep (bt.block _ h1.lt (by omega))
end Go.Proofs.YtddddfankeepkaaGreatDoor
