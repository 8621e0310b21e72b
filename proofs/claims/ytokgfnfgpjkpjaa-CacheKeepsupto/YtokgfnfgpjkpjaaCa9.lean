/-
  Package cache: Read of a block that is held.
-/
import Derived.Test.YtokgfnfgpjkpjaaCa8
namespace Go.Proofs.Ytokgfnfgpjkpjaa
open Go.RowKit Go.ChangeMaps

theorem Own.ne_cab {w : World} {g n cap c p room r mp : Nat} {hi mi : Int} {zs : List Int} (ho : Own w g n cap zs) (h : Cab w c p room r mp hi mi) : g ≠ c := fun q => by
  obtain ⟨cur, hk⟩ := ho.kind
  unfold Cab at h
  rw [← q, hk] at h
  cases h
theorem Ca.count {X : Nat → Prop} {w w' : World} {c p room r mp n : Nat} {hi mi hi' mi' : Int} {es : List Nat} {f : Nat → En} {Z : Nat → List Int} (h : Ca X w c p room r mp n hi mi es f Z) (hb : Cab w' c p room r mp hi' mi') (b : But (fun k => k = c) w w') : Ca X w' c p room r mp n hi' mi' es f Z := by
  obtain ⟨D, hm, hD⟩ := h.map
  refine ⟨hb, fun x hx => (b.block x (h.ens x hx).lt (h.blk.ne_ent (h.ens x hx))).trans (h.ens x hx), h.ring, ⟨D, ownsMap_keep hm (b.block mp (ownsMap_lt hm) (fun q => h.blk.ne_map hm q.symm)), hD⟩, fun e he => ?_, h.xc, h.xm, h.xe⟩
  obtain ⟨g, cap, q1, q2, q3, q4⟩ := h.dat e he
  exact ⟨g, cap, q1, q2.keep (b.block g q2.lt (q2.ne_cab h.blk)), q3, q4⟩
theorem Ca.addHit {X : Nat → Prop} {w : World} {c p room r mp n : Nat} {hi mi : Int} {es : List Nat} {f : Nat → En} {Z : Nat → List Int} (h : Ca X w c p room r mp n hi mi es f Z) (y : Int) : Ca X (w.setCell ⟨c, 4, none⟩ (.int .i64 y)) c p room r mp n y mi es f Z := by
  have hg : Cg w c p room (.pointer (some ⟨r, 0, none⟩)) (.map (some mp)) hi mi := h.blk
  exact h.count (by simpa [Cab] using hg.set 4 (.int .i64 y)) ((But.refl (fun y => y = c) w).setCell (p := ⟨c, 4, none⟩) (show (fun y => y = c) c from rfl) _)
theorem Ca.addMiss {X : Nat → Prop} {w : World} {c p room r mp n : Nat} {hi mi : Int} {es : List Nat} {f : Nat → En} {Z : Nat → List Int} (h : Ca X w c p room r mp n hi mi es f Z) (y : Int) : Ca X (w.setCell ⟨c, 5, none⟩ (.int .i64 y)) c p room r mp n hi y es f Z := by
  have hg : Cg w c p room (.pointer (some ⟨r, 0, none⟩)) (.map (some mp)) hi mi := h.blk
  exact h.count (by simpa [Cab] using hg.set 5 (.int .i64 y)) ((But.refl (fun y => y = c) w).setCell (p := ⟨c, 5, none⟩) (show (fun y => y = c) c from rfl) _)
set_option maxHeartbeats 1000000 in
theorem Ca.latest {X : Nat → Prop} {w : World} {c p room r mp n : Nat} {hi mi : Int} {A B : List Nat} {e : Nat} {f : Nat → En} {Z : Nat → List Int} (h : Ca X w c p room r mp n hi mi (A ++ e :: B) f Z) :
    Calls Try.prog 26 #[.pointer (some ⟨c, 0, none⟩), .pointer (some ⟨e, 0, none⟩)] w fun q w' => q = .returned (.tuple #[]) ∧ Ca X w' c p room r mp n hi mi (A ++ B ++ [e]) (lnk (unl f e) e r) Z ∧ But X w w' := by
  obtain ⟨D, hm, hD⟩ := h.map
  obtain ⟨r2, m1, m2⟩ := h.ring.unl
  have hVm : ¬ mp ∈ r :: (A ++ e :: B) := fun hv => ent_ne_map hm (h.ens mp hv) rfl
  have hVc : ¬ c ∈ r :: (A ++ e :: B) := fun hv => h.blk.ne_ent (h.ens c hv) rfl
  have nen : e ∉ r :: (A ++ B) := by
    have hn := h.ring.1
    have hn2 : ((r :: A) ++ e :: B).Nodup := by simpa using hn
    obtain ⟨_, n2, n3⟩ := List.nodup_append.1 hn2
    intro hq
    simp at hq
    rcases hq with q | q | q
    · exact n3 r (by simp) e (by simp) q.symm
    · exact n3 e (by simp [q]) e (by simp) rfl
    · exact (List.nodup_cons.1 n2).1 q
  have hbf : (f e).bf ∈ r :: (A ++ e :: B) := by rcases m1 with q | q; rw [q]; simp; simp [q]
  have haf : (f e).af ∈ r :: (A ++ e :: B) := by rcases m2 with q | q; rw [q]; simp; simp [q]
  have hbr : (unl f e r).bf ∈ r :: (A ++ e :: B) := by
    have := r2.bfr
    simp at this ⊢
    rcases this with q | q | q
    · exact .inl q
    · exact .inr (.inl q)
    · exact .inr (.inr (.inr q))
  have mem : ∀ y, y ∈ A ++ B ++ [e] ↔ y ∈ A ++ e :: B := fun y => by
    simp only [List.mem_append, List.mem_cons, or_false, List.not_mem_nil]
    constructor <;> (intro q; rcases q with q | q) <;> first | (rcases q with q | q <;> simp [q]) | simp [q]
  have mem' : ∀ y, y ∈ r :: (A ++ B ++ [e]) → y ∈ r :: (A ++ e :: B) := fun y hy => by
    rcases List.mem_cons.1 hy with q | q
    · rw [q]; simp
    · exact List.mem_cons_of_mem _ ((mem y).1 q)
  refine Calls.mono (makeLatest_any h.ens (c := c) h.blk.cells.2.2.1 hVc h.blk.lt (by simp) hbf haf (by simp) hbr) ?_
  rintro q w' ⟨rfl, h2, b2⟩
  refine ⟨rfl, ⟨(b2.block c h.blk.lt hVc).trans h.blk, fun y hy => h2 y (mem' y hy), r2.lnk nen, ⟨D, ownsMap_keep hm (b2.block mp (ownsMap_lt hm) hVm), hD.congr mem (by simp) (fun y _ => by rw [(lnk_same _ _ _ _).1, (unl_same _ _ _).1])⟩, fun y hy => ?_, h.xc, h.xm, fun y hy => h.xe y (mem' y hy)⟩, b2.mono (fun y _ hy => h.xe y hy)⟩
  obtain ⟨g', cap', q1, q2, q3, q4⟩ := h.dat y ((mem y).1 hy)
  exact ⟨g', cap', by rw [(lnk_same _ _ _ _).2, (unl_same _ _ _).2]; exact q1, q2.keep (b2.block g' q2.lt (fun hv => q2.ne_ent (h.ens g' hv) rfl)), q3, q4⟩

end Go.Proofs.Ytokgfnfgpjkpjaa
