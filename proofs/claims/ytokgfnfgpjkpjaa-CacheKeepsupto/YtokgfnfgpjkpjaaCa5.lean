/-
  Package cache: hold, of any block.
-/
import Derived.Test.YtokgfnfgpjkpjaaCa4
namespace Go.Proofs.Ytokgfnfgpjkpjaa
open Go.RowKit Go.ChangeMaps

/-- a cache that holds l, the least lately used first -/
def Cst (X : Nat → Prop) (w : World) (c p room : Nat) (hi mi : Int) (l : List (Int × List Int)) : Prop :=
  ∃ r mp n es f Z, Ca X w c p room r mp n hi mi es f Z ∧ l = view es f Z ∧ es.length ≤ room ∧ 1 ≤ room ∧ room < 4611686018427387904 ∧ ∀ e ∈ es, (Lit.int .i64 (f e).at_).wf = true
theorem Cst.drew {X : Nat → Prop} {w : World} {c p room : Nat} {hi mi : Int} {l : List (Int × List Int)} (h : Cst X w c p room hi mi l) : Cst X w.drew c p room hi mi l := by
  obtain ⟨r, mp, n, es, f, Z, h1, h2⟩ := h
  exact ⟨r, mp, n, es, f, Z, h1.drew, h2⟩
theorem Cst.mono {X Y : Nat → Prop} {w : World} {c p room : Nat} {hi mi : Int} {l : List (Int × List Int)} (h : Cst X w c p room hi mi l) (hX : ∀ k, k < w.heap.size → X k → Y k) : Cst Y w c p room hi mi l := by
  obtain ⟨r, mp, n, es, f, Z, h1, h2⟩ := h
  exact ⟨r, mp, n, es, f, Z, h1.mono hX, h2⟩
theorem view_congr {es : List Nat} {f f' : Nat → En} {Z Z' : Nat → List Int} (h : ∀ e ∈ es, (f' e).at_ = (f e).at_ ∧ Z' e = Z e) : view es f' Z' = view es f Z := by
  unfold view
  exact List.map_congr_left (fun e he => by rw [(h e he).1, (h e he).2])
theorem view_app (A B : List Nat) (f : Nat → En) (Z : Nat → List Int) : view (A ++ B) f Z = view A f Z ++ view B f Z := by simp [view]
theorem view_none {es : List Nat} {f : Nat → En} {Z : Nat → List Int} {x : Int} (h : ∀ e ∈ es, (f e).at_ ≠ x) : (view es f Z).filter (fun q => q.1 ≠ x) = view es f Z := by
  rw [List.filter_eq_self]
  intro q hq
  unfold view at hq
  obtain ⟨e, he, rfl⟩ := List.mem_map.1 hq
  simpa using h e he
theorem view_len (es : List Nat) (f : Nat → En) (Z : Nat → List Int) : (view es f Z).length = es.length := by simp [view]
set_option maxHeartbeats 1000000 in
theorem hold_any {X : Nat → Prop} {w : World} {c p room : Nat} {hi mi : Int} {l : List (Int × List Int)} (h : Cst X w c p room hi mi l) {x : Int} {g cap : Nat} {zs : List Int} (hO : Own w g 512 cap zs) (hb : Pl.isB zs) (hX : X g) (hat : (Lit.int .i64 x).wf = true) :
    Calls Try.prog 29 #[.pointer (some ⟨c, 0, none⟩), .int .i64 x, .slice (some ⟨g, 0, none⟩) 512 cap] w fun q w' => q = .returned (.tuple #[]) ∧ Cst (fun k => X k ∨ (w.heap.size ≤ k ∧ k < w'.heap.size)) w' c p room hi mi (holdL room l x zs) ∧ But X w w' ∧ Own w' g 512 cap zs := by
  obtain ⟨r, mp, n, es, f, Z, h1, rfl, h3, h4, h5, h6⟩ := h
  by_cases hin : ∃ e ∈ es, (f e).at_ = x
  · obtain ⟨e, he, rfl⟩ := hin
    obtain ⟨A, B, rfl⟩ := List.append_of_mem he
    refine Calls.mono (hold_hit h1 h3 hO hb hX hat) ?_
    rintro q w' ⟨rfl, ⟨f', Z', q1, q2, q3, q4⟩, b, ow⟩
    obtain ⟨D, hm, hD⟩ := h1.map
    have hnd := (List.nodup_cons.1 h1.ring.1).2
    obtain ⟨n1, n2, n3⟩ := List.nodup_append.1 hnd
    have hA : ∀ y ∈ A, y ≠ e := fun y hy q => n3 y hy e (by simp) q
    have hB : ∀ y ∈ B, y ≠ e := fun y hy q => (List.nodup_cons.1 n2).1 (by rw [← q]; exact hy)
    have hA' : ∀ y ∈ A, (f y).at_ ≠ (f e).at_ := fun y hy q => hA y hy (hD.uniq (by simp [hy]) (by simp) q)
    have hB' : ∀ y ∈ B, (f y).at_ ≠ (f e).at_ := fun y hy q => hB y hy (hD.uniq (by simp [hy]) (by simp) q)
    refine ⟨rfl, ⟨r, mp, n, _, f', Z', q1.mono (fun k _ q => .inl q), ?_, by simp at h3 ⊢; omega, h4, h5, fun y hy => by rw [q2]; exact h6 y (by simp at hy ⊢; rcases hy with q | q | q <;> simp [q])⟩, b, ow⟩
    have e1 : view (A ++ B ++ [e]) f' Z' = view A f Z ++ view B f Z ++ [((f e).at_, zs)] := by
      rw [view_app, view_app, view_congr (es := A) (f := f) (Z := Z) (fun y hy => ⟨q2 y, q4 y (hA y hy)⟩), view_congr (es := B) (f := f) (Z := Z) (fun y hy => ⟨q2 y, q4 y (hB y hy)⟩)]
      simp [view, q2, q3]
    have e2 : (view (A ++ e :: B) f Z).filter (fun q => q.1 ≠ (f e).at_) = view A f Z ++ view B f Z := by
      have : view (A ++ e :: B) f Z = view A f Z ++ ((f e).at_, Z e) :: view B f Z := by simp [view]
      rw [this, List.filter_append, view_none hA']
      simp only [ne_eq, decide_not, List.filter_cons, decide_true, Bool.not_true, Bool.false_eq_true, if_false]
      have hf := view_none (Z := Z) hB'
      simp only [ne_eq, decide_not] at hf
      rw [hf]
    unfold holdL
    rw [e2, e1, if_neg]
    simp [view_len] at h3 ⊢
    omega
  · have hx : ∀ e ∈ es, (f e).at_ ≠ x := fun e he q => hin ⟨e, he, q⟩
    have hne : ∀ y ∈ es, y ≠ w.heap.size := fun y hy q => Nat.lt_irrefl _ (q ▸ (h1.ens y (by simp [hy])).lt)
    have h1 := h1.tight
    have hln : es.length < maxLen := by unfold maxLen; omega
    by_cases hf : es.length < room
    · refine Calls.mono (hold_fits h1 hf hln hx hO hb hX hat) ?_
      rintro q w' ⟨rfl, ⟨f', Z', q1, q2, q3, q4, q5⟩, b, ow⟩
      refine ⟨rfl, ⟨r, mp, _, _, f', Z', q1.mono (fun k hk q => ?_), ?_, by simp; omega, h4, h5, fun y hy => ?_⟩, b, ow⟩
      · rcases q with q | q
        · exact .inl q
        · exact .inr ⟨by omega, hk⟩
      · unfold holdL
        rw [view_none hx, if_neg (by simp [view_len]; omega), view_app, view_congr (es := es) (f := f) (Z := Z) (fun y hy => ⟨q3 y (hne y hy), q5 y (hne y hy)⟩)]
        simp [view, q2, q4]
      · rcases List.mem_append.1 hy with hy | hy
        · rw [q3 y (hne y hy)]; exact h6 y hy
        · simp at hy; rw [hy, q2]; exact hat
    · obtain ⟨a, t, rfl⟩ : ∃ a t, es = a :: t := by
        cases es with
        | nil => simp at hf; omega
        | cons a t => exact ⟨a, t, rfl⟩
      refine Calls.mono (hold_full h1 (by omega) (h6 a (by simp)) hln hx hO hb hX hat) ?_
      rintro q w' ⟨rfl, ⟨f', Z', q1, q2, q3, q4, q5⟩, b, ow⟩
      have hnt : ∀ y ∈ t, y ≠ w.heap.size := fun y hy => hne y (by simp [hy])
      refine ⟨rfl, ⟨r, mp, _, _, f', Z', q1.mono (fun k hk q => ?_), ?_, by simp at h3 ⊢; omega, h4, h5, fun y hy => ?_⟩, b, ow⟩
      · rcases q with q | q
        · exact .inl q
        · exact .inr ⟨by omega, hk⟩
      · unfold holdL
        rw [view_none hx, if_pos (by simp [view_len] at hf ⊢; omega), view_app, view_congr (es := t) (f := f) (Z := Z) (fun y hy => ⟨q3 y (hnt y hy), q5 y (hnt y hy)⟩)]
        simp [view, q2, q4]
      · rcases List.mem_append.1 hy with hy | hy
        · rw [q3 y (hnt y hy)]; exact h6 y (by simp [hy])
        · simp at hy; rw [hy, q2]; exact hat

end Go.Proofs.Ytokgfnfgpjkpjaa
