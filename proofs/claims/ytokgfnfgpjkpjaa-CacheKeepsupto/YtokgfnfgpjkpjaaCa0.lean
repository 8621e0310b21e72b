/-
  Package cache: which entry holds which block.
-/
import Derived.Test.YtokgfnfgpjkpjaaRg2
namespace Go.Proofs.Ytokgfnfgpjkpjaa
open Go.RowKit

/-- how a pointer to an entry reads -/
def ptrElem : Value → Option (DataW Nat × List MemPlace)
  | .pointer none => some (.nil, [])
  | .pointer (some ⟨e, 0, none⟩) => some (.held e, [])
  | _ => none
theorem ptrElem_inv {v : Value} {e : Nat} {ps : List MemPlace} (h : ptrElem v = some (.held e, ps)) : v = .pointer (some ⟨e, 0, none⟩) := by
  unfold ptrElem at h
  split at h
  · cases h
  · cases h; rfl
  · cases h
theorem ptrElem_nil {v : Value} {ps : List MemPlace} (h : ptrElem v = some (.nil, ps)) : v = .pointer none := by
  unfold ptrElem at h
  split at h
  · rfl
  · cases h
  · cases h
/-- the map of the entries es: by their blocks -/
structure BM (D : DataW Nat) (es : List Nat) (f : Nat → En) : Prop where
  tidy : Maps.Tidy D
  size : Maps.size D = es.length
  hit : ∀ e ∈ es, Maps.has D (.int .i64 (f e).at_) = true ∧ ∀ z, D.atKey (.int .i64 (f e).at_) z = .held e
  miss : ∀ x : Int, (∀ e ∈ es, (f e).at_ ≠ x) → Maps.has D (.int .i64 x) = false
theorem BM.uniq {D : DataW Nat} {es : List Nat} {f : Nat → En} (h : BM D es f) {e e' : Nat} (he : e ∈ es) (he' : e' ∈ es) (ha : (f e).at_ = (f e').at_) : e = e' := by
  have h1 := (h.hit e he).2 .nil
  rw [ha, (h.hit e' he').2 .nil] at h1
  cases h1
  rfl
theorem BM.congr {D : DataW Nat} {es es' : List Nat} {f f' : Nat → En} (h : BM D es f) (hm : ∀ e, e ∈ es' ↔ e ∈ es) (hl : es'.length = es.length) (hf : ∀ e ∈ es, (f' e).at_ = (f e).at_) : BM D es' f' :=
  ⟨h.tidy, by rw [hl]; exact h.size, fun e he => by rw [hf e ((hm e).1 he)]; exact h.hit e ((hm e).1 he), fun x hx => h.miss x (fun e he => by rw [← hf e he]; exact hx e ((hm e).2 he))⟩
theorem BM.put {D : DataW Nat} {es : List Nat} {f : Nat → En} (h : BM D es f) {e : Nat} (hn : ∀ e' ∈ es, (f e').at_ ≠ (f e).at_) : BM (D.put (.int .i64 (f e).at_) (.held e)) (es ++ [e]) f := by
  have hk : WideAt.IsKeyLit (.int .i64 (f e).at_) := trivial
  have h0 := h.miss (f e).at_ hn
  refine ⟨h.tidy.put hk _, by rw [Maps.size_put h.tidy, h0]; simp [h.size], fun e' he' => ?_, fun x hx => ?_⟩
  · rcases List.mem_append.1 he' with he' | he'
    · have hne : (Lit.int .i64 (f e').at_) ≠ .int .i64 (f e).at_ := fun q => hn e' he' (by injection q)
      exact ⟨by rw [Maps.has_put_other hne]; exact (h.hit e' he').1, fun z => by rw [Maps.atKey_put_other hne]; exact (h.hit e' he').2 z⟩
    · simp at he'
      subst he'
      exact ⟨Maps.has_put_same h.tidy.isMap hk _, fun z => Maps.atKey_put_same h.tidy.isMap hk _ z⟩
  · have hne : (Lit.int .i64 x) ≠ .int .i64 (f e).at_ := fun q => hx e (by simp) (by injection q with _ q; exact q.symm)
    rw [Maps.has_put_other hne]
    exact h.miss x (fun e' he' => hx e' (by simp [he']))
theorem BM.del {D : DataW Nat} {e : Nat} {B : List Nat} {f : Nat → En} (h : BM D (e :: B) f) (hn : e ∉ B) : BM (D.del (.int .i64 (f e).at_)) B f := by
  have he := (h.hit e (by simp)).1
  have hs := Maps.size_del (k := .int .i64 (f e).at_) h.tidy
  rw [he, h.size] at hs
  have hat : ∀ e' ∈ B, (f e').at_ ≠ (f e).at_ := fun e' he' ha => hn (by rw [← h.uniq (by simp [he'] : e' ∈ e :: B) (by simp) ha]; exact he')
  refine ⟨h.tidy.del _, by simp at hs; omega, fun e' he' => ?_, fun x hx => ?_⟩
  · have hne : (Lit.int .i64 (f e').at_) ≠ .int .i64 (f e).at_ := fun q => hat e' he' (by injection q)
    exact ⟨by rw [Maps.has_del_other hne]; exact (h.hit e' (by simp [he'])).1, fun z => by rw [Maps.atKey_del_other hne]; exact (h.hit e' (by simp [he'])).2 z⟩
  · by_cases hxe : x = (f e).at_
    · rw [hxe]; exact Maps.has_del_same
    · have hne : (Lit.int .i64 x) ≠ .int .i64 (f e).at_ := fun q => hxe (by injection q)
      rw [Maps.has_del_other hne]
      exact h.miss x (fun e' he' => by
        rcases List.mem_cons.1 he' with q | q
        · rw [q]; exact fun q => hxe q.symm
        · exact hx e' q)
theorem BM.nil (f : Nat → En) : BM (.map []) [] f := ⟨Maps.tidy_empty, rfl, (fun e he => by cases he), fun _ _ => rfl⟩

end Go.Proofs.Ytokgfnfgpjkpjaa
