/-
  Package cache: which entry holds which block.
-/
import Derived.Test.YtfadnmdmohabmaaRga
namespace Go.Proofs.Ytfadnmdmohabmaa
open Go.RowKit

/-- how a pointer to an entry reads -/
def ptrElem : Value → Option (DataW Nat × List MemPlace)
  | .pointer none => some (.nil, [])
  | .pointer (some ⟨e, 0, none⟩) => some (.held e, [])
  | _ => none
theorem ptrElem_inv {v : Value} {e : Nat} {ps : List MemPlace} (h : ptrElem v = some (.held e, ps)) : v = .pointer (some ⟨e, 0, none⟩) := by
  unfold ptrElem at h
  split at h
  · cases h
  · cases h; rfl
  · cases h
theorem ptrElem_nil {v : Value} {ps : List MemPlace} (h : ptrElem v = some (.nil, ps)) : v = .pointer none := by
  unfold ptrElem at h
  split at h
  · rfl
  · cases h
  · cases h
/-- the map of the entries es: by their blocks -/
structure BM (D : DataW Nat) (es : List Nat) (f : Nat → En) : Prop where
  tidy : Maps.Tidy D
  size : Maps.size D = es.length
  hit : ∀ e ∈ es, Maps.has D (.int .i64 (f e).at_) = true ∧ ∀ z, D.atKey (.int .i64 (f e).at_) z = .held e
  miss : ∀ x : Int, (∀ e ∈ es, (f e).at_ ≠ x) → Maps.has D (.int .i64 x) = false
theorem BM.uniq {D : DataW Nat} {es : List Nat} {f : Nat → En} (h : BM D es f) {e e' : Nat} (he : e ∈ es) (he' : e' ∈ es) (ha : (f e).at_ = (f e').at_) : e = e' := by
  have h1 := (h.hit e he).2 .nil
  rw [ha, (h.hit e' he').2 .nil] at h1
  cases h1
  rfl
theorem BM.congr {D : DataW Nat} {es es' : List Nat} {f f' : Nat → En} (h : BM D es f) (hm : ∀ e, e ∈ es' ↔ e ∈ es) (hl : es'.length = es.length) (hf : ∀ e ∈ es, (f' e).at_ = (f e).at_) : BM D es' f' :=
  ⟨h.tidy, by rw [hl]; exact h.size, fun e he => by rw [hf e ((hm e).1 he)]; exact h.hit e ((hm e).1 he), fun x hx => h.miss x (fun e he => by rw [← hf e he]; exact hx e ((hm e).2 he))⟩
theorem BM.put {D : DataW Nat} {es : List Nat} {f : Nat → En} (h : BM D es f) {e : Nat} (hn : ∀ e' ∈ es, (f e').at_ ≠ (f e).at_) : BM (D.put (.int .i64 (f e).at_) (.held e)) (es ++ [e]) f := by
  have hk : WideAt.IsKeyLit (.int .i64 (f e).at_) := trivial
  have h0 := h.miss (f e).at_ hn
  refine ⟨h.tidy.put hk _, by rw [Maps.size_put h.tidy, h0]; simp [h.size], fun e' he' => ?_, fun x hx => ?_⟩
  · rcases List.mem_append.1 he' with he' | he'
    · have hne : (Lit.int .i64 (f e').at_) ≠ .int .i64 (f e).at_ := fun q => hn e' he' (by injection q)
      exact ⟨by rw [Maps.has_put_other hne]; exact (h.hit e' he').1, fun z => by rw [Maps.atKey_put_other hne]; exact (h.hit e' he').2 z⟩
    · simp at he'
      subst he'
      exact ⟨Maps.has_put_same h.tidy.isMap hk _, fun z => Maps.atKey_put_same h.tidy.isMap hk _ z⟩
  · have hne : (Lit.int .i64 x) ≠ .int .i64 (f e).at_ := fun q => hx e (by simp) (by injection q with _ q; exact q.symm)
    rw [Maps.has_put_other hne]
    exact h.miss x (fun e' he' => hx e' (by simp [he']))
theorem BM.del {D : DataW Nat} {e : Nat} {B : List Nat} {f : Nat → En} (h : BM D (e :: B) f) (hn : e ∉ B) : BM (D.del (.int .i64 (f e).at_)) B f := by
  have he := (h.hit e (by simp)).1
  have hs := Maps.size_del (k := .int .i64 (f e).at_) h.tidy
  rw [he, h.size] at hs
  have hat : ∀ e' ∈ B, (f e').at_ ≠ (f e).at_ := fun e' he' ha => hn (by rw [← h.uniq (by simp [he'] : e' ∈ e :: B) (by simp) ha]; exact he')
  refine ⟨h.tidy.del _, by simp at hs; omega, fun e' he' => ?_, fun x hx => ?_⟩
  · have hne : (Lit.int .i64 (f e').at_) ≠ .int .i64 (f e).at_ := fun q => hat e' he' (by injection q)
    exact ⟨by rw [Maps.has_del_other hne]; exact (h.hit e' (by simp [he'])).1, fun z => by rw [Maps.atKey_del_other hne]; exact (h.hit e' (by simp [he'])).2 z⟩
  · by_cases hxe : x = (f e).at_
    · rw [hxe]; exact Maps.has_del_same
    · have hne : (Lit.int .i64 x) ≠ .int .i64 (f e).at_ := fun q => hxe (by injection q)
      rw [Maps.has_del_other hne]
      exact h.miss x (fun e' he' => by
        rcases List.mem_cons.1 he' with q | q
        · rw [q]; exact fun q => hxe q.symm
        · exact hx e' q)
theorem BM.nil (f : Nat → En) : BM (.map []) [] f := ⟨Maps.tidy_empty, rfl, (fun e he => by cases he), fun _ _ => rfl⟩

end Go.Proofs.Ytfadnmdmohabmaa

/-
  Package cache: its state; letGo.
-/
namespace Go.Proofs.Ytfadnmdmohabmaa
open Go.RowKit Go.ChangeMaps

theorem turned_but {w w' : World} {b : Nat} (h : w.mapTurned w' b) : But (fun x => x = b) w w' := by
  obtain ⟨es, ck, es', ck', _, rfl⟩ := h
  exact ⟨rfl, rfl, rfl, by simp [setBlock], fun k _ hk => by simp [setBlock, Array.getElem?_setIfInBounds]; intro e; exact absurd e.symm hk⟩
theorem ownsMap_lt {w : World} {mp n : Nat} {D : DataW Nat} (h : w.ownsMap Try.prog 3 ptrElem mp n D) : mp < w.heap.size := by
  obtain ⟨es, ck, h1, _⟩ := h
  exact (Array.getElem?_eq_some_iff.1 h1).1
theorem ownsMap_keep {w w' : World} {mp n : Nat} {D : DataW Nat} (h : w.ownsMap Try.prog 3 ptrElem mp n D) (hk : w'.heap[mp]? = w.heap[mp]?) : w'.ownsMap Try.prog 3 ptrElem mp n D := by
  obtain ⟨es, ck, h1, h2⟩ := h
  exact ⟨es, ck, hk.trans h1, h2⟩
def Cab (w : World) (c p room : Nat) (r mp : Nat) (hi mi : Int) : Prop := w.heap[c]? = some (.cells #[.pointer (some ⟨p, 0, none⟩), .int .i64 (room : Int), .pointer (some ⟨r, 0, none⟩), .map (some mp), .int .i64 hi, .int .i64 mi] 57 (0, 0))
theorem Cab.lt {w : World} {c p room r mp : Nat} {hi mi : Int} (h : Cab w c p room r mp hi mi) : c < w.heap.size := (Array.getElem?_eq_some_iff.1 h).1
theorem Cab.cells {w : World} {c p room r mp : Nat} {hi mi : Int} (h : Cab w c p room r mp hi mi) : w.cell? ⟨c, 0, none⟩ = some (.pointer (some ⟨p, 0, none⟩)) ∧ w.cell? ⟨c, 1, none⟩ = some (.int .i64 (room : Int)) ∧ w.cell? ⟨c, 2, none⟩ = some (.pointer (some ⟨r, 0, none⟩)) ∧ w.cell? ⟨c, 3, none⟩ = some (.map (some mp)) ∧ w.cell? ⟨c, 4, none⟩ = some (.int .i64 hi) ∧ w.cell? ⟨c, 5, none⟩ = some (.int .i64 mi) := by
  unfold Cab at h
  refine ⟨?_, ?_, ?_, ?_, ?_, ?_⟩ <;> simp [World.cell?, h]
theorem Cab.frozen {w : World} {c p room r mp : Nat} {hi mi : Int} (h : Cab w c p room r mp hi mi) (t : Nat) : w.frozen? ⟨c, t, none⟩ = false := by
  unfold Cab at h
  simp [World.frozen?, h]
theorem Cab.ne_ent {w : World} {c p room r mp : Nat} {hi mi : Int} (h : Cab w c p room r mp hi mi) {x : Nat} {e : En} (hx : EnB w x e) : x ≠ c := fun q => by
  unfold Cab at h
  unfold EnB at hx
  rw [q, h] at hx
  cases hx
theorem ent_ne_map {w : World} {mp n : Nat} {D : DataW Nat} (h : w.ownsMap Try.prog 3 ptrElem mp n D) {x : Nat} {e : En} (hx : EnB w x e) : x ≠ mp := fun q => by
  obtain ⟨es, ck, h1, _⟩ := h
  unfold EnB at hx
  rw [q, h1] at hx
  cases hx
theorem Cab.ne_map {w : World} {c p room r mp mp' n : Nat} {hi mi : Int} {D : DataW Nat} (h : Cab w c p room r mp hi mi) (hm : w.ownsMap Try.prog 3 ptrElem mp' n D) : c ≠ mp' := fun q => by
  obtain ⟨es, ck, h1, _⟩ := hm
  unfold Cab at h
  rw [q, h1] at h
  cases h
/-- the entries held, and what they hold; X: where all of it lies -/
structure Ca (X : Nat → Prop) (w : World) (c p room r mp n : Nat) (hi mi : Int) (es : List Nat) (f : Nat → En) (Z : Nat → List Int) : Prop where
  blk : Cab w c p room r mp hi mi
  ens : Ens w (fun x => x ∈ r :: es) f
  ring : Rg f r es
  map : ∃ D, w.ownsMap Try.prog 3 ptrElem mp n D ∧ BM D es f
  dat : ∀ e ∈ es, ∃ g cap, (f e).dv = .slice (some ⟨g, 0, none⟩) 512 cap ∧ Own w g 512 cap (Z e) ∧ Pl.isB (Z e) ∧ X g
  xc : X c
  xm : X mp
  xe : ∀ x ∈ r :: es, X x

set_option maxRecDepth 100000 in
set_option maxHeartbeats 2000000 in
theorem letGo_any {w : World} {V : Nat → Prop} {c p room r mp n : Nat} {hi mi : Int} {e : Nat} {B : List Nat} {f : Nat → En} {D : DataW Nat} (hc : Cab w c p room r mp hi mi) (hE : Ens w V f) (he : V e) (hb : V (f e).bf) (ha : V (f e).af) (hm : w.ownsMap Try.prog 3 ptrElem mp n D) (hD : BM D (e :: B) f) (hn : e ∉ B) (hat : (Lit.int .i64 (f e).at_).wf = true) :
    Calls Try.prog 69 #[.pointer (some ⟨c, 0, none⟩), .pointer (some ⟨e, 0, none⟩)] w fun q w' => q = .returned (.tuple #[]) ∧ Ens w' V (unl f e) ∧ (∃ D', w'.ownsMap Try.prog 3 ptrElem mp n D' ∧ BM D' B (unl f e)) ∧ But (fun x => V x ∨ x = mp) w w' := by
  have HU := hid (unlink_any hE he hb ha)
  have hVc : ¬ V c := fun hv => hc.ne_ent (hE c hv) rfl
  have hVm : ¬ V mp := fun hv => ent_ne_map hm (hE mp hv) rfl
  have hkey : keyOf Try.prog 3 (.int .i64 (f e).at_) = some (.int .i64 (f e).at_) := Maps.keyOf_int_mk Try.underlying3 hat
  have hcl := hc.lt
  have c3 := hc.cells.2.2.2.1
  have hml := ownsMap_lt hm
  have Hm := hid (And.intro hm hD)
  clear hE hc hm hD
  go_enter Try.func69, Try.ntmps69
  go_wp2_with fail
  refine Calls.mono HU.out ?_
  rintro q w1 ⟨rfl, h1, b1⟩
  have d3 := (b1.cell (p := ⟨c, 3, none⟩) hcl hVc).trans c3
  have a0 := (h1 e he).cells.1
  rw [(unl_same f e e).1] at a0
  have hm1 := ownsMap_keep Hm.out.1 (b1.block mp hml hVm)
  obtain ⟨w2, hrun, hm2, ht2⟩ := World.ownsMap.drop (w := w1.drew) (ownsMap_keep (w' := w1.drew) hm1 rfl) law3 Try.underlying55 hkey 0
  have b2 := turned_but ht2
  have hVx : ∀ x, V x → w2.heap[x]? = w1.heap[x]? := fun x hx => b2.block x (h1 x hx).lt (fun q => hVm (by rw [← q]; exact hx))
  have FIN := hid (And.intro (fun x hx => (hVx x hx).trans (h1 x hx) : Ens w2 V (unl f e)) (And.intro (And.intro hm2 ((Hm.out.2.del hn).congr (f' := unl f e) (fun _ => Iff.rfl) rfl (fun e' _ => (unl_same f e e').1))) ((b1.mono (fun x _ q => .inl q)).step (Y := fun x => x = mp) ⟨b2.os, b2.tape, b2.output, b2.size, b2.block⟩ (fun x _ q => .inr q) : But (fun x => V x ∨ x = mp) w w2)))
  clear HU h1 b1 hm1 c3 hm2 ht2 b2 hVx Hm
  generalize (f e).at_ = x at *
  go_wp2_with fail
  go_region
  all_goals go_wp2
  all_goals
    go_end0
    exact ⟨rfl, FIN.out.1, ⟨_, FIN.out.2.1.1, FIN.out.2.1.2⟩, FIN.out.2.2⟩

end Go.Proofs.Ytfadnmdmohabmaa
