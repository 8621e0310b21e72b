/-
  Package cache: its state; letGo.
-/
import Derived.Test.YtokgfnfgpjkpjaaCa0
namespace Go.Proofs.Ytokgfnfgpjkpjaa
open Go.RowKit Go.ChangeMaps

theorem turned_but {w w' : World} {b : Nat} (h : w.mapTurned w' b) : But (fun x => x = b) w w' := by
  obtain ⟨es, ck, es', ck', _, rfl⟩ := h
  exact ⟨rfl, rfl, rfl, by simp [setBlock], fun k _ hk => by simp [setBlock, Array.getElem?_setIfInBounds]; intro e; exact absurd e.symm hk⟩
theorem ownsMap_lt {w : World} {mp n : Nat} {D : DataW Nat} (h : w.ownsMap Try.prog 3 ptrElem mp n D) : mp < w.heap.size := by
  obtain ⟨es, ck, h1, _⟩ := h
  exact (Array.getElem?_eq_some_iff.1 h1).1
theorem ownsMap_keep {w w' : World} {mp n : Nat} {D : DataW Nat} (h : w.ownsMap Try.prog 3 ptrElem mp n D) (hk : w'.heap[mp]? = w.heap[mp]?) : w'.ownsMap Try.prog 3 ptrElem mp n D := by
  obtain ⟨es, ck, h1, h2⟩ := h
  exact ⟨es, ck, hk.trans h1, h2⟩
def Cab (w : World) (c p room : Nat) (r mp : Nat) (hi mi : Int) : Prop := w.heap[c]? = some (.cells #[.pointer (some ⟨p, 0, none⟩), .int .i64 (room : Int), .pointer (some ⟨r, 0, none⟩), .map (some mp), .int .i64 hi, .int .i64 mi] 48 (0, 0))
theorem Cab.lt {w : World} {c p room r mp : Nat} {hi mi : Int} (h : Cab w c p room r mp hi mi) : c < w.heap.size := (Array.getElem?_eq_some_iff.1 h).1
theorem Cab.cells {w : World} {c p room r mp : Nat} {hi mi : Int} (h : Cab w c p room r mp hi mi) : w.cell? ⟨c, 0, none⟩ = some (.pointer (some ⟨p, 0, none⟩)) ∧ w.cell? ⟨c, 1, none⟩ = some (.int .i64 (room : Int)) ∧ w.cell? ⟨c, 2, none⟩ = some (.pointer (some ⟨r, 0, none⟩)) ∧ w.cell? ⟨c, 3, none⟩ = some (.map (some mp)) ∧ w.cell? ⟨c, 4, none⟩ = some (.int .i64 hi) ∧ w.cell? ⟨c, 5, none⟩ = some (.int .i64 mi) := by
  unfold Cab at h
  refine ⟨?_, ?_, ?_, ?_, ?_, ?_⟩ <;> simp [World.cell?, h]
theorem Cab.frozen {w : World} {c p room r mp : Nat} {hi mi : Int} (h : Cab w c p room r mp hi mi) (t : Nat) : w.frozen? ⟨c, t, none⟩ = false := by
  unfold Cab at h
  simp [World.frozen?, h]
theorem Cab.ne_ent {w : World} {c p room r mp : Nat} {hi mi : Int} (h : Cab w c p room r mp hi mi) {x : Nat} {e : En} (hx : EnB w x e) : x ≠ c := fun q => by
  unfold Cab at h
  unfold EnB at hx
  rw [q, h] at hx
  cases hx
theorem ent_ne_map {w : World} {mp n : Nat} {D : DataW Nat} (h : w.ownsMap Try.prog 3 ptrElem mp n D) {x : Nat} {e : En} (hx : EnB w x e) : x ≠ mp := fun q => by
  obtain ⟨es, ck, h1, _⟩ := h
  unfold EnB at hx
  rw [q, h1] at hx
  cases hx
theorem Cab.ne_map {w : World} {c p room r mp mp' n : Nat} {hi mi : Int} {D : DataW Nat} (h : Cab w c p room r mp hi mi) (hm : w.ownsMap Try.prog 3 ptrElem mp' n D) : c ≠ mp' := fun q => by
  obtain ⟨es, ck, h1, _⟩ := hm
  unfold Cab at h
  rw [q, h1] at h
  cases h
/-- the entries held, and what they hold; X: where all of it lies -/
structure Ca (X : Nat → Prop) (w : World) (c p room r mp n : Nat) (hi mi : Int) (es : List Nat) (f : Nat → En) (Z : Nat → List Int) : Prop where
  blk : Cab w c p room r mp hi mi
  ens : Ens w (fun x => x ∈ r :: es) f
  ring : Rg f r es
  map : ∃ D, w.ownsMap Try.prog 3 ptrElem mp n D ∧ BM D es f
  dat : ∀ e ∈ es, ∃ g cap, (f e).dv = .slice (some ⟨g, 0, none⟩) 512 cap ∧ Own w g 512 cap (Z e) ∧ Pl.isB (Z e) ∧ X g
  xc : X c
  xm : X mp
  xe : ∀ x ∈ r :: es, X x

set_option maxRecDepth 100000 in
set_option maxHeartbeats 2000000 in
theorem letGo_any {w : World} {V : Nat → Prop} {c p room r mp n : Nat} {hi mi : Int} {e : Nat} {B : List Nat} {f : Nat → En} {D : DataW Nat} (hc : Cab w c p room r mp hi mi) (hE : Ens w V f) (he : V e) (hb : V (f e).bf) (ha : V (f e).af) (hm : w.ownsMap Try.prog 3 ptrElem mp n D) (hD : BM D (e :: B) f) (hn : e ∉ B) (hat : (Lit.int .i64 (f e).at_).wf = true) :
    Calls Try.prog 43 #[.pointer (some ⟨c, 0, none⟩), .pointer (some ⟨e, 0, none⟩)] w fun q w' => q = .returned (.tuple #[]) ∧ Ens w' V (unl f e) ∧ (∃ D', w'.ownsMap Try.prog 3 ptrElem mp n D' ∧ BM D' B (unl f e)) ∧ But (fun x => V x ∨ x = mp) w w' := by
  have HU := hid (unlink_any hE he hb ha)
  have hVc : ¬ V c := fun hv => hc.ne_ent (hE c hv) rfl
  have hVm : ¬ V mp := fun hv => ent_ne_map hm (hE mp hv) rfl
  have hkey : keyOf Try.prog 3 (.int .i64 (f e).at_) = some (.int .i64 (f e).at_) := Maps.keyOf_int_mk Try.underlying3 hat
  have hcl := hc.lt
  have c3 := hc.cells.2.2.2.1
  have hml := ownsMap_lt hm
  have Hm := hid (And.intro hm hD)
  clear hE hc hm hD
  go_enter Try.func43, Try.ntmps43
  go_wp2_with fail
  refine Calls.mono HU.out ?_
  rintro q w1 ⟨rfl, h1, b1⟩
  have d3 := (b1.cell (p := ⟨c, 3, none⟩) hcl hVc).trans c3
  have a0 := (h1 e he).cells.1
  rw [(unl_same f e e).1] at a0
  have hm1 := ownsMap_keep Hm.out.1 (b1.block mp hml hVm)
  obtain ⟨w2, hrun, hm2, ht2⟩ := World.ownsMap.drop (w := w1.drew) (ownsMap_keep (w' := w1.drew) hm1 rfl) law3 Try.underlying46 hkey 0
  have b2 := turned_but ht2
  have hVx : ∀ x, V x → w2.heap[x]? = w1.heap[x]? := fun x hx => b2.block x (h1 x hx).lt (fun q => hVm (by rw [← q]; exact hx))
  have FIN := hid (And.intro (fun x hx => (hVx x hx).trans (h1 x hx) : Ens w2 V (unl f e)) (And.intro (And.intro hm2 ((Hm.out.2.del hn).congr (f' := unl f e) (fun _ => Iff.rfl) rfl (fun e' _ => (unl_same f e e').1))) ((b1.mono (fun x _ q => .inl q)).step (Y := fun x => x = mp) ⟨b2.os, b2.tape, b2.output, b2.size, b2.block⟩ (fun x _ q => .inr q) : But (fun x => V x ∨ x = mp) w w2)))
  clear HU h1 b1 hm1 c3 hm2 ht2 b2 hVx Hm
  generalize (f e).at_ = x at *
  go_wp2_with fail
  go_region
  all_goals go_wp2
  all_goals
    go_end0
    exact ⟨rfl, FIN.out.1, ⟨_, FIN.out.2.1.1, FIN.out.2.1.2⟩, FIN.out.2.2⟩

end Go.Proofs.Ytokgfnfgpjkpjaa
