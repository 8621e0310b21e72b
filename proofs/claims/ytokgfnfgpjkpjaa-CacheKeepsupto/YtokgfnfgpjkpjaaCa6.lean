/-
  Package cache: holdNothing, Forget, Counts.
-/
import Derived.Test.YtokgfnfgpjkpjaaCa5
namespace Go.Proofs.Ytokgfnfgpjkpjaa
open Go.RowKit Go.ChangeMaps

def Cg (w : World) (c p room : Nat) (v2 v3 : Value) (hi mi : Int) : Prop := w.heap[c]? = some (.cells #[.pointer (some ⟨p, 0, none⟩), .int .i64 (room : Int), v2, v3, .int .i64 hi, .int .i64 mi] 48 (0, 0))
theorem Cg.lt {w : World} {c p room : Nat} {v2 v3 : Value} {hi mi : Int} (h : Cg w c p room v2 v3 hi mi) : c < w.heap.size := (Array.getElem?_eq_some_iff.1 h).1
theorem Cg.cell {w : World} {c p room : Nat} {v2 v3 : Value} {hi mi : Int} (h : Cg w c p room v2 v3 hi mi) (t : Nat) : w.cell? ⟨c, t, none⟩ = #[Value.pointer (some ⟨p, 0, none⟩), .int .i64 (room : Int), v2, v3, .int .i64 hi, .int .i64 mi][t]? := by
  unfold Cg at h
  simp [World.cell?, h]
theorem Cg.frozen {w : World} {c p room : Nat} {v2 v3 : Value} {hi mi : Int} (h : Cg w c p room v2 v3 hi mi) (t : Nat) : w.frozen? ⟨c, t, none⟩ = false := by
  unfold Cg at h
  simp [World.frozen?, h]
theorem Cg.set {w : World} {c p room : Nat} {v2 v3 : Value} {hi mi : Int} (h : Cg w c p room v2 v3 hi mi) (t : Nat) (v : Value) : (w.setCell ⟨c, t, none⟩ v).heap[c]? = some (.cells (#[.pointer (some ⟨p, 0, none⟩), .int .i64 (room : Int), v2, v3, .int .i64 hi, .int .i64 mi].setIfInBounds t v) 48 (0, 0)) := by
  unfold Cg at h
  simp only [World.setCell, Array.getElem?_modify]
  rw [h]
  simp
theorem ownsMap_new (w : World) : (w.alloc (.map #[] 0)).ownsMap Try.prog 3 ptrElem w.heap.size 0 (.map [] : DataW Nat) := World.ownsMap_made w Try.prog 3 ptrElem
set_option maxRecDepth 100000 in
set_option maxHeartbeats 1000000 in
theorem holdNothing_any {w : World} {c p room : Nat} {v2 v3 : Value} {hi mi : Int} (h : Cg w c p room v2 v3 hi mi) (hr : 1 ≤ room) (hr2 : room < 4611686018427387904) :
    Calls Try.prog 34 #[.pointer (some ⟨c, 0, none⟩)] w fun q w' => q = .returned (.tuple #[]) ∧ Cst (fun k => k = c ∨ w.heap.size ≤ k) w' c p room hi mi [] ∧ But (fun k => k = c) w w' := by
  have HA := hid (alone_any 0 w)
  have hcl := h.lt
  go_enter Try.func34, Try.ntmps34
  go_wp2_with fail
  refine Calls.mono HA.out ?_
  rintro q w1 ⟨rfl, e1, b1, s1⟩
  have g1 : Cg w1 c p room v2 v3 hi mi := (b1.block c hcl).trans h
  have c2 : w1.cell? ⟨c, 2, none⟩ = some v2 := g1.cell 2
  have f2 := g1.frozen 2
  have g2 : Cg (w1.setCell ⟨c, 2, none⟩ (.pointer (some ⟨w.heap.size, 0, none⟩))) c p room (.pointer (some ⟨w.heap.size, 0, none⟩)) v3 hi mi := by simpa [Cg] using g1.set 2 (.pointer (some ⟨w.heap.size, 0, none⟩))
  obtain ⟨w2, hw2⟩ : ∃ w2, w2 = w1.setCell ⟨c, 2, none⟩ (.pointer (some ⟨w.heap.size, 0, none⟩)) := ⟨_, rfl⟩
  rw [← hw2] at g2
  have b2 : But (fun k => k = c) w1 w2 := by rw [hw2]; exact (But.refl (fun y => y = c) w1).setCell (p := ⟨c, 2, none⟩) (show (fun y => y = c) c from rfl) _
  have z2 : w2.heap.size = w1.heap.size := by rw [hw2]; simp [World.setCell]
  obtain ⟨w3, hw3⟩ : ∃ w3, w3 = w2.setCell ⟨c, 3, none⟩ (.map (some (w.heap.size + 1))) := ⟨_, rfl⟩
  have g3 : Cab w3 c p room w.heap.size (w.heap.size + 1) hi mi := by rw [hw3]; simpa [Cab] using g2.set 3 (.map (some (w.heap.size + 1)))
  have b3 : But (fun k => k = c) w2 w3 := by rw [hw3]; exact (But.refl (fun y => y = c) w2).setCell (p := ⟨c, 3, none⟩) (show (fun y => y = c) c from rfl) _
  have z3 : w3.heap.size = w.heap.size + 1 := by rw [hw3]; simp [World.setCell]; omega
  obtain ⟨w4, hw4⟩ : ∃ w4, w4 = w3.alloc (.map #[] 0) := ⟨_, rfl⟩
  have m4 : w4.ownsMap Try.prog 3 ptrElem (w.heap.size + 1) 0 (.map [] : DataW Nat) := by rw [hw4, ← z3]; exact ownsMap_new w3
  have b4 : Below w3.heap.size w3 w4 := by rw [hw4]; exact (Below.refl _ _).alloc (Nat.le_refl _) _
  have g4 : Cab w4 c p room w.heap.size (w.heap.size + 1) hi mi := (b4.block c (by omega)).trans g3
  have e4 : EnB w4 w.heap.size ⟨0, .slice none 0 0, w.heap.size, w.heap.size⟩ := (b4.block w.heap.size (by omega)).trans ((b3.block w.heap.size (by omega) (by omega)).trans ((b2.block w.heap.size (by omega) (by omega)).trans e1))
  have FIN : Hid (Cst (fun k => k = c ∨ w.heap.size ≤ k) w4 c p room hi mi [] ∧ But (fun k => k = c) w w4) := by
    refine ⟨⟨w.heap.size, w.heap.size + 1, 0, [], fun _ => ⟨0, .slice none 0 0, w.heap.size, w.heap.size⟩, fun _ => [], ⟨g4, ?_, ⟨by simp, rfl, rfl, trivial⟩, ⟨.map [], m4, BM.nil _⟩, ?_, .inl rfl, .inr (by omega), ?_⟩, rfl, by simp, hr, hr2, ?_⟩, ((But.of_below b1).trans b2).trans (b3.trans (But.of_below b4))⟩
    · intro x hx
      simp at hx
      rw [hx]
      exact e4
    · intro e he
      cases he
    · intro x hx
      simp at hx
      exact .inr (by omega)
    · intro e he
      cases he
  have c3 : w2.cell? ⟨c, 3, none⟩ = some v3 := g2.cell 3
  have f3 := g2.frozen 3
  have hmm := @run_makeMap Try.prog
  rw [hw2] at c3 f3
  clear g1 g2 g3 g4 b1 b2 b3 b4 e1 e4 m4 z2 z3 HA h
  go_wp2
  go_end0
  rw [← hw2, ← hw3, ← hw4]
  exact ⟨rfl, FIN.out.1, FIN.out.2⟩

end Go.Proofs.Ytokgfnfgpjkpjaa
