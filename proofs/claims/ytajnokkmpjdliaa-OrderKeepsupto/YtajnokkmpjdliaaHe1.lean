/-
  The heap's Swap.
-/
import Derived.Test.YtajnokkmpjdliaaHe0
namespace Go.Proofs.Ytajnokkmpjdliaa
open Go.RowKit


set_option maxRecDepth 100000 in
set_option maxHeartbeats 1000000 in
theorem Swap_any (g n c i j : Nat) (x y : Int) (hi : i < n) (hj : j < n) (w : World) (h1 : w.cell? ⟨g, i, none⟩ = some (.int .i64 x)) (h2 : w.cell? ⟨g, j, none⟩ = some (.int .i64 y)) (f1 : w.frozen? ⟨g, i, none⟩ = false)
    (h3 : (w.setCell ⟨g, i, none⟩ (.int .i64 y)).cell? ⟨g, j, none⟩ = some (.int .i64 y)) (f3 : (w.setCell ⟨g, i, none⟩ (.int .i64 y)).frozen? ⟨g, j, none⟩ = false) :
    Calls Try.prog 62 #[.slice (some ⟨g, 0, none⟩) n c, .int .i64 (i : Int), .int .i64 (j : Int)] w fun e w' => e = .returned (.tuple #[]) ∧ w' = ((w.setCell ⟨g, i, none⟩ (.int .i64 y)).setCell ⟨g, j, none⟩ (.int .i64 x)).drew := by
  have q1 : (i : Int) < (n : Int) := by omega
  have q2 : (j : Int) < (n : Int) := by omega
  go_enter Try.func62, Try.ntmps62
  go_wp2_with fail
  go_region
  all_goals go_end0
  all_goals exact ⟨rfl, rfl⟩

theorem getD_list (l : List Int) (g : Nat) (w : World) {B c : Nat} (h : w.ownsRow B 3 1 (.slice (some ⟨g, 0, none⟩) l.length c) l.length (l.map (Value.int .i64))) (k : Nat) (hk : k < l.length) : w.cell? ⟨g, k, none⟩ = some (.int .i64 (gt l k)) := by
  have := World.ownsRow.cells h (g := g) rfl k (.int .i64 (gt l k)) (by rw [List.getElem?_map, List.getElem?_eq_getElem hk, gt_of l hk]; rfl)
  rwa [Addr.add_lit, Nat.zero_add] at this
theorem own_frozen {B : Nat} {g n c : Nat} {w : World} {xs : List Value} (h : w.ownsRow B 3 1 (.slice (some ⟨g, 0, none⟩) n c) n xs) (i : Nat) : w.frozen? ⟨g, i, none⟩ = false := by
  obtain ⟨_, _, cur, hh⟩ := own_blk h (g := g) rfl
  simp [World.frozen?, hh]

/-- Swap of two places of the heap's row -/
theorem Swap_hp (B g c i j : Nat) (l : List Int) (hi : i < l.length) (hj : j < l.length) (Lb : Nat) (w : World) (h : Hp B w Lb (.slice (some ⟨g, 0, none⟩) l.length c) l) :
    Calls Try.prog 62 #[.slice (some ⟨g, 0, none⟩) l.length c, .int .i64 (i : Int), .int .i64 (j : Int)] w fun e w' => e = .returned (.tuple #[]) ∧ Hp B w' Lb (.slice (some ⟨g, 0, none⟩) l.length c) (sw l i j) ∧ But (fun k => k = g) w w' := by
  have r0 := h.row
  have r1 := row_set r0 i (gt l j)
  have r2 := row_set r1 j (gt l i)
  have l1 : (l.set i (gt l j)).length = l.length := List.length_set ..
  have hne : Lb ≠ g := fun e => by
    obtain ⟨_, _, cur, hh⟩ := own_blk r0 (g := g) rfl
    rw [← e, h.box] at hh
    simp at hh
  have h3 : (w.setCell ⟨g, i, none⟩ (.int .i64 (gt l j))).cell? ⟨g, j, none⟩ = some (.int .i64 (gt l j)) := by
    have := getD_list (l.set i (gt l j)) g _ (B := B) (c := c) (by rw [l1]; exact r1) j (by rw [l1]; exact hj)
    rw [this]
    congr 2
    unfold gt
    simp only [List.getD_eq_getElem?_getD, List.getElem?_set]
    by_cases e : i = j
    · subst e; simp [hi]
    · simp [e]
  refine (Swap_any g l.length c i j (gt l i) (gt l j) hi hj w (getD_list l g w r0 i hi) (getD_list l g w r0 j hj) (own_frozen r0 i) h3 (own_frozen r1 j)).mono ?_
  rintro e w' ⟨rfl, rfl⟩
  have hb : But (fun k => k = g) w ((w.setCell ⟨g, i, none⟩ (.int .i64 (gt l j))).setCell ⟨g, j, none⟩ (.int .i64 (gt l i))).drew := (((But.refl (fun k => k = g) w).setCell (p := ⟨g, i, none⟩) rfl _).setCell (p := ⟨g, j, none⟩) rfl _).drew
  refine ⟨rfl, ⟨(hb.block _ h.lt hne).trans h.box, ?_⟩, hb⟩
  rw [sw_len]
  exact r2
end Go.Proofs.Ytajnokkmpjdliaa
