/-
  The heap's own methods: Len, Less, Swap.
-/
import Derived.Test.YtajnokkmpjdliaaBs0
import Derived.Test.YtajnokkmpjdliaaHp0
namespace Go.Proofs.Ytajnokkmpjdliaa
open Go.RowKit

/-- the heap's box, and its row -/
structure Hp (B : Nat) (w : World) (Lb : Nat) (v : Value) (l : List Int) : Prop where
  box : w.heap[Lb]? = some (.cells #[v] 66 (0, 0))
  row : w.ownsRow B 3 1 v l.length (l.map (Value.int .i64))
theorem Hp.lt {B : Nat} {w : World} {Lb : Nat} {v : Value} {l : List Int} (h : Hp B w Lb v l) : Lb < w.heap.size := (Array.getElem?_eq_some_iff.1 h.box).1
theorem Hp.cell {B : Nat} {w : World} {Lb : Nat} {v : Value} {l : List Int} (h : Hp B w Lb v l) : w.cell? ⟨Lb, 0, none⟩ = some v := by
  have := h.box
  simp [World.cell?, this]
theorem Hp.frozen {B : Nat} {w : World} {Lb : Nat} {v : Value} {l : List Int} (h : Hp B w Lb v l) (i : Nat) : w.frozen? ⟨Lb, i, none⟩ = false := by
  have := h.box
  simp [World.frozen?, this]
theorem Hp.next {B : Nat} {w w' : World} {Lb : Nat} {v : Value} {l : List Int} (h : Hp B w Lb v l) (hb : Below w.heap.size w w') : Hp B w' Lb v l :=
  ⟨(hb.block _ h.lt).trans h.box, own_next h.row hb⟩
theorem Hp.form {B : Nat} {w : World} {Lb : Nat} {v : Value} {l : List Int} (h : Hp B w Lb v l) : ∃ a c, v = .slice a l.length c := by
  rcases own_form h.row with ⟨rfl, hn⟩ | ⟨g, c, rfl, _⟩
  · exact ⟨none, 0, by rw [hn]⟩
  · exact ⟨_, c, rfl⟩
theorem row_cells {B : Nat} {w : World} {v : Value} {l : List Int} (h : w.ownsRow B 3 1 v l.length (l.map (Value.int .i64))) (h0 : 0 < l.length) :
    ∃ g c, v = .slice (some ⟨g, 0, none⟩) l.length c ∧ l.length ≤ c ∧ B ≤ g ∧ g < w.heap.size ∧ (∀ i, w.frozen? ⟨g, i, none⟩ = false) ∧ (∃ cur, w.heap[g]? = some (.cells cur 3 (0, 0))) ∧ ∀ k, k < l.length → w.cell? ⟨g, k, none⟩ = some (.int .i64 (gt l k)) := by
  have h2 := h
  rcases h.2 with ⟨rfl, hn⟩ | ⟨g, cap, cur, rfl, hb, hh, hc, _⟩
  · omega
  · refine ⟨g, cap, rfl, hc, hb, (Array.getElem?_eq_some_iff.1 hh).1, fun i => by simp [World.frozen?, hh], ⟨cur, hh⟩, fun k hk => ?_⟩
    have := World.ownsRow.cells h2 (g := g) rfl k (.int .i64 (gt l k)) (by rw [List.getElem?_map, List.getElem?_eq_getElem hk, gt_of l hk]; rfl)
    rwa [Addr.add_lit, Nat.zero_add] at this
theorem row_set {B : Nat} {w : World} {g n c : Nat} {l : List Int} (h : w.ownsRow B 3 1 (.slice (some ⟨g, 0, none⟩) n c) n (l.map (Value.int .i64))) (k : Nat) (x : Int) :
    (w.setCell ⟨g, k, none⟩ (.int .i64 x)).ownsRow B 3 1 (.slice (some ⟨g, 0, none⟩) n c) n ((l.set k x).map (Value.int .i64)) := by
  obtain ⟨h1, h2⟩ := h
  refine ⟨by simpa using h1, ?_⟩
  rcases h2 with ⟨h2, _⟩ | ⟨g', cap, cur, e, hb, hh, hc, hz, hs, ht⟩
  · cases h2
  · simp at e
    obtain ⟨rfl, rfl⟩ := e
    refine .inr ⟨g, c, cur.set! k (.int .i64 x), rfl, hb, ?_, hc, hz, by simpa using hs, ?_⟩
    · simp only [World.setCell, Array.getElem?_modify]
      rw [hh]
      simp
    · have : (cur.toList.take n).set k (.int .i64 x) = ((l.set k x).map (Value.int .i64)) := by
        rw [show cur.toList.take n = l.map (Value.int .i64) by simpa using ht, List.map_set]
      rw [← this]
      simp [List.take_set]

set_option maxRecDepth 100000 in
set_option maxHeartbeats 400000 in
theorem Len_any (a : Option Addr) (n c : Nat) (w : World) : Calls Try.prog 33 #[.slice a n c] w fun e w' => e = .returned (.int .i64 (n : Int)) ∧ w' = w := by
  go_enter Try.func33, Try.ntmps33
  go_wp2
  go_ret
  exact ⟨rfl, rfl⟩

set_option maxRecDepth 100000 in
set_option maxHeartbeats 400000 in
theorem Less_any (g n c i j : Nat) (l : List Int) (hi : i < n) (hj : j < n) (w : World) (h : ∀ k, k < n → w.cell? ⟨g, k, none⟩ = some (.int .i64 (gt l k))) :
    Calls Try.prog 59 #[.slice (some ⟨g, 0, none⟩) n c, .int .i64 (i : Int), .int .i64 (j : Int)] w fun e w' => e = .returned (.bool (decide (gt l i < gt l j))) ∧ Below w.heap.size w w' := by
  have h1 := h i hi
  have h2 := h j hj
  have q1 : (i : Int) < (n : Int) := by omega
  have q2 : (j : Int) < (n : Int) := by omega
  have HB : Hid (∀ q, Below w.heap.size w (w.drewN q)) := fun q => below_drewN _ _ q
  clear h
  generalize gt l i = x at *
  generalize gt l j = y at *
  go_enter Try.func59, Try.ntmps59
  go_wp2_with fail
  go_quiet (fail)
  all_goals go_wp2
  all_goals
    go_ret
    exact ⟨rfl, HB.out _⟩
end Go.Proofs.Ytajnokkmpjdliaa
