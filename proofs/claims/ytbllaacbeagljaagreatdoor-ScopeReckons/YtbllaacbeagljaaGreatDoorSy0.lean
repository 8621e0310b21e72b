/-
  syntax: roles, kids; in plain words and by their contracts.
-/
import Derived.Test.YtbllaacbeagljaaGreatDoorSc3
import Derived.Deep.Light
namespace Go.Proofs.YtbllaacbeagljaaGreatDoor
open Go.RowKit

/-- a block whose cells are known whole -/
def Cs (w : World) (b : Nat) (t : TypeId) (cs : Array Value) : Prop := w.heap[b]? = some (.cells cs t (0, 0))
theorem Cs.lt {w : World} {b : Nat} {t : TypeId} {cs : Array Value} (h : Cs w b t cs) : b < w.heap.size := (Array.getElem?_eq_some_iff.1 h).1
theorem Cs.cell {w : World} {b : Nat} {t : TypeId} {cs : Array Value} (h : Cs w b t cs) (i : Nat) (v : Value) (hv : cs[i]? = some v) : w.cell? ⟨b, i, none⟩ = some v := by unfold Cs at h; simp [World.cell?, h, hv]
theorem Cs.fz {w : World} {b : Nat} {t : TypeId} {cs : Array Value} (h : Cs w b t cs) (i : Nat) : w.frozen? ⟨b, i, none⟩ = false := by unfold Cs at h; simp [World.frozen?, h]
theorem Cs.keep {w w' : World} {b : Nat} {t : TypeId} {cs : Array Value} (h : Cs w b t cs) (hw : w'.heap[b]? = w.heap[b]?) : Cs w' b t cs := by unfold Cs at *; rw [hw]; exact h
theorem Cs.next {w w' : World} {b : Nat} {t : TypeId} {cs : Array Value} (h : Cs w b t cs) (hb : Below w.heap.size w w') : Cs w' b t cs := h.keep (hb.block b h.lt)
theorem Cs.but {X : Nat → Prop} {w w' : World} {b : Nat} {t : TypeId} {cs : Array Value} (h : Cs w b t cs) (hb : But X w w') (hx : ¬ X b) : Cs w' b t cs := h.keep (hb.block b h.lt hx)
theorem Cs.new (w : World) (t : TypeId) (cs : Array Value) : Cs (w.alloc (.cells cs t)) w.heap.size t cs := heap_new _ _
theorem Cs.set {w : World} {b : Nat} {t : TypeId} {cs cs' : Array Value} (h : Cs w b t cs) (i : Nat) (x : Value) (hx : cs.setIfInBounds i x = cs') : Cs (w.setCell ⟨b, i, none⟩ x) b t cs' := by
  unfold Cs at *
  simp only [World.setCell, Array.getElem?_modify]
  rw [h, ← hx]
  simp

theorem ret_int {k : IntKind} {a b : Int} (h : a = b) : Ending.returned (.int k a) = .returned (.int k b) := by rw [h]
theorem ret_bool {a b : Bool} (h : a = b) : Ending.returned (.bool a) = .returned (.bool b) := by rw [h]

/-- what a node of a kind is -/
def roleZ (k : Int) : Int := if k = 1 then 1 else if 2 ≤ k ∧ k ≤ 10 then 2 else if k = 11 then 3 else if k = 12 then 4 else if k = 13 then 5 else if 20 ≤ k ∧ k ≤ 30 then 6 else if 31 ≤ k ∧ k ≤ 36 then 7 else 0
set_option maxRecDepth 100000 in
set_option maxHeartbeats 4000000 in
theorem roleOf_any (k : Int) (w : World) : Calls Tryz.prog 121 #[.int .i64 k] w fun e w' => e = .returned (.int .i64 (roleZ k)) ∧ w' = w := by
  obtain ⟨r, hr⟩ : ∃ r, r = roleZ k := ⟨_, rfl⟩
  rw [← hr]
  have H := hid hr
  clear hr
  go_enter Tryz.func121, Tryz.ntmps121
  go_wp2
  all_goals
    go_ret
    go_light
    refine ⟨ret_int ?_, rfl⟩
    simp only [beq_iff_eq, beq_eq_false_iff_ne, ne_eq] at *
    rw [H.out]
    unfold roleZ
    (repeat' split) <;> omega

/-- the role of an operator's operands, 0: none has this kind -/
def opndZ (k : Int) : Int := if k = 35 ∨ k = 36 then 7 else if k = 31 ∨ k = 32 ∨ (22 ≤ k ∧ k ≤ 26) then 6 else 0
/-- the table of operators -/
def opsA : Array Value := #[.int .i64 0, .string ⟨#[111, 114]⟩, .int .i64 36, .int .i64 1, .string ⟨#[97, 110, 100]⟩, .int .i64 35, .int .i64 3, .string ⟨#[60]⟩, .int .i64 31, .int .i64 3, .string ⟨#[61]⟩, .int .i64 32, .int .i64 4, .string ⟨#[43]⟩, .int .i64 22, .int .i64 4, .string ⟨#[45]⟩, .int .i64 23, .int .i64 5, .string ⟨#[42]⟩, .int .i64 24, .int .i64 5, .string ⟨#[47]⟩, .int .i64 25, .int .i64 5, .string ⟨#[37]⟩, .int .i64 26]
/-- the table stands -/
def GA (w : World) : Prop := ∃ t fz, w.heap[0]? = some (.cells opsA t fz)
theorem GA.lt {w : World} (h : GA w) : 0 < w.heap.size := by obtain ⟨t, fz, h⟩ := h; exact (Array.getElem?_eq_some_iff.1 h).1
theorem GA.but {X : Nat → Prop} {w w' : World} (h : GA w) (hb : But X w w') (hx : ¬ X 0) : GA w' := by
  have := h.lt
  obtain ⟨t, fz, h⟩ := h
  exact ⟨t, fz, (hb.block 0 this hx).trans h⟩
theorem GA.next {w w' : World} (h : GA w) (hb : Below w.heap.size w w') : GA w' := h.but (But.of_below (X := fun _ => False) hb) (fun h => h)
theorem GA.cells {w : World} (h : GA w) (i : Nat) (v : Value) (hv : opsA[i]? = some v) : w.cell? ⟨0, i, none⟩ = some v := by
  obtain ⟨t, fz, h⟩ := h
  simp [World.cell?, h, hv]
/-- the kind of the operator of a number -/
def okZ (j : Nat) : Int := if j = 0 then 36 else if j = 1 then 35 else if j = 2 then 31 else if j = 3 then 32 else if j = 4 then 22 else if j = 5 then 23 else if j = 6 then 24 else if j = 7 then 25 else 26
/-- the rule of the operator that makes a kind -/
def opZ (k : Int) : Option Int := if k = 36 then some 0 else if k = 35 then some 1 else if k = 31 ∨ k = 32 then some 3 else if k = 22 ∨ k = 23 then some 4 else if k = 24 ∨ k = 25 ∨ k = 26 then some 5 else none
def OpQ (k : Int) (w : World) (e : Ending) (w' : World) : Prop := (∃ r s, opZ k = some r ∧ e = .returned (.tuple #[.agg #[.int .i64 r, .string s, .int .i64 k], .bool true]) ∨ opZ k = none ∧ e = .returned (.tuple #[.agg #[.int .i64 0, .string ⟨#[]⟩, .int .i64 0], .bool false])) ∧ Below w.heap.size w w'
set_option maxRecDepth 100000 in
theorem operands_any (r : Int) (w : World) : Calls Tryz.prog 132 #[.int .i64 r] w fun e w' => e = .returned (.int .i64 (if r < 3 then 7 else 6)) ∧ w' = w := by
  by_cases h : r < 3
  · rw [if_pos h]
    go_enter Tryz.func132, Tryz.ntmps132
    go_wp2
    go_ret
    exact ⟨rfl, rfl⟩
  · rw [if_neg h]
    go_enter Tryz.func132, Tryz.ntmps132
    go_wp2
    go_ret
    exact ⟨rfl, rfl⟩

end Go.Proofs.YtbllaacbeagljaaGreatDoor
