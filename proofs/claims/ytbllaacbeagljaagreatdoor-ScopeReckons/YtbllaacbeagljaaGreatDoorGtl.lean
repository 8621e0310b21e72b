import Derived.Test.YtbllaacbeagljaaGreatDoorSy0
import Derived.Test.YtbllaacbeagljaaGreatDoorRows
import Derived.OpenShut
import Derived.ChangeArms
import Derived.Lib.LaidTab
import Derived.LaidSub
import Derived.Shelf.Vars
import Derived.Deep.Strs
import Derived.Test.YtbllaacbeagljaaGreatDoorCards
import Derived.Test.YtbllaacbeagljaaGreatDoorTie
import Derived.WalkKit
import Derived.ProofKit
import Derived.Deep.DeepHandedRow
/-
  The table of the operators, out of the rows' list.
-/
namespace Go.Proofs.YtbllaacbeagljaaGreatDoor
open Go.RowKit

theorem laid_at {P : Program} {w : World} : ∀ {l : List (String × DataW Unit)} {ps : List MemPlace} (_ : DataW.LaidVars P w l ps) (i : Nat) (n : String) (d : DataW Unit), l[i]? = some (n, d) → ∃ g t cs fuel p, P.globalNamed n = some g ∧ (P.globals[g]?).map (·.type) = some t ∧ w.var? P n = some cs ∧ DataW.trod (fun _ => ()) P w 0 (fun _ => true) false fuel t cs.toList = some (d, p)
  | [], _, _, i, n, d, h => by simp at h
  | (m, e) :: r, ps, hv, i, n, d, h => by
    obtain ⟨g, t, cs, fuel, p, q, h1, h2, h3, h4, h5, _⟩ := hv
    cases i with
    | zero =>
      simp at h
      obtain ⟨rfl, rfl⟩ := h
      exact ⟨g, t, cs, fuel, p, h1, h2, h3, h4⟩
    | succ i => exact laid_at h5 i n d (by simpa using h)
theorem var_at {P : Program} {w : World} {n : String} {cs : Array Value} {g : Nat} (hg : P.globalNamed n = some g) (h : w.var? P n = some cs) : ∃ t fz, w.heap[g]? = some (.cells cs t fz) := by
  simp only [World.var?, hg, Option.bind_some] at h
  split at h
  · rename_i c t fz he
    simp at h
    subst h
    exact ⟨t, fz, he⟩
  · cases h
/-- the rows of the table -/
def opL : List (Value × Value × Value) := (List.range 9).map fun i => (opsA.getD (3 * i) undef, opsA.getD (3 * i + 1) undef, opsA.getD (3 * i + 2) undef)
def litOf : Value → DataW Unit
  | .int k z => .lit (.int k z)
  | .string s => .lit (.string s.data.toList)
  | _ => .nil
theorem opL_eq : (Rows.laid_cistern_syntax_allOperators : DataW Unit) = .agg (opL.map fun r => .agg [litOf r.1, litOf r.2.1, litOf r.2.2]) := by kernel_rfl
theorem co232 : Tryz.prog.cellsOf 232 = 27 := by kernel_rfl
theorem co220 : Tryz.prog.cellsOf 220 = 3 := by kernel_rfl
theorem co218 : Tryz.prog.cellsOf 218 = 1 := by kernel_rfl
theorem co9 : Tryz.prog.cellsOf 9 = 1 := by kernel_rfl
theorem co3 : Tryz.prog.cellsOf 3 = 1 := by kernel_rfl
theorem un218 : Tryz.prog.underlying 218 = some (.int .i64) := by kernel_rfl
theorem lit_int {n : Int} {v : Value} (h : (.lit (.int .i64 n) : DataW Unit) = litOf v) : v = .int .i64 n := by
  cases v <;> simp [litOf] at h
  obtain ⟨rfl, rfl⟩ := h
  rfl
theorem lit_str {s : ByteArray} {v : Value} (h : (.lit (.string s.data.toList) : DataW Unit) = litOf v) : v = .string s := by
  cases v <;> simp [litOf] at h
  rename_i u
  have : s = u := by
    cases s; cases u
    simp at h
    rw [h]
  rw [this]
theorem cells_ops {w : World} {fuel : Nat} {cs : List Value} {p : List MemPlace} (h : DataW.trod (fun _ => ()) Tryz.prog w 0 (fun _ => true) false fuel 232 cs = some (Rows.laid_cistern_syntax_allOperators, p)) : cs.length = 27 ∧ ∀ i, i < 9 → cs[3 * i]? = opsA[3 * i]? ∧ cs[3 * i + 1]? = opsA[3 * i + 1]? ∧ cs[3 * i + 2]? = opsA[3 * i + 2]? := by
  obtain ⟨xs, m, rfl, hx, hl, hxl, hall⟩ := DataW.trod_array Tryz.underlying232 h
  rw [co232] at hl
  refine ⟨hl, fun i hi => ?_⟩
  have h1 := hall i hi
  rw [co220] at h1
  have hxs : xs.map (·.1) = opL.map fun r => (.agg [litOf r.1, litOf r.2.1, litOf r.2.2] : DataW Unit) := by
    have := congrArg Prod.fst hx
    rw [opL_eq] at this
    simpa using this.symm
  have h2 : (xs.map (·.1))[i]? = some (.agg [litOf (opsA.getD (3 * i) undef), litOf (opsA.getD (3 * i + 1) undef), litOf (opsA.getD (3 * i + 2) undef)]) := by
    rw [hxs]
    simp [opL, hi]
  obtain ⟨x, hxi⟩ : ∃ x, xs[i]? = some x := ⟨xs[i]'(by omega), by simp [hxl, hi]⟩
  simp only [List.getElem?_map, hxi, Option.map_some, Option.some.injEq] at h2
  rw [hxi] at h1
  obtain ⟨y0, y1, y2, n, rfl, hl2, t0, t1, t2⟩ := Deep.trod_struct3 Tryz.underlying220 h1
  simp only [co218, co9, co3] at t0 t1 t2
  obtain ⟨n0, e0, rfl, _⟩ := DataW.trod_int un218 t0
  obtain ⟨s1, e1, rfl, _⟩ := DataW.trod_string Tryz.underlying9 t1
  obtain ⟨n2, e2, rfl, _⟩ := DataW.trod_int Tryz.underlying3 t2
  simp only [DataW.agg.injEq, List.cons.injEq, and_true] at h2
  have g0 := lit_int h2.1
  have g1 := lit_str h2.2.1
  have g2 := lit_int h2.2.2
  have q : ∀ k, k < 27 → opsA[k]? = some (opsA.getD k undef) := fun k hk => by
    have hs : opsA.size = 27 := rfl
    simp [Array.getD, hs, hk]
  rw [q _ (by omega), q _ (by omega), q _ (by omega), g0, g1, g2]
  have f0 := congrArg (·[0]?) e0
  have f1 := congrArg (·[0]?) e1
  have f2 := congrArg (·[0]?) e2
  simp only [List.getElem?_take, List.getElem?_drop, List.getElem?_cons_zero] at f0 f1 f2
  refine ⟨?_, ?_, ?_⟩
  · simpa [Nat.mul_comm] using f0
  · simpa [Nat.mul_comm] using f1
  · simpa [Nat.mul_comm] using f2
/-- the name of the listed variable -/
def nm (i : Nat) : String := (Rows.scopeReckonsRow.laid.map (·.1)).getD i default
theorem gNm : Tryz.prog.globalNamed (nm 3) = some 0 := by kernel_rfl
set_option maxRecDepth 100000 in
theorem laid_plain : (Rows.scopeReckonsRow.laid.filter fun x => x.2.handleName?.isNone) = Rows.scopeReckonsRow.laid := by kernel_rfl
set_option maxRecDepth 100000 in
/-- WHAT THE ROWS' LIST GIVES -/
theorem ga_of {W : World} (hL : laidMetH Tryz.prog Rows.scopeReckonsRow.laid W) : GA W := by
  obtain ⟨⟨ps, hv, _⟩, _⟩ := laidMetH_iff.1 hL
  rw [laid_plain] at hv
  obtain ⟨g, t, cs, fuel, p, h1, h2, h3, h4⟩ := laid_at hv 3 (nm 3) Rows.laid_cistern_syntax_allOperators (by rfl)
  obtain rfl := Option.some.inj (gNm.symm.trans h1)
  obtain rfl := Option.some.inj ((show (Tryz.prog.globals[0]?).map (·.type) = some 232 by kernel_rfl).symm.trans h2)
  obtain ⟨t, fz, hb⟩ := var_at h1 h3
  obtain ⟨hl, hc⟩ := cells_ops h4
  have e : cs = opsA := by
    apply Array.ext_getElem?
    intro k
    have hs : opsA.size = 27 := rfl
    have hl' : cs.size = 27 := by simpa using hl
    by_cases hk : k < 27
    · obtain ⟨c0, c1, c2⟩ := hc (k / 3) (by omega)
      simp only [Array.getElem?_toList] at c0 c1 c2
      have : k = 3 * (k / 3) ∨ k = 3 * (k / 3) + 1 ∨ k = 3 * (k / 3) + 2 := by omega
      rcases this with e | e | e
      · rw [e]; exact c0
      · rw [e]; exact c1
      · rw [e]; exact c2
    · rw [Array.getElem?_eq_none (by omega), Array.getElem?_eq_none (by omega)]
  subst e
  exact ⟨t, fz, hb⟩

end Go.Proofs.YtbllaacbeagljaaGreatDoor
/-
  A world in which the listed variables hold what they must: the witness's.
-/
namespace Go.Proofs.YtbllaacbeagljaaGreatDoor.lw
open Go.ChangeShapes Go.WideShapes Go.ChangeAt Go.RowKit

theorem ownK : ownKnob Tryz.prog.godebug = none := by kernel_rfl
theorem laidOut : laidOutB Tryz.prog = true := by kernel_rfl
/-- the values of a datum, in a row -/
def vals : Nat → DataW Unit → List Value
  | _, .lit (.int k z) => [.int k z]
  | _, .lit (.string bs) => [.string ⟨bs.toArray⟩]
  | n + 1, .agg l => l.flatMap (vals n)
  | _, _ => []
def lay (g : Nat) (cs : List Value) (h : Array Obj) : Array Obj := h.modify g fun
  | .cells _ t frozen => .cells cs.toArray t frozen
  | o => o
def five : Array Value := #[.int .i64 0, .int .i64 0, .int .i64 0, .int .i64 0, .int .i64 0]
/-- what a witness asks of a world -/
structure Fit (w0 : World) : Prop where
  laid : ∀ args, laidMet Tryz.prog Rows.scopeReckonsRow.laid (w0.forCall (fun _ _ => 0) ⟨#[], args, []⟩).memory
  vars : ∀ args, (w0.forCall (fun _ _ => 0) ⟨#[], args, []⟩).variablesB Tryz.prog = true
  rest : ∀ args, ((w0.forCall (fun _ _ => 0) ⟨#[], args, []⟩).heap.toList.drop Tryz.prog.globals.size).take ((begin Tryz.prog (fun _ _ => 0) default).world.heap.size - Tryz.prog.globals.size) = (begin Tryz.prog (fun _ _ => 0) default).world.heap.toList.drop Tryz.prog.globals.size
  ok3 : Input.okWideB Tryz.prog (w0.forCall (fun _ _ => 0) ⟨#[], five, []⟩) 3 ⟨#[], five, []⟩ = true
  rd3 : ∀ (H : Type) (enc : TypeId × Value → H), DataW.whole enc Tryz.prog (w0.forCall (fun _ _ => 0) ⟨#[], five, []⟩).memory Tryz.f3.params.toList [] false five.toList 8 = some ([.lit (.int .i64 0), .lit (.int .i64 0), .lit (.int .i64 0), .lit (.int .i64 0), .lit (.int .i64 0)], [], [])
set_option maxRecDepth 100000 in
theorem fits (os : Os) : ∃ w0 : World, w0.os = os ∧ Fit w0 := by
  refine ⟨{ World.holding Tryz.prog os ⟨#[], #[], []⟩ with heap := lay 0 (vals 4 Rows.laid_cistern_syntax_allOperators) (lay 1 (vals 4 Rows.laid_internal_strconv_uint64pow10) (lay 3 (vals 4 Rows.laid_math_bits_deBruijn32tab) (lay 4 (vals 4 Rows.laid_math_bits_deBruijn64tab) (World.holding Tryz.prog os ⟨#[], #[], []⟩).heap))) }, rfl, ?_⟩
  exact ⟨fun args => laidMet_of_run' 8 (by kernel_rfl) (by kernel_rfl), fun args => (by kernel_rfl), fun args => (by kernel_rfl), (by kernel_rfl), fun H enc => (by kernel_rfl)⟩

end Go.Proofs.YtbllaacbeagljaaGreatDoor.lw
