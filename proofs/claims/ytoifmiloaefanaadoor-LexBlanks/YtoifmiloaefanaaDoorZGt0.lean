import Derived.Test.YtoifmiloaefanaaDoorZIo0
import Derived.Test.YtoifmiloaefanaaDoorRows
import Derived.OpenShut
import Derived.ChangeArms
import Derived.Lib.LaidTab
import Derived.LaidSub
import Derived.Shelf.Vars
/-
  The table of the powers of ten, out of the rows' list.
-/
namespace Go.Proofs.YtoifmiloaefanaaDoor
open Go.RowKit

theorem laid_at {P : Program} {w : World} : ∀ {l : List (String × DataW Unit)} {ps : List MemPlace} (_ : DataW.LaidVars P w l ps) (i : Nat) (n : String) (d : DataW Unit), l[i]? = some (n, d) → ∃ g t cs fuel p, P.globalNamed n = some g ∧ (P.globals[g]?).map (·.type) = some t ∧ w.var? P n = some cs ∧ DataW.trod (fun _ => ()) P w 0 (fun _ => true) false fuel t cs.toList = some (d, p)
  | [], _, _, i, n, d, h => by simp at h
  | (m, e) :: r, ps, hv, i, n, d, h => by
    obtain ⟨g, t, cs, fuel, p, q, h1, h2, h3, h4, h5, _⟩ := hv
    cases i with
    | zero =>
      simp at h
      obtain ⟨rfl, rfl⟩ := h
      exact ⟨g, t, cs, fuel, p, h1, h2, h3, h4⟩
    | succ i => exact laid_at h5 i n d (by simpa using h)
theorem var_at {P : Program} {w : World} {n : String} {cs : Array Value} {g : Nat} (hg : P.globalNamed n = some g) (h : w.var? P n = some cs) : ∃ t fz, w.heap[g]? = some (.cells cs t fz) := by
  simp only [World.var?, hg, Option.bind_some] at h
  split at h
  · rename_i c t fz he
    simp at h
    subst h
    exact ⟨t, fz, he⟩
  · cases h
/-- the name of the listed variable -/
def nm (i : Nat) : String := (Rows.lexLongRow.laid.map (·.1)).getD i default
theorem gNm : Tryd.prog.globalNamed (nm 2) = some 0 := by kernel_rfl
set_option maxRecDepth 100000 in
theorem laid_plain : (Rows.lexLongRow.laid.filter fun x => x.2.handleName?.isNone) = Rows.lexLongRow.laid := by kernel_rfl
set_option maxRecDepth 100000 in
/-- WHAT THE ROWS' LIST GIVES -/
theorem gt_of {W : World} (hL : laidMetH Tryd.prog Rows.lexLongRow.laid W) : GT W := by
  obtain ⟨⟨ps, hv, _⟩, _⟩ := laidMetH_iff.1 hL
  rw [laid_plain] at hv
  obtain ⟨g, t, cs, fuel, p, h1, h2, h3, h4⟩ := laid_at hv 2 (nm 2) Rows.laid_internal_strconv_uint64pow10 (by rfl)
  obtain rfl := Option.some.inj (gNm.symm.trans h1)
  obtain rfl := Option.some.inj ((show (Tryd.prog.globals[0]?).map (·.type) = some 89 by kernel_rfl).symm.trans h2)
  obtain ⟨t, fz, hb⟩ := var_at h1 h3
  rw [show (Rows.laid_internal_strconv_uint64pow10 : DataW Unit) = Lib.tabData .u64 Lib.pow10Tab by kernel_rfl] at h4
  have e := Lib.cells_of_tab Tryd.underlying89 Tryd.underlying82 (by kernel_rfl) (by kernel_rfl) h4
  refine ⟨t, fz, ?_⟩
  rw [hb, ← e]

end Go.Proofs.YtoifmiloaefanaaDoor
