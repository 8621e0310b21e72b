import Derived.Test.YtddddfankeepkaaGreatDoorF18
import Derived.Test.YtddddfankeepkaaGreatDoorRows
import Derived.OpenShut
import Derived.ChangeArms
import Derived.Lib.LaidTab
import Derived.LaidSub
import Derived.Shelf.Vars
namespace Go.Proofs.YtddddfankeepkaaGreatDoor
open Go.RowKit
theorem laid_at {P : Program} {w : World} : ∀ {l : List (String × DataW Unit)} {ps : List MemPlace} (_ : DataW.LaidVars P w l ps) (i : Nat) (n : String) (d : DataW Unit), l[i]? = some (n, d) → ∃ g t cs fuel p, P.globalNamed n = some g ∧ (P.globals[g]?).map (·.type) = some t ∧ w.var? P n = some cs ∧ DataW.trod (fun _ => ()) P w 0 (fun _ => true) false fuel t cs.toList = some (d, p)
 | [], _, _, i, n, d, h => by simp at h
 | (m, e) :: r, ps, hv, i, n, d, h => by
  obtain ⟨g, t, cs, fuel, p, q, h1, h2, h3, h4, h5, _⟩ := hv
  cases i with
  | zero =>
   simp at h
   obtain ⟨rfl, rfl⟩ := h
   exact ⟨g, t, cs, fuel, p, h1, h2, h3, h4⟩
  | succ i => exact laid_at h5 i n d (by simpa using h)
def formsL : List (List (List UInt8)) := (List.range 12).map fun i => (List.range 4).map fun j => (ftab (4 * i + j)).data.toList
theorem formsL_eq : (Rows.laid_cistern_op_forms : DataW Unit) = .agg (formsL.map fun r => .agg (r.map fun b => .lit (.string b))) := by kernel_rfl
theorem co134 : Tryz.prog.cellsOf 134 = 4 := by kernel_rfl
theorem co9' : Tryz.prog.cellsOf 9 = 1 := by kernel_rfl
theorem under147 : Tryz.prog.underlying 147 = some (.array 12 134) := by kernel_rfl
theorem var_at {P : Program} {w : World} {n : String} {cs : Array Value} {g : Nat} (hg : P.globalNamed n = some g) (h : w.var? P n = some cs) : ∃ t fz, w.heap[g]? = some (.cells cs t fz) := by
 simp only [World.var?, hg, Option.bind_some] at h
 split at h
 ·rename_i c t fz he
  simp at h
  subst h
  exact ⟨t, fz, he⟩
 ·cases h
theorem cells_forms {w : World} {fuel : Nat} {cs : List Value} {p : List MemPlace} (h : DataW.trod (fun _ => ()) Tryz.prog w 0 (fun _ => true) false fuel 147 cs = some (Rows.laid_cistern_op_forms, p)) (i j : Nat) (hi : i < 12) (hj : j < 4) : cs[4 * i + j]? = some (.string (ftab (4 * i + j))) := by
 obtain ⟨xs, m, rfl, hx, hl, hxl, hall⟩ := DataW.trod_array under147 h
 have h1 := hall i hi
 rw [co134] at h1
 have hxs : xs.map (·.1) = formsL.map fun r => (.agg (r.map fun b => .lit (.string b)) : DataW Unit) := by
  have := congrArg Prod.fst hx
  rw [formsL_eq] at this
  simpa using this.symm
 have h2 : (xs.map (·.1))[i]? = some (.agg (((List.range 4).map fun j => (ftab (4 * i + j)).data.toList).map fun b => .lit (.string b))) := by
  rw [hxs]
  simp [formsL, hi]
 obtain ⟨x, hxi⟩ : ∃ x, xs[i]? = some x := ⟨xs[i]'(by omega), by simp [hxl, hi]⟩
 simp only [List.getElem?_map, hxi, Option.map_some, Option.some.injEq] at h2
 rw [hxi] at h1
 obtain ⟨ys, k, rfl, hy, hl2, hyl, hall2⟩ := DataW.trod_array Tryz.underlying134 h1
 have h3 := hall2 j hj
 rw [co9'] at h3
 obtain ⟨y, hyj⟩ : ∃ y, ys[j]? = some y := ⟨ys[j]'(by omega), by simp [hyl, hj]⟩
 rw [hyj] at h3
 obtain ⟨s, hc, rfl, _⟩ := DataW.trod_string Tryz.underlying9 h3
 have h4 : ys.map (·.1) = ((List.range 4).map fun j => (ftab (4 * i + j)).data.toList).map fun b => (.lit (.string b) : DataW Unit) := by
  rw [hy] at h2
  simpa using h2
 have h5 := congrArg (·[j]?) h4
 simp only [List.getElem?_map, hyj, Option.map_some, List.getElem?_range hj, Option.some.injEq, DataW.lit.injEq, Lit.string.injEq] at h5
 have hs : s = ftab (4 * i + j) := by
  cases s
  simp at h5
  apply ByteArray.ext
  exact Array.toList_inj.1 (by simpa using h5)
 subst hs
 have h6 := congrArg (·[0]?) hc
 have e : j * 1 = j := Nat.mul_one j
 rw [e] at h6
 simp only [List.getElem?_take, List.getElem?_drop, List.getElem?_cons_zero] at h6
 simpa [hj, Nat.mul_comm] using h6
def nm (i : Nat) : String := (Rows.dryThroughUptoRow.laid.map (·.1)).getD i default
theorem gNm : Tryz.prog.globalNamed (nm 0) = some 0 := by kernel_rfl
set_option maxRecDepth 100000 in
theorem laid_plain : (Rows.dryThroughUptoRow.laid.filter fun x => x.2.handleName?.isNone) = Rows.dryThroughUptoRow.laid := by kernel_rfl
set_option maxRecDepth 100000 in
theorem gt_of {W : World} (hsh : W.ShapedOpen Tryz.prog) (hL : laidMetH Tryz.prog Rows.dryThroughUptoRow.laid W) : GT W := by
 obtain ⟨⟨ps, hv, _⟩, _⟩ := laidMetH_iff.1 hL
 rw [laid_plain] at hv
 have g0 := gNm
 have hmx : ∃ m, W.cell? ⟨1, 0, none⟩ = some (.int .i64 m) := cell_of_shapedOpen_int (zero := #[.int .i64 0]) (t := 3) hsh (of_decide_eq_true (by kernel_rfl)) (by kernel_rfl) rfl (by kernel_rfl) (by kernel_rfl) Tryz.underlying3
 refine ⟨fun i hi => ?_, hmx, ?_⟩
 ·obtain ⟨g, t, cs, fuel, p, h1, h2, h3, h4⟩ := laid_at hv 0 (nm 0) Rows.laid_cistern_op_forms (by rfl)
  obtain rfl := Option.some.inj (g0.symm.trans h1)
  obtain rfl := Option.some.inj ((show (Tryz.prog.globals[0]?).map (·.type) = some 147 by kernel_rfl).symm.trans h2)
  obtain ⟨t, fz, hb⟩ := var_at h1 h3
  have := cells_forms h4 (i / 4) (i % 4) (by omega) (by omega)
  rw [show 4 * (i / 4) + i % 4 = i by omega] at this
  simp only [World.cell?, hb]
  simpa using this
 ·obtain ⟨m, hm⟩ := hmx
  have := World.block_lt_of_cell? W ⟨1, 0, none⟩ hm
  exact this
end Go.Proofs.YtddddfankeepkaaGreatDoor
