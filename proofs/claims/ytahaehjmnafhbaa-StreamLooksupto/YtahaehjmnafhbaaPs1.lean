/-
  The document's answer: Parse, by its contract: the loop.
-/
import Derived.Test.YtahaehjmnafhbaaPs0
import Derived.Test.YtahaehjmnafhbaaTa1
namespace Go.Proofs.Ytahaehjmnafhbaa
open Go.RowKit

theorem may_any {w : World} (h : Hd) {a : Option Addr} {l : List Rn} (rc : Nat) (b1 : Pl.isB h.name) (b2 : Pl.isB h.since) (l1 : h.name.length ≤ 16777216) (l2 : h.since.length ≤ 16777216) (hn : l.length < 4294967296) (hR : RRd w a l) :
    Calls Try.prog 23 #[.agg #[.string (strOfNums h.name), .int .i64 h.size, .string (strOfNums h.since), .int .i64 h.sum, .slice a l.length rc]] w fun e w' => e = .returned (.bool (mayB h l)) ∧ Below w.heap.size w w' := by
  have e : mayB h l = (nmd h.name && decide (1 ≤ h.size) && decide (h.size ≤ 262144) && (if decide (h.since = []) = true then decide (h.sum = 0) else nmd h.since) && (List.range l.length).all (chkR h.size (!decide (h.since = [])) l)) := by
    unfold mayB
    rw [hmy_eq]
  rw [e]
  refine may_gen _ _ _ _ _ _ _ (!decide (h.since = [])) _ a l.length rc l w rfl hn (Named_any h.name b1 l1) (Named_any h.since b2 l2) (str_nil h.since) rfl hR (hid fun q hq hf => ?_) (hid fun hall => ?_)
  · rw [List.all_eq_false]
    exact ⟨q, List.mem_range.2 hq, by rw [hf]; decide⟩
  · rw [List.all_eq_true]
    exact fun j hj => hall j (List.mem_range.1 hj)

/-- the cells of runs -/
def RunsW (vals : List Value) (l : List Rn) : Prop := vals.length = l.length * 4 ∧ ∀ (j : Nat) (r : Rn), l[j]? = some r → vals[j * 4]? = some (.int .i64 r.1) ∧ vals[j * 4 + 1]? = some (.int .i64 r.2.1) ∧ vals[j * 4 + 2]? = some (.int .i64 r.2.2) ∧ ∃ x y z, vals[j * 4 + 3]? = some (.slice x y z)
theorem RunsW.snoc {vals : List Value} {l : List Rn} (h : RunsW vals l) (r : Rn) (x : Option Addr) (y z : Nat) : RunsW (vals ++ [.int .i64 r.1, .int .i64 r.2.1, .int .i64 r.2.2, .slice x y z]) (l ++ [r]) := by
  refine ⟨by simp [h.1]; omega, fun j r' hj => ?_⟩
  by_cases q : j < l.length
  · rw [List.getElem?_append_left q] at hj
    obtain ⟨a, b, c, x', y', z', d⟩ := h.2 j r' hj
    have hl := h.1
    refine ⟨?_, ?_, ?_, x', y', z', ?_⟩ <;> rw [List.getElem?_append_left (by omega)] <;> assumption
  · have e : j = l.length := by
      have := (List.getElem?_eq_some_iff.1 hj).1
      simp at this; omega
    subst e
    rw [List.getElem?_concat_length] at hj
    simp at hj
    subst hj
    have hl := h.1
    refine ⟨?_, ?_, ?_, x, y, z, ?_⟩ <;> rw [List.getElem?_append_right (by omega)]
    · rw [show l.length * 4 - vals.length = 0 by omega]; rfl
    · rw [show l.length * 4 + 1 - vals.length = 1 by omega]; rfl
    · rw [show l.length * 4 + 2 - vals.length = 2 by omega]; rfl
    · rw [show l.length * 4 + 3 - vals.length = 3 by omega]; rfl
theorem row_rrd {w : World} {B rc : Nat} {ra : Option Addr} {l : List Rn} {vals : List Value} (h : w.ownsRow B 51 4 (.slice ra l.length rc) l.length vals) (hV : RunsW vals l) : RRd w ra l := by
  by_cases q : l = []
  · exact .inl q
  have hp : 0 < l.length := List.length_pos_iff.2 q
  rcases h.2 with ⟨_, z⟩ | ⟨g, cap, cur, e1, _⟩
  · omega
  simp at e1
  have hrow := h
  rw [e1.1] at hrow
  have hlt := (World.ownsRow.lt hrow g rfl).2
  refine .inr ⟨g, e1.1, hlt, fun j r hj => ?_⟩
  have hjl := (List.getElem?_eq_some_iff.1 hj).1
  obtain ⟨a, b, c, x, y, z, d⟩ := hV.2 j r hj
  have hc : ∀ i v, i < l.length * 4 → vals[i]? = some v → w.cell? ⟨g, i, none⟩ = some v := fun i v hi hv => by
    have := World.ownsRow.cellAt hrow i hi
    rw [this, ← hv]
  exact ⟨hc _ _ (by omega) a, hc _ _ (by omega) b, hc _ _ (by omega) c, x, y, z, hc _ _ (by omega) d⟩
/-- a stream's block -/
def Snb (w : World) (sb : Nat) (S1 S2 : ByteArray) (sz sm : Int) (rv : Value) : Prop := w.heap[sb]? = some (.cells #[.string S1, .int .i64 sz, .string S2, .int .i64 sm, rv] 47 (0, 0))
theorem Snb.lt {w : World} {sb : Nat} {S1 S2 : ByteArray} {sz sm : Int} {rv : Value} (h : Snb w sb S1 S2 sz sm rv) : sb < w.heap.size := (Array.getElem?_eq_some_iff.1 h).1
theorem Snb.cells {w : World} {sb : Nat} {S1 S2 : ByteArray} {sz sm : Int} {rv : Value} (h : Snb w sb S1 S2 sz sm rv) : w.cell? ⟨sb, 0, none⟩ = some (.string S1) ∧ w.cell? ⟨sb, 1, none⟩ = some (.int .i64 sz) ∧ w.cell? ⟨sb, 2, none⟩ = some (.string S2) ∧ w.cell? ⟨sb, 3, none⟩ = some (.int .i64 sm) ∧ w.cell? ⟨sb, 4, none⟩ = some rv := by
  unfold Snb at h
  exact ⟨by simp [World.cell?, h], by simp [World.cell?, h], by simp [World.cell?, h], by simp [World.cell?, h], by simp [World.cell?, h]⟩
theorem Snb.fz {w : World} {sb : Nat} {S1 S2 : ByteArray} {sz sm : Int} {rv : Value} (h : Snb w sb S1 S2 sz sm rv) (t : Nat) : w.frozen? ⟨sb, t, none⟩ = false := by unfold Snb at h; simp [World.frozen?, h]
theorem Snb.keep {w w' : World} {sb : Nat} {S1 S2 : ByteArray} {sz sm : Int} {rv : Value} (h : Snb w sb S1 S2 sz sm rv) (hk : w'.heap[sb]? = w.heap[sb]?) : Snb w' sb S1 S2 sz sm rv := by unfold Snb at *; rw [hk]; exact h
theorem Snb.s0 {w : World} {sb : Nat} {S1 S2 : ByteArray} {sz sm : Int} {rv : Value} (h : Snb w sb S1 S2 sz sm rv) (u : ByteArray) : Snb (w.setCell ⟨sb, 0, none⟩ (.string u)) sb u S2 sz sm rv := by
  unfold Snb at *; simp only [World.setCell, Array.getElem?_modify]; rw [h]; simp
theorem Snb.s1 {w : World} {sb : Nat} {S1 S2 : ByteArray} {sz sm : Int} {rv : Value} (h : Snb w sb S1 S2 sz sm rv) (u : Int) : Snb (w.setCell ⟨sb, 1, none⟩ (.int .i64 u)) sb S1 S2 u sm rv := by
  unfold Snb at *; simp only [World.setCell, Array.getElem?_modify]; rw [h]; simp
theorem Snb.s2 {w : World} {sb : Nat} {S1 S2 : ByteArray} {sz sm : Int} {rv : Value} (h : Snb w sb S1 S2 sz sm rv) (u : ByteArray) : Snb (w.setCell ⟨sb, 2, none⟩ (.string u)) sb S1 u sz sm rv := by
  unfold Snb at *; simp only [World.setCell, Array.getElem?_modify]; rw [h]; simp
theorem Snb.s3 {w : World} {sb : Nat} {S1 S2 : ByteArray} {sz sm : Int} {rv : Value} (h : Snb w sb S1 S2 sz sm rv) (u : Int) : Snb (w.setCell ⟨sb, 3, none⟩ (.int .i64 u)) sb S1 S2 sz u rv := by
  unfold Snb at *; simp only [World.setCell, Array.getElem?_modify]; rw [h]; simp
theorem Snb.s4 {w : World} {sb : Nat} {S1 S2 : ByteArray} {sz sm : Int} {rv : Value} (h : Snb w sb S1 S2 sz sm rv) (u : Value) : Snb (w.setCell ⟨sb, 4, none⟩ u) sb S1 S2 sz sm u := by
  unfold Snb at *; simp only [World.setCell, Array.getElem?_modify]; rw [h]; simp
/-- a run's block -/
def Rnb (w : World) (rb : Nat) (k f t : Int) (v : Value) : Prop := w.heap[rb]? = some (.cells #[.int .i64 k, .int .i64 f, .int .i64 t, v] 51 (0, 0))
theorem Rnb.lt {w : World} {rb : Nat} {k f t : Int} {v : Value} (h : Rnb w rb k f t v) : rb < w.heap.size := (Array.getElem?_eq_some_iff.1 h).1
theorem Rnb.cells {w : World} {rb : Nat} {k f t : Int} {v : Value} (h : Rnb w rb k f t v) : w.cell? ⟨rb, 0, none⟩ = some (.int .i64 k) ∧ w.cell? ⟨rb, 1, none⟩ = some (.int .i64 f) ∧ w.cell? ⟨rb, 2, none⟩ = some (.int .i64 t) ∧ w.cell? ⟨rb, 3, none⟩ = some v := by
  unfold Rnb at h
  exact ⟨by simp [World.cell?, h], by simp [World.cell?, h], by simp [World.cell?, h], by simp [World.cell?, h]⟩
theorem Rnb.fz {w : World} {rb : Nat} {k f t : Int} {v : Value} (h : Rnb w rb k f t v) (i : Nat) : w.frozen? ⟨rb, i, none⟩ = false := by unfold Rnb at h; simp [World.frozen?, h]
theorem Rnb.keep {w w' : World} {rb : Nat} {k f t : Int} {v : Value} (h : Rnb w rb k f t v) (hk : w'.heap[rb]? = w.heap[rb]?) : Rnb w' rb k f t v := by unfold Rnb at *; rw [hk]; exact h
theorem Rnb.s1 {w : World} {rb : Nat} {k f t : Int} {v : Value} (h : Rnb w rb k f t v) (u : Int) : Rnb (w.setCell ⟨rb, 1, none⟩ (.int .i64 u)) rb k u t v := by
  unfold Rnb at *; simp only [World.setCell, Array.getElem?_modify]; rw [h]; simp
theorem Rnb.s2 {w : World} {rb : Nat} {k f t : Int} {v : Value} (h : Rnb w rb k f t v) (u : Int) : Rnb (w.setCell ⟨rb, 2, none⟩ (.int .i64 u)) rb k f u v := by
  unfold Rnb at *; simp only [World.setCell, Array.getElem?_modify]; rw [h]; simp
theorem Rnb.s3 {w : World} {rb : Nat} {k f t : Int} {v : Value} (h : Rnb w rb k f t v) (u : Value) : Rnb (w.setCell ⟨rb, 3, none⟩ u) rb k f t u := by
  unfold Rnb at *; simp only [World.setCell, Array.getElem?_modify]; rw [h]; simp

theorem tp_len {s : St} {m : Int} : (tp s m).1.length ≤ m.toNat ∧ (tp s m).2.1.length ≤ s.1.length := by
  unfold tp
  split
  · simp
  · simp; omega
theorem nbT_bd {s : St} {m : Int} (hB : Pl.isB s.1) (h4 : m ≤ 4) : 0 ≤ (nbG tp s m).1 ∧ (nbG tp s m).1 < 4294967296 ∧ (nbG tp s m).2.1.length ≤ s.1.length ∧ Pl.isB (nbG tp s m).2.1 := by
  have hb := isB_tp hB m
  have hl := tp_len (s := s) (m := m)
  unfold nbG
  exact ⟨Pl.num_nonneg hb.1, num_lt4 hb.1 (by omega), hl.2, hb.2⟩
theorem txT_bd {s : St} (hB : Pl.isB s.1) : (txG tp s).2.1.length ≤ s.1.length ∧ Pl.isB (txG tp s).2.1 ∧ Pl.isB (txG tp s).1 ∧ (txG tp s).1.length ≤ s.1.length := by
  have a := nbT_bd (m := 1) hB (by decide)
  have b := isB_tp a.2.2.2 (nbG tp s 1).1
  have c := (tp_len (s := (nbG tp s 1).2) (m := (nbG tp s 1).1)).2
  have d : (tp (nbG tp s 1).2 (nbG tp s 1).1).1.length ≤ (nbG tp s 1).2.1.length := by
    unfold tp
    split
    · simp
    · simp
      omega
  unfold txG
  exact ⟨by omega, b.2, b.1, by omega⟩

end Go.Proofs.Ytahaehjmnafhbaa
