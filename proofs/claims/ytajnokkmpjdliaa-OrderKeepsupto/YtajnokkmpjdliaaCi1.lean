/-
  slices.Clone, slices.Reverse.
-/
import Derived.Test.YtajnokkmpjdliaaCi0
import Derived.Lib.AppendZeros
namespace Go.Proofs.Ytajnokkmpjdliaa
open Go.RowKit

def nv (l : List Nat) : List Value := l.map fun (k : Nat) => Value.int .i64 (k : Int)
theorem nv_len (l : List Nat) : (nv l).length = l.length := by simp [nv]
theorem nv_one (l : List Nat) : ∀ u ∈ nv l, u.oneCell' = true := by
  intro u hu
  unfold nv at hu
  obtain ⟨k, _, rfl⟩ := List.mem_map.1 hu
  rfl
def ClQ (m : Nat) (l : List Nat) (w : World) (e : Ending) (w' : World) : Prop := ∃ g c, e = .returned (.slice (some ⟨g, 0, none⟩) m c) ∧ w'.ownsRow w.heap.size 3 1 (.slice (some ⟨g, 0, none⟩) m c) m (nv l) ∧ Below w.heap.size w w'
theorem clone_run (g k m c : Nat) (l : List Nat) (hl : l.length = m) (hm : m ≤ 1048576) (w : World) (h : ∀ i, i < m → w.cell? ⟨g, k + i, none⟩ = some (.int .i64 ((l.getD i 0 : Nat) : Int))) :
    ∃ g2 c2 w2, (Builtin.append_ #[23, 23] 23 #[.slice (some ⟨w.heap.size, 0, none⟩) 0 0, .slice (some ⟨g, k, none⟩) m c]).run Try.prog (w.alloc (.cells #[] 3)) = .ok (.slice (some ⟨g2, 0, none⟩) m c2) w2 ∧ w2.ownsRow w.heap.size 3 1 (.slice (some ⟨g2, 0, none⟩) m c2) m (nv l) ∧ Below w.heap.size w w2 := by
  obtain ⟨i0, hi, hz0, hz1, hz2⟩ := info_parts info3
  have hb1 := below1 w (.cells #[] 3)
  have h0 : (w.alloc (.cells #[] 3)).ownsRow w.heap.size 3 1 (.slice (some ⟨w.heap.size, 0, none⟩) 0 0) 0 [] := ⟨rfl, .inr ⟨w.heap.size, 0, #[], rfl, Nat.le_refl _, heap_new _ _, Nat.le_refl _, by unfold maxLen; omega, rfl, rfl⟩⟩
  obtain ⟨v', w2, hr, r1, r2, r3, r4⟩ := run_append_own_at (P := Try.prog) (w.alloc (.cells #[] 3)) w.heap.size 23 23 3 i0 _ 1 8 Try.underlying23 hi hz0 hz1 hz2 rfl (by decide) _ _ _ h0 ⟨g, k, none⟩ m c (nv l) (by rw [nv_len, hl]; omega) (fun j u hj => by
    have hjl : j < (nv l).length := (List.getElem?_eq_some_iff.1 hj).1
    rw [nv_len, hl] at hjl
    have h9 := h j hjl
    rw [Addr.add_lit]
    refine (hb1.cell (p := ⟨g, k + j, none⟩) (World.block_lt_of_cell? w _ h9)).trans (h9.trans ?_)
    unfold nv at hj
    rw [List.getElem?_map, List.getElem?_eq_getElem (by omega)] at hj
    rw [← hj, List.getD_eq_getElem?_getD, List.getElem?_eq_getElem (by omega)]
    rfl) (nv_one l) (by unfold maxLen; omega) (by omega) (by simp)
  rw [Nat.zero_add, List.nil_append] at r1
  rcases own_form r1 with ⟨e, hn⟩ | ⟨g2, c', rfl, hg⟩
  · have := r3.1 e
    simp at this
  · exact ⟨g2, c', w2, hr, r1, hb1.trans ⟨r2.os, r2.tape, r2.output, Nat.le_trans (by simp) r2.size, fun k hk => r2.block k (by simp; omega) (fun e => by simp [Value.ownBlock] at e; omega)⟩⟩

theorem eqnil (g k m c : Nat) (w : World) : Sem.run Try.prog (binOp BinOp.eql 23 (.slice (some ⟨g, k, none⟩) m c) (.slice none 0 0)) w = .ok (.bool false) w := by kernel_rfl
set_option maxRecDepth 100000 in
set_option maxHeartbeats 1000000 in
theorem Clone_any (g k m c : Nat) (l : List Nat) (hl : l.length = m) (hm : m ≤ 1048576) (w : World) (h : ∀ i, i < m → w.cell? ⟨g, k + i, none⟩ = some (.int .i64 ((l.getD i 0 : Nat) : Int))) :
    Calls Try.prog 30 #[.slice (some ⟨g, k, none⟩) m c] w (ClQ m l w) := by
  obtain ⟨g2, c2, w2, hr, h1, h2⟩ := clone_run g k m c l hl hm w h
  have HD : Hid (ClQ m l w (.returned (.slice (some ⟨g2, 0, none⟩) m c2)) w2) := ⟨g2, c2, rfl, h1, h2⟩
  obtain ⟨PO, hPO⟩ : ∃ PO, PO = ClQ m l w := ⟨_, rfl⟩
  rw [← hPO] at HD ⊢
  clear h h1 h2 hl hm hPO
  have hq := fun u => eqnil g k m c u
  go_enter Try.func30, Try.ntmps30
  go_wp2_with (at_builtin; refine Lib.wpList_append_run _ rfl _ _ _ _ rfl _ _ rfl rfl _ _ hr ?_)
  all_goals first | exact HD.out | (go_ret; exact HD.out)

theorem wrM (b : Nat) (h : b ≤ 2097152) : IntKind.i64.wrap (b : Int) = (b : Int) := iw64 _ (by omega)
theorem inc_w (a : Nat) (hb : a ≤ 2097152) : wrap64 ((a : Int) + 1) = (a : Int) + 1 ∧ IntKind.i64.wrap ((a : Int) + 1) = (a : Int) + 1 := ⟨w64 _ (by omega), iw64 _ (by omega)⟩
theorem dec_wr (a : Nat) (hb : a ≤ 2097152) : wrap64 ((a : Int) - 1) = (a : Int) - 1 ∧ IntKind.i64.wrap ((a : Int) - 1) = (a : Int) - 1 := ⟨w64 _ (by omega), iw64 _ (by omega)⟩
theorem mea_st {i j m : Nat} (h : i < j) (k : j < m) : m - (intOf (.int .i64 ((i : Int) + 1))).toNat < m - (intOf (.int .i64 (i : Int))).toNat := by
  simp only [intOf]
  omega
/-! ### Reverse -/
theorem nv_set (l : List Nat) (i x : Nat) : nv (l.set i x) = (nv l).set i (.int .i64 (x : Int)) := by simp [nv, List.map_set]
theorem nv_cell {B : Nat} {w : World} {g m c : Nat} {l : List Nat} (h : w.ownsRow B 3 1 (.slice (some ⟨g, 0, none⟩) m c) m (nv l)) (hl : l.length = m) (i : Nat) (hi : i < m) : w.cell? ⟨g, i, none⟩ = some (.int .i64 ((l.getD i 0 : Nat) : Int)) := by
  have := World.ownsRow.cells h (g := g) rfl i (.int .i64 ((l.getD i 0 : Nat) : Int)) (by
    unfold nv
    rw [List.getElem?_map, List.getElem?_eq_getElem (by omega), List.getD_eq_getElem?_getD, List.getElem?_eq_getElem (by omega)]
    rfl)
  rwa [Addr.add_lit, Nat.zero_add] at this
theorem getD_set (l : List Nat) (k j x : Nat) (hk : k < l.length) : (l.set k x).getD j 0 = if j = k then x else l.getD j 0 := by
  simp only [List.getD_eq_getElem?_getD, List.getElem?_set]
  by_cases e : j = k
  · subst e; simp [hk]
  · have e' : ¬ k = j := fun q => e q.symm
    simp [e, e']
/-- turned round at both ends -/
structure RvS (m i : Nat) (X Y : List Nat) : Prop where
  l : Y.length = m
  v : ∀ t, t < m → Y.getD t 0 = if t < i ∨ m ≤ t + i then X.getD (m - 1 - t) 0 else X.getD t 0
theorem RvS.start {m : Nat} {X : List Nat} (h : X.length = m) : RvS m 0 X X := ⟨h, fun t ht => by rw [if_neg (by omega)]⟩
theorem RvS.step {m i j : Nat} {X Y : List Nat} (h : RvS m i X Y) (hij : i + j + 1 = m) (hlt : i < j) : RvS m (i + 1) X ((Y.set i (Y.getD j 0)).set j (Y.getD i 0)) := by
  refine ⟨by rw [List.length_set, List.length_set]; exact h.l, fun t ht => ?_⟩
  have h1 := h.v i (by omega)
  have h2 := h.v j (by omega)
  rw [if_neg (by omega)] at h1 h2
  rw [getD_set _ _ _ _ (by rw [List.length_set, h.l]; omega), getD_set _ _ _ _ (by rw [h.l]; omega)]
  by_cases e : t = j
  · rw [if_pos e, if_pos (by omega), h1, e, show m - 1 - j = i by omega]
  · rw [if_neg e]
    by_cases e2 : t = i
    · rw [if_pos e2, if_pos (by omega), h2, e2, show m - 1 - i = j by omega]
    · rw [if_neg e2, h.v t ht]
      by_cases q : t < i ∨ m ≤ t + i
      · rw [if_pos q, if_pos (by omega)]
      · rw [if_neg q, if_neg (by omega)]
theorem RvS.done {m i : Nat} {X Y : List Nat} (h : RvS m i X Y) (hX : X.length = m) (hi : m ≤ 2 * i + 1) : Y = X.reverse := by
  apply List.ext_getElem?
  intro t
  by_cases ht : t < m
  · have h1 := h.v t ht
    have h2 : Y.getD t 0 = X.getD (m - 1 - t) 0 := by
      rw [h1]
      by_cases q : t < i ∨ m ≤ t + i
      · rw [if_pos q]
      · rw [if_neg q, show m - 1 - t = t by omega]
    rw [List.getD_eq_getElem?_getD, List.getD_eq_getElem?_getD, List.getElem?_eq_getElem (by rw [h.l]; exact ht), List.getElem?_eq_getElem (by omega)] at h2
    rw [List.getElem?_reverse (by omega), hX, List.getElem?_eq_getElem (by rw [h.l]; exact ht), List.getElem?_eq_getElem (by omega)]
    simpa using h2
  · rw [List.getElem?_eq_none (by rw [h.l]; omega), List.getElem?_eq_none (by simp; omega)]
def RvQ (B g m c : Nat) (X : List Nat) (w : World) (e : Ending) (w' : World) : Prop := e = .returned (.tuple #[]) ∧ w'.ownsRow B 3 1 (.slice (some ⟨g, 0, none⟩) m c) m (nv X.reverse) ∧ But (fun k => k = g) w w'

set_option maxRecDepth 100000 in
set_option maxHeartbeats 2000000 in
theorem Reverse_any (B g m c : Nat) (X : List Nat) (hX : X.length = m) (h0 : 0 < m) (hm : m ≤ 1048576) (w : World) (h : w.ownsRow B 3 1 (.slice (some ⟨g, 0, none⟩) m c) m (nv X)) :
    Calls Try.prog 31 #[.slice (some ⟨g, 0, none⟩) m c] w (RvQ B g m c X w) := by
  obtain ⟨PO, hPO⟩ : ∃ PO, PO = RvQ B g m c X w := ⟨_, rfl⟩
  rw [← hPO]
  have HPO := hid hPO
  have HX := hid hX
  have HM := hid hm
  obtain ⟨j0, hj0⟩ : ∃ j0, j0 + 1 = m := ⟨m - 1, by omega⟩
  have HI0 : Hid (RvS m 0 X X ∧ w.ownsRow B 3 1 (.slice (some ⟨g, 0, none⟩) m c) m (nv X)) := ⟨RvS.start hX, h⟩
  have HJ : Hid (j0 + 1 = m) := hj0
  have e1 : (m : Int) - 1 = (j0 : Int) := by omega
  have e2 := wrM j0 (by omega)
  have e3 : wrap64 (j0 : Int) = (j0 : Int) := w64 _ (by omega)
  clear h hPO hX h0 hm hj0
  go_enter Try.func31, Try.ntmps31
  go_wp2_with fail
  clear e1 e2 e3
  go_loopw [2, 3] (fun iv jv wr => ∃ (i : Nat) (z : Int) (Y : List Nat), iv = .int .i64 (i : Int) ∧ jv = .int .i64 z ∧ z + (i : Int) + 1 = (m : Int) ∧ (i : Int) ≤ z + 1 ∧ RvS m i X Y ∧ wr.ownsRow B 3 1 (.slice (some ⟨g, 0, none⟩) m c) m (nv Y) ∧ But (fun k => k = g) w wr) (fun iv _ _ => m - (intOf iv).toNat)
  case atStart => exact ⟨0, (j0 : Int), X, rfl, rfl, by have := HJ.out; omega, by omega, HI0.out.1, HI0.out.2, But.refl _ _⟩
  case round =>
    clear HI0
    obtain ⟨i, z, Y, rfl, rfl, hz, hi, hrv, how, hb⟩ := hrel
    by_cases p : (i : Int) < z
    · obtain ⟨j, hj⟩ : ∃ j : Nat, z = (j : Int) := ⟨z.toNat, by omega⟩
      subst hj
      have hij : i + j + 1 = m := by omega
      have hlt : i < j := by omega
      have hst := hrv.step hij hlt
      have hl := hrv.l
      have c1 := nv_cell how hl i (by omega)
      have c2 := nv_cell how hl j (by omega)
      obtain ⟨x, hx⟩ : ∃ x, x = Y.getD i 0 := ⟨_, rfl⟩
      obtain ⟨y, hy⟩ : ∃ y, y = Y.getD j 0 := ⟨_, rfl⟩
      rw [← hx] at c1 hst
      rw [← hy] at c2 hst
      have how1 : (wr.setCell ⟨g, i, none⟩ (.int .i64 (y : Int))).ownsRow B 3 1 (.slice (some ⟨g, 0, none⟩) m c) m (nv (Y.set i y)) := by rw [nv_set]; exact (how.stored i _).1
      have c3 := nv_cell how1 (by rw [List.length_set]; exact hl) j (by omega)
      rw [show (Y.set i y).getD j 0 = y from by rw [getD_set _ _ _ _ (by omega), if_neg (by omega)]; exact hy.symm] at c3
      have f1 := own_frozen how i
      have f3 := own_frozen how1 j
      obtain ⟨u2, hu2⟩ : ∃ u2, u2 = ((wr.setCell ⟨g, i, none⟩ (.int .i64 (y : Int))).setCell ⟨g, j, none⟩ (.int .i64 (x : Int))).drew := ⟨_, rfl⟩
      have how2 : u2.ownsRow B 3 1 (.slice (some ⟨g, 0, none⟩) m c) m (nv ((Y.set i y).set j x)) := by rw [hu2, nv_set]; exact (how1.stored j _).1
      have HNx : Hid (((j : Int) - 1) + ((i + 1 : Nat) : Int) + 1 = (m : Int) ∧ ((i + 1 : Nat) : Int) ≤ ((j : Int) - 1) + 1 ∧ RvS m (i + 1) X ((Y.set i y).set j x) ∧ u2.ownsRow B 3 1 (.slice (some ⟨g, 0, none⟩) m c) m (nv ((Y.set i y).set j x)) ∧ But (fun k => k = g) w u2) := ⟨by omega, by omega, hst, how2, by rw [hu2]; exact hb.trans (((But.refl (fun k => k = g) wr).setCell (p := ⟨g, i, none⟩) rfl _).setCell (p := ⟨g, j, none⟩) rfl _).drew⟩
      have q1 : (i : Int) < (m : Int) := by omega
      have q2 : (j : Int) < (m : Int) := by omega
      have HU2 := hid hu2
      have HLT : Hid (i < j ∧ j < m) := ⟨hlt, by omega⟩
      have hm9 := HM.out
      obtain ⟨ew, ewb⟩ := inc_w i (by omega)
      obtain ⟨ed, edb⟩ := dec_wr j (by omega)
      clear hz hi hrv how hb hij hlt hst hl hx hy how1 hu2 how2 hm9
      go_wp2_with fail
      go_region
      all_goals rw [← HU2.out]
      all_goals go_wp2_with fail
      all_goals
        refine ⟨⟨i + 1, (j : Int) - 1, _, by rw [Int.natCast_add]; rfl, rfl, HNx.out⟩, ?_⟩
        exact mea_st HLT.out.1 HLT.out.2
    · have HD : Hid (PO (.returned (.tuple #[])) wr) := by
        unfold Hid
        rw [HPO.out]
        have := hrv.done HX.out (by omega)
        rw [this] at how
        exact ⟨rfl, how, hb⟩
      have q : z ≤ (i : Int) := by omega
      clear hz hi hrv how hb p
      go_wp2_with fail
      go_end0
      exact HD.out
end Go.Proofs.Ytajnokkmpjdliaa
