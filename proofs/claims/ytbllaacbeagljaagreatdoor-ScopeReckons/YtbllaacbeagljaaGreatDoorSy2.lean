/-
  syntax: just, kidsOf.
-/
import Derived.Test.YtbllaacbeagljaaGreatDoorSy1
import Derived.Deep.RegionWith
namespace Go.Proofs.YtbllaacbeagljaaGreatDoor
open Go.RowKit

/-- a value that says which kids a node has -/
def Kd (B : Nat) (w : World) (v : Value) (q : List Int × Int × Bool) : Prop :=
  ∃ a, v = .agg #[.slice a q.1.length q.1.length, .int .i64 q.2.1, .bool q.2.2] ∧ (q.1 = [] ∨ ∃ g, a = some ⟨g, 0, none⟩ ∧ B ≤ g ∧ Blk .i64 142 w g q.1)
/-- the kids that a node of a kind has -/
def kdZ (k : Int) : List Int × Int × Bool :=
  if k = 1 ∨ k = 11 then ([2], 0, true) else if k = 3 then ([4, 6, 4], 2, false) else if k = 10 then ([7, 3, 3], 2, false) else if k = 2 then ([6], 1, false) else if k = 5 then ([6, 4], 2, false)
  else if k = 7 then ([4, 4], 2, false) else if k = 9 then ([6, 6, 3], 3, false) else if k = 4 ∨ k = 6 ∨ k = 29 ∨ k = 33 then ([4], 1, false) else if k = 12 then ([8], 0, true)
  else if k = 27 ∨ k = 28 then ([6], 1, true) else if k = 34 then ([7], 1, false) else match opZ k with | some r => ([if r < 3 then 7 else 6, if r < 3 then 7 else 6], 2, false) | none => ([], 0, false)
def KdQ (k : Int) (w : World) (e : Ending) (w' : World) : Prop := (∃ v, e = .returned v ∧ Kd w.heap.size w' v (kdZ k)) ∧ Below w.heap.size w w'

set_option maxRecDepth 100000 in
set_option maxHeartbeats 1000000 in
theorem just_any (a : Option Addr) (n c : Nat) (w : World) : Calls Tryz.prog 119 #[.slice a n c] w fun e w' => e = .returned (.agg #[.slice a n c, .int .i64 (n : Int), .bool false]) ∧ w' = w.alloc (.cells #[.slice a n c, .int .i64 (n : Int), .bool false] 189) := by
  go_enter Tryz.func119, Tryz.ntmps119
  go_wp2
  exact bodyPost_ret (results_cell_row rfl _ _ w.heap.size 189 _ (0, 0) _ rfl (heap_new _ _) Tryz.underlying189 rfl (by kernel_rfl)) rfl ⟨rfl, rfl⟩
theorem heap2 (w : World) (A B : Obj) : ((w.alloc A).alloc B).heap[w.heap.size]? = some A := by
  rw [Below.heap_alloc _ _ _ (by simp)]; exact heap_new _ _
theorem heap3 (w : World) (A B C : Obj) : (((w.alloc A).alloc B).alloc C).heap[w.heap.size]? = some A := by
  rw [Below.heap_alloc _ _ _ (by simp; omega)]; exact heap2 _ _ _
theorem below2 (w : World) (A B : Obj) : Below w.heap.size w ((w.alloc A).alloc B) := (below1 w A).trans ((below1 _ B).mono (by simp))
theorem below3 (w : World) (A B C : Obj) : Below w.heap.size w (((w.alloc A).alloc B).alloc C) := (below2 w A B).trans ((below1 _ C).mono (by simp; omega))
theorem kdq {k : Int} {w W : World} {g n : Nat} {rs : List Int} {le : Int} {op : Bool} (hk : kdZ k = (rs, le, op)) (hn : n = rs.length) (hg : w.heap.size ≤ g) (hB : Blk .i64 142 W g rs) (hw : Below w.heap.size w W) :
    KdQ k w (.returned (.agg #[.slice (some ⟨g, 0, none⟩) n n, .int .i64 le, .bool op])) W := by
  refine ⟨⟨_, rfl, ?_⟩, hw⟩
  rw [hk]
  exact ⟨_, by rw [hn], .inr ⟨g, rfl, hg, hB⟩⟩
theorem blk2 (w : World) (A : Obj) (rs : List Int) (cs : Array Value) (h : cs = (rs.map (Value.int .i64)).toArray) : Blk .i64 142 ((w.alloc A).alloc (.cells cs 142)) (w.heap.size + 1) rs := by
  have := Blk.new (k := .i64) (e := 142) (w.alloc A) rs
  rw [h]
  simpa using this
set_option maxRecDepth 100000 in
set_option maxHeartbeats 1000000 in
theorem kidsOf_1 (w : World) : Calls Tryz.prog 120 #[.int .i64 1] w (KdQ 1 w) := by
  obtain ⟨PO, hPO⟩ : ∃ PO, PO = KdQ 1 w := ⟨_, rfl⟩
  rw [← hPO]
  have HPO := hid hPO
  clear hPO
  go_enter Tryz.func120, Tryz.ntmps120
  go_wp2_with fail
  exact bodyPost_ret (results_cell_row rfl _ _ w.heap.size 189 _ (0, 0) _ rfl (heap2 _ _ _) Tryz.underlying189 rfl (by kernel_rfl)) rfl (by rw [HPO.out]; exact kdq (rs := [2]) rfl rfl (by omega) (blk2 _ _ [2] _ rfl) (below2 _ _ _))
set_option maxRecDepth 100000 in
set_option maxHeartbeats 1000000 in
theorem kidsOf_11 (w : World) : Calls Tryz.prog 120 #[.int .i64 11] w (KdQ 11 w) := by
  obtain ⟨PO, hPO⟩ : ∃ PO, PO = KdQ 11 w := ⟨_, rfl⟩
  rw [← hPO]
  have HPO := hid hPO
  clear hPO
  go_enter Tryz.func120, Tryz.ntmps120
  go_wp2_with fail
  exact bodyPost_ret (results_cell_row rfl _ _ w.heap.size 189 _ (0, 0) _ rfl (heap2 _ _ _) Tryz.underlying189 rfl (by kernel_rfl)) rfl (by rw [HPO.out]; exact kdq (rs := [2]) rfl rfl (by omega) (blk2 _ _ [2] _ rfl) (below2 _ _ _))
set_option maxRecDepth 100000 in
set_option maxHeartbeats 1000000 in
theorem kidsOf_3 (w : World) : Calls Tryz.prog 120 #[.int .i64 3] w (KdQ 3 w) := by
  obtain ⟨PO, hPO⟩ : ∃ PO, PO = KdQ 3 w := ⟨_, rfl⟩
  rw [← hPO]
  have HPO := hid hPO
  clear hPO
  go_enter Tryz.func120, Tryz.ntmps120
  go_wp2_with fail
  exact bodyPost_ret (results_cell_row rfl _ _ w.heap.size 189 _ (0, 0) _ rfl (heap2 _ _ _) Tryz.underlying189 rfl (by kernel_rfl)) rfl (by rw [HPO.out]; exact kdq (rs := [4, 6, 4]) rfl rfl (by omega) (blk2 _ _ [4, 6, 4] _ rfl) (below2 _ _ _))
set_option maxRecDepth 100000 in
set_option maxHeartbeats 1000000 in
theorem kidsOf_10 (w : World) : Calls Tryz.prog 120 #[.int .i64 10] w (KdQ 10 w) := by
  obtain ⟨PO, hPO⟩ : ∃ PO, PO = KdQ 10 w := ⟨_, rfl⟩
  rw [← hPO]
  have HPO := hid hPO
  clear hPO
  go_enter Tryz.func120, Tryz.ntmps120
  go_wp2_with fail
  exact bodyPost_ret (results_cell_row rfl _ _ w.heap.size 189 _ (0, 0) _ rfl (heap2 _ _ _) Tryz.underlying189 rfl (by kernel_rfl)) rfl (by rw [HPO.out]; exact kdq (rs := [7, 3, 3]) rfl rfl (by omega) (blk2 _ _ [7, 3, 3] _ rfl) (below2 _ _ _))
set_option maxRecDepth 100000 in
set_option maxHeartbeats 1000000 in
theorem kidsOf_12 (w : World) : Calls Tryz.prog 120 #[.int .i64 12] w (KdQ 12 w) := by
  obtain ⟨PO, hPO⟩ : ∃ PO, PO = KdQ 12 w := ⟨_, rfl⟩
  rw [← hPO]
  have HPO := hid hPO
  clear hPO
  go_enter Tryz.func120, Tryz.ntmps120
  go_wp2_with fail
  exact bodyPost_ret (results_cell_row rfl _ _ w.heap.size 189 _ (0, 0) _ rfl (heap2 _ _ _) Tryz.underlying189 rfl (by kernel_rfl)) rfl (by rw [HPO.out]; exact kdq (rs := [8]) rfl rfl (by omega) (blk2 _ _ [8] _ rfl) (below2 _ _ _))
set_option maxRecDepth 100000 in
set_option maxHeartbeats 1000000 in
theorem kidsOf_27 (w : World) : Calls Tryz.prog 120 #[.int .i64 27] w (KdQ 27 w) := by
  obtain ⟨PO, hPO⟩ : ∃ PO, PO = KdQ 27 w := ⟨_, rfl⟩
  rw [← hPO]
  have HPO := hid hPO
  clear hPO
  go_enter Tryz.func120, Tryz.ntmps120
  go_wp2_with fail
  exact bodyPost_ret (results_cell_row rfl _ _ w.heap.size 189 _ (0, 0) _ rfl (heap2 _ _ _) Tryz.underlying189 rfl (by kernel_rfl)) rfl (by rw [HPO.out]; exact kdq (rs := [6]) rfl rfl (by omega) (blk2 _ _ [6] _ rfl) (below2 _ _ _))
set_option maxRecDepth 100000 in
set_option maxHeartbeats 1000000 in
theorem kidsOf_28 (w : World) : Calls Tryz.prog 120 #[.int .i64 28] w (KdQ 28 w) := by
  obtain ⟨PO, hPO⟩ : ∃ PO, PO = KdQ 28 w := ⟨_, rfl⟩
  rw [← hPO]
  have HPO := hid hPO
  clear hPO
  go_enter Tryz.func120, Tryz.ntmps120
  go_wp2_with fail
  exact bodyPost_ret (results_cell_row rfl _ _ w.heap.size 189 _ (0, 0) _ rfl (heap2 _ _ _) Tryz.underlying189 rfl (by kernel_rfl)) rfl (by rw [HPO.out]; exact kdq (rs := [6]) rfl rfl (by omega) (blk2 _ _ [6] _ rfl) (below2 _ _ _))
set_option maxRecDepth 100000 in
set_option maxHeartbeats 1000000 in
theorem kidsOf_2 (w : World) : Calls Tryz.prog 120 #[.int .i64 2] w (KdQ 2 w) := by
  obtain ⟨PO, hPO⟩ : ∃ PO, PO = KdQ 2 w := ⟨_, rfl⟩
  rw [← hPO]
  have HPO := hid hPO
  clear hPO
  go_enter Tryz.func120, Tryz.ntmps120
  go_wp2_with (go_at_call 119; refine (just_any _ _ _ _).mono ?_; rintro e w2 ⟨rfl, rfl⟩)
  exact bodyPost_ret (results_cell_row rfl _ _ w.heap.size 189 _ (0, 0) _ rfl (heap3 _ _ _ _) Tryz.underlying189 rfl (by kernel_rfl)) rfl (by rw [HPO.out]; exact kdq (rs := [6]) rfl rfl (by omega) (Blk.alloc (blk2 _ _ [6] _ rfl) _) (below3 _ _ _ _))
set_option maxRecDepth 100000 in
set_option maxHeartbeats 1000000 in
theorem kidsOf_5 (w : World) : Calls Tryz.prog 120 #[.int .i64 5] w (KdQ 5 w) := by
  obtain ⟨PO, hPO⟩ : ∃ PO, PO = KdQ 5 w := ⟨_, rfl⟩
  rw [← hPO]
  have HPO := hid hPO
  clear hPO
  go_enter Tryz.func120, Tryz.ntmps120
  go_wp2_with (go_at_call 119; refine (just_any _ _ _ _).mono ?_; rintro e w2 ⟨rfl, rfl⟩)
  exact bodyPost_ret (results_cell_row rfl _ _ w.heap.size 189 _ (0, 0) _ rfl (heap3 _ _ _ _) Tryz.underlying189 rfl (by kernel_rfl)) rfl (by rw [HPO.out]; exact kdq (rs := [6, 4]) rfl rfl (by omega) (Blk.alloc (blk2 _ _ [6, 4] _ rfl) _) (below3 _ _ _ _))
set_option maxRecDepth 100000 in
set_option maxHeartbeats 1000000 in
theorem kidsOf_7 (w : World) : Calls Tryz.prog 120 #[.int .i64 7] w (KdQ 7 w) := by
  obtain ⟨PO, hPO⟩ : ∃ PO, PO = KdQ 7 w := ⟨_, rfl⟩
  rw [← hPO]
  have HPO := hid hPO
  clear hPO
  go_enter Tryz.func120, Tryz.ntmps120
  go_wp2_with (go_at_call 119; refine (just_any _ _ _ _).mono ?_; rintro e w2 ⟨rfl, rfl⟩)
  exact bodyPost_ret (results_cell_row rfl _ _ w.heap.size 189 _ (0, 0) _ rfl (heap3 _ _ _ _) Tryz.underlying189 rfl (by kernel_rfl)) rfl (by rw [HPO.out]; exact kdq (rs := [4, 4]) rfl rfl (by omega) (Blk.alloc (blk2 _ _ [4, 4] _ rfl) _) (below3 _ _ _ _))
set_option maxRecDepth 100000 in
set_option maxHeartbeats 1000000 in
theorem kidsOf_9 (w : World) : Calls Tryz.prog 120 #[.int .i64 9] w (KdQ 9 w) := by
  obtain ⟨PO, hPO⟩ : ∃ PO, PO = KdQ 9 w := ⟨_, rfl⟩
  rw [← hPO]
  have HPO := hid hPO
  clear hPO
  go_enter Tryz.func120, Tryz.ntmps120
  go_wp2_with (go_at_call 119; refine (just_any _ _ _ _).mono ?_; rintro e w2 ⟨rfl, rfl⟩)
  exact bodyPost_ret (results_cell_row rfl _ _ w.heap.size 189 _ (0, 0) _ rfl (heap3 _ _ _ _) Tryz.underlying189 rfl (by kernel_rfl)) rfl (by rw [HPO.out]; exact kdq (rs := [6, 6, 3]) rfl rfl (by omega) (Blk.alloc (blk2 _ _ [6, 6, 3] _ rfl) _) (below3 _ _ _ _))
set_option maxRecDepth 100000 in
set_option maxHeartbeats 1000000 in
theorem kidsOf_4 (w : World) : Calls Tryz.prog 120 #[.int .i64 4] w (KdQ 4 w) := by
  obtain ⟨PO, hPO⟩ : ∃ PO, PO = KdQ 4 w := ⟨_, rfl⟩
  rw [← hPO]
  have HPO := hid hPO
  clear hPO
  go_enter Tryz.func120, Tryz.ntmps120
  go_wp2_with (go_at_call 119; refine (just_any _ _ _ _).mono ?_; rintro e w2 ⟨rfl, rfl⟩)
  exact bodyPost_ret (results_cell_row rfl _ _ w.heap.size 189 _ (0, 0) _ rfl (heap3 _ _ _ _) Tryz.underlying189 rfl (by kernel_rfl)) rfl (by rw [HPO.out]; exact kdq (rs := [4]) rfl rfl (by omega) (Blk.alloc (blk2 _ _ [4] _ rfl) _) (below3 _ _ _ _))
set_option maxRecDepth 100000 in
set_option maxHeartbeats 1000000 in
theorem kidsOf_6 (w : World) : Calls Tryz.prog 120 #[.int .i64 6] w (KdQ 6 w) := by
  obtain ⟨PO, hPO⟩ : ∃ PO, PO = KdQ 6 w := ⟨_, rfl⟩
  rw [← hPO]
  have HPO := hid hPO
  clear hPO
  go_enter Tryz.func120, Tryz.ntmps120
  go_wp2_with (go_at_call 119; refine (just_any _ _ _ _).mono ?_; rintro e w2 ⟨rfl, rfl⟩)
  exact bodyPost_ret (results_cell_row rfl _ _ w.heap.size 189 _ (0, 0) _ rfl (heap3 _ _ _ _) Tryz.underlying189 rfl (by kernel_rfl)) rfl (by rw [HPO.out]; exact kdq (rs := [4]) rfl rfl (by omega) (Blk.alloc (blk2 _ _ [4] _ rfl) _) (below3 _ _ _ _))
set_option maxRecDepth 100000 in
set_option maxHeartbeats 1000000 in
theorem kidsOf_29 (w : World) : Calls Tryz.prog 120 #[.int .i64 29] w (KdQ 29 w) := by
  obtain ⟨PO, hPO⟩ : ∃ PO, PO = KdQ 29 w := ⟨_, rfl⟩
  rw [← hPO]
  have HPO := hid hPO
  clear hPO
  go_enter Tryz.func120, Tryz.ntmps120
  go_wp2_with (go_at_call 119; refine (just_any _ _ _ _).mono ?_; rintro e w2 ⟨rfl, rfl⟩)
  exact bodyPost_ret (results_cell_row rfl _ _ w.heap.size 189 _ (0, 0) _ rfl (heap3 _ _ _ _) Tryz.underlying189 rfl (by kernel_rfl)) rfl (by rw [HPO.out]; exact kdq (rs := [4]) rfl rfl (by omega) (Blk.alloc (blk2 _ _ [4] _ rfl) _) (below3 _ _ _ _))
set_option maxRecDepth 100000 in
set_option maxHeartbeats 1000000 in
theorem kidsOf_33 (w : World) : Calls Tryz.prog 120 #[.int .i64 33] w (KdQ 33 w) := by
  obtain ⟨PO, hPO⟩ : ∃ PO, PO = KdQ 33 w := ⟨_, rfl⟩
  rw [← hPO]
  have HPO := hid hPO
  clear hPO
  go_enter Tryz.func120, Tryz.ntmps120
  go_wp2_with (go_at_call 119; refine (just_any _ _ _ _).mono ?_; rintro e w2 ⟨rfl, rfl⟩)
  exact bodyPost_ret (results_cell_row rfl _ _ w.heap.size 189 _ (0, 0) _ rfl (heap3 _ _ _ _) Tryz.underlying189 rfl (by kernel_rfl)) rfl (by rw [HPO.out]; exact kdq (rs := [4]) rfl rfl (by omega) (Blk.alloc (blk2 _ _ [4] _ rfl) _) (below3 _ _ _ _))
set_option maxRecDepth 100000 in
set_option maxHeartbeats 1000000 in
theorem kidsOf_34 (w : World) : Calls Tryz.prog 120 #[.int .i64 34] w (KdQ 34 w) := by
  obtain ⟨PO, hPO⟩ : ∃ PO, PO = KdQ 34 w := ⟨_, rfl⟩
  rw [← hPO]
  have HPO := hid hPO
  clear hPO
  go_enter Tryz.func120, Tryz.ntmps120
  go_wp2_with (go_at_call 119; refine (just_any _ _ _ _).mono ?_; rintro e w2 ⟨rfl, rfl⟩)
  exact bodyPost_ret (results_cell_row rfl _ _ w.heap.size 189 _ (0, 0) _ rfl (heap3 _ _ _ _) Tryz.underlying189 rfl (by kernel_rfl)) rfl (by rw [HPO.out]; exact kdq (rs := [7]) rfl rfl (by omega) (Blk.alloc (blk2 _ _ [7] _ rfl) _) (below3 _ _ _ _))

end Go.Proofs.YtbllaacbeagljaaGreatDoor
