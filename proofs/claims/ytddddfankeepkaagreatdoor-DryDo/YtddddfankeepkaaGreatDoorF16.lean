import Derived.Test.YtddddfankeepkaaGreatDoorF00
import Derived.Test.YtddddfankeepkaaGreatDoorF15
import Derived.Lib.SlicesS
namespace Go.Proofs.YtddddfankeepkaaGreatDoor
open Go.RowKit
set_option maxHeartbeats 400000 in
theorem within_any (n a b : Int) (w : World) : Calls Tryz.prog 136 #[.int .i64 n, .int .i64 a, .int .i64 b] w fun e w' => e = .returned (.bool (decide (a ≤ n) && decide (n ≤ b))) ∧ w' = w := by
 go_enter Tryz.func136, Tryz.ntmps136
 by_cases h1 : a ≤ n <;> by_cases h2 : n ≤ b
 all_goals go_wp2
 all_goals go_ret
 all_goals exact ⟨by simp [*], rfl⟩
set_option maxRecDepth 100000 in
set_option maxHeartbeats 1000000 in
theorem sIndex_any (b off n c : Nat) (zs : List ByteArray) (x : ByteArray) (w : World) (hz : n ≤ zs.length) (hbig : n ≤ 9223372036854775807) (hc : ∀ j, j < zs.length → w.cell? ⟨b, off + j, none⟩ = some (.string (zs.getD j ByteArray.empty))) :
  Calls Tryz.prog 144 #[.slice (some ⟨b, off, none⟩) n c, .string x] w fun e w' => e = .returned (.int .i64 (Lib.idxOfS (zs.take n) x)) ∧ w' = w := by
 go_enter Tryz.func144, Tryz.ntmps144
 go_wp2
 go_loop [5, 8] (fun _ i => ∃ k : Nat, k ≤ n ∧ i = .int .i64 k ∧ ∀ j, j < k → zs.getD j ByteArray.empty ≠ x) (fun _ i => match i with | .int _ m => n - m.toNat | _ => 0)
 case atStart => exact ⟨0, Nat.zero_le _, rfl, fun j hj => absurd hj (Nat.not_lt_zero _)⟩
 case round =>
  obtain ⟨k, hk, rfl, hne⟩ := hrel
  have hcell : k < n → w.cell? ⟨b, off + k, none⟩ = some (.string (zs.getD k ByteArray.empty)) := fun _ => hc k (by omega)
  go_wp2
  ·have hlt : k < n := by assumption
   have heq : (x.toList == (zs[k]?.getD ByteArray.empty).toList) = true := by assumption
   go_ret
   refine ⟨?_, rfl⟩
   rw [Lib.idxOfS_hit zs n k x hlt hz (by simp only [List.getD]; exact ((Lib.bytes_beq_iff _ _).1 heq).symm) hne]
   rfl
  ·have hlt : k < n := by assumption
   have hneq : (x.toList == (zs[k]?.getD ByteArray.empty).toList) = false := by assumption
   go_round
   case rel =>
    refine ⟨k + 1, by omega, by go_num, fun j hj => ?_⟩
    by_cases e : j = k
    ·subst e
     intro he
     exact (Lib.bytes_beq_false_iff _ _).1 hneq (by simpa [List.getD] using he.symm)
    ·exact hne j (by omega)
   case measure => simp; omega
  ·have hge : ¬ k < n := by assumption
   have : k = n := by omega
   subst this
   go_ret
   refine ⟨?_, rfl⟩
   rw [Lib.idxOfS_miss zs k x hne]
   rfl
set_option maxRecDepth 100000 in
set_option maxHeartbeats 1000000 in
theorem sContains_any (b off n c : Nat) (zs : List ByteArray) (x : ByteArray) (w : World) (hz : n ≤ zs.length) (hbig : n ≤ 9223372036854775807) (hc : ∀ j, j < zs.length → w.cell? ⟨b, off + j, none⟩ = some (.string (zs.getD j ByteArray.empty))) :
  Calls Tryz.prog 137 #[.slice (some ⟨b, off, none⟩) n c, .string x] w fun e w' => e = .returned (.bool (Lib.containsS (zs.take n) x)) ∧ w' = w := by
 unfold Lib.containsS
 have H := hid (sIndex_any b off n c zs x w hz hbig hc)
 generalize Lib.idxOfS (zs.take n) x = r at *
 clear hc
 go_enter Tryz.func137, Tryz.ntmps137
 go_wp2_with fail
 refine Calls.mono H.out ?_
 rintro e w' ⟨rfl, rfl⟩
 go_wp2
 go_ret
 exact ⟨rfl, rfl⟩
theorem cell_new {w : World} {vs : Array Value} {t : TypeId} {S : Nat} (hS : w.heap.size = S) (i : Nat) (v : Value) (h : vs[i]? = some v) : (w.alloc (.cells vs t)).cell? ⟨S, i, none⟩ = some v := by
 have e : (w.alloc (.cells vs t)).heap[S]? = some (.cells vs t) := by
  subst hS
  show (w.heap.push _)[w.heap.size]? = _
  simp
 simp [World.cell?, e, h]
theorem cell_al {w w1 : World} {cs : Array Value} {e : TypeId} (hw : w1 = w.alloc (.cells cs e)) (t : Nat) (v : Value) (hv : cs[t]? = some v) : w1.cell? ⟨w.heap.size, t, none⟩ = some v := by
 rw [hw]
 exact cell_new rfl t v hv
theorem four_cells {w W : World} {f0 f1 f2 f3 : ByteArray} (hW : W = w.alloc (.cells #[.string f0, .string f1, .string f2, .string f3] 134)) (j : Nat) (hj : j < [f0, f1, f2, f3].length) : W.cell? ⟨w.heap.size, 0 + j, none⟩ = some (.string ([f0, f1, f2, f3].getD j ByteArray.empty)) := by
 rw [Nat.zero_add]
 apply cell_al hW
 simp at hj
 match j, hj with
 | 0, _ => rfl
 | 1, _ => rfl
 | 2, _ => rfl
 | 3, _ => rfl
set_option maxRecDepth 100000 in
set_option maxHeartbeats 1000000 in
theorem has_any (f0 f1 f2 f3 x : ByteArray) (w : World) : Calls Tryz.prog 120 #[.agg #[.string f0, .string f1, .string f2, .string f3], .string x] w fun e w' => e = .returned (.bool (Lib.containsS [f0, f1, f2, f3] x)) ∧ w' = w.alloc (.cells #[.string f0, .string f1, .string f2, .string f3] 134) := by
 obtain ⟨W, hW⟩ : ∃ W, W = w.alloc (.cells #[.string f0, .string f1, .string f2, .string f3] 134) := ⟨_, rfl⟩
 have H := hid (sContains_any w.heap.size 0 4 4 [f0, f1, f2, f3] x W (Nat.le_refl _) (by decide) (four_cells hW))
 simp only [List.take_succ_cons, List.take_zero] at H
 generalize Lib.containsS [f0, f1, f2, f3] x = r at *
 rw [← hW]
 have HW := hid hW
 clear hW
 go_enter Tryz.func120, Tryz.ntmps120
 go_wp2_with fail
 rw [← HW.out]
 refine Calls.mono H.out ?_
 rintro e w' ⟨rfl, rfl⟩
 go_wp2
 go_ret
 exact ⟨rfl, rfl⟩
end Go.Proofs.YtddddfankeepkaaGreatDoor
