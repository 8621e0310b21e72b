import Derived.Test.YtddddfankeepkaaGreatDoorF03
import Derived.Lib.Overlaps
import Derived.Lib.SliceRun
namespace Go.Proofs.YtddddfankeepkaaGreatDoor
open Go.RowKit
theorem run_append_zeros_grow {P : Program} (w : World) (t tn ty e : TypeId) (i : TypeInfo) (z : Value) (k kn : IntKind) (ht : P.underlying t = some (.slice e)) (htn : P.underlying tn = some (.int kn)) (hi : P.info? e = some i) (hz : i.zero = some z)
  (g n m cap : Nat) (old : List Value) (hol : old.length = n * i.size) (hold : ∀ j v, old[j]? = some v → w.cell? ((⟨g, 0, none⟩ : Addr).add j) = some v) (h0 : 0 < m) (hs : 0 < i.size) (hgr : cap < n + m) (h63 : n + m ≤ 9223372036854775807) (h48 : (n + m) * i.bytes ≤ 140737488355328) :
  (Builtin.append_ #[t, tn] ty #[.slice (some ⟨g, 0, none⟩) n cap, .int k m]).run P w =
   .ok (.slice (some ⟨w.heap.size, 0, none⟩) (n + m) (grownCap w (n + m) cap e)) (w.drew.alloc (.cells (old.toArray ++ Builtin.zeroCells z.cells m ++ Builtin.zeroCells z.cells (grownCap w (n + m) cap e - (n + m))) e)) := by
 have hn : m ≠ 0 := by omega
 have hw : IntKind.i64.wrap (m : Int) = m := by rw [IntKind.wrap_i64]; omega
 have h63' : ¬ (9223372036854775807 < (n : Int) + (m : Int)) := by omega
 have h48a : Builtin.nextslicecap (n + m) cap * i.bytes ≤ 281474976710656 := growslice_fits (by omega) h48
 have h48' : ¬ (281474976710656 < Builtin.nextslicecap (n + m) cap * i.bytes) := by omega
 have hmb : m * i.bytes ≤ (n + m) * i.bytes := Nat.mul_le_mul_right _ (by omega)
 have h48i : ¬ (281474976710656 < (m : Int) * (i.bytes : Int)) := by
  rw [← Int.natCast_mul]
  omega
 have hneg : ¬ ((m : Int) < 0) := by omega
 have hns : ¬ (m * i.size = 0) := Nat.mul_ne_zero hn (by omega)
 have hle : ¬ (n + m ≤ cap) := by omega
 have hfo := run_firstCells_some (P := P) w.drew i.size n ⟨g, 0, none⟩ n cap old hol (by simpa using hold)
 simp [Builtin.append_, run_underlying ht, run_underlying htn, sizeOf, typeInfo, zeroValue, hi, hz, asInt, asIntOf, hw, hneg, hns, hle, h63', h48', h48i, Question.forced, hfo, newRow, grownCap]
/-! ### lists -/
theorem ins_list {α : Type} (xs sp news : List α) (a s : Nat) (ha : a ≤ xs.length) (hs : news.length = s) (hsp : s ≤ sp.length) (L1 L2 : List α)
  (h1 : L1 = (xs ++ sp).take (a + s) ++ xs.drop a ++ (xs ++ sp).drop (a + s + (xs.drop a).length)) (h2 : L2 = L1.take a ++ news ++ L1.drop (a + news.length)) :
  L2 = xs.take a ++ news ++ xs.drop a ++ (xs ++ sp).drop (xs.length + s) := by
 have e0 : ((xs ++ sp).take (a + s)).length = a + s := by simp; omega
 have e1 : L1.take a = xs.take a := by
  rw [h1, List.append_assoc, List.take_append_of_le_length (by omega), List.take_take, Nat.min_eq_left (by omega), List.take_append_of_le_length ha]
 have e2 : L1.drop (a + s) = xs.drop a ++ (xs ++ sp).drop (xs.length + s) := by
  rw [h1, List.append_assoc, List.drop_append_of_le_length (by omega), List.drop_of_length_le (by omega), List.nil_append]
  congr 2
  simp
  omega
 rw [h2, e1, hs, e2]
 simp
theorem grow_list {α : Type} (xs z rest news : List α) (a s : Nat) (ha : a ≤ xs.length) (hs : news.length = s) (hz : z.length = s + (xs.length - a)) (L0 L1 L2 : List α)
  (h0 : L0 = xs.take a ++ z ++ rest) (h1 : L1 = L0.take a ++ news ++ L0.drop (a + news.length)) (h2 : L2 = L1.take (a + s) ++ xs.drop a ++ L1.drop (a + s + (xs.drop a).length)) :
  L2 = xs.take a ++ news ++ xs.drop a ++ rest := by
 have e0 : (xs.take a).length = a := by simp; omega
 have e1 : L0.take a = xs.take a := by rw [h0, List.append_assoc, List.take_append_of_le_length (by omega), List.take_of_length_le (by omega)]
 have e2 : L0.drop (a + news.length) = z.drop s ++ rest := by
  rw [h0, List.append_assoc, List.drop_append, List.drop_of_length_le (by omega), List.nil_append, e0, hs, show a + s - a = s by omega, List.drop_append_of_le_length (by omega)]
 have e3 : L1 = xs.take a ++ news ++ (z.drop s ++ rest) := by rw [h1, e1, e2]
 have e4 : L1.take (a + s) = xs.take a ++ news := by
  rw [e3]
  exact List.take_left' (by simp; omega)
 have e5 : L1.drop (a + s + (xs.drop a).length) = rest := by
  rw [e3, ← List.append_assoc]
  exact List.drop_left' (by simp; omega)
 rw [h2, e4, e5]
end Go.Proofs.YtddddfankeepkaaGreatDoor
