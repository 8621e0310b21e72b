import Derived.Test.YtddddfankeepkaaGreatDoorF46
import Derived.Test.YtddddfankeepkaaGreatDoorF25
namespace Go.Proofs.YtddddfankeepkaaGreatDoor
open Go.RowKit Go.ChangeShapes Go.WideShapes Go.ChangeAt Go.Deep
theorem bulk_lits {H : Type} (k : IntKind) (zs : List Int) : Rows.uptoBulkAll (H := H) (lits k zs) = zs.length := by
 induction zs with
 | nil => rfl
 | cons z r ih =>
  have e : lits (H := H) k (z :: r) = .lit (.int k z) :: lits k r := rfl
  rw [e, Rows.uptoBulkAll, ih]
  simp [Rows.uptoBulk]
  omega
theorem rd_of_open {W : World} {x : Addr} {len cap : Nat} {zs : List Int} (hl : len ≤ cap) (hz : zs.length = cap) (hcell : ∀ i, i < zs.length → W.cell? (x.add i) = some (.int .u8 (zs.getD i 0))) (hwz : ∀ n ∈ zs, (Lit.int .u8 n).wf = true) :
  Rd W.heap.size W (some x) len (zs.take len) := by
 refine ⟨by simp; omega, fun z hzm => ?_, ?_⟩
 ·have := bounds_u8 (hwz z (List.mem_of_mem_take hzm))
  omega
 ·by_cases h0 : len = 0
  ·exact .inl h0
  ·have hc := hcell 0 (by omega)
   obtain ⟨b, off, rfl⟩ := spot_none hc
   refine .inr ⟨b, off, rfl, World.block_lt_of_cell? W ⟨b, off, none⟩ (by rw [add_plain] at hc; exact hc), fun t ht => ?_⟩
   rw [← add_plain, hcell t (by omega), List.getD_eq_getElem?_getD, List.getD_eq_getElem?_getD, List.getElem?_take_of_lt ht]
theorem open_bytes {H : Type} {enc : TypeId × Value → H} {W : World} {fuel : Nat} {cs : List Value} {y : DataW H × List MemPlace} (h : DataW.trod enc Tryz.prog W 0 (fun _ => true) true fuel 40 cs = some y) :
  ∃ a n c zs, cs = [.slice a n c] ∧ (a = none → c = 0) ∧ Rd W.heap.size W a n zs ∧ n + 1 ≤ Rows.uptoBulk y.1 := by
 rcases open_ints Tryz.underlying40 Tryz.underlying5 (by kernel_rfl) h with ⟨hcs, hx⟩ | ⟨x, l, c, zs, hcs, hp, hl, hm, hz, hx, hcell, hwz⟩
 ·refine ⟨none, 0, 0, [], hcs, fun _ => rfl, ⟨rfl, Pl.isB_nil, .inl rfl⟩, bulk_one _⟩
 ·refine ⟨some x, l, c, zs.take l, hcs, fun h => (by cases h), rd_of_open hl (by simpa using hz) hcell hwz, ?_⟩
  rw [hx]
  simp only [Rows.uptoBulk, bulk_lits]
  simp at hz
  rw [List.length_take]
  omega
theorem co40 : Tryz.prog.cellsOf 40 = 1 := by kernel_rfl
theorem co42 : Tryz.prog.cellsOf 42 = 6 := by kernel_rfl
theorem six {α : Type} {l : List α} (h : l.length = 6) : ∃ a b c d e f, l = [a, b, c, d, e, f] := by
 match l, h with
 | [a, b, c, d, e, f], _ => exact ⟨a, b, c, d, e, f, rfl⟩
end Go.Proofs.YtddddfankeepkaaGreatDoor
