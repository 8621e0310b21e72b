/-
  Arguments, opened: bytes.
-/
import Derived.Test.YteaebdonnicbkaaLeaf
import Derived.ProofKit
import Derived.OpenShut
import Derived.SizedLaws
namespace Go.Proofs.Yteaebdonnicbkaa
open Go.ChangeShapes Go.WideShapes Go.ChangeAt Go.RowKit

theorem bulk_lits {H : Type} (k : IntKind) (zs : List Int) : Rows.uptoBulkAll (H := H) (lits k zs) = zs.length := by
  induction zs with
  | nil => rfl
  | cons z r ih =>
    have e : lits (H := H) k (z :: r) = .lit (.int k z) :: lits k r := rfl
    rw [e, Rows.uptoBulkAll, ih]
    simp [Rows.uptoBulk]
    omega
theorem rd_of_open {W : World} {x : Addr} {len cap : Nat} {zs : List Int} (hl : len ≤ cap) (hz : zs.length = cap) (hcell : ∀ i, i < zs.length → W.cell? (x.add i) = some (.int .u8 (zs.getD i 0))) (hwz : ∀ n ∈ zs, (Lit.int .u8 n).wf = true) :
    Rd W.heap.size W (some x) len (zs.take len) := by
  refine ⟨by simp; omega, fun z hzm => ?_, ?_⟩
  · have := bounds_u8 (hwz z (List.mem_of_mem_take hzm))
    omega
  · by_cases h0 : len = 0
    · exact .inl h0
    · obtain ⟨b, off, spot⟩ := x
      have hc := hcell 0 (by omega)
      have hspot : spot = none := by simpa [Addr.add] using World.cell?_spot hc
      subst hspot
      have hadd : ∀ t, (⟨b, off, none⟩ : Addr).add t = ⟨b, off + t, none⟩ := fun t => by unfold Addr.add; split <;> simp_all
      refine .inr ⟨b, off, rfl, World.block_lt_of_cell? W ⟨b, off, none⟩ (by rw [hadd] at hc; exact hc), fun t ht => ?_⟩
      rw [← hadd, hcell t (by omega), List.getD_eq_getElem?_getD, List.getD_eq_getElem?_getD, List.getElem?_take_of_lt ht]

/-- BYTES THAT CAME IN -/
theorem open_b {H : Type} {enc : TypeId × Value → H} {W : World} {a : Option Addr} {len cap : Nat} {d : DataW H} {p : List MemPlace} (h : DataW.Trod enc Try.prog W 0 (fun _ => true) true 22 (.slice a len cap) d p) :
    ∃ zs, (a = none → cap = 0) ∧ len ≤ cap ∧ Rd W.heap.size W a len zs ∧ ((d = .nil ∧ cap = 0) ∨ ∃ all : List Int, d = .slice (lits .u8 (all.take len)) (lits .u8 (all.drop len)) ∧ all.length = cap) := by
  obtain ⟨fuel, hf⟩ := h
  rcases open_ints Try.underlying22 Try.underlying5 (by kernel_rfl) hf with ⟨hcs, hx⟩ | ⟨x, l, c, zs, hcs, hp, hl, hm, hz, hx, hcell, hwz⟩
  · simp [Value.cells] at hcs
    obtain ⟨rfl, rfl, rfl⟩ := hcs
    simp only [Prod.mk.injEq] at hx
    exact ⟨[], fun _ => rfl, Nat.le_refl _, ⟨rfl, Pl.isB_nil, .inl rfl⟩, .inl ⟨hx.1, rfl⟩⟩
  · simp [Value.cells] at hcs
    obtain ⟨rfl, rfl, rfl⟩ := hcs
    simp only [Prod.mk.injEq] at hx
    have hz' : zs.length = cap := by simpa using hz
    exact ⟨zs.take len, fun h => (by cases h), hl, rd_of_open hl hz' hcell hwz, .inr ⟨zs, hx.1, hz'⟩⟩

theorem bytes5 : Try.prog.bytesOf 5 = 1 := by kernel_rfl

end Go.Proofs.Yteaebdonnicbkaa
