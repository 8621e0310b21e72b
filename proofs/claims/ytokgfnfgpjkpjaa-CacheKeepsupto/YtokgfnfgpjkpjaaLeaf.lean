/-
  Reading bytes.
-/
import Derived.Test.YtokgfnfgpjkpjaaRows
import Derived.Test.YtokgfnfgpjkpjaaPlain
import Derived.Test.YtokgfnfgpjkpjaaBlk
import Derived.WalkKit
import Derived.WalkSpells
import Derived.WalkLawsBesides
import Derived.Laws.BitsAllLaws
namespace Go.Proofs.Ytokgfnfgpjkpjaa
open Go.RowKit

/-- BYTES THAT ARE READ: n of them, at an address below block B (of none of them nothing is known) -/
def Rd (B : Nat) (w : World) (a : Option Addr) (n : Nat) (zs : List Int) : Prop :=
  zs.length = n ∧ Pl.isB zs ∧ (n = 0 ∨ ∃ b off, a = some ⟨b, off, none⟩ ∧ b < B ∧ ∀ t, t < n → w.cell? ⟨b, off + t, none⟩ = some (.int .u8 (zs.getD t 0)))
theorem Rd.below {B : Nat} {w w' : World} {a : Option Addr} {n : Nat} {zs : List Int} (h : Rd B w a n zs) (hb : Below B w w') : Rd B w' a n zs := by
  obtain ⟨h1, h2, h3⟩ := h
  refine ⟨h1, h2, ?_⟩
  rcases h3 with h3 | ⟨b, off, rfl, hlt, hc⟩
  · exact .inl h3
  · exact .inr ⟨b, off, rfl, hlt, fun t ht => (hb.cell (by exact hlt)).trans (hc t ht)⟩
theorem Rd.mono {B B' : Nat} {w : World} {a : Option Addr} {n : Nat} {zs : List Int} (h : Rd B w a n zs) (hb : B ≤ B') : Rd B' w a n zs := by
  obtain ⟨h1, h2, h3⟩ := h
  refine ⟨h1, h2, ?_⟩
  rcases h3 with h3 | ⟨b, off, rfl, hlt, hc⟩
  · exact .inl h3
  · exact .inr ⟨b, off, rfl, by omega, hc⟩

end Go.Proofs.Ytokgfnfgpjkpjaa
