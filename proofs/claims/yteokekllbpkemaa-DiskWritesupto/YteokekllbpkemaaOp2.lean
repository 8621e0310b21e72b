/-
  open (function 11), whole.
-/
import Derived.Test.YteokekllbpkemaaOp1
namespace Go.Proofs.Yteokekllbpkemaa
open Go.RowKit

/-- the image of a beginning -/
structure BegIn (B : Nat) (w : World) (a : Option Addr) (n c : Nat) (zs : List Int) : Prop where
  small : n ≤ 16777216
  cap : n ≤ c
  rd : Rd B w a n zs
theorem BegIn.below {B : Nat} {w w' : World} {a : Option Addr} {n c : Nat} {zs : List Int} (h : BegIn B w a n c zs) (hb : Below B w w') : BegIn B w' a n c zs := ⟨h.small, h.cap, h.rd.below hb⟩
theorem open_any (t : Nat) (κ : Nat → Nat) (w : World) (nw : Bool) (bl : Int) {B : Nat} {a : Option Addr} {n c : Nat} {zs : List Int} (h : BegIn B w a n c zs) (hB : B ≤ w.heap.size) : Calls Try.prog 11 #[beginV nw bl (.slice a n c)] w (OpenR t κ w) := by
  cases nw with
  | true =>
    by_cases hx : bl < 1 ∨ 524288 < bl
    · exact open_new_bad t κ w bl _ hx
    · obtain ⟨nb, rfl⟩ : ∃ nb : Nat, bl = nb := ⟨bl.toNat, by omega⟩
      exact open_new_ok t κ w nb _ (by omega) (by omega)
  | false =>
    by_cases hx : openBad n
    · exact open_image_bad t κ w bl a n c zs h.small (h.rd.mono hB) hx
    · unfold openBad at hx
      exact open_image_ok t κ w bl a n c zs h.small (h.rd.mono hB) (n / 512) (by omega) (by omega) (by omega) h.cap

end Go.Proofs.Yteokekllbpkemaa
