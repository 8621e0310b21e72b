/-
  Package disk: the places of a cut; Crash.
-/
import Derived.Test.YtokgfnfgpjkpjaaDk5
namespace Go.Proofs.Ytokgfnfgpjkpjaa
open Go.RowKit

/-- the least that the i-th place may be -/
def leastK (ks : List Int) (i : Nat) : Int := if i = 0 then 0 else ks.getD (i - 1) 0 + 1
abbrev GoodK (n : Nat) (ks : List Int) : Prop := ∀ i, i < ks.length → leastK ks i ≤ ks.getD i 0 ∧ ks.getD i 0 < (n : Int)
def placesC (n : Nat) (ks : List Int) : Int := if GoodK n ks then 0 else 26
theorem good_lo {n : Nat} {ks : List Int} (h : GoodK n ks) : ∀ i, i < ks.length → 0 ≤ ks.getD i 0 := by
  intro i
  induction i with
  | zero => intro hi; have := (h 0 hi).1; simpa [leastK] using this
  | succ i ih =>
    intro hi
    have h1 := (h (i + 1) hi).1
    have h2 := ih (by omega)
    unfold leastK at h1
    rw [if_neg (by omega), Nat.add_sub_cancel] at h1
    omega

/-- pending writes laid over an image, those of the places ks -/
def layP (puts : List (Nat × List Int)) (im : List Int) (k : Int) : List Int := splice im ((puts.getD k.toNat (0, [])).1 * 512) (puts.getD k.toNat (0, [])).2
def crashZ (img : List Int) (puts : List (Nat × List Int)) (ks : List Int) : List Int := ks.foldl (layP puts) img
theorem fold_snoc {α β : Type} (f : β → α → β) (b : β) (l : List α) {k : Nat} (h : k < l.length) : (l.take (k + 1)).foldl f b = f ((l.take k).foldl f b) l[k] := by
  rw [List.take_succ_eq_append_getElem h, List.foldl_append]
  rfl

end Go.Proofs.Ytokgfnfgpjkpjaa
