/-
  settle.
-/
import Derived.Test.YteokekllbpkemaaBkN
namespace Go.Proofs.Yteokekllbpkemaa
open Go.RowKit

/-- Own of nothing -/
theorem OwnNil (B : Nat) (X : Nat → Prop) (w : World) (b cnt tot nK : Nat) (mark : Int) (hB : B ≤ w.heap.size) (hnK : nK ≤ 67108864) (hc : cnt ≤ 8388608) (ht : tot ≤ 1073741754) (hm0 : 0 ≤ mark) (hm1 : mark ≤ 268435456) (h : Bok B X w b cnt tot nK) :
    Calls Try.prog 13 #[.pointer (some ⟨b, 0, none⟩), .slice none 0 0, .int .i64 mark] w fun e w' => e = .returned (.tuple #[]) ∧ ∃ nK', nK' ≤ nK + 15 ∧
      Bok B (fun x => X x ∨ w.heap.size ≤ x) w' b (cnt + 1) tot nK' ∧ But X w w' := by
  refine Calls.mono (Own_any B X w b cnt tot nK none 0 [] mark hB hnK hc ht (by decide) hm0 hm1 h Pl.isB_nil (.inl ⟨rfl, rfl, rfl⟩)) ?_
  rintro e w' ⟨rfl, nK', hn, h1, h2⟩
  refine ⟨rfl, nK', hn, h1.mono (fun x q => ?_), h2.mono (fun x _ q => ?_)⟩
  · rcases q with q | q | q
    · exact .inl q
    · cases q
    · exact .inr q
  · rcases q with q | q
    · exact q
    · cases q

end Go.Proofs.Yteokekllbpkemaa
