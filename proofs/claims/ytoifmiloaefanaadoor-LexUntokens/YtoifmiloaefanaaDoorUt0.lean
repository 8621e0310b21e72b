/-
  lex: Untoken, of any tokens.
-/
import Derived.Test.YtoifmiloaefanaaDoorMb0
namespace Go.Proofs.YtoifmiloaefanaaDoor
open Go.RowKit

/-- what Untoken answers -/
def untQ (ts : List Tk) : List Int × Int := if 16384 < ts.length then ([], 184) else if ts.all mbT = true then jnQ (ts.map wrT) else ([], 185)
/-- tokens within bounds -/
def TkG (t : Tk) : Prop := Pl.isB (wrT t) ∧ (wrT t).length ≤ 16777216 ∧ -9223372036854775808 ≤ t.n ∧ t.n ≤ 9223372036854775807 ∧ t.tx.length ≤ 140737488355328
theorem first_no : ∀ (ts : List Tk), ¬ ts.all mbT = true → ∃ m, ∃ hm : m < ts.length, mbT ts[m] = false ∧ ∀ j (hj : j < m), mbT (ts[j]'(by omega)) = true
  | [], h => by simp at h
  | t :: ts, h => by
    cases ht : mbT t with
    | false => exact ⟨0, by simp, by simpa using ht, fun j hj => by omega⟩
    | true =>
      have h' : ¬ ts.all mbT = true := by simpa [ht] using h
      obtain ⟨m, hm, h1, h2⟩ := first_no ts h'
      refine ⟨m + 1, by simp; omega, by simpa using h1, fun j hj => ?_⟩
      cases j with
      | zero => simpa using ht
      | succ j => simpa using h2 j (by omega)
theorem Untoken_all (a : Option Addr) (n c : Nat) (ts : List Tk) (w : World) (hn : ts.length = n) (hR : TkR w a ts) (hG : GT w) (hb : ∀ t ∈ ts, TkG t) :
    Calls Tryd.prog 9 #[.slice a n c] w fun e w' => e = .returned (.tuple #[.string (strOfNums (untQ ts).1), .int .i64 (untQ ts).2]) ∧ Below w.heap.size w w' := by
  have hmb : ∀ t ∈ ts, ∀ w', Below w.heap.size w w' → Mb18 w' (tokV t) (mbT t) := fun t ht w' h => by
    obtain ⟨g1, g2, g3, g4, g5⟩ := hb t ht
    exact mayBe_any t w' (hG.next h) g1 g2 g3 g4 g5
  have hwr : ∀ t ∈ ts, ∀ w', Below w.heap.size w w' → Wr28 w' (tokV t) (wrT t) := fun t ht w' h => by
    obtain ⟨g1, g2, g3, g4, g5⟩ := hb t ht
    exact written_all t w' (hG.next h) g3 g4 g5
  unfold untQ
  by_cases h1 : 16384 < ts.length
  · rw [if_pos h1]
    refine (Untoken_many a n c w (by omega)).mono ?_
    rintro e w' ⟨rfl, rfl⟩
    exact ⟨rfl, Below.refl _ _⟩
  rw [if_neg h1]
  by_cases h2 : ts.all mbT = true
  · rw [if_pos h2]
    have h2' := List.all_eq_true.1 h2
    refine Untoken_yes a n c ts w hn hR (by omega) (jnQ (ts.map wrT)).1 (jnQ (ts.map wrT)).2 (fun j hj w' hw => ?_) (fun w' hw => ?_)
    · have := hmb _ (List.getElem_mem hj) w' hw
      rw [h2' _ (List.getElem_mem hj)] at this
      exact this
    · refine joined_any a n c ts (ts.map wrT) w' hn (by simpa using hn) (hR.next hw) (by omega) (fun j hj hj' w'' hw' => ?_) (fun l hl => ?_)
      · rw [List.getElem_map]
        exact hwr _ (List.getElem_mem hj) w'' (hw.trans (hw'.mono hw.size))
      · obtain ⟨t, ht, rfl⟩ := List.mem_map.1 hl
        exact (hb t ht).2.1
  · rw [if_neg h2]
    obtain ⟨m, hm, h3, h4⟩ := first_no ts h2
    refine Untoken_no a n c ts w hn hR (by omega) m (by omega) (fun j hj w' hjm hw => ?_)
    have := hmb _ (List.getElem_mem hj) w' hw
    by_cases q : j < m
    · rw [h4 j q] at this
      rw [decide_eq_true q]
      exact this
    · obtain rfl : j = m := by omega
      rw [h3] at this
      rw [decide_eq_false q]
      exact this

end Go.Proofs.YtoifmiloaefanaaDoor
