/-
  CopyTokens.
-/
import Derived.Test.YtoifmiloaefanaaSt0
import Derived.Laws.AppendOwnNone
import Derived.Lib.AppendZeros
namespace Go.Proofs.Ytoifmiloaefanaa
open Go.RowKit

theorem cellsT_one : ∀ (ts : List Tk), ∀ u ∈ flatT ts, u.oneCell' = true
  | [], u, h => by cases h
  | t :: ts, u, h => by
    rcases List.mem_append.1 h with h | h
    · simp only [cellsT, List.mem_cons, List.not_mem_nil, or_false] at h
      rcases h with rfl | rfl | rfl | rfl <;> rfl
    · exact cellsT_one ts u h
/-- all of a list, behind a list of one's own -/
theorem OwT.join {B C : Nat} {w : World} {v u : Value} {ts us : List Tk} (ty : TypeId) (h : OwT B w v ts) (hu : OwT C w u us) (hl : ts.length + us.length ≤ 16777216) (hw : B ≤ w.heap.size) :
    ∃ v' w', (Builtin.append_ #[23, 23] ty #[v, u]).run Try.prog w = .ok v' w' ∧ OwT B w' v' (ts ++ us) ∧ Gr w w' v v' := by
  obtain ⟨i0, hi, hz0, hz1, hz2⟩ := info_parts info29
  have hu' := hu
  rcases hu.2 with ⟨rfl, q⟩ | ⟨g, cap, cur, rfl, _, hh, _⟩
  · obtain rfl : us = [] := List.eq_nil_of_length_eq_zero q
    refine ⟨v, w, run_append_owned_none (P := Try.prog) (w := w) B 23 ty 29 i0 4 Try.underlying23 hi v ts.length (flatT ts) h, by rw [List.append_nil]; exact h, ⟨rfl, rfl, rfl, Nat.le_refl _, fun _ _ _ => rfl, .inl rfl⟩⟩
  · obtain ⟨v', w', hr, h2, h3, _, h5⟩ := run_append_own_at (P := Try.prog) w B 23 ty 29 i0 _ 4 40 Try.underlying23 hi hz0 hz1 hz2 rfl (by decide) v ts.length (flatT ts) h ⟨g, 0, none⟩ us.length cap (flatT us) (flatT_len us) (fun j x hx => by
      rw [Addr.add_lit, Nat.zero_add]
      have hj : j < (flatT us).length := (List.getElem?_eq_some_iff.1 hx).1
      rw [flatT_len] at hj
      rw [World.ownsRow.cellAt hu' j hj]
      exact hx) (cellsT_one us) (by unfold maxLen; omega) (by omega) hw
    refine ⟨v', w', hr, ?_, ⟨h3.os, h3.tape, h3.output, h3.size, h3.block, h5.elim .inl fun e => .inr ⟨_, e, Nat.le_refl _⟩⟩⟩
    unfold OwT
    rw [flatT_app, List.length_append]
    exact h2

set_option maxRecDepth 100000 in
set_option maxHeartbeats 1000000 in
theorem CopyTokens_any {B : Nat} (v : Value) (ts : List Tk) (w : World) (hO : OwT B w v ts) (hl : ts.length ≤ 16777216) : Calls Try.prog 19 #[v] w fun e w' => ∃ v', e = .returned v' ∧ OwT w.heap.size w' v' ts ∧ Below w.heap.size w w' := by
  have h0 : OwT w.heap.size (w.alloc (.cells #[] 29)) (.slice (some ⟨w.heap.size, 0, none⟩) 0 0) [] := ⟨rfl, .inr ⟨w.heap.size, 0, #[], rfl, Nat.le_refl _, heap_new _ _, Nat.le_refl _, by unfold maxLen; omega, rfl, rfl⟩⟩
  obtain ⟨v', w', hr, k1, k2⟩ := h0.join 23 (hO.next (below1 _ _)) (by simp; omega) (by simp)
  have HK : Hid (OwT w.heap.size w' v' ts ∧ Below w.heap.size w w') := ⟨k1, (below1 _ _).trans (k2.below (by simp) (fun g hg => by simp [Value.ownBlock] at hg; omega))⟩
  obtain ⟨a0, c0, rfl⟩ := hO.form
  obtain ⟨a1, c1, rfl⟩ := k1.form
  clear h0 k1 k2 hO
  generalize ts.length = n at *
  go_enter Try.func19, Try.ntmps19
  go_wp2_with (at_builtin; refine Lib.wpList_append_run _ rfl _ _ _ _ rfl _ _ rfl rfl _ _ hr ?_)
  go_ret
  exact ⟨_, rfl, HK.out.1, HK.out.2⟩

end Go.Proofs.Ytoifmiloaefanaa
