/-
  CopyTokens of tokens that are read, wherever they begin.
-/
import Derived.Test.YtoifmiloaefanaaDoorBa0
namespace Go.Proofs.YtoifmiloaefanaaDoor
open Go.RowKit

theorem TkO.next {w w' : World} {a : Option Addr} {c : Nat} {ts : List Tk} (h : TkO w a c ts) (hb : Below w.heap.size w w') : TkO w' a c ts := by
  rcases h with h | ⟨g, off, e, hg, hc⟩
  · exact .inl h
  · refine .inr ⟨g, off, e, fun h => by have := hg h; have := hb.size; omega, fun j v hv => ?_⟩
    have hl : 0 < ts.length := by
      have := (List.getElem?_eq_some_iff.1 hv).1
      rw [flatT_len] at this
      omega
    have := hc j v hv
    simp only [World.cell?] at this ⊢
    rw [hb.block g (hg hl)]
    exact this
theorem OwT.joinO {B : Nat} {w : World} {v : Value} {a : Option Addr} {c : Nat} {ts us : List Tk} (ty : TypeId) (h : OwT B w v ts) (hu : TkO w a c us) (hl : ts.length + us.length ≤ 16777216) (hw : B ≤ w.heap.size) :
    ∃ v' w', (Builtin.append_ #[23, 23] ty #[v, .slice a us.length c]).run Tryd.prog w = .ok v' w' ∧ OwT B w' v' (ts ++ us) ∧ Gr w w' v v' := by
  obtain ⟨i0, hi, hz0, hz1, hz2⟩ := info_parts info29
  rcases hu with (⟨rfl, rfl, rfl⟩ | ⟨ad, rfl, rfl⟩) | ⟨g, off, rfl, _, hc⟩
  · refine ⟨v, w, run_append_owned_none (P := Tryd.prog) (w := w) B 23 ty 29 i0 4 Tryd.underlying23 hi v ts.length (flatT ts) h, by rw [List.append_nil]; exact h, ⟨rfl, rfl, rfl, Nat.le_refl _, fun _ _ _ => rfl, .inl rfl⟩⟩
  · obtain ⟨v', w', hr, h2, h3, _, h5⟩ := run_append_own_at (P := Tryd.prog) w B 23 ty 29 i0 _ 4 40 Tryd.underlying23 hi hz0 hz1 hz2 rfl (by decide) v ts.length (flatT ts) h ad 0 c [] rfl (fun j x hx => by simp at hx) (fun u hu => by simp at hu) (by unfold maxLen; simp at hl; omega) (by simp at hl; omega) hw
    refine ⟨v', w', hr, ?_, ⟨h3.os, h3.tape, h3.output, h3.size, h3.block, h5.elim .inl fun e => .inr ⟨_, e, Nat.le_refl _⟩⟩⟩
    rw [List.append_nil]
    unfold OwT
    simpa using h2
  · obtain ⟨v', w', hr, h2, h3, _, h5⟩ := run_append_own_at (P := Tryd.prog) w B 23 ty 29 i0 _ 4 40 Tryd.underlying23 hi hz0 hz1 hz2 rfl (by decide) v ts.length (flatT ts) h ⟨g, off, none⟩ us.length c (flatT us) (flatT_len us) (fun j x hx => by
      rw [Addr.add_lit]
      exact hc j x hx) (cellsT_one us) (by unfold maxLen; omega) (by omega) hw
    refine ⟨v', w', hr, ?_, ⟨h3.os, h3.tape, h3.output, h3.size, h3.block, h5.elim .inl fun e => .inr ⟨_, e, Nat.le_refl _⟩⟩⟩
    unfold OwT
    rw [flatT_app, List.length_append]
    exact h2
set_option maxRecDepth 100000 in
set_option maxHeartbeats 1000000 in
theorem CopyTokens_rd (a : Option Addr) (n c : Nat) (ts : List Tk) (w : World) (hn : ts.length = n) (hO : TkO w a c ts) (hl : n ≤ 16777216) : Calls Tryd.prog 20 #[.slice a n c] w fun e w' => ∃ g cc, e = .returned (.slice (some ⟨g, 0, none⟩) n cc) ∧ w.heap.size ≤ g ∧ OwT w.heap.size w' (.slice (some ⟨g, 0, none⟩) n cc) ts ∧ Below w.heap.size w w' := by
  have h0 : OwT w.heap.size (w.alloc (.cells #[] 29)) (.slice (some ⟨w.heap.size, 0, none⟩) 0 0) [] := ⟨rfl, .inr ⟨w.heap.size, 0, #[], rfl, Nat.le_refl _, heap_new _ _, Nat.le_refl _, by unfold maxLen; omega, rfl, rfl⟩⟩
  obtain ⟨v', w', hr, k1, k2⟩ := h0.joinO 23 (hO.next (below1 _ _)) (by simp; omega) (by simp)
  obtain ⟨a1, c1, rfl⟩ := k1.form
  rw [List.nil_append] at k1
  obtain ⟨g, rfl⟩ : ∃ g, a1 = some ⟨g, 0, none⟩ := by
    rcases k2.own with e | ⟨g, e, _⟩
    · simp [Value.ownBlock] at e
      rcases k1.2 with ⟨e2, _⟩ | ⟨g2, cap, cur, e2, _⟩
      · cases a1 with
        | none => simp at e
        | some x => cases e2
      · simp at e2
        exact ⟨g2, e2.1⟩
    · rcases k1.2 with ⟨e2, _⟩ | ⟨g2, cap, cur, e2, _⟩
      · cases a1 with
        | none => simp [Value.ownBlock] at e
        | some x => cases e2
      · simp at e2
        exact ⟨g2, e2.1⟩
  rw [List.nil_append, hn] at *
  have HK : Hid (w.heap.size ≤ g ∧ OwT w.heap.size w' (.slice (some ⟨g, 0, none⟩) n c1) ts ∧ Below w.heap.size w w') := ⟨(own_blk k1 rfl).1, k1, (below1 _ _).trans (k2.below (by simp) (fun g hg => by simp [Value.ownBlock] at hg; omega))⟩
  clear h0 k1 k2 hO
  go_enter Tryd.func20, Tryd.ntmps20
  go_wp2_with (at_builtin; refine Lib.wpList_append_run _ rfl _ _ _ _ rfl _ _ rfl rfl _ _ hr ?_)
  go_ret
  exact ⟨g, c1, rfl, HK.out.1, HK.out.2.1, HK.out.2.2⟩

end Go.Proofs.YtoifmiloaefanaaDoor
