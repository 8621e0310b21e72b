/-
  CopyInts.
-/
import Derived.Test.YteokekllbpkemaaNl0
namespace Go.Proofs.Yteokekllbpkemaa
open Go.RowKit

/-- NUMBERS OF ONE's OWN, with spare room: block g -/
def OwnI (w : World) (g n cap : Nat) (zs : List Int) : Prop := w.ownsRow g 3 1 (.slice (some ⟨g, 0, none⟩) n cap) n (zs.map (Value.int .i64))
theorem OwnI.of {w : World} {base g n cap : Nat} {zs : List Int} (h : w.ownsRow base 3 1 (.slice (some ⟨g, 0, none⟩) n cap) n (zs.map (Value.int .i64))) : OwnI w g n cap zs := by
  obtain ⟨h1, h2⟩ := h
  refine ⟨h1, ?_⟩
  rcases h2 with ⟨h2, _⟩ | ⟨g', cap', cur, hv, _, r⟩
  · cases h2
  · simp at hv
    obtain ⟨rfl, rfl⟩ := hv
    exact .inr ⟨g, cap, cur, rfl, Nat.le_refl _, r⟩
theorem OwnI.len {w : World} {g n cap : Nat} {zs : List Int} (h : OwnI w g n cap zs) : zs.length = n := by simpa using h.1
theorem OwnI.lt {w : World} {g n cap : Nat} {zs : List Int} (h : OwnI w g n cap zs) : g < w.heap.size := (World.ownsRow.lt h g rfl).2
theorem OwnI.rdi {w : World} {g n cap : Nat} {zs : List Int} (h : OwnI w g n cap zs) : RdI w.heap.size w (some ⟨g, 0, none⟩) n zs := by
  refine ⟨h.len, .inr ⟨g, 0, rfl, h.lt, fun t ht => ?_⟩⟩
  have h2 := World.ownsRow.cellAt h t (by omega)
  have h3 := h.len
  rw [Nat.zero_add, h2]
  simp [show t < zs.length by omega]
set_option maxHeartbeats 400000 in
theorem CopyInts_any (a : Option Addr) (n c : Nat) (zs : List Int) (w : World) (hn : n ≤ 1073741824) (hnil : a = none → c = 0) (hR : RdI w.heap.size w a n zs) :
    Calls Try.prog 46 #[.slice a n c] w fun e w' => ∃ g cap, e = .returned (.slice (some ⟨g, 0, none⟩) n cap) ∧ w.heap.size ≤ g ∧ OwnI w' g n cap zs ∧ Below w.heap.size w w' := by
  obtain ⟨i0, hi, hz0, hz1, hz2⟩ := info_parts info3
  have hb : Below w.heap.size w (w.alloc (.cells #[] 3)) := (Below.refl _ _).alloc (Nat.le_refl _) _
  have h0 : (w.alloc (.cells #[] 3)).ownsRow w.heap.size 3 1 (.slice (some ⟨w.heap.size, 0, none⟩) 0 0) 0 [] := World.ownsRow_lit w #[] 0 (Nat.le_refl _) (by decide) rfl
  have hR2 := hR.below hb
  have hl := hR.1
  cases a with
  | none =>
    obtain ⟨h1, h3⟩ := hR
    have hn0 : n = 0 := by rcases h3 with h3 | ⟨_, _, h3, _⟩; exact h3; cases h3
    subst hn0
    obtain rfl : zs = [] := List.length_eq_zero_iff.1 h1
    obtain rfl : c = 0 := hnil rfl
    have hO : OwnI (w.alloc (.cells #[] 3)) w.heap.size 0 0 [] := OwnI.of h0
    go_enter Try.func46, Try.ntmps46
    go_wp2_with (at_builtin; refine wpList_append_own_none rfl _ _ 34 rfl w.heap.size 3 i0 1 Try.underlying34 hi _ 0 [] rfl h0 rfl ?_)
    go_ret
    exact ⟨_, _, rfl, Nat.le_refl _, hO, hb⟩
  | some ad =>
    have hsrc : ∀ j u, (zs.map (Value.int .i64))[j]? = some u → (w.alloc (.cells #[] 3)).cell? (ad.add j) = some u := by
      by_cases h0 : n = 0
      · intro j u h
        rw [h0] at hl
        obtain rfl : zs = [] := List.length_eq_zero_iff.1 hl
        simp at h
      · obtain ⟨_, h3⟩ := hR2
        rcases h3 with h3 | ⟨b, off, e, _, hc⟩
        · omega
        · cases e
          intro j v hv
          rw [List.getElem?_map] at hv
          cases hz : zs[j]? with
          | none => rw [hz] at hv; cases hv
          | some z =>
            rw [hz] at hv
            simp at hv
            subst hv
            have hj : j < zs.length := (List.getElem?_eq_some_iff.1 hz).1
            have := hc j (by omega)
            rw [List.getD_eq_getElem?_getD, hz] at this
            rw [show (⟨b, off, none⟩ : Addr).add j = ⟨b, off + j, none⟩ from by unfold Addr.add; split <;> simp_all]
            exact this
    go_enter Try.func46, Try.ntmps46
    go_wp2_with (at_builtin; refine wpList_append_own _ rfl _ _ 34 rfl w.heap.size 3 i0 (.int .i64 0) 1 8 Try.underlying34 hi hz0 hz1 hz2 rfl (by decide) _ 0 [] rfl h0 ad n c (zs.map (Value.int .i64)) rfl (by rw [List.length_map, hl, Nat.mul_one]) hsrc (ints_oneCell _ _) (by unfold maxLen; omega) (by omega) (by simp) ?_)
    intro v' w1 hown hgrow hnn
    obtain ⟨g, cap, rfl, hg, _⟩ := owns_form hown hnn
    have HO := hid (OwnI.of hown)
    have hb1 : Below w.heap.size w w1 := hb.grown hgrow (by simp) (fun k h => by cases h; exact Nat.le_refl _)
    clear hown hgrow hnn
    go_wp2
    go_ret
    exact ⟨g, cap, rfl, hg, HO.out, hb1⟩

end Go.Proofs.Yteokekllbpkemaa
