/-
  The Shelf: write: a list is written over, and grown.
-/
import Derived.Test.YtoifmiloaefanaaSw0
import Derived.Test.YtoifmiloaefanaaTm0
namespace Go.Proofs.Ytoifmiloaefanaa
open Go.RowKit

theorem flatT_take : ∀ (ts : List Tk) (n : Nat), flatT (ts.take n) = (flatT ts).take (n * 4)
  | [], n => by simp [flatT]
  | t :: r, 0 => by simp [flatT]
  | t :: r, n + 1 => by
    have := flatT_take r n
    rw [List.take_succ_cons, flatT, this, flatT, show (n + 1) * 4 = (cellsT t).length + n * 4 by simp [cellsT]; omega, List.take_length_add_append]
theorem copy_into_nil (w : World) (ty : TypeId) (x : Addr) (M c : Nat) : (Builtin.copy_ #[23, 23] ty #[.slice none 0 0, .slice (some x) M c]).run Try.prog w = .ok (.int .i64 0) w := by
  obtain ⟨i0, hi, hz0, hz1, hz2⟩ := info_parts info29
  have hl := run_loadCells_list (P := Try.prog) w x [] (fun j v h => by simp at h)
  simp at hl
  simp [Builtin.copy_, run_underlying Try.underlying23, Builtin.lenOf, sizeOf, typeInfo, hi, Builtin.firstCells, goInt, hl]
theorem append_none (w : World) (ty : TypeId) (a : Option Addr) (n c : Nat) (x : Addr) (d : Nat) (hc : n ≤ c) : (Builtin.append_ #[23, 23] ty #[.slice a n c, .slice (some x) 0 d]).run Try.prog w = .ok (.slice a n c) w := by
  obtain ⟨i0, hi, hz0, hz1, hz2⟩ := info_parts info29
  have hl := run_loadCells_list (P := Try.prog) w x [] (fun j v h => by simp at h)
  simp at hl
  cases a <;> simp [Builtin.append_, run_underlying Try.underlying23, sizeOf, typeInfo, hi, Builtin.lenOf, hc, Builtin.firstCells, storeCells, hl]
/-- a list is written over -/
theorem over_list {B : Nat} {w : World} {v : Value} {L W : List Tk} {q : Nat} (hO : OwT B w v L) (hB : BlT w q W) (hn : L.length ≤ W.length) (hne : ∀ g, v.ownBlock = some g → g ≠ q) :
    ∃ w', (Builtin.copy_ #[23, 23] 3 #[v, .slice (some ⟨q, 0, none⟩) W.length W.length]).run Try.prog w = .ok (.int .i64 (L.length : Int)) w' ∧ OwT B w' v (W.take L.length) ∧ But (fun g => v.ownBlock = some g) w w' ∧ BlT w' q W := by
  have hO' := hO
  rcases hO.2 with ⟨e, q0⟩ | ⟨g, cap, cur, e, hb, hh, hc1, hc2, hc3, hc4⟩
  · subst e
    have hL : L = [] := List.eq_nil_of_length_eq_zero q0
    subst hL
    exact ⟨w, copy_into_nil w 3 _ _ _, OwT.nil _ _, But.refl _ _, hB⟩
  · subst e
    have hmin : Nat.min W.length L.length = L.length := Nat.min_eq_right hn
    have hlen : (flatT (W.take L.length)).length = L.length * 4 := by rw [flatT_len, List.length_take, Nat.min_eq_left hn]
    have hr := run_copy_wide (P := Try.prog) w 23 23 3 29 g 0 L.length cap ⟨q, 0, none⟩ W.length W.length 4 cur 29 (flatT (W.take L.length)) Try.underlying23 info29z hh (by rw [hmin, hlen]) (fun j u hu => by
      rw [Addr.add_lit, Nat.zero_add]
      have h2 : (flatT W)[j]? = some u := by
        rw [flatT_take] at hu
        rw [List.getElem?_take] at hu
        split at hu
        · exact hu
        · cases hu
      unfold BlT at hB
      simp only [World.cell?, hB]
      simpa using h2) (by rw [hlen, hc3]; omega) (cellsT_one _)
    rw [hmin] at hr
    obtain ⟨w', hw'⟩ : ∃ w', w' = w.setRow g (cur.toList.take 0 ++ flatT (W.take L.length) ++ cur.toList.drop (0 + (flatT (W.take L.length)).length)).toArray := ⟨_, rfl⟩
    rw [← hw'] at hr
    have hg' := setRow_heap w g cur (cur.toList.take 0 ++ flatT (W.take L.length) ++ cur.toList.drop (0 + (flatT (W.take L.length)).length)).toArray 29 (0, 0) hh
    rw [← hw'] at hg'
    have b : But (fun k => (Value.slice (some ⟨g, 0, none⟩) L.length cap).ownBlock = some k) w w' := by
      rw [hw']
      exact ⟨rfl, rfl, rfl, by simp [World.setRow], fun k _ hx => setRow_other w g k _ (by intro e; exact hx (by rw [e]; rfl))⟩
    refine ⟨w', hr, ?_, b, ?_⟩
    · unfold OwT
      have hl2 : (W.take L.length).length = L.length := by rw [List.length_take, Nat.min_eq_left hn]
      rw [hl2]
      refine ⟨hlen, .inr ⟨g, cap, _, rfl, hb, hg', hc1, hc2, ?_, ?_⟩⟩
      · simp
        rw [hlen]
        have : cur.toList.length = cap * 4 := by simpa using hc3
        omega
      · simp
        rw [← hlen, List.take_left]
    · unfold BlT at *
      rw [b.block q (Array.getElem?_eq_some_iff.1 hB).1 (fun e => hne q e rfl)]
      exact hB
theorem src_cells {w : World} {q n : Nat} {W : List Tk} (hB : BlT w q W) : ∀ j u, (flatT (W.drop n))[j]? = some u → w.cell? ((⟨q, n * 4, none⟩ : Addr).add j) = some u := fun j u hu => by
  rw [Addr.add_lit]
  rw [flatT_drop, List.getElem?_drop] at hu
  unfold BlT at hB
  simp only [World.cell?, hB]
  simpa using hu
/-- a list is grown -/
theorem grow_list {B : Nat} {w : World} {v : Value} {W : List Tk} {q n : Nat} (hO : OwT B w v (W.take n)) (hB : BlT w q W) (hn : n ≤ W.length) (hW : W.length ≤ 2000000) (hbw : B ≤ w.heap.size) :
    ∃ v' w', (Builtin.append_ #[23, 23] 23 #[v, .slice (some ⟨q, n * 4, none⟩) (W.length - n) (W.length - n)]).run Try.prog w = .ok v' w' ∧ OwT B w' v' W ∧ (∀ a c, v = .slice a n c → TkR w' a (W.take n)) ∧ But (fun g => v.ownBlock = some g) w w' ∧ (v'.ownBlock = v.ownBlock ∨ ∃ g, v'.ownBlock = some g ∧ w.heap.size ≤ g) := by
  obtain ⟨i0, hi, hz0, hz1, hz2⟩ := info_parts info29
  have hl2 : (W.take n).length = n := by rw [List.length_take, Nat.min_eq_left hn]
  have hld : (flatT (W.drop n)).length = (W.length - n) * 4 := by rw [flatT_len, List.length_drop]
  have hsum : flatT (W.take n) ++ flatT (W.drop n) = flatT W := by rw [← flatT_app, List.take_append_drop]
  have hO1 : w.ownsRow B 29 4 v n (flatT (W.take n)) := by
    have := hO
    unfold OwT at this
    rw [hl2] at this
    exact this
  obtain ⟨v', w', hr, h2, h3, _, h5⟩ := run_append_own_at (P := Try.prog) w B 23 23 29 i0 _ 4 40 Try.underlying23 hi hz0 hz1 hz2 rfl (by decide) v n (flatT (W.take n)) hO1 ⟨q, n * 4, none⟩ (W.length - n) (W.length - n) (flatT (W.drop n)) hld (src_cells hB) (cellsT_one _) (by unfold maxLen; omega) (by omega) hbw
  have hOw : OwT B w' v' W := by
    unfold OwT
    rw [hsum, show n + (W.length - n) = W.length by omega] at h2
    exact h2
  have b : But (fun g => v.ownBlock = some g) w w' := ⟨h3.os, h3.tape, h3.output, h3.size, fun k hk hx => h3.block k hk (fun e => hx e.symm)⟩
  refine ⟨v', w', hr, hOw, fun a c e => ?_, b, h5.imp id (fun e => ⟨_, e, Nat.le_refl _⟩)⟩
  subst e
  by_cases hn0 : n = 0
  · exact .inl (by rw [hn0]; rfl)
  · obtain ⟨g, rfl, hg1, hg2⟩ := hO.some (by omega)
    have hcells : ∀ j u, (flatT (W.take n))[j]? = some u → w.cell? ((⟨g, 0, none⟩ : Addr).add j) = some u := fun j u hu => by
      rw [Addr.add_lit, Nat.zero_add]
      have hj := (List.getElem?_eq_some_iff.1 hu).1
      rw [flatT_len, hl2] at hj
      rw [World.ownsRow.cellAt hO1 j hj]
      exact hu
    have hfin : ∀ (u : World), (∀ j v, (flatT (W.take n))[j]? = some v → u.cell? ⟨g, j, none⟩ = some v) → g < u.heap.size → TkR u (some ⟨g, 0, none⟩) (W.take n) := fun u hu hgu => by
      refine .inr ⟨g, rfl, hgu, fun j hj => ?_⟩
      have k : ∀ i, i < 4 → ∀ x, (cellsT (W.take n)[j])[i]? = some x → u.cell? ⟨g, j * 4 + i, none⟩ = some x := fun i hi x hx => hu _ _ ((flatT_at (W.take n) j hj i hi).trans hx)
      exact ⟨k 0 (by decide) _ rfl, k 1 (by decide) _ rfl, k 2 (by decide) _ rfl, k 3 (by decide) _ rfl⟩
    have hz := b.size
    by_cases hroom : n + (W.length - n) ≤ c
    · -- in its place
      rcases h5 with e | e
      · obtain ⟨a2, c2, rfl⟩ := hOw.form
        have e2 : a2 = some ⟨g, 0, none⟩ := by
          rcases hOw.2 with ⟨x, _⟩ | ⟨g3, cap3, cur3, x, _⟩
          · simp at x
            obtain ⟨rfl, _⟩ := x
            simp [Value.ownBlock] at e
          · simp at x
            obtain ⟨rfl, _⟩ := x
            simp [Value.ownBlock] at e
            rw [e]
        subst e2
        refine hfin w' (fun j u hu => ?_) (by omega)
        have hj := (List.getElem?_eq_some_iff.1 hu).1
        rw [flatT_len, hl2] at hj
        rw [World.ownsRow.cellAt hOw j (by omega)]
        rw [← hsum, List.getElem?_append_left (by rw [flatT_len, hl2]; exact hj)]
        exact hu
      · exfalso
        have hcap := owT_cap hO hl2.symm
        rcases hO.2 with ⟨x, _⟩ | ⟨g3, cap3, cur3, x, _, hh3, hc1, hc2, hc3, hc4⟩
        · cases x
        · simp at x
          obtain ⟨rfl, _, rfl⟩ := x
          have hrr := run_append_room_cells (P := Try.prog) w 23 23 29 i0 Try.underlying23 hi g 0 n c ⟨q, n * 4, none⟩ (W.length - n) (W.length - n) (flatT (W.drop n)) (by rw [hz1]; exact hld) (src_cells hB) (cellsT_one _) hroom (fun j hj => by
            rw [hld] at hj
            simp only [World.cell?, hh3, hz1]
            rw [Array.getElem?_eq_getElem (by rw [hc3]; show 0 + n * 4 + j < c * 4; omega)]
            rfl) (fun j hj => by simp [World.frozen?, hh3])
          rw [hr] at hrr
          simp at hrr
          rw [hrr.1] at e
          simp [Value.ownBlock] at e
          omega
    · obtain ⟨v2, w2, hr2, _, k2⟩ := run_append_arg_grows (P := Try.prog) w 23 23 29 i0 _ 4 40 Try.underlying23 hi hz0 hz1 hz2 rfl (by decide) ⟨g, 0, none⟩ n c (flatT (W.take n)) (by rw [flatT_len, hl2]) hcells ⟨q, n * 4, none⟩ (W.length - n) (W.length - n) (flatT (W.drop n)) hld (src_cells hB) (by omega) (by unfold maxLen; omega) (by omega)
      rw [hr] at hr2
      simp at hr2
      obtain ⟨rfl, rfl⟩ := hr2
      refine hfin w' (fun j u hu => ?_) (by omega)
      have := hcells j u hu
      rw [Addr.add_lit, Nat.zero_add] at this
      simp only [World.cell?] at this ⊢
      rw [k2.block g hg2 (by simp)]
      exact this

end Go.Proofs.Ytoifmiloaefanaa
