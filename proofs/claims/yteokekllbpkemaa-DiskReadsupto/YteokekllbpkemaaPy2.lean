/-
  Desks beside a block that stays.
-/
import Derived.Test.YteokekllbpkemaaPy0
namespace Go.Proofs.Yteokekllbpkemaa
open Go.RowKit

def lastL : List ActD := [⟨0, 1, 0, 0, none, 0, 0, none, 0, 0, [], []⟩, ⟨0, 6, 0, 0, none, 0, 0, none, 0, 0, [], []⟩, ⟨0, 8, 0, 0, none, 0, 0, none, 0, 0, [], []⟩, ⟨0, 9, 0, 0, none, 0, 0, none, 0, 0, [], []⟩]
def lastA : Array Value := #[.int .i64 0, .int .i64 1, .int .i64 0, .int .i64 0, .slice none 0 0, .slice none 0 0, .int .i64 0, .int .i64 6, .int .i64 0, .int .i64 0, .slice none 0 0, .slice none 0 0,
  .int .i64 0, .int .i64 8, .int .i64 0, .int .i64 0, .slice none 0 0, .slice none 0 0, .int .i64 0, .int .i64 9, .int .i64 0, .int .i64 0, .slice none 0 0, .slice none 0 0]
theorem last_ok (B : Nat) (w : World) : ∀ d ∈ lastL, d.ok B w := by
  intro d hd
  have h0 : ActIn (fun y => B ≤ y) w none none 0 0 0 0 [] [] := ⟨by omega, by omega, fun _ => rfl, fun _ => rfl, ⟨rfl, Pl.isB_nil, .inl rfl⟩, rfl, .inl rfl⟩
  simp only [lastL, List.mem_cons, List.not_mem_nil, or_false] at hd
  rcases hd with rfl | rfl | rfl | rfl <;> exact ⟨by decide, h0⟩
theorem last_cell {w : World} {g : Nat} (h : w.heap[g]? = some (.cells lastA 44 (0, 0))) {i : Nat} {d : ActD} (hi : lastL[i]? = some d) : w.cell? ⟨g, i * 6, none⟩ = some (.int .i64 d.wh) ∧ w.cell? ⟨g, i * 6 + 1, none⟩ = some (.int .i64 d.kd) ∧ w.cell? ⟨g, i * 6 + 2, none⟩ = some (.int .i64 d.at_) ∧ w.cell? ⟨g, i * 6 + 3, none⟩ = some (.int .i64 d.fi) ∧
    w.cell? ⟨g, i * 6 + 4, none⟩ = some (.slice d.aR d.nR d.cR) ∧ w.cell? ⟨g, i * 6 + 5, none⟩ = some (.slice d.aK d.nK d.cK) := by
  have hl : i < 4 := (List.getElem?_eq_some_iff.1 hi).1
  obtain rfl | rfl | rfl | rfl : i = 0 ∨ i = 1 ∨ i = 2 ∨ i = 3 := by omega
  all_goals
    simp only [lastL, List.getElem?_cons_zero, List.getElem?_cons_succ, Option.some.injEq] at hi
    subst hi
    simp [World.cell?, h, lastA]
/-- desks, and the block g of the last acts -/
def DesksG (B g : Nat) (w0 w : World) (l : List (Nat × Nat)) (m : Nat) : Prop := B ≤ w.heap.size ∧ Below B w0 w ∧ w.heap[g]? = some (.cells lastA 44 (0, 0)) ∧ ∃ κ : Nat → Nat, (∀ y, y < B → κ y = 0) ∧ κ g = 0 ∧ ∀ q ∈ l, Dsk q.1 κ w q.2 m
theorem Desks.last {B : Nat} {w0 w : World} {l : List (Nat × Nat)} {m : Nat} (h : Desks B w0 w l m) : DesksG B w.heap.size w0 (w.alloc (.cells lastA 44)) l m := by
  obtain ⟨h1, h2, κ, h3, h4⟩ := h
  have hb : Below w.heap.size w (w.alloc (.cells lastA 44)) := (Below.refl _ _).alloc (Nat.le_refl _) _
  refine ⟨Nat.le_trans h1 hb.size, h2.trans (hb.mono h1), ?_, cutK κ w.heap.size, fun y hy => (cutK_lo κ (by omega)).trans (h3 y hy), cutK_hi κ (Nat.le_refl _), fun q hq => (h4 q hq).keep (Nat.le_refl _) (fun y hy _ => hb.block y hy) (fun y hy _ => cutK_lo κ hy)⟩
  show (w.heap.push _)[w.heap.size]? = _
  simp
theorem DesksG.act {B g : Nat} {w0 w : World} {l : List (Nat × Nat)} {m : Nat} (h : DesksG B g w0 w l m) (hl : Apart l) (hm : m ≤ 134217727) {q : Nat × Nat} (hq : q ∈ l) {d : ActD} (hd : d.ok B w) :
    Calls Try.prog 12 #[.pointer (some ⟨q.2, 0, none⟩), d.val] w fun e w' => (∃ lv, e = .returned (.tuple #[.bool true, lv])) ∧ DesksG B g w0 w' l (m + 1) := by
  obtain ⟨h1, h2, hg, κ, h3, hg0, h4⟩ := h
  have hgl : g < w.heap.size := (Array.getElem?_eq_some_iff.1 hg).1
  refine (act_any (h4 q hq) hm d.wh d.kd d.at_ d.fi hd.1 (hd.2.mono (fun y hy => ?_))).mono ?_
  · refine Classical.byContradiction (fun hc => ?_)
    have := h3 y (by omega)
    unfold tg at hy
    omega
  · rintro e w' ⟨lv, κ', rfl, _, hD, hk, hb⟩
    refine ⟨⟨lv, rfl⟩, Nat.le_trans h1 hb.size, h2.trans (hb.below h1 (fun k hk2 hk3 => by have := h3 k hk2; unfold tg at hk3; omega)), (hb.block g hgl (by show ¬ tg _ _; unfold tg; omega)).trans hg, κ', fun y hy => (hk y (by omega)).trans (h3 y hy), (hk g hgl).trans hg0, fun q' hq' => ?_⟩
    rcases hl q hq q' hq' with e | e
    · subst e; exact hD
    · refine (h4 q' hq').keep (by omega) (fun y hy ht => hb.block y hy (fun ht2 => ?_)) (fun y hy _ => hk y hy)
      unfold tg at ht ht2
      omega

end Go.Proofs.Yteokekllbpkemaa
