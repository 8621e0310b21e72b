/-
  PLAIN: what waits at first, and what is ready at first. arranged's state.
-/
import Derived.Test.YtajnokkmpjdliaaAr0
namespace Go.Proofs.Ytajnokkmpjdliaa
open Go.RowKit

def wv (E : List (Nat × Nat)) (i y : Nat) : Int := (((E.take i).countP (fun e => decide (e.2 = y)) : Nat) : Int)
theorem eg_get (E : List (Nat × Nat)) {i : Nat} (hi : i < E.length) : eg E i = E[i] := by simp [eg, hi]
theorem eg_mem (E : List (Nat × Nat)) {i : Nat} (hi : i < E.length) : eg E i ∈ E := by rw [eg_get E hi]; exact List.getElem_mem hi
theorem wv_zero (E : List (Nat × Nat)) (y : Nat) : wv E 0 y = 0 := by simp [wv]
theorem wv_succ (E : List (Nat × Nat)) {i : Nat} (hi : i < E.length) (y : Nat) : wv E (i + 1) y = wv E i y + if y = (eg E i).2 then 1 else 0 := by
  unfold wv
  rw [List.take_succ_eq_append_getElem hi, List.countP_append, ← eg_get E hi]
  by_cases e : y = (eg E i).2
  · rw [if_pos e]; simp [e]
  · rw [if_neg e]
    have : ¬ (eg E i).2 = y := fun q => e q.symm
    simp [this]
theorem wv_le (E : List (Nat × Nat)) (i y : Nat) : 0 ≤ wv E i y ∧ wv E i y ≤ i := by
  unfold wv
  have h1 := List.countP_le_length (p := fun e : Nat × Nat => decide (e.2 = y)) (l := E.take i)
  have h2 : (E.take i).length ≤ i := by simp; omega
  omega
theorem wv_all (E : List (Nat × Nat)) (y : Nat) : wv E E.length y = (cnt E [] y : Int) := by simp [wv, cnt]
/-- what waits -/
structure WS (n : Nat) (E : List (Nat × Nat)) (i : Nat) (ws : List Int) : Prop where
  l : ws.length = n
  v : ∀ y, y < n → gt ws y = wv E i y
theorem WS.start (n : Nat) (E : List (Nat × Nat)) : WS n E 0 (zeros n) := ⟨by simp [zeros], fun y hy => by simp [gt, zeros, wv_zero, List.getD_eq_getElem?_getD, hy]⟩
theorem WS.step {n : Nat} {E : List (Nat × Nat)} {i : Nat} {ws : List Int} (h : WS n E i ws) (hi : i < E.length) (hb : (eg E i).2 < n) : WS n E (i + 1) (ws.set (eg E i).2 (gt ws (eg E i).2 + 1)) := by
  refine ⟨by rw [List.length_set]; exact h.l, fun y hy => ?_⟩
  rw [gt_set _ _ _ _ (by rw [h.l]; exact hb), wv_succ E hi]
  by_cases e : y = (eg E i).2
  · rw [if_pos e, if_pos e, h.v _ hb, e]
  · rw [if_neg e, if_neg e, h.v _ hy]; omega
def rl (ws : List Int) (j : Nat) : List Int := ((List.range j).filter (fun k => decide (gt ws k = 0))).map (fun (k : Nat) => (k : Int))
theorem rl_succ (ws : List Int) (j : Nat) : rl ws (j + 1) = if gt ws j = 0 then rl ws j ++ [(j : Int)] else rl ws j := by
  unfold rl
  rw [List.range_succ, List.filter_append, List.map_append]
  by_cases e : gt ws j = 0
  · rw [if_pos e]; simp [e]
  · rw [if_neg e]; simp [e]
theorem rl_len (ws : List Int) (j : Nat) : (rl ws j).length ≤ j := by
  unfold rl
  rw [List.length_map]
  exact Nat.le_trans (List.length_filter_le _ _) (by simp)
theorem rl_sorted (ws : List Int) (j : Nat) : (rl ws j).Pairwise (· < ·) := by
  unfold rl
  rw [List.pairwise_map]
  refine (List.Pairwise.filter _ List.pairwise_lt_range).imp ?_
  intro a b h
  exact_mod_cast h
theorem sorted_heap {l : List Int} (h : l.Pairwise (· < ·)) : IsH l.length l := by
  intro k h1 h2
  rw [gt_of l h2, gt_of l (by omega)]
  have := List.pairwise_iff_getElem.1 h ((k - 1) / 2) k (by omega) h2 (by omega)
  omega
theorem rl_os {n : Nat} {E : List (Nat × Nat)} {ws : List Int} (h : WS n E E.length ws) : OS n E [] ws (rl ws n) := by
  refine ⟨Kn.start n E, h.l, fun y hy => by rw [h.v y hy, wv_all], sorted_heap (rl_sorted ws n), ?_, fun y => ?_⟩
  · exact (rl_sorted ws n).imp fun h e => by omega
  · unfold rl
    rw [List.mem_map]
    constructor
    · rintro ⟨k, hk, rfl⟩
      rw [List.mem_filter, List.mem_range] at hk
      exact ⟨k, rfl, hk.1, by simp, by simpa using hk.2⟩
    · rintro ⟨k, rfl, hk, _, h0⟩
      exact ⟨k, by rw [List.mem_filter, List.mem_range]; exact ⟨hk, by simpa using h0⟩, rfl⟩

/-! ### arranged's state -/
structure AB (B : Nat) (w : World) (n Vb wb : Nat) (ws : List Int) (W : World) : Prop where
  vb : W.heap[Vb]? = some (.cells #[.slice (some ⟨wb, 0, none⟩) n n] 23 (0, 0))
  wk : Blk W wb ws
  hV : B ≤ Vb
  hW : B ≤ wb
  bel : Below B w W
theorem AB.ne {B : Nat} {w : World} {n Vb wb : Nat} {ws : List Int} {W : World} (h : AB B w n Vb wb ws W) : Vb ≠ wb := fun e => by
  have h1 := h.vb
  have h2 := h.wk
  unfold Blk at h2
  rw [e, h2] at h1
  simp at h1
theorem AB.vlt {B : Nat} {w : World} {n Vb wb : Nat} {ws : List Int} {W : World} (h : AB B w n Vb wb ws W) : Vb < W.heap.size := (Array.getElem?_eq_some_iff.1 h.vb).1
theorem AB.but {B : Nat} {w : World} {n Vb wb : Nat} {ws : List Int} {W W' : World} {X : Nat → Prop} (h : AB B w n Vb wb ws W) (hb : But X W W') (hX : ∀ k, k < B → ¬ X k) (h1 : ¬ X Vb) (h2 : ¬ X wb) : AB B w n Vb wb ws W' :=
  ⟨(hb.block _ h.vlt h1).trans h.vb, h.wk.but hb h2, h.hV, h.hW, h.bel.trans (hb.below (Nat.le_of_lt (Nat.lt_of_le_of_lt h.hV h.vlt)) hX)⟩
theorem AB.next {B : Nat} {w : World} {n Vb wb : Nat} {ws : List Int} {W W' : World} (h : AB B w n Vb wb ws W) (hb : Below W.heap.size W W') : AB B w n Vb wb ws W' :=
  h.but (But.of_below (X := fun _ => False) hb) (fun _ _ e => e) (fun e => e) (fun e => e)
theorem AB.cell {B : Nat} {w : World} {n Vb wb : Nat} {ws : List Int} {W : World} (h : AB B w n Vb wb ws W) : W.cell? ⟨Vb, 0, none⟩ = some (.slice (some ⟨wb, 0, none⟩) n n) := by
  have := h.vb
  simp [World.cell?, this]
theorem AB.set {B : Nat} {w : World} {n Vb wb : Nat} {ws : List Int} {W : World} (h : AB B w n Vb wb ws W) (t : Nat) (x : Int) : AB B w n Vb wb (ws.set t x) (W.setCell ⟨wb, t, none⟩ (.int .i64 x)) := by
  have hb : But (fun k => k = wb) W (W.setCell ⟨wb, t, none⟩ (.int .i64 x)) := (But.refl (fun k => k = wb) W).setCell (p := ⟨wb, t, none⟩) rfl _
  exact ⟨(hb.block _ h.vlt h.ne).trans h.vb, h.wk.set t x, h.hV, h.hW, h.bel.trans (hb.below (Nat.le_of_lt (Nat.lt_of_le_of_lt h.hV h.vlt)) (fun k hk e => by have := h.hW; omega))⟩

structure AH (B : Nat) (Rb Lb wb : Nat) (lv : Value) (l : List Int) (W : World) : Prop where
  rb : W.heap[Rb]? = some (.cells #[.pointer (some ⟨Lb, 0, none⟩)] 65 (0, 0))
  hp : Hp B W Lb lv l
  hR : B ≤ Rb
  hL : B ≤ Lb
  ne : lv.ownBlock ≠ some wb
structure AO (B : Nat) (wb : Nat) (lv ov : Value) (out : List Nat) (W : World) : Prop where
  ow : W.ownsRow B 3 1 ov out.length (out.map fun (k : Nat) => Value.int .i64 (k : Int))
  ne : ov.ownBlock ≠ some wb
  nl : ∀ g, ov.ownBlock = some g → lv.ownBlock ≠ some g
theorem AH.cell {B Rb Lb wb : Nat} {lv : Value} {l : List Int} {W : World} (h : AH B Rb Lb wb lv l W) : W.cell? ⟨Rb, 0, none⟩ = some (.pointer (some ⟨Lb, 0, none⟩)) := by
  have := h.rb
  simp [World.cell?, this]
theorem AH.rlt {B Rb Lb wb : Nat} {lv : Value} {l : List Int} {W : World} (h : AH B Rb Lb wb lv l W) : Rb < W.heap.size := (Array.getElem?_eq_some_iff.1 h.rb).1
theorem AH.neR {B Rb Lb wb : Nat} {lv : Value} {l : List Int} {W : World} (h : AH B Rb Lb wb lv l W) : lv.ownBlock ≠ some Rb := fun e => by
  obtain ⟨_, _, cur, hh⟩ := own_blk h.hp.row e
  rw [h.rb] at hh
  simp at hh
theorem AH.but {B Rb Lb wb : Nat} {lv : Value} {l : List Int} {W W' : World} {X : Nat → Prop} (h : AH B Rb Lb wb lv l W) (hb : But X W W') (h1 : ¬ X Rb) (h2 : ¬ X Lb) (h3 : ∀ g, lv.ownBlock = some g → ¬ X g) : AH B Rb Lb wb lv l W' :=
  ⟨(hb.block _ h.rlt h1).trans h.rb, ⟨(hb.block _ h.hp.lt h2).trans h.hp.box, own_keep h.hp.row fun g hg => hb.block _ (own_blk h.hp.row hg).2.1 (h3 g hg)⟩, h.hR, h.hL, h.ne⟩
theorem AH.next {B Rb Lb wb : Nat} {lv : Value} {l : List Int} {W W' : World} (h : AH B Rb Lb wb lv l W) (hb : Below W.heap.size W W') : AH B Rb Lb wb lv l W' :=
  h.but (But.of_below (X := fun _ => False) hb) (fun e => e) (fun e => e) (fun _ _ e => e)
theorem AO.but {B wb : Nat} {lv ov : Value} {out : List Nat} {W W' : World} {X : Nat → Prop} (h : AO B wb lv ov out W) (hb : But X W W') (h3 : ∀ g, ov.ownBlock = some g → ¬ X g) : AO B wb lv ov out W' :=
  ⟨own_keep h.ow fun g hg => hb.block _ (own_blk h.ow hg).2.1 (h3 g hg), h.ne, h.nl⟩
theorem AO.next {B wb : Nat} {lv ov : Value} {out : List Nat} {W W' : World} (h : AO B wb lv ov out W) (hb : Below W.heap.size W W') : AO B wb lv ov out W' :=
  h.but (But.of_below (X := fun _ => False) hb) (fun _ _ e => e)
end Go.Proofs.Ytajnokkmpjdliaa
