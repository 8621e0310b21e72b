/-
  The shelf's back (function 48); numbers turned round (function 29).
-/
import Derived.Test.YteaebdonnicbkaaShf
namespace Go.Proofs.Yteaebdonnicbkaa
open Go.RowKit

theorem below_drewN' {B : Nat} {a w : World} (h : Below B a w) (q : Nat) : Below B a (w.drewN q) := ⟨h.os, h.tape, h.output, h.size, h.block⟩
theorem ShL.at {w : World} {s G M m : Nat} {ws : List Int} (h : ShL w s G M m ws) (i : Nat) (hi : i < 2 * m + 70) : w.cell? ⟨G, i, none⟩ = some (.int .i64 ((lentI ws (m + 70)).getD i 0)) := by
  obtain ⟨ys, hB, hyl, ht⟩ := h.buf
  have hb := h.big
  have := hB.cell i (by omega)
  have e : (lentI ws (m + 70)).getD i 0 = ys.getD i 0 := by
    rw [← ht, List.getD_eq_getElem?_getD, List.getD_eq_getElem?_getD, List.getElem?_take_of_lt hi]
  rw [e]
  exact this
theorem ShL.but {X : Nat → Prop} {w w' : World} {s G M m : Nat} {ws : List Int} (h : ShL w s G M m ws) (hb : But X w w') (h1 : ¬ X s) (h2 : ¬ X G) : ShL w' s G M m ws := by
  obtain ⟨ys, hB, hyl, ht⟩ := h.buf
  exact ⟨h.row.of_block (hb.block s h.row.lt h1), h.ne, h.big, h.small, ys, hB.but hb h2, hyl, ht⟩
theorem ShL.done {w : World} {s G M m : Nat} {ws : List Int} (h : ShL w s G M m ws) : SS1 w s (.slice (some ⟨G, 0, none⟩) M M) := by
  obtain ⟨ys, hB, hyl, ht⟩ := h.buf
  exact ⟨h.row, .inr ⟨G, M, ys, rfl, h.ne, hB, hyl, h.small⟩⟩
theorem ShL.lt {w : World} {s G M m : Nat} {ws : List Int} (h : ShL w s G M m ws) : G < w.heap.size := by
  obtain ⟨ys, hB, hyl, ht⟩ := h.buf
  exact hB.lt
theorem ShL.rd {w : World} {s G M m : Nat} {ws : List Int} (h : ShL w s G M m ws) (hl : ws.length = m) : RdI w.heap.size w (some ⟨G, 0, none⟩) m ws := by
  refine ⟨hl, .inr ⟨G, 0, rfl, h.lt, fun t ht => ?_⟩⟩
  have := h.at t (by omega)
  rw [lentI_lo (by omega)] at this
  rw [Nat.zero_add]
  exact this

set_option maxRecDepth 100000 in
set_option maxHeartbeats 2000000 in
theorem sback_any (s G M m c : Nat) (a : Option Addr) (ws : List Int) (w : World) (hm : m ≤ 16777216) (hS : ShL w s G M m ws) (hR : RdI w.heap.size w a m ws) :
    Calls Try.prog 48 #[.pointer (some ⟨s, 0, none⟩), .slice a m c] w fun e w' => e = .returned (.bool true) ∧ Below w.heap.size w w' := by
  have hl := hR.1
  have hslt := hS.row.lt
  have hGlt := hS.lt
  have hM := hS.big
  have hM2 := hS.small
  have hcs := hS.row.cell
  have HS := hid hS
  have HR := hid hR
  clear hS hR
  go_enter Try.func48, Try.ntmps48
  go_wp2_with fail
  go_loopw [5] (fun i wt => ∃ k : Nat, k ≤ m + 70 ∧ i = .int .i64 (k : Int) ∧ Below w.heap.size w wt) (fun i _ => m + 70 - (intOf i).toNat)
  case atStart => exact ⟨0, Nat.zero_le _, rfl, Below.refl _ _⟩
  case round =>
    obtain ⟨k, hk, rfl, hbt⟩ := hrel
    have yr := (hbt.cell (p := ⟨s, 0, none⟩) (by exact hslt)).trans hcs
    by_cases hkm : k < m + 70
    · have x0 := HS.out.at (m + k) (by omega)
      rw [← hl, lentI_hi (by omega), hl] at x0
      have y0 := (hbt.cell (p := ⟨G, m + k, none⟩) (by exact hGlt)).trans x0
      have hk1 : (k : Int) < (m : Int) + 70 := by omega
      have e1 : IntKind.i64.wrap (-71 - (k : Int)) = -71 - (k : Int) := by rw [IntKind.wrap_i64]; omega
      have e2 : IntKind.i64.wrap ((m : Int) + (k : Int)) = (m : Int) + (k : Int) := by rw [IntKind.wrap_i64]; omega
      have i1 : (m : Int) + (k : Int) < (M : Int) := by omega
      have Hbt := hid hbt
      clear x0 hbt
      go_wp2
      go_roundw
      case rel => exact ⟨k + 1, by omega, by go_num, Hbt.out⟩
      case measure => simp [intOf]; omega
    · have hk1 : ¬ ((k : Int) < (m : Int) + 70) := by omega
      have i1 : (m : Int) ≤ (M : Int) := by omega
      have HSi := hid (SameInts_eq w.heap.size (some ⟨G, 0, none⟩) a m M c ws wr hbt.size (by omega) ((HS.out.rd hl).below hbt) (HR.out.below hbt))
      have Hbt := hid hbt
      clear hbt
      go_wp2_with fail
      refine Calls.mono HSi.out ?_
      rintro e w5 ⟨rfl, hb5⟩
      have H5 := hid (Hbt.out.trans (hb5.mono Hbt.out.size))
      clear hb5
      go_wp2
      go_ret
      exact ⟨rfl, H5.out⟩

theorem drop_rev {ws : List Int} {j : Nat} (h : j < ws.length) : (ws.drop j).reverse = (ws.drop (j + 1)).reverse ++ [ws.getD j 0] := by
  rw [List.drop_eq_getElem_cons h, List.reverse_cons]
  simp [h]

set_option maxRecDepth 100000 in
set_option maxHeartbeats 1000000 in
theorem round_any (a : Option Addr) (m c : Nat) (ws : List Int) (w : World) (hm : m ≤ 16777216) (hR : RdI w.heap.size w a m ws) :
    Calls Try.prog 29 #[.slice a m c] w fun e w' => ∃ g cap, e = .returned (.slice (some ⟨g, 0, none⟩) m cap) ∧ w.heap.size ≤ g ∧ OwI w.heap.size w' (.slice (some ⟨g, 0, none⟩) m cap) m ws.reverse ∧ Below w.heap.size w w' := by
  obtain ⟨hl, h3⟩ := hR
  have H0 : Hid (OwI w.heap.size (w.alloc (.cells #[] 3)) (.slice (some ⟨w.heap.size, 0, none⟩) 0 0) 0 []) := World.ownsRow_lit w #[] 0 (Nat.le_refl _) (by decide) rfl
  have hb0 := hid (show Below w.heap.size w (w.alloc (.cells #[] 3)) from (Below.refl _ _).alloc (Nat.le_refl _) _)
  have H3 := hid h3
  clear h3
  go_enter Try.func29, Try.ntmps29
  go_wp2_with fail
  go_loopw [3, 4] (fun o i wt => ∃ j g cp : Nat, j ≤ m ∧ i = .int .i64 ((j : Int) - 1) ∧ o = .slice (some ⟨g, 0, none⟩) (m - j) cp ∧ w.heap.size ≤ g ∧ OwI w.heap.size wt o (m - j) (ws.drop j).reverse ∧ Below w.heap.size w wt) (fun _ i _ => (intOf i + 1).toNat)
  case atStart => exact ⟨m, w.heap.size, 0, Nat.le_refl _, by go_num, by rw [Nat.sub_self], Nat.le_refl _, by rw [Nat.sub_self, List.drop_of_length_le (by omega)]; exact H0.out, hb0.out⟩
  case round =>
    obtain ⟨j, g, cp, hj, rfl, rfl, hg, hO, hbt⟩ := hrel
    clear H0 hb0
    by_cases hj0 : j = 0
    · subst hj0
      rw [List.drop_zero] at hO
      have HO := hid hO
      have Hb := hid hbt
      clear hO hbt
      go_wp2
      go_ret
      exact ⟨g, cp, rfl, hg, HO.out, Hb.out⟩
    · obtain ⟨k, rfl⟩ : ∃ k, j = k + 1 := ⟨j - 1, by omega⟩
      obtain ⟨b, off, rfl, hb, hc⟩ := H3.out.resolve_left (by omega)
      have hck := (hbt.cell (p := ⟨b, off + k, none⟩) (by exact hb)).trans (hc k (by omega))
      have HD := hid (drop_rev (ws := ws) (j := k) (by omega))
      have i1 : (k : Int) < (m : Int) := by omega
      generalize ws.getD k 0 = x at *
      have P3 := hid (hO.alloc (.cells #[.int .i64 x] 3))
      have B3 := hid (hbt.alloc hbt.size (.cells #[.int .i64 x] 3))
      have hsub : m - (k + 1) + 1 = m - k := by omega
      clear hO hbt hc
      go_wp2_with (at_builtin; refine wpI_one (by rfl) _ _ (by rfl) w.heap.size _ (m - (k + 1)) (ws.drop (k + 1)).reverse (by rfl) (by exact P3.out) ⟨wr.heap.size, 0, none⟩ 1 x (by rfl) (by exact newsI wr _) (by omega) (by exact B3.out.size) ?_)
      intro g4 c4 w4 ho4 hb4
      have hg4 : w.heap.size ≤ g4 := (World.ownsRow.lt ho4 g4 rfl).1
      rw [hsub] at *
      have P4 := hid ho4
      have B4 := hid (B3.out.trans hb4)
      clear ho4 hb4 P3 B3
      go_wp2
      go_roundw
      case rel => exact ⟨k, g4, c4, by omega, by go_num, rfl, hg4, by rw [HD.out]; exact P4.out, B4.out⟩
      case measure => simp [intOf]

end Go.Proofs.Yteaebdonnicbkaa
