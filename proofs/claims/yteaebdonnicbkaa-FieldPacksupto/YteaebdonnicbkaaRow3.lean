/-
  The row: its back (function 43); other fields (function 27).
-/
import Derived.Test.YteaebdonnicbkaaRow2
import Derived.Deep.QuietTactic
import Derived.BigQuiet
import Derived.Laws.Closers25b
namespace Go.Proofs.Yteaebdonnicbkaa
open Go.RowKit

theorem below_drewN {B : Nat} {a w : World} (h : Below B a w) (q : Nat) : Below B a (w.drewN q) := ⟨h.os, h.tape, h.output, h.size, h.block⟩
theorem lentF_lo {fs : List (Int × Int)} {k i : Nat} (h : i < fs.length) : (lentF fs k).getD i (0, 0) = fs.getD i (0, 0) := by
  unfold lentF
  rw [List.getD_eq_getElem?_getD, List.getD_eq_getElem?_getD, List.getElem?_append_left h]
theorem lentF_hi {fs : List (Int × Int)} {k i : Nat} (h : fs.length ≤ i) (h2 : i < fs.length + k) : (lentF fs k).getD i (0, 0) = (-7 - ((i : Int) - fs.length), -8) := by
  unfold lentF
  rw [List.getD_eq_getElem?_getD, List.getElem?_append_right h]
  simp [show i - fs.length < k by omega]
  omega
theorem RwL.at {w : World} {r G M m : Nat} {fs : List (Int × Int)} (h : RwL w r G M m fs) (i : Nat) (hi : i < 2 * m + 70) : w.cell? ⟨G, i * 2, none⟩ = some (.int .i64 ((lentF fs (m + 70)).getD i (0, 0)).1) ∧ w.cell? ⟨G, i * 2 + 1, none⟩ = some (.int .i64 ((lentF fs (m + 70)).getD i (0, 0)).2) := by
  obtain ⟨ys, hB, hyl, ht⟩ := h.buf
  have hb := h.big
  have := hB.cells i (by omega)
  have e : (lentF fs (m + 70)).getD i (0, 0) = ys.getD i (0, 0) := by
    rw [← ht, List.getD_eq_getElem?_getD, List.getD_eq_getElem?_getD, List.getElem?_take_of_lt hi]
  rw [e]
  exact this
theorem RwL.but {X : Nat → Prop} {w w' : World} {r G M m : Nat} {fs : List (Int × Int)} (h : RwL w r G M m fs) (hb : But X w w') (h1 : ¬ X r) (h2 : ¬ X G) : RwL w' r G M m fs := by
  obtain ⟨ys, hB, hyl, ht⟩ := h.buf
  exact ⟨h.row.of_block (hb.block r h.row.lt h1), h.ne, h.big, h.small, ys, hB.of_block (hb.block G hB.lt h2), hyl, ht⟩
theorem RwL.done {w : World} {r G M m : Nat} {fs : List (Int × Int)} (h : RwL w r G M m fs) : RS1 w r (.slice (some ⟨G, 0, none⟩) M M) := by
  obtain ⟨ys, hB, hyl, ht⟩ := h.buf
  exact ⟨h.row, .inr ⟨G, M, ys, rfl, h.ne, hB, hyl, h.small⟩⟩
theorem RwL.rd {w : World} {r G M m : Nat} {fs : List (Int × Int)} (h : RwL w r G M m fs) (hl : fs.length = m) (hv : ∀ f ∈ fs, -9223372036854775808 ≤ f.2 ∧ f.2 ≤ 9223372036854775807) : RdF w.heap.size w (some ⟨G, 0, none⟩) m fs := by
  obtain ⟨ys, hB, hyl, ht⟩ := h.buf
  refine ⟨hl, hv, .inr ⟨G, 0, rfl, hB.lt, fun t ht2 => ?_⟩⟩
  have := h.at t (by omega)
  rw [lentF_lo (by omega)] at this
  simpa using this

set_option maxRecDepth 100000 in
set_option maxHeartbeats 2000000 in
theorem rback_any (r G M m c : Nat) (a : Option Addr) (fs : List (Int × Int)) (w : World) (hm : m ≤ 16777216) (hS : RwL w r G M m fs) (hR : RdF w.heap.size w a m fs) :
    Calls Try.prog 43 #[.pointer (some ⟨r, 0, none⟩), .slice a m c] w fun e w' => e = .returned (.bool true) ∧ Below w.heap.size w w' := by
  have hl := hR.1
  have hrlt := hS.row.lt
  have hGlt : G < w.heap.size := by obtain ⟨ys, hB, _⟩ := hS.buf; exact hB.lt
  have hM := hS.big
  have hM2 := hS.small
  have hcr := hS.row.cell
  have Hcell := hid hS.at
  have HR := hid hR.2.2
  clear hS hR
  go_enter Try.func43, Try.ntmps43
  go_wp2_with fail
  go_loopw [5] (fun i wt => ∃ k : Nat, k ≤ 2 * m + 70 ∧ i = .int .i64 (k : Int) ∧ Below w.heap.size w wt) (fun i _ => 2 * m + 70 - (intOf i).toNat)
  case atStart => exact ⟨0, Nat.zero_le _, rfl, Below.refl _ _⟩
  case round =>
    obtain ⟨k, hk, rfl, hbt⟩ := hrel
    by_cases hkm : k < 2 * m + 70
    · have hk1 : (k : Int) < 2 * (m : Int) + 70 := by omega
      have Hbt := hid hbt
      clear hbt
      go_wp2_with fail
      refine (behind_any ((k : Int) - m) wr (by omega) (by omega)).mono ?_
      rintro e w3 ⟨rfl, hb3⟩
      obtain ⟨x0, x1⟩ := Hcell.out k hkm
      have hB3 := Hbt.out.trans (hb3.mono Hbt.out.size)
      have HB3 := hid hB3
      have hkM : (k : Int) < (M : Int) := by omega
      clear hb3 hB3 Hbt
      by_cases hkn : k < m
      · have hkn' : (k : Int) < (m : Int) := by omega
        obtain ⟨bb, off, rfl, hbb, hc⟩ := HR.out.resolve_left (by omega)
        obtain ⟨z0, z1⟩ := hc k hkn
        have hB4 := HB3.out.alloc HB3.out.size (.cells #[.int .i64 (-7 - ((k : Int) - m)), .int .i64 (-8)] 38)
        have u0 := (hB4.cell (p := ⟨bb, off + k * 2, none⟩) (by exact hbb)).trans z0
        have u1 := (hB4.cell (p := ⟨bb, off + k * 2 + 1, none⟩) (by exact hbb)).trans z1
        rw [lentF_lo (by omega)] at x0 x1
        clear z0 z1 hc hB4
        generalize (fs.getD k (0, 0)).1 = p at *
        generalize (fs.getD k (0, 0)).2 = q at *
        have hB5 := HB3.out.alloc HB3.out.size (.cells #[.int .i64 p, .int .i64 q] 38)
        have y0 := (hB5.cell (p := ⟨G, k * 2, none⟩) (by exact hGlt)).trans x0
        have y1 := (hB5.cell (p := ⟨G, k * 2 + 1, none⟩) (by exact hGlt)).trans x1
        have yr := (hB5.cell (p := ⟨r, 0, none⟩) (by exact hrlt)).trans hcr
        have p0 : (w3.alloc (.cells #[.int .i64 p, .int .i64 q] 38)).cell? ⟨w3.heap.size, 0, none⟩ = some (.int .i64 p) := World.cell?_alloc_at _ _ _ _ rfl
        have p1 : (w3.alloc (.cells #[.int .i64 p, .int .i64 q] 38)).cell? ⟨w3.heap.size, 1, none⟩ = some (.int .i64 q) := World.cell?_alloc_at _ _ _ _ rfl
        have HB5 := hid hB5
        clear hB5 x0 x1
        go_wp2_with fail
        generalize w3.alloc (.cells #[.int .i64 p, .int .i64 q] 38) = w5 at *
        go_quiet (fail)
        go_wp2
        go_roundw
        case rel => exact ⟨k + 1, by omega, by go_num, below_drewN HB5.out _⟩
        case measure => simp [intOf]; omega
      · have hkn' : ¬ ((k : Int) < (m : Int)) := by omega
        rw [lentF_hi (by omega) (by omega), hl] at x0 x1
        have hB5 := HB3.out.alloc HB3.out.size (.cells #[.int .i64 (-7 - ((k : Int) - m)), .int .i64 (-8)] 38)
        have y0 := (hB5.cell (p := ⟨G, k * 2, none⟩) (by exact hGlt)).trans x0
        have y1 := (hB5.cell (p := ⟨G, k * 2 + 1, none⟩) (by exact hGlt)).trans x1
        have yr := (hB5.cell (p := ⟨r, 0, none⟩) (by exact hrlt)).trans hcr
        have p0 : (w3.alloc (.cells #[.int .i64 (-7 - ((k : Int) - m)), .int .i64 (-8)] 38)).cell? ⟨w3.heap.size, 0, none⟩ = some (.int .i64 (-7 - ((k : Int) - m))) := World.cell?_alloc_at _ _ _ _ rfl
        have p1 : (w3.alloc (.cells #[.int .i64 (-7 - ((k : Int) - m)), .int .i64 (-8)] 38)).cell? ⟨w3.heap.size, 1, none⟩ = some (.int .i64 (-8)) := World.cell?_alloc_at _ _ _ _ rfl
        have HB5 := hid hB5
        clear hB5 x0 x1
        go_wp2_with fail
        generalize w3.alloc (.cells #[.int .i64 (-7 - ((k : Int) - m)), .int .i64 (-8)] 38) = w5 at *
        go_quiet (fail)
        go_wp2
        go_roundw
        case rel => exact ⟨k + 1, by omega, by go_num, below_drewN HB5.out _⟩
        case measure => simp [intOf]; omega
    · have hk1 : ¬ ((k : Int) < 2 * (m : Int) + 70) := by omega
      have Hbt := hid hbt
      clear hbt
      go_wp2
      go_ret
      exact ⟨rfl, Hbt.out⟩

/-- fields of the same widths with other values -/
def oth (fs : List (Int × Int)) : List (Int × Int) := fs.map fun f => (f.1, bits .xor .i64 f.2 1)
theorem length_oth (fs : List (Int × Int)) : (oth fs).length = fs.length := by simp [oth]
theorem oth_bd (fs : List (Int × Int)) : ∀ f ∈ oth fs, -9223372036854775808 ≤ f.2 ∧ f.2 ≤ 9223372036854775807 := by
  intro f hf
  simp only [oth, List.mem_map] at hf
  obtain ⟨g, _, rfl⟩ := hf
  have h1 := bits_lo_i64 .xor g.2 1
  have h2 := bits_hi_i64 .xor g.2 1
  generalize bits .xor .i64 g.2 1 = x at *
  exact ⟨h1, h2⟩
theorem flat_set (fs : List (Int × Int)) (k : Nat) (v : Int) (hk : k < fs.length) : (flat fs).set (k * 2 + 1) (.int .i64 v) = flat (fs.set k ((fs.getD k (0, 0)).1, v)) := by
  induction fs generalizing k with
  | nil => simp at hk
  | cons f r ih =>
    cases k with
    | zero => simp [flat]
    | succ k =>
      have := ih k (by simpa using hk)
      simp only [flat, List.flatMap_cons, List.set_cons_succ] at *
      rw [← show List.flatMap (fun f => [Value.int IntKind.i64 f.1, Value.int IntKind.i64 f.2]) (r.set k ((r.getD k (0, 0)).1, v)) = List.flatMap (fun f => [Value.int IntKind.i64 f.1, Value.int IntKind.i64 f.2]) (r.set k (((f :: r).getD (k + 1) (0, 0)).1, v)) from rfl, ← this]
      rw [show (k + 1) * 2 + 1 = (k * 2 + 1) + 1 + 1 by omega]
      rfl
theorem oth_step (fs : List (Int × Int)) (k : Nat) (hk : k < fs.length) : (oth (fs.take k) ++ fs.drop k).set k ((fs.getD k (0, 0)).1, bits .xor .i64 (fs.getD k (0, 0)).2 1) = oth (fs.take (k + 1)) ++ fs.drop (k + 1) := by
  have h1 : (oth (fs.take k)).length = k := by rw [length_oth, List.length_take]; omega
  rw [List.set_append_right _ _ (by omega), h1, Nat.sub_self, List.drop_eq_getElem_cons hk, List.set_cons_zero, takeF hk]
  simp only [oth, List.map_append, List.map_cons, List.map_nil, List.append_assoc, List.cons_append, List.nil_append]
theorem oth_at (fs : List (Int × Int)) (k : Nat) (hk : k < fs.length) : (oth (fs.take k) ++ fs.drop k).getD k (0, 0) = fs.getD k (0, 0) := by
  have h1 : (oth (fs.take k)).length = k := by rw [length_oth, List.length_take]; omega
  rw [List.getD_eq_getElem?_getD, List.getElem?_append_right (by omega), h1, Nat.sub_self]
  simp [hk]

set_option maxRecDepth 100000 in
set_option maxHeartbeats 2000000 in
theorem others_any (a : Option Addr) (m c : Nat) (fs : List (Int × Int)) (w : World) (hm : m ≤ 16777216) (hnil : a = none → c = 0) (hR : RdF w.heap.size w a m fs) :
    Calls Try.prog 27 #[.slice a m c] w fun e w' => ∃ g cap, e = .returned (.slice (some ⟨g, 0, none⟩) m cap) ∧ w.heap.size ≤ g ∧ OwF w.heap.size w' (.slice (some ⟨g, 0, none⟩) m cap) m (oth fs) ∧ Below w.heap.size w w' := by
  have hl := hR.1
  have H0 : Hid (OwF w.heap.size (w.alloc (.cells #[] 38)) (.slice (some ⟨w.heap.size, 0, none⟩) 0 0) 0 []) := World.ownsRow_lit w #[] 0 (Nat.le_refl _) (by decide) rfl
  have hb0 := hid (show Below w.heap.size w (w.alloc (.cells #[] 38)) from (Below.refl _ _).alloc (Nat.le_refl _) _)
  have HR := hid ((RFN.of_rd (X := fun _ => False) hR (Nat.le_refl _) (fun _ _ h => h)).but (But.of_below hb0.out))
  clear hR
  go_enter Try.func27, Try.ntmps27
  go_wp2_with (at_builtin; refine wpF_any (by rfl) _ _ (by rfl) w.heap.size _ 0 [] (by rfl) (by exact H0.out) (fun _ => False) a m c fs (by rfl) hnil (by exact HR.out) (by omega) (by exact hb0.out.size) ?_)
  intro o1 w1 ho1 hb1 hn1
  obtain ⟨g1, c1, rfl, hg1, _⟩ := ho1.form hn1
  have P1 := hid ho1
  have B1 := hid (hb0.out.trans hb1)
  clear ho1 hb1 hn1 H0 hb0
  go_wp2_with fail
  go_loopw [4] (fun i wt => ∃ k : Nat, k ≤ m ∧ i = .int .i64 (k : Int) ∧ OwF w.heap.size wt (.slice (some ⟨g1, 0, none⟩) m c1) m (oth (fs.take k) ++ fs.drop k) ∧ Below w.heap.size w wt) (fun i _ => m - (intOf i).toNat)
  case atStart => exact ⟨0, Nat.zero_le _, rfl, by simpa [oth] using P1.out, B1.out⟩
  case round =>
    obtain ⟨k, hk, rfl, hO, hbt⟩ := hrel
    clear P1 B1
    by_cases hkm : k < m
    · have hkf : k < fs.length := by omega
      have hcl : (oth (fs.take k) ++ fs.drop k).length = m := by rw [List.length_append, length_oth, List.length_take, List.length_drop]; omega
      have hc := World.ownsRow.cellAt hO (k * 2 + 1) (by omega)
      have hfl := (flat_get (oth (fs.take k) ++ fs.drop k) k (by omega)).2
      rw [oth_at fs k hkf] at hfl
      rw [hfl] at hc
      have hfr := World.ownsRow.frozenAt hO (k * 2 + 1)
      have hst := (World.ownsRow.stored hO (k * 2 + 1) (.int .i64 (bits .xor .i64 (fs.getD k (0, 0)).2 1))).1
      rw [flat_set _ _ _ (by omega), oth_at fs k hkf, oth_step fs k hkf] at hst
      have HO := hid hst
      have Hb := hid (hbt.setCell (show w.heap.size ≤ (⟨g1, k * 2 + 1, none⟩ : Addr).block from hg1) (.int .i64 (bits .xor .i64 (fs.getD k (0, 0)).2 1)))
      have hk1 : (k : Int) < (m : Int) := by omega
      clear hO hbt hst hfl hcl
      generalize (fs.getD k (0, 0)).2 = v at *
      go_wp2
      go_roundw
      case rel => exact ⟨k + 1, by omega, by go_num, HO.out, Hb.out⟩
      case measure => simp [intOf]; omega
    · obtain rfl : k = m := by omega
      rw [List.take_of_length_le (by omega), List.drop_of_length_le (by omega), List.append_nil] at hO
      have HO := hid hO
      have Hb := hid hbt
      clear hO hbt
      go_wp2
      go_ret
      exact ⟨g1, c1, rfl, hg1, HO.out, Hb.out⟩

end Go.Proofs.Yteaebdonnicbkaa
