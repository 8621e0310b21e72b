/-
  syntax: kidsOf, of the kinds that operators make, and of none.
-/
import Derived.Test.YtbllaacbeagljaaGreatDoorSy2
import Derived.Deep.RegionHeld3
import Derived.Deep.RegionWith
namespace Go.Proofs.YtbllaacbeagljaaGreatDoor
open Go.RowKit

theorem bl_drew {B : Nat} {a w : World} (h : Below B a w) : Below B a w.drew := ⟨h.os, h.tape, h.output, h.size, h.block⟩
theorem just_cs {b B g n : Nat} {w u : World} {cs : Array Value} {rs : List Int} (h1 : Cs u b 189 cs) (h2 : Blk .i64 142 u g rs) (h3 : Below B w u) (hB : B ≤ u.heap.size) : Calls Tryz.prog 119 #[.slice (some ⟨g, 0, none⟩) n n] u fun e w3 => e = .returned (.agg #[.slice (some ⟨g, 0, none⟩) n n, .int .i64 (n : Int), .bool false]) ∧ Cs w3 b 189 cs ∧ Blk .i64 142 w3 g rs ∧ Below B w w3 := by
  refine (just_any _ n n u).mono ?_
  rintro e w3 ⟨rfl, rfl⟩
  exact ⟨rfl, h1.next (below1 _ _), h2.alloc _, h3.trans ((below1 _ _).mono hB)⟩
/-- none of the kinds that have kids of their own -/
def oth (k : Int) : Bool := decide (k ≠ 1 ∧ k ≠ 11 ∧ k ≠ 3 ∧ k ≠ 10 ∧ k ≠ 2 ∧ k ≠ 5 ∧ k ≠ 7 ∧ k ≠ 9 ∧ k ≠ 4 ∧ k ≠ 6 ∧ k ≠ 29 ∧ k ≠ 33 ∧ k ≠ 12 ∧ k ≠ 27 ∧ k ≠ 28 ∧ k ≠ 34)
set_option maxRecDepth 100000 in
set_option maxHeartbeats 4000000 in
theorem kidsOf_oth (k : Int) (w : World) (hG : GA w) (hk : oth k = true) : Calls Tryz.prog 120 #[.int .i64 k] w (KdQ k w) := by
  obtain ⟨PO, hPO⟩ : ∃ PO, PO = KdQ k w := ⟨_, rfl⟩
  rw [← hPO]
  have HPO := hid hPO
  clear hPO
  obtain ⟨W, hW⟩ : ∃ W, W = w.alloc (.cells #[.slice none 0 0, .int .i64 0, .bool false] 189) := ⟨_, rfl⟩
  have HO := hid (operatorOf_any k W (by rw [hW]; exact hG.next (below1 _ _)))
  have hk' : k ≠ 1 ∧ k ≠ 11 ∧ k ≠ 3 ∧ k ≠ 10 ∧ k ≠ 2 ∧ k ≠ 5 ∧ k ≠ 7 ∧ k ≠ 9 ∧ k ≠ 4 ∧ k ≠ 6 ∧ k ≠ 29 ∧ k ≠ 33 ∧ k ≠ 12 ∧ k ≠ 27 ∧ k ≠ 28 ∧ k ≠ 34 := by simpa [oth] using hk
  have hZ : kdZ k = match opZ k with | some r => ([if r < 3 then 7 else 6, if r < 3 then 7 else 6], 2, false) | none => ([], 0, false) := by
    unfold kdZ
    obtain ⟨h1, h2, h3, h4, h5, h6, h7, h8, h9, ha, hb, hc, hd, he, hf, hg⟩ := hk'
    simp [h1, h2, h3, h4, h5, h6, h7, h8, h9, ha, hb, hc, hd, he, hf, hg]
    cases opZ k <;> rfl
  obtain ⟨h1, h2, h3, h4, h5, h6, h7, h8, h9, ha, hb, hc, hd, he, hf, hg⟩ := hk'
  have q1 : (k == 1) = false := by simpa using h1
  have q11 : (k == 11) = false := by simpa using h2
  have q3 : (k == 3) = false := by simpa using h3
  have q10 : (k == 10) = false := by simpa using h4
  have q2 : (k == 2) = false := by simpa using h5
  have q5 : (k == 5) = false := by simpa using h6
  have q7 : (k == 7) = false := by simpa using h7
  have q9 : (k == 9) = false := by simpa using h8
  have q4 : (k == 4) = false := by simpa using h9
  have q6 : (k == 6) = false := by simpa using ha
  have q29 : (k == 29) = false := by simpa using hb
  have q33 : (k == 33) = false := by simpa using hc
  have q12 : (k == 12) = false := by simpa using hd
  have q27 : (k == 27) = false := by simpa using he
  have q28 : (k == 28) = false := by simpa using hf
  have q34 : (k == 34) = false := by simpa using hg
  have HZ := hid hZ
  have HW := hid hW
  have hbl : Below w.heap.size w W := by rw [hW]; exact below1 _ _
  have hcs : Cs W w.heap.size 189 #[.slice none 0 0, .int .i64 0, .bool false] := by rw [hW]; exact Cs.new _ _ _
  have HB := hid hbl
  have HC := hid hcs
  clear h1 h2 h3 h4 h5 h6 h7 h8 h9 ha hb hc hd he hf hg hk hZ hW hG hbl hcs
  go_enter Tryz.func120, Tryz.ntmps120
  go_wp2_with fail
  rw [← HW.out]
  refine Calls.mono HO.out ?_
  rintro e w2 ⟨⟨r, s, hr⟩, hb2⟩
  have hcs2 := HC.out.next hb2
  have hb02 := HB.out.trans (hb2.mono HB.out.size)
  have hlt := hcs2.lt
  rcases hr with ⟨hr, rfl⟩ | ⟨hr, rfl⟩
  · have HB2 := hid hb02
    have HC2 := hid hcs2
    obtain ⟨x, hx⟩ : ∃ x : Int, x = if r < 3 then 7 else 6 := ⟨_, rfl⟩
    have h132 : ∀ u, Calls Tryz.prog 132 #[.int .i64 r] u fun e w' => e = .returned (.int .i64 x) ∧ w' = u := fun u => by rw [hx]; exact operands_any r u
    have H132 := hid h132
    have HZ2 : Hid (kdZ k = ([x, x], 2, false)) := by rw [HZ.out, hr, hx]; rfl
    obtain ⟨A, hA⟩ : ∃ A : Obj, A = .cells #[.int .i64 r, .string s, .int .i64 k] 220 := ⟨_, rfl⟩
    have HD : Hid (Cs ((w2.alloc A).alloc (.cells #[.int .i64 x, .int .i64 x] 142)) w.heap.size 189 #[.slice none 0 0, .int .i64 0, .bool false] ∧ Blk .i64 142 ((w2.alloc A).alloc (.cells #[.int .i64 x, .int .i64 x] 142)) (w2.heap.size + 1) [x, x] ∧ Below w.heap.size w ((w2.alloc A).alloc (.cells #[.int .i64 x, .int .i64 x] 142)) ∧ w.heap.size ≤ ((w2.alloc A).alloc (.cells #[.int .i64 x, .int .i64 x] 142)).heap.size) :=
      ⟨hcs2.next (below2 _ _ _), blk2 _ _ [x, x] _ rfl, hb02.trans ((below2 _ _ _).mono hb02.size), by simp; omega⟩
    rw [hA] at HD
    clear hr hb02 hcs2 hb2 HO hx h132 HZ hA
    go_wp2_with fail
    go_region_with (first | (go_at_call 132; refine (H132.out _).mono ?_; rintro e w3 ⟨rfl, rfl⟩) | (go_at_call 119; refine (just_cs (b := w.heap.size) (B := w.heap.size) (w := w) (cs := #[.slice none 0 0, .int .i64 0, .bool false]) (rs := [x, x]) (by exact HD.out.1) (by exact HD.out.2.1) (by exact bl_drew HD.out.2.2.1) (by exact HD.out.2.2.2)).mono ?_; rintro e w3 ⟨rfl, d1, d2, d3⟩; have e0 := d1.cell 0 _ rfl; have e1 := d1.cell 1 _ rfl; have e2 := d1.cell 2 _ rfl; have g0 := d1.fz 0; have g1 := d1.fz 1; have g2 := d1.fz 2; have D1 := hid d1; have D2 := hid d2; have D3 := hid d3; clear d1 d2 d3))
    all_goals
      go_wp2_with fail
      have hD1 := D1.out
      have hD2 := D2.out
      have hD3 := D3.out
      have hn : w2.heap.size + 1 ≠ w.heap.size := by omega
      exact bodyPost_ret (results_cell_row rfl _ _ w.heap.size 189 _ (0, 0) _ rfl (((hD1.set 0 _ rfl).set 1 _ rfl).set 2 _ rfl) Tryz.underlying189 rfl (by kernel_rfl)) rfl (by rw [HPO.out]; exact kdq (rs := [x, x]) HZ2.out rfl (by omega) (((hD2.setOther hn _).setOther hn _).setOther hn _) (((hD3.setCell (by simp) _).setCell (by simp) _).setCell (by simp) _))
  · have c0 := hcs2.cell 0 _ rfl
    have c1 := hcs2.cell 1 _ rfl
    have c2 := hcs2.cell 2 _ rfl
    have f0 := hcs2.fz 0
    have f1 := hcs2.fz 1
    have f2 := hcs2.fz 2
    have HR := hid hr
    have HB2 := hid hb02
    have HC2 := hid hcs2
    clear hr hb02 hcs2 hb2 HO
    go_wp2_with fail
    have hD1 := Cs.next (((HC2.out.set 0 (.slice none 0 0) rfl).set 1 (.int .i64 0) rfl).set 2 (.bool false) rfl) (below1 _ (.cells #[.int .i64 0, .string ⟨#[]⟩, .int .i64 0] 220))
    have hD3 : Below w.heap.size w (((w2.setCell ⟨w.heap.size, 0, none⟩ (.slice none 0 0)).setCell ⟨w.heap.size, 1, none⟩ (.int .i64 0)).setCell ⟨w.heap.size, 2, none⟩ (.bool false)) := ((HB2.out.setCell (by simp) _).setCell (by simp) _).setCell (by simp) _
    exact bodyPost_ret (results_cell_row rfl _ _ w.heap.size 189 _ (0, 0) _ rfl hD1 Tryz.underlying189 rfl (by kernel_rfl)) rfl (by rw [HPO.out]; exact ⟨⟨_, rfl, by rw [HZ.out, HR.out]; exact ⟨none, rfl, .inl rfl⟩⟩, hD3.trans ((below1 _ _).mono hD3.size)⟩)

end Go.Proofs.YtbllaacbeagljaaGreatDoor
