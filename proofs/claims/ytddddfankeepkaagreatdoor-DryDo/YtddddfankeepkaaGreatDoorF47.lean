import Derived.Test.YtddddfankeepkaaGreatDoorF46
import Derived.Test.YtddddfankeepkaaGreatDoorF21
namespace Go.Proofs.YtddddfankeepkaaGreatDoor
open Go.RowKit Go.ChangeShapes Go.WideShapes Go.ChangeAt Go.Deep
theorem open_vols2 {H : Type} {enc : TypeId × Value → H} {W : World} {fuel : Nat} {cs : List Value} {y : DataW H × List MemPlace} (h : DataW.trod enc Tryz.prog W 0 (fun _ => true) true fuel 22 cs = some y) (hbk : Rows.uptoBulk y.1 ≤ 1048576) :
  ∃ a c vs, cs = [.slice a vs.length c] ∧ szV 1048576 1048576 vs ∧ (∀ v ∈ vs, v.nm.size ≤ 16777216) ∧ RdV W.heap.size W a vs := by
 rcases open_slice Tryz.underlying22 h with ⟨hcs, hx⟩ | ⟨x, l, c, m, n, D, Pl, hcs, hb, hl, hm, hmm, hx, hall⟩
 ·exact ⟨none, 0, [], hcs, ⟨by simp, by simp⟩, by simp, .inl rfl⟩
 ·have hm' : m = c := by simpa using hmm
  subst hm'
  rw [hx] at hbk
  have hbk' : Rows.uptoBulkAll ((List.range l).map D) ≤ 1048576 := by simp only [Rows.uptoBulk] at hbk; omega
  have each : ∀ i, i < l → ∃ v : PV, v.mp.length + v.nm.size ≤ 1048576 ∧ ∃ (a : Option Addr) (c : Nat), RdR W.heap.size W a v.mp ∧ (a = none → c = 0) ∧
   W.cell? (x.add (i * 7)) = some (.string v.nm) ∧ W.cell? (x.add (i * 7 + 1)) = some (.int .i64 v.id) ∧ W.cell? (x.add (i * 7 + 2)) = some (.int .i64 v.sz) ∧ W.cell? (x.add (i * 7 + 3)) = some (.int .i64 v.og) ∧ W.cell? (x.add (i * 7 + 4)) = some (.int .i64 v.kd) ∧ W.cell? (x.add (i * 7 + 5)) = some (.bool v.pt) ∧ W.cell? (x.add (i * 7 + 6)) = some (.slice a v.mp.length c) := by
   intro i hi
   obtain ⟨cs', e1, e2⟩ := hall i (by omega)
   rw [co38] at e1
   obtain ⟨v, a, c, h1, h2⟩ := open_vol e1 e2
   exact ⟨v, Nat.le_trans h1 (Nat.le_trans (bulk_mem (List.mem_map.2 ⟨i, List.mem_range.2 hi, rfl⟩)) hbk'), a, c, h2⟩
  have : Inhabited PV := ⟨⟨⟨#[]⟩, 0, 0, 0, 0, false, []⟩⟩
  obtain ⟨q, hq⟩ := choose_lt each
  have hcnt := bulk_cnt ((List.range l).map D)
  simp only [List.length_map, List.length_range] at hcnt
  refine ⟨some x, m, (List.range l).map q, by simpa using hcs, ⟨by simp; omega, fun v hv => ?_⟩, fun v hv => ?_, ?_⟩
  ·obtain ⟨i, hi, rfl⟩ := List.mem_map.1 hv
   have := (hq i (List.mem_range.1 hi)).1
   omega
  ·obtain ⟨i, hi, rfl⟩ := List.mem_map.1 hv
   have := (hq i (List.mem_range.1 hi)).1
   omega
  ·by_cases h0 : l = 0
   ·exact .inl (by rw [h0]; rfl)
   ·obtain ⟨b, off, rfl⟩ := spot_none (by obtain ⟨_, _, _, _, _, e, _⟩ := hq 0 (by omega); simpa using e)
    refine .inr ⟨b, off, rfl, ?_, fun t ht => ?_⟩
    ·obtain ⟨_, _, _, _, _, e, _⟩ := hq 0 (by omega)
     rw [add_plain] at e
     exact World.block_lt_of_cell? W ⟨b, off, none⟩ (by simpa using e)
    ·simp only [List.length_map, List.length_range] at ht
     obtain ⟨_, a, c, r1, r2, e0, e1, e2, e3, e4, e5, e6⟩ := hq t ht
     rw [add_plain] at e0 e1 e2 e3 e4 e5 e6
     simp only [List.getElem_map, List.getElem_range]
     exact ⟨a, c, ⟨e0, e1, e2, e3, e4, e5, e6⟩, r1, r2⟩
set_option maxRecDepth 100000 in
theorem open_view2 {H : Type} {enc : TypeId × Value → H} {W : World} {cs : Array Value} {d : DataW H} {p : List MemPlace} (h : DataW.Trod enc Tryz.prog W 0 (fun _ => true) true 24 (.agg cs) d p) (hz : cs.size = 4) (hbk : Rows.uptoBulk d ≤ 1048576) :
  ∃ (x : VW) (a : Option Addr) (c : Nat), Value.agg cs = viewA x a c ∧ szV 1048576 1048576 x.vs ∧ (∀ v ∈ x.vs, v.nm.size ≤ 16777216) ∧ RdV W.heap.size W a x.vs := by
 obtain ⟨fuel, hf0⟩ := h
 have hlen : cs.toList.length = 4 := by simpa using hz
 obtain ⟨xs, k, hk, hy, hl, hxl, hf⟩ := DataW.trod_struct Tryz.underlying24 hf0
 obtain ⟨y0, y1, y2, y3, rfl⟩ := four (l := xs) hxl
 obtain ⟨v0, v1, v2, v3, hcs⟩ := four (l := cs.toList) hlen
 obtain rfl : cs = #[v0, v1, v2, v3] := by rw [← Array.toList_inj, hcs]
 have g0 := hf 0 _ rfl
 have g1 := hf 1 _ rfl
 have g2 := hf 2 _ rfl
 have g3 := hf 3 _ rfl
 simp [co3, co22, Value.cells] at g0 g1 g2 g3
 obtain ⟨q0, e0, rfl, w0⟩ := DataW.trod_int Tryz.underlying3 g0
 obtain ⟨q1, e1, rfl, w1⟩ := DataW.trod_int Tryz.underlying3 g1
 obtain ⟨q2, e2, rfl, w2⟩ := DataW.trod_int Tryz.underlying3 g2
 simp only [Prod.mk.injEq] at hy
 rw [hy.1] at hbk
 simp only [List.map_cons, List.map_nil, Rows.uptoBulk, Rows.uptoBulkAll] at hbk
 obtain ⟨a, c, vs, e3, hs, hz2, hR⟩ := open_vols2 g3 (by omega)
 simp at e0 e1 e2 e3
 subst e0 e1 e2 e3
 exact ⟨⟨q0, q1, q2, vs⟩, a, c, rfl, hs, hz2, hR⟩
end Go.Proofs.YtddddfankeepkaaGreatDoor
