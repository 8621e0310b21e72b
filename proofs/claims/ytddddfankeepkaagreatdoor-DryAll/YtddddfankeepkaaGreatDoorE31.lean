import Derived.Test.YtddddfankeepkaaGreatDoorE29
import Derived.Test.YtddddfankeepkaaGreatDoorE22
namespace Go.Proofs.YtddddfankeepkaaGreatDoor
open Go.RowKit Go.ChangeShapes Go.WideShapes Go.ChangeAt Go.Deep
theorem bulk_lits {H : Type} (k : IntKind) (zs : List Int) : Rows.uptoBulkAll (H := H) (lits k zs) = zs.length := by
 induction zs with
 | nil => rfl
 | cons z r ih =>
  have e : lits (H := H) k (z :: r) = .lit (.int k z) :: lits k r := rfl
  rw [e, Rows.uptoBulkAll, ih]
  simp [Rows.uptoBulk]
  omega
theorem rd_of_open {W : World} {x : Addr} {len cap : Nat} {zs : List Int} (hl : len ≤ cap) (hz : zs.length = cap) (hcell : ∀ i, i < zs.length → W.cell? (x.add i) = some (.int .u8 (zs.getD i 0))) (hwz : ∀ n ∈ zs, (Lit.int .u8 n).wf = true) :
  Rd W.heap.size W (some x) len (zs.take len) := by
 refine ⟨by simp; omega, fun z hzm => ?_, ?_⟩
 ·have := bounds_u8 (hwz z (List.mem_of_mem_take hzm))
  omega
 ·by_cases h0 : len = 0
  ·exact .inl h0
  ·have hc := hcell 0 (by omega)
   obtain ⟨b, off, rfl⟩ := spot_none hc
   refine .inr ⟨b, off, rfl, World.block_lt_of_cell? W ⟨b, off, none⟩ (by rw [add_plain] at hc; exact hc), fun t ht => ?_⟩
   rw [← add_plain, hcell t (by omega), List.getD_eq_getElem?_getD, List.getD_eq_getElem?_getD, List.getElem?_take_of_lt ht]
theorem open_bytes {H : Type} {enc : TypeId × Value → H} {W : World} {fuel : Nat} {cs : List Value} {y : DataW H × List MemPlace} (h : DataW.trod enc Tryz.prog W 0 (fun _ => true) true fuel 40 cs = some y) :
  ∃ a n c zs, cs = [.slice a n c] ∧ (a = none → c = 0) ∧ Rd W.heap.size W a n zs ∧ n + 1 ≤ Rows.uptoBulk y.1 := by
 rcases open_ints Tryz.underlying40 Tryz.underlying5 (by kernel_rfl) h with ⟨hcs, hx⟩ | ⟨x, l, c, zs, hcs, hp, hl, hm, hz, hx, hcell, hwz⟩
 ·refine ⟨none, 0, 0, [], hcs, fun _ => rfl, ⟨rfl, Pl.isB_nil, .inl rfl⟩, bulk_one _⟩
 ·refine ⟨some x, l, c, zs.take l, hcs, fun h => (by cases h), rd_of_open hl (by simpa using hz) hcell hwz, ?_⟩
  rw [hx]
  simp only [Rows.uptoBulk, bulk_lits]
  simp at hz
  rw [List.length_take]
  omega
theorem co40 : Tryz.prog.cellsOf 40 = 1 := by kernel_rfl
theorem co42 : Tryz.prog.cellsOf 42 = 6 := by kernel_rfl
theorem six {α : Type} {l : List α} (h : l.length = 6) : ∃ a b c d e f, l = [a, b, c, d, e, f] := by
 match l, h with
 | [a, b, c, d, e, f], _ => exact ⟨a, b, c, d, e, f, rfl⟩
set_option maxRecDepth 100000 in
theorem open_op {H : Type} {enc : TypeId × Value → H} {W : World} {fuel : Nat} {x : Addr} {i : Nat} {cs : List Value} {y : DataW H × List MemPlace} (hc : W.cells? 0 (x.add (i * 6)) 6 = some cs) (h : DataW.trod enc Tryz.prog W 0 (fun _ => true) true fuel 42 cs = some y) (hb : Rows.uptoBulk y.1 ≤ 1048576) :
  ∃ (o : PO) (a : Option Addr) (c : Nat), okO o ∧ Rd W.heap.size W a o.da.length o.da ∧ (a = none → c = 0) ∧ 7 + o.nm.size + o.ot.size + o.da.length ≤ Rows.uptoBulk y.1 ∧
   W.cell? (x.add (i * 6)) = some (.int .i64 o.k) ∧ W.cell? (x.add (i * 6 + 1)) = some (.string o.nm) ∧ W.cell? (x.add (i * 6 + 2)) = some (.string o.ot) ∧ W.cell? (x.add (i * 6 + 3)) = some (.int .i64 o.fr) ∧ W.cell? (x.add (i * 6 + 4)) = some (.int .i64 o.tt) ∧ W.cell? (x.add (i * 6 + 5)) = some (.slice a o.da.length c) := by
 obtain ⟨_, hlen, hcell⟩ := World.cells?_some hc
 obtain ⟨xs, k, hk, rfl, hl, hxl, hf⟩ := DataW.trod_struct Tryz.underlying42 h
 obtain ⟨y0, y1, y2, y3, y4, y5, rfl⟩ := six (l := xs) hxl
 obtain ⟨v0, v1, v2, v3, v4, v5, rfl⟩ := six (l := cs) hlen
 have g0 := hf 0 _ rfl
 have g1 := hf 1 _ rfl
 have g2 := hf 2 _ rfl
 have g3 := hf 3 _ rfl
 have g4 := hf 4 _ rfl
 have g5 := hf 5 _ rfl
 simp [co3, co9, co40] at g0 g1 g2 g3 g4 g5
 obtain ⟨q0, e0, rfl, w0⟩ := DataW.trod_int Tryz.underlying3 g0
 obtain ⟨q1, e1, rfl, w1⟩ := DataW.trod_string Tryz.underlying9 g1
 obtain ⟨q2, e2, rfl, w2⟩ := DataW.trod_string Tryz.underlying9 g2
 obtain ⟨q3, e3, rfl, w3⟩ := DataW.trod_int Tryz.underlying3 g3
 obtain ⟨q4, e4, rfl, w4⟩ := DataW.trod_int Tryz.underlying3 g4
 obtain ⟨a, n, c, zs, e5, hn, hR, hbu⟩ := open_bytes g5
 simp at e0 e1 e2 e3 e4 e5
 subst e0 e1 e2 e3 e4 e5
 have hzl : zs.length = n := hR.1
 have s1 : q1.data.toList.length = q1.size := by rw [Array.length_toList]; rfl
 have s2 : q2.data.toList.length = q2.size := by rw [Array.length_toList]; rfl
 have hbig : 7 + q1.size + q2.size + n ≤ Rows.uptoBulk (DataW.agg ([((.lit (.int .i64 q0), []) : DataW H × List MemPlace), (.lit (.string q1.data.toList), []), (.lit (.string q2.data.toList), []), (.lit (.int .i64 q3), []), (.lit (.int .i64 q4), []), y5].map (·.1))) := by
  simp only [List.map_cons, List.map_nil, Rows.uptoBulk, Rows.uptoBulkAll]
  omega
 have b0 := bounds_i64 w0
 have b3 := bounds_i64 w3
 have b4 := bounds_i64 w4
 have k0 := hcell 0 (by omega)
 have k1 := hcell 1 (by omega)
 have k2 := hcell 2 (by omega)
 have k3 := hcell 3 (by omega)
 have k4 := hcell 4 (by omega)
 have k5 := hcell 5 (by omega)
 rw [add_add] at k0 k1 k2 k3 k4 k5
 have hb' := Nat.le_trans hbig hb
 refine ⟨⟨q0, q1, q2, q3, q4, zs⟩, a, c, ⟨b0.1, b0.2, b3.1, b3.2, b4.1, b4.2, by show q1.size ≤ _; omega, by show q2.size ≤ _; omega, by show zs.length ≤ _; omega⟩, by rw [hzl]; exact hR, hn, by rw [hzl]; exact hbig, by simpa using k0, by simpa using k1, by simpa using k2, by simpa using k3, by simpa using k4, by simpa [hzl] using k5⟩
theorem open_ops {H : Type} {enc : TypeId × Value → H} {W : World} {a : Option Addr} {len cap : Nat} {d : DataW H} {p : List MemPlace} (h : DataW.Trod enc Tryz.prog W 0 (fun _ => true) true 25 (.slice a len cap) d p) (hbk : Rows.uptoBulk d ≤ 1048576) :
  ∃ os : List PO, os.length = len ∧ RdO W.heap.size W a os ∧ os.length + 1 ≤ Rows.uptoBulk d := by
 obtain ⟨fuel, hf⟩ := h
 rcases open_slice Tryz.underlying25 hf with ⟨hcs, hx⟩ | ⟨x, l, c, m, n, D, Pl, hcs, hb, hl, hm, hmm, hx, hall⟩
 ·simp [Value.cells] at hcs
  obtain ⟨rfl, rfl, rfl⟩ := hcs
  exact ⟨[], rfl, ⟨by simp, .inl rfl⟩, bulk_one _⟩
 ·simp [Value.cells] at hcs
  obtain ⟨rfl, rfl, rfl⟩ := hcs
  have hm' : m = cap := by simpa using hmm
  subst hm'
  simp only [Prod.mk.injEq] at hx
  obtain ⟨rfl, _⟩ := hx
  have hbk' : Rows.uptoBulkAll ((List.range len).map D) ≤ 1048576 := by simp only [Rows.uptoBulk] at hbk; omega
  have each : ∀ i, i < len → ∃ o : PO, okO o ∧ 7 + o.nm.size + o.ot.size + o.da.length ≤ Rows.uptoBulk (D i) ∧ ∃ (a : Option Addr) (c : Nat), Rd W.heap.size W a o.da.length o.da ∧ (a = none → c = 0) ∧ W.cell? (x.add (i * 6)) = some (.int .i64 o.k) ∧ W.cell? (x.add (i * 6 + 1)) = some (.string o.nm) ∧ W.cell? (x.add (i * 6 + 2)) = some (.string o.ot) ∧ W.cell? (x.add (i * 6 + 3)) = some (.int .i64 o.fr) ∧ W.cell? (x.add (i * 6 + 4)) = some (.int .i64 o.tt) ∧ W.cell? (x.add (i * 6 + 5)) = some (.slice a o.da.length c) := by
   intro i hi
   obtain ⟨cs', e1, e2⟩ := hall i (by omega)
   rw [co42] at e1
   have hDi : Rows.uptoBulk (D i) ≤ 1048576 := Nat.le_trans (bulk_mem (List.mem_map.2 ⟨i, List.mem_range.2 hi, rfl⟩)) hbk'
   obtain ⟨o, a, c, h1, h2, h3, h4, h5⟩ := open_op e1 e2 hDi
   exact ⟨o, h1, h4, a, c, h2, h3, h5⟩
  have : Inhabited PO := ⟨PO0⟩
  obtain ⟨q, hq⟩ := choose_lt each
  refine ⟨(List.range len).map q, by simp, ⟨fun o ho => ?_, ?_⟩, ?_⟩
  ·obtain ⟨i, hi, rfl⟩ := List.mem_map.1 ho
   exact (hq i (List.mem_range.1 hi)).1
  ·by_cases h0 : len = 0
   ·exact .inl (by rw [h0]; rfl)
   ·obtain ⟨b, off, rfl⟩ := spot_none (by obtain ⟨_, _, _, _, _, _, e, _⟩ := hq 0 (by omega); simpa using e)
    refine .inr ⟨b, off, rfl, ?_, fun t ht => ?_⟩
    ·obtain ⟨_, _, _, _, _, _, e, _⟩ := hq 0 (by omega)
     rw [add_plain] at e
     exact World.block_lt_of_cell? W ⟨b, off, none⟩ (by simpa using e)
    ·simp only [List.length_map, List.length_range] at ht
     obtain ⟨_, _, a, c, r1, r2, e0, e1, e2, e3, e4, e5⟩ := hq t ht
     rw [add_plain] at e0 e1 e2 e3 e4 e5
     simp only [List.getElem_map, List.getElem_range]
     exact ⟨a, c, ⟨e0, e1, e2, e3, e4, e5⟩, r1, r2⟩
  ·have := bulk_cnt ((List.range len).map D)
   simp only [List.length_map, List.length_range] at this
   simp only [Rows.uptoBulk, List.length_map, List.length_range]
   omega
end Go.Proofs.YtddddfankeepkaaGreatDoor
