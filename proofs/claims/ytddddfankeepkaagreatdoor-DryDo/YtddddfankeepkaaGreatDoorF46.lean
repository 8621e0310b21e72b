import Derived.Test.YtddddfankeepkaaGreatDoorF01
import Derived.ProofKit
import Derived.OpenShut
import Derived.SizedLaws
import Derived.SliceStrings
import Derived.Deep.Slices
import Derived.JoinedCond
import Derived.ChangeOld
import Derived.Below
namespace Go.Proofs.YtddddfankeepkaaGreatDoor
open Go.RowKit Go.ChangeShapes Go.WideShapes Go.ChangeAt Go.Deep
theorem bulk_one {H : Type} (d : DataW H) : 1 ≤ Rows.uptoBulk d := by
 cases d with
 | lit l => cases l <;> simp [Rows.uptoBulk]
 | _ => simp [Rows.uptoBulk]
theorem bulk_mem {H : Type} {d : DataW H} {l : List (DataW H)} (h : d ∈ l) : Rows.uptoBulk d ≤ Rows.uptoBulkAll l := by
 induction l with
 | nil => cases h
 | cons x r ih =>
  simp only [Rows.uptoBulkAll]
  rcases List.mem_cons.1 h with rfl | h
  ·omega
  ·have := ih h; omega
theorem bulk_cnt {H : Type} : ∀ (l : List (DataW H)), l.length ≤ Rows.uptoBulkAll l
 | [] => Nat.zero_le _
 | d :: l => by
  have h1 := bulk_one d
  have h2 := bulk_cnt l
  simp only [Rows.uptoBulkAll, List.length_cons]
  omega
theorem spot_none {W : World} {x : Addr} {v : Value} (h : W.cell? (x.add 0) = some v) : ∃ b off, x = ⟨b, off, none⟩ := by
 obtain ⟨b, off, spot⟩ := x
 have hspot : spot = none := by simpa [Addr.add] using World.cell?_spot h
 subst hspot
 exact ⟨b, off, rfl⟩
theorem add_plain (b off t : Nat) : (⟨b, off, none⟩ : Addr).add t = ⟨b, off + t, none⟩ := by unfold Addr.add; split <;> simp_all
theorem co3 : Tryz.prog.cellsOf 3 = 1 := by kernel_rfl
theorem co4 : Tryz.prog.cellsOf 4 = 1 := by kernel_rfl
theorem co9 : Tryz.prog.cellsOf 9 = 1 := by kernel_rfl
theorem co22 : Tryz.prog.cellsOf 22 = 1 := by kernel_rfl
theorem co24 : Tryz.prog.cellsOf 24 = 4 := by kernel_rfl
theorem co36 : Tryz.prog.cellsOf 36 = 1 := by kernel_rfl
theorem co38 : Tryz.prog.cellsOf 38 = 7 := by kernel_rfl
theorem co78 : Tryz.prog.cellsOf 78 = 2 := by kernel_rfl
theorem two {α : Type} {l : List α} (h : l.length = 2) : ∃ a b, l = [a, b] := by
 match l, h with
 | [a, b], _ => exact ⟨a, b, rfl⟩
theorem four {α : Type} {l : List α} (h : l.length = 4) : ∃ a b c d, l = [a, b, c, d] := by
 match l, h with
 | [a, b, c, d], _ => exact ⟨a, b, c, d, rfl⟩
theorem seven {α : Type} {l : List α} (h : l.length = 7) : ∃ a b c d e f g, l = [a, b, c, d, e, f, g] := by
 match l, h with
 | [a, b, c, d, e, f, g], _ => exact ⟨a, b, c, d, e, f, g, rfl⟩
set_option maxRecDepth 100000 in
theorem open_rg {H : Type} {enc : TypeId × Value → H} {W : World} {fuel : Nat} {x : Addr} {i : Nat} {cs : List Value} {y : DataW H × List MemPlace} (hc : W.cells? 0 (x.add (i * 2)) 2 = some cs) (h : DataW.trod enc Tryz.prog W 0 (fun _ => true) true fuel 78 cs = some y) :
  ∃ r : Rg, W.cell? (x.add (i * 2)) = some (.int .i64 r.f) ∧ W.cell? (x.add (i * 2 + 1)) = some (.int .i64 r.t) := by
 obtain ⟨_, hlen, hcell⟩ := World.cells?_some hc
 obtain ⟨xs, k, hk, rfl, hl, hxl, hf⟩ := DataW.trod_struct Tryz.underlying78 h
 obtain ⟨y0, y1, rfl⟩ := two (l := xs) hxl
 obtain ⟨v0, v1, rfl⟩ := two (l := cs) hlen
 have g0 := hf 0 _ rfl
 have g1 := hf 1 _ rfl
 simp [co3] at g0 g1
 obtain ⟨q0, e0, rfl, w0⟩ := DataW.trod_int Tryz.underlying3 g0
 obtain ⟨q1, e1, rfl, w1⟩ := DataW.trod_int Tryz.underlying3 g1
 simp at e0 e1
 subst e0 e1
 have k0 := hcell 0 (by omega)
 have k1 := hcell 1 (by omega)
 rw [add_add] at k0 k1
 exact ⟨⟨q0, q1⟩, by simpa using k0, by simpa using k1⟩
theorem open_ranges {H : Type} {enc : TypeId × Value → H} {W : World} {fuel : Nat} {cs : List Value} {y : DataW H × List MemPlace} (h : DataW.trod enc Tryz.prog W 0 (fun _ => true) true fuel 36 cs = some y) :
  ∃ a c rs, cs = [.slice a rs.length c] ∧ (a = none → c = 0) ∧ RdR W.heap.size W a rs ∧ rs.length + 1 ≤ Rows.uptoBulk y.1 := by
 rcases open_slice Tryz.underlying36 h with ⟨hcs, hx⟩ | ⟨x, l, c, m, n, D, Pl, hcs, hb, hl, hm, hmm, hx, hall⟩
 ·exact ⟨none, 0, [], hcs, fun _ => rfl, .inl rfl, bulk_one _⟩
 ·have hm' : m = c := by simpa using hmm
  subst hm'
  have each : ∀ i, i < l → ∃ r : Rg, W.cell? (x.add (i * 2)) = some (.int .i64 r.f) ∧ W.cell? (x.add (i * 2 + 1)) = some (.int .i64 r.t) := by
   intro i hi
   obtain ⟨cs', e1, e2⟩ := hall i (by omega)
   rw [co78] at e1
   exact open_rg e1 e2
  have : Inhabited Rg := ⟨⟨0, 0⟩⟩
  obtain ⟨q, hq⟩ := choose_lt each
  refine ⟨some x, m, (List.range l).map q, by simpa using hcs, (fun h => by cases h), ?_, ?_⟩
  ·by_cases h0 : l = 0
   ·exact .inl (by rw [h0]; rfl)
   ·obtain ⟨b, off, rfl⟩ := spot_none (by simpa using (hq 0 (by omega)).1)
    refine .inr ⟨b, off, rfl, ?_, fun j hj => ?_⟩
    ·have e := (hq 0 (by omega)).1
     rw [add_plain] at e
     exact World.block_lt_of_cell? W ⟨b, off, none⟩ (by simpa using e)
    ·simp only [List.length_map, List.length_range] at hj
     have e := hq j hj
     rw [add_plain, add_plain] at e
     simp only [List.getElem_map, List.getElem_range]
     exact e
  ·rw [hx]
   simp only [Rows.uptoBulk]
   have := bulk_cnt ((List.range l).map D)
   simp at this
   simp
   omega
set_option maxRecDepth 100000 in
theorem open_vol {H : Type} {enc : TypeId × Value → H} {W : World} {fuel : Nat} {x : Addr} {i : Nat} {cs : List Value} {y : DataW H × List MemPlace} (hc : W.cells? 0 (x.add (i * 7)) 7 = some cs) (h : DataW.trod enc Tryz.prog W 0 (fun _ => true) true fuel 38 cs = some y) :
  ∃ (v : PV) (a : Option Addr) (c : Nat), v.mp.length + v.nm.size ≤ Rows.uptoBulk y.1 ∧ RdR W.heap.size W a v.mp ∧ (a = none → c = 0) ∧
   W.cell? (x.add (i * 7)) = some (.string v.nm) ∧ W.cell? (x.add (i * 7 + 1)) = some (.int .i64 v.id) ∧ W.cell? (x.add (i * 7 + 2)) = some (.int .i64 v.sz) ∧ W.cell? (x.add (i * 7 + 3)) = some (.int .i64 v.og) ∧ W.cell? (x.add (i * 7 + 4)) = some (.int .i64 v.kd) ∧ W.cell? (x.add (i * 7 + 5)) = some (.bool v.pt) ∧ W.cell? (x.add (i * 7 + 6)) = some (.slice a v.mp.length c) := by
 obtain ⟨_, hlen, hcell⟩ := World.cells?_some hc
 obtain ⟨xs, k, hk, rfl, hl, hxl, hf⟩ := DataW.trod_struct Tryz.underlying38 h
 obtain ⟨y0, y1, y2, y3, y4, y5, y6, rfl⟩ := seven (l := xs) hxl
 obtain ⟨v0, v1, v2, v3, v4, v5, v6, rfl⟩ := seven (l := cs) hlen
 have g0 := hf 0 _ rfl
 have g1 := hf 1 _ rfl
 have g2 := hf 2 _ rfl
 have g3 := hf 3 _ rfl
 have g4 := hf 4 _ rfl
 have g5 := hf 5 _ rfl
 have g6 := hf 6 _ rfl
 simp [co3, co4, co9, co36] at g0 g1 g2 g3 g4 g5 g6
 obtain ⟨q0, e0, rfl, w0⟩ := DataW.trod_string Tryz.underlying9 g0
 obtain ⟨q1, e1, rfl, w1⟩ := DataW.trod_int Tryz.underlying3 g1
 obtain ⟨q2, e2, rfl, w2⟩ := DataW.trod_int Tryz.underlying3 g2
 obtain ⟨q3, e3, rfl, w3⟩ := DataW.trod_int Tryz.underlying3 g3
 obtain ⟨q4, e4, rfl, w4⟩ := DataW.trod_int Tryz.underlying3 g4
 obtain ⟨q5, e5, rfl⟩ := DataW.trod_bool Tryz.underlying4 g5
 obtain ⟨a, c, rs, e6, hn, hR, hbu⟩ := open_ranges g6
 simp at e0 e1 e2 e3 e4 e5 e6
 subst e0 e1 e2 e3 e4 e5 e6
 have k0 := hcell 0 (by omega)
 have k1 := hcell 1 (by omega)
 have k2 := hcell 2 (by omega)
 have k3 := hcell 3 (by omega)
 have k4 := hcell 4 (by omega)
 have k5 := hcell 5 (by omega)
 have k6 := hcell 6 (by omega)
 rw [add_add] at k0 k1 k2 k3 k4 k5 k6
 refine ⟨⟨q0, q1, q2, q3, q4, q5, rs⟩, a, c, ?_, hR, hn, by simpa using k0, by simpa using k1, by simpa using k2, by simpa using k3, by simpa using k4, by simpa using k5, by simpa using k6⟩
 have s1 : q0.data.toList.length = q0.size := by rw [Array.length_toList]; rfl
 simp only [List.map_cons, List.map_nil, Rows.uptoBulk, Rows.uptoBulkAll]
 omega
set_option maxRecDepth 100000 in
theorem bound {H : Type} {l : List (DataW H)} (hk : Rows.uptoSmall H l = true) : Rows.uptoBulkAll l ≤ 1048576 := of_decide_eq_true hk
end Go.Proofs.YtddddfankeepkaaGreatDoor
