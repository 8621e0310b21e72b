import Derived.Test.YtldlejpacgphmabGreatG14
import Derived.ProofKit
import Derived.OpenShut
import Derived.SizedLaws
import Derived.Deep.SlicePairs
namespace Go.Proofs.YtldlejpacgphmabGreat
open Go.ChangeShapes Go.WideShapes Go.ChangeAt Go.RowKit Go.Deep
theorem rd_of_open {W : World} {x : Addr} {len cap : Nat} {zs : List Int} (hl : len ≤ cap) (hz : zs.length = cap) (hcell : ∀ i, i < zs.length → W.cell? (x.add i) = some (.int .u8 (zs.getD i 0))) (hwz : ∀ n ∈ zs, (Lit.int .u8 n).wf = true) :
  Rd W.heap.size W (some x) len (zs.take len) := by
 refine ⟨by simp; omega, fun z hzm => ?_, ?_⟩
 ·have := bounds_u8 (hwz z (List.mem_of_mem_take hzm))
  omega
 ·by_cases h0 : len = 0
  ·exact .inl h0
  ·obtain ⟨b, off, spot⟩ := x
   have hc := hcell 0 (by omega)
   have hspot : spot = none := by simpa [Addr.add] using World.cell?_spot hc
   subst hspot
   have hadd : ∀ t, (⟨b, off, none⟩ : Addr).add t = ⟨b, off + t, none⟩ := fun t => by unfold Addr.add; split <;> simp_all
   refine .inr ⟨b, off, rfl, World.block_lt_of_cell? W ⟨b, off, none⟩ (by rw [hadd] at hc; exact hc), fun t ht => ?_⟩
   rw [← hadd, hcell t (by omega), List.getD_eq_getElem?_getD, List.getD_eq_getElem?_getD, List.getElem?_take_of_lt ht]
theorem bulk_one {H : Type} (d : DataW H) : 1 ≤ Rows.uptoBulk d := by
 cases d with
 | lit l => cases l <;> simp [Rows.uptoBulk]
 | nil => simp [Rows.uptoBulk]
 | ptr d => simp [Rows.uptoBulk]
 | slice elems spare => simp [Rows.uptoBulk]
 | agg parts => simp [Rows.uptoBulk]
 | iface t d => simp [Rows.uptoBulk]
 | map entries => simp [Rows.uptoBulk]
 | held h => simp [Rows.uptoBulk]
theorem bulk_len {H : Type} (l : List (DataW H)) : l.length ≤ Rows.uptoBulkAll l := by
 induction l with
 | nil => simp [Rows.uptoBulkAll]
 | cons x r ih => have := bulk_one x; simp only [Rows.uptoBulkAll, List.length_cons]; omega
theorem bulk_mem {H : Type} {d : DataW H} {l : List (DataW H)} (h : d ∈ l) : Rows.uptoBulk d ≤ Rows.uptoBulkAll l := by
 induction l with
 | nil => cases h
 | cons x r ih =>
  simp only [Rows.uptoBulkAll]
  cases List.mem_cons.1 h with
  | inl e => subst e; omega
  | inr e => have := ih e; omega
theorem bulk_slice {H : Type} (elems spare : List (DataW H)) : elems.length ≤ Rows.uptoBulk (.slice elems spare) := by
 have h1 := bulk_len elems
 simp only [Rows.uptoBulk]
 omega
set_option maxRecDepth 100000 in
theorem bulk_bound {H : Type} {l : List (DataW H)} (hk : Rows.uptoSmall H l = true) : Rows.uptoBulkAll l ≤ 1048576 := of_decide_eq_true hk
theorem spot_none {W : World} {x : Addr} {v : Value} (h : W.cell? (x.add 0) = some v) : ∃ b off, x = ⟨b, off, none⟩ := by
 obtain ⟨b, off, spot⟩ := x
 have hspot : spot = none := by simpa [Addr.add] using World.cell?_spot h
 subst hspot
 exact ⟨b, off, rfl⟩
theorem add_plain (b off t : Nat) : (⟨b, off, none⟩ : Addr).add t = ⟨b, off + t, none⟩ := by unfold Addr.add; split <;> simp_all
theorem bulk_by {H : Type} {l : List (DataW H)} {k : Nat} (h : ∀ d ∈ l, k ≤ Rows.uptoBulk d) : k * l.length ≤ Rows.uptoBulkAll l := by
 induction l with
 | nil => simp [Rows.uptoBulkAll]
 | cons x r ih =>
  have h1 := h x (by simp)
  have h2 := ih (fun d hd => h d (by simp [hd]))
  simp only [Rows.uptoBulkAll, List.length_cons, Nat.mul_succ]
  omega
theorem open_bc {H : Type} {enc : TypeId × Value → H} {W : World} {v : Value} {fuel : Nat} {x : DataW H × List MemPlace} (hf : DataW.trod enc Tryz.prog W 0 (fun _ => true) true fuel 22 [v] = some x) :
  ∃ a n c zs, v = .slice a n c ∧ Rd W.heap.size W a n zs ∧ n ≤ Rows.uptoBulk x.1 ∧ (a = none → c = 0) := by
 rcases open_ints Tryz.underlying22 Tryz.underlying5 (by kernel_rfl) hf with ⟨hcs, hx⟩ | ⟨x', l, c, zs, hcs, hp, hl, hm, hz, hx, hcell, hwz⟩
 ·simp at hcs
  subst hcs
  exact ⟨none, 0, 0, [], rfl, ⟨rfl, Pl.isB_nil, .inl rfl⟩, by omega, fun _ => rfl⟩
 ·simp at hcs
  subst hcs
  have hz' : zs.length = c := by simpa using hz
  refine ⟨some x', l, c, zs.take l, rfl, rd_of_open hl hz' hcell hwz, ?_, fun q => by cases q⟩
  rw [hx]
  have := bulk_slice (H := H) (lits .u8 (zs.take l)) (lits .u8 (zs.drop l))
  simp only [lits, List.length_map, List.length_take] at this
  simp only [lits]
  omega
theorem open_two {H : Type} {enc : TypeId × Value → H} {P : Program} {w : World} {base : Nat} {spare : Nat → Bool} {held : Bool} {t e : TypeId} {f0 f1 : Field} {fuel : Nat} {cs : List Value} {x : DataW H × List MemPlace}
  (ht : P.underlying t = some (.slice e)) (he : P.underlying e = some (.struct #[f0, f1])) (ce : P.cellsOf e = 2) (o0 : f0.offset = 0) (o1 : f1.offset = 1) (c0 : P.cellsOf f0.type = 1) (c1 : P.cellsOf f1.type = 1)
  (h : DataW.trod enc P w base spare held fuel t cs = some x) :
  (cs = [.slice none 0 0] ∧ x = (.nil, [])) ∨
  ∃ (a : Addr) (len cap m n : Nat) (D : Nat → DataW H), cs = [.slice (some a) len cap] ∧ len ≤ cap ∧ m = (if spare a.block then cap else len) ∧ x.1 = .slice ((List.range len).map D) ((List.range (m - len)).map fun j => D (len + j)) ∧
   ∀ i, i < m → ∃ (v0 v1 : Value) (y0 y1 : DataW H × List MemPlace), w.cell? (a.add (i * 2)) = some v0 ∧ w.cell? (a.add (i * 2 + 1)) = some v1 ∧
    DataW.trod enc P w base spare held (n - 1) f0.type [v0] = some y0 ∧ DataW.trod enc P w base spare held (n - 1) f1.type [v1] = some y1 ∧ D i = .agg [y0.1, y1.1] := by
 rcases open_slice ht h with h0 | ⟨a, len, cap, m, n, D, Pl, rfl, hb, hl, hm, hmm, rfl, hx⟩
 ·exact Or.inl h0
 refine .inr ⟨a, len, cap, m, n, D, rfl, hl, hmm, rfl, ?_⟩
 intro i hi
 obtain ⟨cs', h1, h2⟩ := hx i hi
 rw [ce] at h1
 obtain ⟨_, hlen, hcell⟩ := World.cells?_some h1
 obtain ⟨xs, k, hk, hxy, _, hxl, hf⟩ := DataW.trod_struct he h2
 have hk' : k = n - 1 := by omega
 subst hk'
 match xs, hxl, cs', hlen with
 | [y0, y1], _, [v0, v1], _ =>
  have g0 := hf 0 f0 rfl
  have g1 := hf 1 f1 rfl
  simp [o0, o1, c0, c1] at g0 g1
  have e0 := hcell 0 (by omega)
  have e1 := hcell 1 (by omega)
  rw [add_add] at e0 e1
  simp only [Prod.mk.injEq] at hxy
  exact ⟨v0, v1, y0, y1, by simpa using e0, by simpa using e1, g0, g1, by simpa using hxy.1⟩
theorem open_puts {H : Type} {enc : TypeId × Value → H} {W : World} {v : Value} {fuel : Nat} {x : DataW H × List MemPlace} (hf : DataW.trod enc Tryz.prog W 0 (fun _ => true) true fuel 35 [v] = some x) :
  ∃ a c ps, v = .slice a ps.length c ∧ RdP (fun _ => False) W a ps ∧ ps.length ≤ Rows.uptoBulk x.1 ∧ (∀ p ∈ ps, p.data.length ≤ Rows.uptoBulk x.1 ∧ (p.ad = none → p.cap = 0)) ∧ (a = none → c = 0) := by
 rcases open_two Tryz.underlying35 Tryz.underlying97 (by kernel_rfl) rfl rfl (by kernel_rfl) (by kernel_rfl) hf with ⟨hcs, hx⟩ | ⟨x1, len, c, m, n, D, hcs, hl, hmm, hx, hall⟩
 ·simp at hcs
  subst hcs
  exact ⟨none, 0, [], rfl, ⟨(fun p hp => by cases hp), .inl rfl⟩, by simp, (fun p hp => by cases hp), fun _ => rfl⟩
 ·simp at hcs
  subst hcs
  have hm' : m = c := by simpa using hmm
  subst hm'
  have hsum : len ≤ Rows.uptoBulk x.1 ∧ ∀ i, i < len → Rows.uptoBulk (D i) ≤ Rows.uptoBulk x.1 := by
   rw [hx]
   have h1 := bulk_slice (H := H) ((List.range len).map D) ((List.range (m - len)).map fun j => D (len + j))
   simp only [List.length_map, List.length_range] at h1
   refine ⟨h1, fun i hi => ?_⟩
   have := bulk_mem (d := D i) (l := (List.range len).map D) (List.mem_map.2 ⟨i, List.mem_range.2 hi, rfl⟩)
   simp only [Rows.uptoBulk]
   omega
  have each : ∀ i, i < len → ∃ q : Pm, (W.cell? (x1.add (i * 2)) = some (.int .i64 q.at_) ∧ W.cell? (x1.add (i * 2 + 1)) = some (.slice q.ad q.data.length q.cap)) ∧ Rd W.heap.size W q.ad q.data.length q.data ∧ q.data.length ≤ Rows.uptoBulk x.1 ∧ (q.ad = none → q.cap = 0) := by
   intro i hi
   obtain ⟨v0, v1, y0, y1, e0, e1, t0, t1, hD⟩ := hall i (by omega)
   obtain ⟨q0, eq0, _, _⟩ := DataW.trod_int Tryz.underlying3 t0
   simp at eq0
   subst eq0
   obtain ⟨aa, nn, cc, zs, rfl, hR, hn, hz⟩ := open_bc t1
   have hb := hsum.2 i hi
   rw [hD] at hb
   simp only [Rows.uptoBulk, Rows.uptoBulkAll] at hb
   have hzl : zs.length = nn := hR.1
   subst hzl
   exact ⟨⟨q0, aa, cc, zs⟩, ⟨e0, e1⟩, hR, by show zs.length ≤ _; omega, hz⟩
  have : Inhabited Pm := ⟨⟨0, none, 0, []⟩⟩
  obtain ⟨q, hq⟩ := choose_lt each
  have hlen : ((List.range len).map q).length = len := by simp
  refine ⟨some x1, m, (List.range len).map q, by rw [hlen], ⟨fun p hp => ?_, ?_⟩, by rw [hlen]; exact hsum.1, fun p hp => ?_, fun e => by cases e⟩
  ·obtain ⟨i, hi, rfl⟩ := List.mem_map.1 hp
   obtain ⟨r1, r2, r3⟩ := (hq i (List.mem_range.1 hi)).2.1
   exact ⟨r1, r2, r3.imp id (fun ⟨b, o, s1, s2, s3⟩ => ⟨b, o, s1, s2, fun h => h, s3⟩)⟩
  ·by_cases h0 : len = 0
   ·subst h0; exact .inl rfl
   ·obtain ⟨b, off, rfl⟩ := spot_none (by have := (hq 0 (by omega)).1.1; simpa using this)
    refine .inr ⟨b, off, rfl, ?_, fun h => h, fun i d hi => ?_⟩
    ·have := (hq 0 (by omega)).1.1
     rw [add_plain] at this
     exact World.block_lt_of_cell? W ⟨b, off, none⟩ (by simpa using this)
    ·have hil : i < len := by have := (List.getElem?_eq_some_iff.1 hi).1; simpa using this
     have hd : d = q i := by
      rw [List.getElem?_map, List.getElem?_range hil] at hi
      simpa using hi.symm
     subst hd
     have hh := (hq i hil).1
     simp only [add_plain, ← Nat.add_assoc] at hh
     exact hh
  ·obtain ⟨i, hi, rfl⟩ := List.mem_map.1 hp
   exact (hq i (List.mem_range.1 hi)).2.2
open Go.ChangeShapes Go.WideShapes Go.ChangeAt Go.RowKit Go.Deep
structure Ac where
 kd : Int
 at_ : Int
 a0 : Option Addr
 cp : Nat
 ps : List Pm
 keep : Int
 fz : Int
 again : Int
def RdA (B : Nat) (w : World) (a : Option Addr) (As : List Ac) : Prop :=
 As = [] ∨ ∃ b off, a = some ⟨b, off, none⟩ ∧ b < B ∧ ∀ t q, As[t]? = some q → w.cell? ⟨b, off + t * 6, none⟩ = some (.int .i64 q.kd) ∧ w.cell? ⟨b, off + t * 6 + 1, none⟩ = some (.int .i64 q.at_) ∧ w.cell? ⟨b, off + t * 6 + 2, none⟩ = some (.slice q.a0 q.ps.length q.cp) ∧ w.cell? ⟨b, off + t * 6 + 3, none⟩ = some (.int .u64 q.keep) ∧ w.cell? ⟨b, off + t * 6 + 4, none⟩ = some (.int .i64 q.fz) ∧ w.cell? ⟨b, off + t * 6 + 5, none⟩ = some (.int .i64 q.again)
theorem RdA.below {B : Nat} {w w' : World} {a : Option Addr} {As : List Ac} (h : RdA B w a As) (hb : Below B w w') : RdA B w' a As := by
 refine h.imp id (fun ⟨b, o, e, l, q⟩ => ⟨b, o, e, l, fun t d hd => ?_⟩)
 obtain ⟨q0, q1, q2, q3, q4, q5⟩ := q t d hd
 exact ⟨(hb.cell (p := ⟨b, _, none⟩) l).trans q0, (hb.cell (p := ⟨b, _, none⟩) l).trans q1, (hb.cell (p := ⟨b, _, none⟩) l).trans q2, (hb.cell (p := ⟨b, _, none⟩) l).trans q3, (hb.cell (p := ⟨b, _, none⟩) l).trans q4, (hb.cell (p := ⟨b, _, none⟩) l).trans q5⟩
theorem open_six {H : Type} {enc : TypeId × Value → H} {P : Program} {w : World} {base : Nat} {spare : Nat → Bool} {held : Bool} {t e : TypeId} {f0 f1 f2 f3 f4 f5 : Field} {fuel : Nat} {cs : List Value} {x : DataW H × List MemPlace}
  (ht : P.underlying t = some (.slice e)) (he : P.underlying e = some (.struct #[f0, f1, f2, f3, f4, f5])) (ce : P.cellsOf e = 6) (o0 : f0.offset = 0) (o1 : f1.offset = 1) (o2 : f2.offset = 2) (o3 : f3.offset = 3) (o4 : f4.offset = 4) (o5 : f5.offset = 5) (c0 : P.cellsOf f0.type = 1) (c1 : P.cellsOf f1.type = 1) (c2 : P.cellsOf f2.type = 1) (c3 : P.cellsOf f3.type = 1) (c4 : P.cellsOf f4.type = 1) (c5 : P.cellsOf f5.type = 1)
  (h : DataW.trod enc P w base spare held fuel t cs = some x) :
  (cs = [.slice none 0 0] ∧ x = (.nil, [])) ∨
  ∃ (a : Addr) (len cap m n : Nat) (D : Nat → DataW H), cs = [.slice (some a) len cap] ∧ len ≤ cap ∧ m = (if spare a.block then cap else len) ∧ x.1 = .slice ((List.range len).map D) ((List.range (m - len)).map fun j => D (len + j)) ∧
   ∀ i, i < m → ∃ (v0 v1 v2 v3 v4 v5 : Value) (y0 y1 y2 y3 y4 y5 : DataW H × List MemPlace), w.cell? (a.add (i * 6)) = some v0 ∧ w.cell? (a.add (i * 6 + 1)) = some v1 ∧ w.cell? (a.add (i * 6 + 2)) = some v2 ∧ w.cell? (a.add (i * 6 + 3)) = some v3 ∧ w.cell? (a.add (i * 6 + 4)) = some v4 ∧ w.cell? (a.add (i * 6 + 5)) = some v5 ∧
    DataW.trod enc P w base spare held (n - 1) f0.type [v0] = some y0 ∧ DataW.trod enc P w base spare held (n - 1) f1.type [v1] = some y1 ∧ DataW.trod enc P w base spare held (n - 1) f2.type [v2] = some y2 ∧ DataW.trod enc P w base spare held (n - 1) f3.type [v3] = some y3 ∧ DataW.trod enc P w base spare held (n - 1) f4.type [v4] = some y4 ∧ DataW.trod enc P w base spare held (n - 1) f5.type [v5] = some y5 ∧ D i = .agg [y0.1, y1.1, y2.1, y3.1, y4.1, y5.1] := by
 rcases open_slice ht h with h0 | ⟨a, len, cap, m, n, D, Pl, rfl, hb, hl, hm, hmm, rfl, hx⟩
 ·exact Or.inl h0
 refine .inr ⟨a, len, cap, m, n, D, rfl, hl, hmm, rfl, ?_⟩
 intro i hi
 obtain ⟨cs', h1, h2⟩ := hx i hi
 rw [ce] at h1
 obtain ⟨_, hlen, hcell⟩ := World.cells?_some h1
 obtain ⟨xs, k, hk, hxy, _, hxl, hf⟩ := DataW.trod_struct he h2
 have hk' : k = n - 1 := by omega
 subst hk'
 match xs, hxl, cs', hlen with
 | [y0, y1, y2, y3, y4, y5], _, [v0, v1, v2, v3, v4, v5], _ =>
  have g0 := hf 0 f0 rfl
  have g1 := hf 1 f1 rfl
  have g2 := hf 2 f2 rfl
  have g3 := hf 3 f3 rfl
  have g4 := hf 4 f4 rfl
  have g5 := hf 5 f5 rfl
  simp [o0, o1, o2, o3, o4, o5, c0, c1, c2, c3, c4, c5] at g0 g1 g2 g3 g4 g5
  have e0 := hcell 0 (by omega)
  have e1 := hcell 1 (by omega)
  have e2 := hcell 2 (by omega)
  have e3 := hcell 3 (by omega)
  have e4 := hcell 4 (by omega)
  have e5 := hcell 5 (by omega)
  rw [add_add] at e0 e1 e2 e3 e4 e5
  simp only [Prod.mk.injEq] at hxy
  exact ⟨v0, v1, v2, v3, v4, v5, y0, y1, y2, y3, y4, y5, by simpa using e0, by simpa using e1, by simpa using e2, by simpa using e3, by simpa using e4, by simpa using e5, g0, g1, g2, g3, g4, g5, by simpa using hxy.1⟩
theorem open_acts {H : Type} {enc : TypeId × Value → H} {W : World} {v : Value} {fuel : Nat} {x : DataW H × List MemPlace} (hf : DataW.trod enc Tryz.prog W 0 (fun _ => true) true fuel 25 [v] = some x) :
  ∃ a c As, v = .slice a As.length c ∧ RdA W.heap.size W a As ∧ As.length ≤ Rows.uptoBulk x.1 ∧ ∀ q ∈ As, RdP (fun _ => False) W q.a0 q.ps ∧ q.ps.length ≤ Rows.uptoBulk x.1 ∧ (∀ p ∈ q.ps, p.data.length ≤ Rows.uptoBulk x.1 ∧ (p.ad = none → p.cap = 0)) := by
 rcases open_six Tryz.underlying25 Tryz.underlying38 (by kernel_rfl) rfl rfl rfl rfl rfl rfl (by kernel_rfl) (by kernel_rfl) (by kernel_rfl) (by kernel_rfl) (by kernel_rfl) (by kernel_rfl) hf with ⟨hcs, hx⟩ | ⟨x1, len, c, m, n, D, hcs, hl, hmm, hx, hall⟩
 ·simp at hcs
  subst hcs
  exact ⟨none, 0, [], rfl, .inl rfl, by simp, fun p hp => by cases hp⟩
 ·simp at hcs
  subst hcs
  have hm' : m = c := by simpa using hmm
  subst hm'
  have hsum : len ≤ Rows.uptoBulk x.1 ∧ ∀ i, i < len → Rows.uptoBulk (D i) ≤ Rows.uptoBulk x.1 := by
   rw [hx]
   have h1 := bulk_slice (H := H) ((List.range len).map D) ((List.range (m - len)).map fun j => D (len + j))
   simp only [List.length_map, List.length_range] at h1
   refine ⟨h1, fun i hi => ?_⟩
   have := bulk_mem (d := D i) (l := (List.range len).map D) (List.mem_map.2 ⟨i, List.mem_range.2 hi, rfl⟩)
   simp only [Rows.uptoBulk]
   omega
  have each : ∀ i, i < len → ∃ q : Ac, (W.cell? (x1.add (i * 6)) = some (.int .i64 q.kd) ∧ W.cell? (x1.add (i * 6 + 1)) = some (.int .i64 q.at_) ∧ W.cell? (x1.add (i * 6 + 2)) = some (.slice q.a0 q.ps.length q.cp) ∧ W.cell? (x1.add (i * 6 + 3)) = some (.int .u64 q.keep) ∧ W.cell? (x1.add (i * 6 + 4)) = some (.int .i64 q.fz) ∧ W.cell? (x1.add (i * 6 + 5)) = some (.int .i64 q.again)) ∧ RdP (fun _ => False) W q.a0 q.ps ∧ q.ps.length ≤ Rows.uptoBulk x.1 ∧ (∀ p ∈ q.ps, p.data.length ≤ Rows.uptoBulk x.1 ∧ (p.ad = none → p.cap = 0)) := by
   intro i hi
   obtain ⟨v0, v1, v2, v3, v4, v5, y0, y1, y2, y3, y4, y5, e0, e1, e2, e3, e4, e5, t0, t1, t2, t3, t4, t5, hD⟩ := hall i (by omega)
   obtain ⟨q0, eq0, _, _⟩ := DataW.trod_int Tryz.underlying3 t0
   obtain ⟨q1, eq1, _, _⟩ := DataW.trod_int Tryz.underlying3 t1
   obtain ⟨q3, eq3, _, _⟩ := DataW.trod_int Tryz.underlying36 t3
   obtain ⟨q4, eq4, _, _⟩ := DataW.trod_int Tryz.underlying3 t4
   obtain ⟨q5, eq5, _, _⟩ := DataW.trod_int Tryz.underlying3 t5
   simp at eq0 eq1 eq3 eq4 eq5
   subst eq0 eq1 eq3 eq4 eq5
   obtain ⟨aa, cc, ps, rfl, hR, hn, hpd, _⟩ := open_puts t2
   have hb := hsum.2 i hi
   rw [hD] at hb
   simp only [Rows.uptoBulk, Rows.uptoBulkAll] at hb
   exact ⟨⟨q0, q1, aa, cc, ps, q3, q4, q5⟩, ⟨e0, e1, e2, e3, e4, e5⟩, hR, by show ps.length ≤ _; omega, fun p hp => ⟨by have := (hpd p hp).1; omega, (hpd p hp).2⟩⟩
  have : Inhabited Ac := ⟨⟨0, 0, none, 0, [], 0, 0, 0⟩⟩
  obtain ⟨q, hq⟩ := choose_lt each
  have hlen : ((List.range len).map q).length = len := by simp
  refine ⟨some x1, m, (List.range len).map q, by rw [hlen], ?_, by rw [hlen]; exact hsum.1, fun p hp => ?_⟩
  ·by_cases h0 : len = 0
   ·subst h0; exact .inl rfl
   ·obtain ⟨b, off, rfl⟩ := spot_none (by have := (hq 0 (by omega)).1.1; simpa using this)
    refine .inr ⟨b, off, rfl, ?_, fun i d hi => ?_⟩
    ·have := (hq 0 (by omega)).1.1
     rw [add_plain] at this
     exact World.block_lt_of_cell? W ⟨b, off, none⟩ (by simpa using this)
    ·have hil : i < len := by have := (List.getElem?_eq_some_iff.1 hi).1; simpa using this
     have hd : d = q i := by
      rw [List.getElem?_map, List.getElem?_range hil] at hi
      simpa using hi.symm
     subst hd
     have hh := (hq i hil).1
     simp only [add_plain, ← Nat.add_assoc] at hh
     exact hh
  ·obtain ⟨i, hi, rfl⟩ := List.mem_map.1 hp
   exact (hq i (List.mem_range.1 hi)).2
end Go.Proofs.YtldlejpacgphmabGreat
