/-
  Arguments, opened: bytes.
-/
import Derived.Test.YteaebdonnicbkaaLeaf
import Derived.ProofKit
import Derived.OpenShut
import Derived.SizedLaws
import Derived.Test.YteaebdonnicbkaaUnp
import Derived.Deep.SlicePairs
import Derived.Test.YteaebdonnicbkaaUkV
import Derived.Test.YteaebdonnicbkaaUkW
import Derived.JoinedCond
import Derived.ChangeOld
import Derived.Below
namespace Go.Proofs.Yteaebdonnicbkaa
open Go.ChangeShapes Go.WideShapes Go.ChangeAt Go.RowKit

theorem bulk_lits {H : Type} (k : IntKind) (zs : List Int) : Rows.uptoBulkAll (H := H) (lits k zs) = zs.length := by
  induction zs with
  | nil => rfl
  | cons z r ih =>
    have e : lits (H := H) k (z :: r) = .lit (.int k z) :: lits k r := rfl
    rw [e, Rows.uptoBulkAll, ih]
    simp [Rows.uptoBulk]
    omega
theorem rd_of_open {W : World} {x : Addr} {len cap : Nat} {zs : List Int} (hl : len ≤ cap) (hz : zs.length = cap) (hcell : ∀ i, i < zs.length → W.cell? (x.add i) = some (.int .u8 (zs.getD i 0))) (hwz : ∀ n ∈ zs, (Lit.int .u8 n).wf = true) :
    Rd W.heap.size W (some x) len (zs.take len) := by
  refine ⟨by simp; omega, fun z hzm => ?_, ?_⟩
  · have := bounds_u8 (hwz z (List.mem_of_mem_take hzm))
    omega
  · by_cases h0 : len = 0
    · exact .inl h0
    · obtain ⟨b, off, spot⟩ := x
      have hc := hcell 0 (by omega)
      have hspot : spot = none := by simpa [Addr.add] using World.cell?_spot hc
      subst hspot
      have hadd : ∀ t, (⟨b, off, none⟩ : Addr).add t = ⟨b, off + t, none⟩ := fun t => by unfold Addr.add; split <;> simp_all
      refine .inr ⟨b, off, rfl, World.block_lt_of_cell? W ⟨b, off, none⟩ (by rw [hadd] at hc; exact hc), fun t ht => ?_⟩
      rw [← hadd, hcell t (by omega), List.getD_eq_getElem?_getD, List.getD_eq_getElem?_getD, List.getElem?_take_of_lt ht]

/-- BYTES THAT CAME IN -/
theorem open_b {H : Type} {enc : TypeId × Value → H} {W : World} {a : Option Addr} {len cap : Nat} {d : DataW H} {p : List MemPlace} (h : DataW.Trod enc Try.prog W 0 (fun _ => true) true 22 (.slice a len cap) d p) :
    ∃ zs, (a = none → cap = 0) ∧ len ≤ cap ∧ Rd W.heap.size W a len zs ∧ ((d = .nil ∧ cap = 0) ∨ ∃ all : List Int, d = .slice (lits .u8 (all.take len)) (lits .u8 (all.drop len)) ∧ all.length = cap) := by
  obtain ⟨fuel, hf⟩ := h
  rcases open_ints Try.underlying22 Try.underlying5 (by kernel_rfl) hf with ⟨hcs, hx⟩ | ⟨x, l, c, zs, hcs, hp, hl, hm, hz, hx, hcell, hwz⟩
  · simp [Value.cells] at hcs
    obtain ⟨rfl, rfl, rfl⟩ := hcs
    simp only [Prod.mk.injEq] at hx
    exact ⟨[], fun _ => rfl, Nat.le_refl _, ⟨rfl, Pl.isB_nil, .inl rfl⟩, .inl ⟨hx.1, rfl⟩⟩
  · simp [Value.cells] at hcs
    obtain ⟨rfl, rfl, rfl⟩ := hcs
    simp only [Prod.mk.injEq] at hx
    have hz' : zs.length = cap := by simpa using hz
    exact ⟨zs.take len, fun h => (by cases h), hl, rd_of_open hl hz' hcell hwz, .inr ⟨zs, hx.1, hz'⟩⟩

theorem bytes5 : Try.prog.bytesOf 5 = 1 := by kernel_rfl

end Go.Proofs.Yteaebdonnicbkaa

/-
  Arguments, opened: numbers, fields; what the bound gives.
-/
namespace Go.Proofs.Yteaebdonnicbkaa
open Go.ChangeShapes Go.WideShapes Go.ChangeAt Go.RowKit Go.Deep

theorem bulk_one {H : Type} (d : DataW H) : 1 ≤ Rows.uptoBulk d := by
  cases d with
  | lit l => cases l <;> simp [Rows.uptoBulk]
  | nil => simp [Rows.uptoBulk]
  | ptr d => simp [Rows.uptoBulk]
  | slice elems spare => simp [Rows.uptoBulk]
  | agg parts => simp [Rows.uptoBulk]
  | iface t d => simp [Rows.uptoBulk]
  | map entries => simp [Rows.uptoBulk]
  | held h => simp [Rows.uptoBulk]
theorem bulk_len {H : Type} (l : List (DataW H)) : l.length ≤ Rows.uptoBulkAll l := by
  induction l with
  | nil => simp [Rows.uptoBulkAll]
  | cons x r ih => have := bulk_one x; simp only [Rows.uptoBulkAll, List.length_cons]; omega
theorem bulk_mem {H : Type} {d : DataW H} {l : List (DataW H)} (h : d ∈ l) : Rows.uptoBulk d ≤ Rows.uptoBulkAll l := by
  induction l with
  | nil => cases h
  | cons x r ih =>
    simp only [Rows.uptoBulkAll]
    cases List.mem_cons.1 h with
    | inl e => subst e; omega
    | inr e => have := ih e; omega
theorem bulk_slice {H : Type} (elems spare : List (DataW H)) : elems.length ≤ Rows.uptoBulk (.slice elems spare) := by
  have h1 := bulk_len elems
  simp only [Rows.uptoBulk]
  omega
set_option maxRecDepth 100000 in
theorem bulk_bound {H : Type} {l : List (DataW H)} (hk : Rows.uptoSmall H l = true) : Rows.uptoBulkAll l ≤ 1048576 := of_decide_eq_true hk

theorem spot_none {W : World} {x : Addr} {v : Value} (h : W.cell? (x.add 0) = some v) : ∃ b off, x = ⟨b, off, none⟩ := by
  obtain ⟨b, off, spot⟩ := x
  have hspot : spot = none := by simpa [Addr.add] using World.cell?_spot h
  subst hspot
  exact ⟨b, off, rfl⟩
theorem add_plain (b off t : Nat) : (⟨b, off, none⟩ : Addr).add t = ⟨b, off + t, none⟩ := by unfold Addr.add; split <;> simp_all

/-- NUMBERS THAT CAME IN -/
theorem open_i {H : Type} {enc : TypeId × Value → H} {W : World} {a : Option Addr} {len cap : Nat} {d : DataW H} {p : List MemPlace} (h : DataW.Trod enc Try.prog W 0 (fun _ => true) true 36 (.slice a len cap) d p) :
    ∃ ws, (a = none → cap = 0) ∧ len ≤ cap ∧ RdI W.heap.size W a len ws ∧ (∀ n ∈ ws, -9223372036854775808 ≤ n ∧ n ≤ 9223372036854775807) ∧ len ≤ Rows.uptoBulk d := by
  obtain ⟨fuel, hf⟩ := h
  rcases open_ints Try.underlying36 Try.underlying3 (by kernel_rfl) hf with ⟨hcs, hx⟩ | ⟨x, l, c, zs, hcs, hp, hl, hm, hz, hx, hcell, hwz⟩
  · simp [Value.cells] at hcs
    obtain ⟨rfl, rfl, rfl⟩ := hcs
    exact ⟨[], fun _ => rfl, Nat.le_refl _, ⟨rfl, .inl rfl⟩, (by intro n h; cases h), by omega⟩
  · simp [Value.cells] at hcs
    obtain ⟨rfl, rfl, rfl⟩ := hcs
    simp only [Prod.mk.injEq] at hx
    have hz' : zs.length = cap := by simpa using hz
    refine ⟨zs.take len, fun h => (by cases h), hl, ⟨by simp; omega, ?_⟩, fun n hn => bounds_i64 (hwz n (List.mem_of_mem_take hn)), ?_⟩
    · by_cases h0 : len = 0
      · exact .inl h0
      · obtain ⟨b, off, rfl⟩ := spot_none (hcell 0 (by omega))
        refine .inr ⟨b, off, rfl, World.block_lt_of_cell? W ⟨b, off, none⟩ (by have := hcell 0 (by omega); rw [add_plain] at this; exact this), fun t ht => ?_⟩
        rw [← add_plain, hcell t (by omega), List.getD_eq_getElem?_getD, List.getD_eq_getElem?_getD, List.getElem?_take_of_lt ht]
    · rw [hx.1]
      have := bulk_slice (H := H) (lits .i64 (zs.take len)) (lits .i64 (zs.drop len))
      simp only [lits, List.length_map, List.length_take] at this
      simp only [lits]
      omega

/-- FIELDS THAT CAME IN -/
theorem open_f {H : Type} {enc : TypeId × Value → H} {W : World} {a : Option Addr} {len cap : Nat} {d : DataW H} {p : List MemPlace} (h : DataW.Trod enc Try.prog W 0 (fun _ => true) true 35 (.slice a len cap) d p) :
    ∃ fs, (a = none → cap = 0) ∧ len ≤ cap ∧ RdF W.heap.size W a len fs ∧ (∀ f ∈ fs, -9223372036854775808 ≤ f.1 ∧ f.1 ≤ 9223372036854775807) ∧ len ≤ Rows.uptoBulk d := by
  obtain ⟨fuel, hf⟩ := h
  rcases open_slice_pairs Try.underlying35 Try.underlying38 (by kernel_rfl) rfl rfl (by kernel_rfl) (by kernel_rfl) hf with ⟨hcs, hx⟩ | ⟨x, l, c, m, n, V0, V1, D0, D1, P0, P1, hcs, hp, hl, hm, hmm, hx, hall⟩
  · simp [Value.cells] at hcs
    obtain ⟨rfl, rfl, rfl⟩ := hcs
    exact ⟨[], fun _ => rfl, Nat.le_refl _, ⟨rfl, (by intro f h; cases h), .inl rfl⟩, (by intro n h; cases h), by omega⟩
  · simp [Value.cells] at hcs
    obtain ⟨rfl, rfl, rfl⟩ := hcs
    simp only [Prod.mk.injEq] at hx
    have hm' : m = cap := by simpa using hmm
    subst hm'
    have hV : ∀ i, i < m → (∃ q, V0 i = .int .i64 q ∧ (Lit.int .i64 q).wf = true) ∧ ∃ q, V1 i = .int .i64 q ∧ (Lit.int .i64 q).wf = true := by
      intro i hi
      obtain ⟨_, _, t0, t1⟩ := hall i hi
      obtain ⟨q0, e0, _, w0⟩ := DataW.trod_int Try.underlying3 t0
      obtain ⟨q1, e1, _, w1⟩ := DataW.trod_int Try.underlying3 t1
      simp at e0 e1
      exact ⟨⟨q0, e0, w0⟩, ⟨q1, e1, w1⟩⟩
    refine ⟨(List.range len).map fun i => (intOf (V0 i), intOf (V1 i)), fun h => (by cases h), hl, ⟨by simp, ?_, ?_⟩, ?_, ?_⟩
    · intro f hf
      simp only [List.mem_map, List.mem_range] at hf
      obtain ⟨i, hi, rfl⟩ := hf
      obtain ⟨_, q, e, hw⟩ := hV i (by omega)
      rw [e]
      exact bounds_i64 hw
    · by_cases h0 : len = 0
      · exact .inl h0
      · obtain ⟨b, off, rfl⟩ := spot_none (by have := (hall 0 (by omega)).1; simpa using this)
        refine .inr ⟨b, off, rfl, World.block_lt_of_cell? W ⟨b, off, none⟩ (by have := (hall 0 (by omega)).1; rw [add_plain] at this; simpa using this), fun t ht => ?_⟩
        obtain ⟨c0, c1, _, _⟩ := hall t (by omega)
        obtain ⟨⟨q0, e0, _⟩, ⟨q1, e1, _⟩⟩ := hV t (by omega)
        rw [add_plain] at c0 c1
        rw [show off + t * 2 + 1 = off + (t * 2 + 1) by omega, c0, c1]
        simp [ht, e0, e1, intOf]
    · intro f hf
      simp only [List.mem_map, List.mem_range] at hf
      obtain ⟨i, hi, rfl⟩ := hf
      obtain ⟨⟨q, e, hw⟩, _⟩ := hV i (by omega)
      rw [e]
      exact bounds_i64 hw
    · rw [hx.1]
      have := bulk_slice (H := H) ((List.range len).map fun i => .agg [D0 i, D1 i]) ((List.range (m - len)).map fun j => .agg [D0 (len + j), D1 (len + j)])
      simp only [List.length_map, List.length_range] at this
      exact this
theorem open_b_bulk {H : Type} {d : DataW H} {len cap : Nat} (hl : len ≤ cap) (hd : (d = .nil ∧ cap = 0) ∨ ∃ all : List Int, d = .slice (lits .u8 (all.take len)) (lits .u8 (all.drop len)) ∧ all.length = cap) : len ≤ Rows.uptoBulk d := by
  rcases hd with ⟨_, h⟩ | ⟨all, rfl, h⟩
  · omega
  · have := bulk_slice (H := H) (lits .u8 (all.take len)) (lits .u8 (all.drop len))
    simp only [lits, List.length_map, List.length_take] at this
    simp only [lits]
    omega

end Go.Proofs.Yteaebdonnicbkaa

/-
  Arguments, opened: readings of FieldUnpacks.
-/
namespace Go.Proofs.Yteaebdonnicbkaa
open Go.ChangeShapes Go.WideShapes Go.ChangeAt Go.RowKit Go.Deep

/-- bytes that came in, by their cell -/
theorem open_bc6 {H : Type} {enc : TypeId × Value → H} {W : World} {v : Value} {fuel : Nat} {x : DataW H × List MemPlace} (hf : DataW.trod enc Try.prog W 0 (fun _ => true) true fuel 22 [v] = some x) :
    ∃ a n c zs, v = .slice a n c ∧ (a = none → c = 0) ∧ n ≤ c ∧ Rd W.heap.size W a n zs ∧ n ≤ Rows.uptoBulk x.1 := by
  rcases open_ints Try.underlying22 Try.underlying5 (by kernel_rfl) hf with ⟨hcs, hx⟩ | ⟨x', l, c, zs, hcs, hp, hl, hm, hz, hx, hcell, hwz⟩
  · simp at hcs
    subst hcs
    exact ⟨none, 0, 0, [], rfl, fun _ => rfl, Nat.le_refl _, ⟨rfl, Pl.isB_nil, .inl rfl⟩, by omega⟩
  · simp at hcs
    subst hcs
    have hz' : zs.length = c := by simpa using hz
    refine ⟨some x', l, c, zs.take l, rfl, fun h => (by cases h), hl, rd_of_open hl hz' hcell hwz, ?_⟩
    rw [hx]
    have := bulk_slice (H := H) (lits .u8 (zs.take l)) (lits .u8 (zs.drop l))
    simp only [lits, List.length_map, List.length_take] at this
    simp only [lits]
    omega
/-- numbers that came in, by their cell -/
theorem open_ic6 {H : Type} {enc : TypeId × Value → H} {W : World} {v : Value} {fuel : Nat} {x : DataW H × List MemPlace} (hf : DataW.trod enc Try.prog W 0 (fun _ => true) true fuel 36 [v] = some x) :
    ∃ a n c ws, v = .slice a n c ∧ (a = none → c = 0) ∧ RdI W.heap.size W a n ws ∧ n ≤ Rows.uptoBulk x.1 := by
  rcases open_ints Try.underlying36 Try.underlying3 (by kernel_rfl) hf with ⟨hcs, hx⟩ | ⟨x', l, c, zs, hcs, hp, hl, hm, hz, hx, hcell, hwz⟩
  · simp at hcs
    subst hcs
    exact ⟨none, 0, 0, [], rfl, fun _ => rfl, ⟨rfl, .inl rfl⟩, by omega⟩
  · simp at hcs
    subst hcs
    have hz' : zs.length = c := by simpa using hz
    refine ⟨some x', l, c, zs.take l, rfl, fun h => (by cases h), ⟨by simp; omega, ?_⟩, ?_⟩
    · by_cases h0 : l = 0
      · exact .inl h0
      · obtain ⟨b, off, rfl⟩ := spot_none (hcell 0 (by omega))
        refine .inr ⟨b, off, rfl, World.block_lt_of_cell? W ⟨b, off, none⟩ (by have := hcell 0 (by omega); rw [add_plain] at this; exact this), fun t ht => ?_⟩
        rw [← add_plain, hcell t (by omega), List.getD_eq_getElem?_getD, List.getD_eq_getElem?_getD, List.getElem?_take_of_lt ht]
    · rw [hx]
      have := bulk_slice (H := H) (lits .i64 (zs.take l)) (lits .i64 (zs.drop l))
      simp only [lits, List.length_map, List.length_take] at this
      simp only [lits]
      omega

/-- a slice of structs of two fields of one cell each -/
theorem open_duo {H : Type} {enc : TypeId × Value → H} {P : Program} {w : World} {base : Nat} {spare : Nat → Bool} {held : Bool} {t e : TypeId} {f0 f1 : Field} {fuel : Nat} {cs : List Value} {x : DataW H × List MemPlace}
    (ht : P.underlying t = some (.slice e)) (he : P.underlying e = some (.struct #[f0, f1])) (ce : P.cellsOf e = 2) (o0 : f0.offset = 0) (o1 : f1.offset = 1) (c0 : P.cellsOf f0.type = 1) (c1 : P.cellsOf f1.type = 1)
    (h : DataW.trod enc P w base spare held fuel t cs = some x) :
    (cs = [.slice none 0 0] ∧ x = (.nil, [])) ∨
    ∃ (a : Addr) (len cap m n : Nat) (D : Nat → DataW H), cs = [.slice (some a) len cap] ∧ len ≤ cap ∧ m = (if spare a.block then cap else len) ∧ x.1 = .slice ((List.range len).map D) ((List.range (m - len)).map fun j => D (len + j)) ∧
      ∀ i, i < m → ∃ (v0 v1 : Value) (y0 y1 : DataW H × List MemPlace), w.cell? (a.add (i * 2)) = some v0 ∧ w.cell? (a.add (i * 2 + 1)) = some v1 ∧
        DataW.trod enc P w base spare held (n - 1) f0.type [v0] = some y0 ∧ DataW.trod enc P w base spare held (n - 1) f1.type [v1] = some y1 ∧ D i = .agg [y0.1, y1.1] := by
  rcases open_slice ht h with h0 | ⟨a, len, cap, m, n, D, Pl, rfl, hb, hl, hm, hmm, rfl, hx⟩
  · exact Or.inl h0
  refine .inr ⟨a, len, cap, m, n, D, rfl, hl, hmm, rfl, ?_⟩
  intro i hi
  obtain ⟨cs', h1, h2⟩ := hx i hi
  rw [ce] at h1
  obtain ⟨_, hlen, hcell⟩ := World.cells?_some h1
  obtain ⟨xs, k, hk, hxy, _, hxl, hf⟩ := DataW.trod_struct he h2
  have hk' : k = n - 1 := by omega
  subst hk'
  match xs, hxl, cs', hlen with
  | [y0, y1], _, [v0, v1], _ =>
    have g0 := hf 0 f0 rfl
    have g1 := hf 1 f1 rfl
    simp [o0, o1, c0, c1] at g0 g1
    have e0 := hcell 0 (by omega)
    have e1 := hcell 1 (by omega)
    rw [add_add] at e0 e1
    simp only [Prod.mk.injEq] at hxy
    exact ⟨v0, v1, y0, y1, by simpa using e0, by simpa using e1, g0, g1, by simpa using hxy.1⟩

theorem open_rd {H : Type} {enc : TypeId × Value → H} {W : World} {a : Option Addr} {len cap : Nat} {d : DataW H} {p : List MemPlace} (h : DataW.Trod enc Try.prog W 0 (fun _ => true) true 63 (.slice a len cap) d p) (hbk : Rows.uptoBulk d ≤ 1048576) :
    len ≤ 1048576 ∧ (len = 0 ∨ ∃ b off A N C Z A2 N2 C2 Ws, a = some ⟨b, off, none⟩ ∧ Rea W.heap.size W b off len A N C Z A2 N2 C2 Ws) := by
  obtain ⟨fuel, hf⟩ := h
  rcases open_duo Try.underlying63 Try.underlying72 (by kernel_rfl) rfl rfl (by kernel_rfl) (by kernel_rfl) hf with ⟨hcs, hx⟩ | ⟨x, l, c, m, n, D, hcs, hl, hmm, hx, hall⟩
  · simp [Value.cells] at hcs
    obtain ⟨rfl, rfl, rfl⟩ := hcs
    exact ⟨by omega, .inl rfl⟩
  · simp [Value.cells] at hcs
    obtain ⟨rfl, rfl, rfl⟩ := hcs
    have hm' : m = cap := by simpa using hmm
    subst hm'
    have each : ∀ i, i < len → ∃ q : ((Option Addr × Nat × Nat) × List Int) × (Option Addr × Nat × Nat) × List Int, W.cell? (x.add (i * 2)) = some (.slice q.1.1.1 q.1.1.2.1 q.1.1.2.2) ∧ W.cell? (x.add (i * 2 + 1)) = some (.slice q.2.1.1 q.2.1.2.1 q.2.1.2.2) ∧
        (q.1.1.1 = none → q.1.1.2.2 = 0) ∧ q.1.1.2.1 ≤ q.1.1.2.2 ∧ (q.2.1.1 = none → q.2.1.2.2 = 0) ∧ Rd W.heap.size W q.1.1.1 q.1.1.2.1 q.1.2 ∧ RdI W.heap.size W q.2.1.1 q.2.1.2.1 q.2.2 ∧ q.1.1.2.1 ≤ Rows.uptoBulk (D i) ∧ q.2.1.2.1 ≤ Rows.uptoBulk (D i) := by
      intro i hi
      obtain ⟨v0, v1, y0, y1, e0, e1, t0, t1, hD⟩ := hall i (by omega)
      obtain ⟨aa, nn, cc, zs, rfl, hnil, hcap, hR, hn⟩ := open_bc6 t0
      obtain ⟨a2, n2, c2, ws, rfl, hnil2, hR2, hn2⟩ := open_ic6 t1
      refine ⟨(((aa, nn, cc), zs), (a2, n2, c2), ws), e0, e1, hnil, hcap, hnil2, hR, hR2, ?_, ?_⟩
      · rw [hD]
        simp only [Rows.uptoBulk, Rows.uptoBulkAll]
        show nn ≤ _
        omega
      · rw [hD]
        simp only [Rows.uptoBulk, Rows.uptoBulkAll]
        show n2 ≤ _
        omega
    obtain ⟨q, hq⟩ := choose_lt each
    have hsum : len ≤ Rows.uptoBulk d ∧ ∀ i, i < len → Rows.uptoBulk (D i) ≤ Rows.uptoBulk d := by
      rw [show d = .slice ((List.range len).map D) ((List.range (m - len)).map fun j => D (len + j)) from hx]
      have h1 := bulk_slice (H := H) ((List.range len).map D) ((List.range (m - len)).map fun j => D (len + j))
      simp only [List.length_map, List.length_range] at h1
      refine ⟨h1, fun i hi => ?_⟩
      simp only [Rows.uptoBulk]
      have := bulk_mem (d := D i) (l := (List.range len).map D) (List.mem_map.2 ⟨i, List.mem_range.2 hi, rfl⟩)
      omega
    refine ⟨by omega, ?_⟩
    by_cases h0 : len = 0
    · exact .inl h0
    · obtain ⟨b, off, rfl⟩ := spot_none (by have := (hq 0 (by omega)).1; simpa using this)
      refine .inr ⟨b, off, fun i => (q i).1.1.1, fun i => (q i).1.1.2.1, fun i => (q i).1.1.2.2, fun i => (q i).1.2, fun i => (q i).2.1.1, fun i => (q i).2.1.2.1, fun i => (q i).2.1.2.2, fun i => (q i).2.2, rfl, ?_, ?_, ?_, ?_, ?_, ?_, ?_, ?_, ?_, ?_⟩
      · have := (hq 0 (by omega)).1
        rw [add_plain] at this
        exact World.block_lt_of_cell? W ⟨b, off, none⟩ (by simpa using this)
      · intro i hi; have := (hq i hi).1; rw [add_plain] at this; exact this
      · intro i hi; have := (hq i hi).2.1; rw [add_plain] at this; exact this
      · intro i hi; exact (hq i hi).2.2.1
      · intro i hi; exact (hq i hi).2.2.2.1
      · intro i hi; exact (hq i hi).2.2.2.2.1
      · intro i hi; have h1 := (hq i hi).2.2.2.2.2.2.2.1; have h2 := hsum.2 i hi; show (q i).1.1.2.1 ≤ _; omega
      · intro i hi; have h1 := (hq i hi).2.2.2.2.2.2.2.2; have h2 := hsum.2 i hi; show (q i).2.1.2.1 ≤ _; omega
      · intro i hi; exact (hq i hi).2.2.2.2.2.1
      · intro i hi; exact (hq i hi).2.2.2.2.2.2.1

end Go.Proofs.Yteaebdonnicbkaa

/-
  FieldUnpacks: the statement.
-/
namespace Go.Proofs.Yteaebdonnicbkaa.fieldUnpacks
open Go.ChangeShapes Go.WideShapes Go.ChangeAt Go.RowKit

theorem own : ownKnob Try.prog.godebug = none := by kernel_rfl
theorem laidOut : laidOutB Try.prog = true := by kernel_rfl

set_option maxRecDepth 100000 in
theorem contract (H : Type) (enc : TypeId × Value → H) (W : World) (base : Nat) (args : Array Value) (ds gs : List (DataW H)) (before : List MemPlace)
    (hval : ∀ (j : Nat) t v, Try.f7.params[j]? = some t → args[j]? = some v → Value.okWide Try.prog W .any base t v)
    (hW : DataW.Whole enc Try.prog Try.f7.params.toList Rows.fieldUnpacksSpec.vars false W args.toList ds gs before) (hk : Rows.uptoSmall H (ds ++ gs) = true) :
    Calls Try.prog 7 args W fun e W' => ∃ v, e = .returned v ∧ Rows.fieldUnpacksSpec.post enc Try.prog Try.f7 false true false false W args v W' := by
  have hW' := hW
  obtain ⟨p, q, hA0, hV, rfl, hfz, hnd⟩ := hW
  have hA : DataW.TrodAll enc Try.prog W 0 (fun _ => true) true Try.f7.params.toList args.toList ds p := hA0
  rw [Try.params7] at hA hval
  obtain ⟨v0, vs0, d0, ds0, p0, q0, hargs, rfl, rfl, h0, r0⟩ := trodAll_cons hA
  obtain ⟨rfl, rfl, rfl⟩ := trodAll_nil r0
  obtain rfl : args = #[v0] := by cases args; simp_all
  obtain ⟨rfl, rfl⟩ := trodVars_none hV
  obtain ⟨a0, len0, cap0, rfl⟩ := okWide_slice Try.underlying63 (hval 0 63 v0 rfl rfl)
  have lt0 : ∀ x ∈ p0, x.block < W.heap.size := by obtain ⟨m, hm⟩ := h0; exact DataW.trod_lt m _ _ _ hm
  simp only [List.append_nil] at hk
  have hb := bulk_bound hk
  have m0 := bulk_mem (d := d0) (l := [d0]) (by simp)
  obtain ⟨hm, hc⟩ := open_rd h0 (by omega)
  clear hA0
  refine (unpacks_walk a0 len0 cap0 W hm hc).mono fun e W' ⟨he, bel⟩ => ?_
  subst he
  exact ⟨_, rfl, _, _, _, [], _, [], hW', trodAll_mk1 (shut_bool Try.underlying4 _),
    (trodAll_cons_mk (Below.trod laidOut (by kernel_rfl) (of_decide_eq_true (by kernel_rfl)) h0 bel lt0) trodAll_mk0), rfl, bel.frame _, fun h => by cases h⟩

set_option maxRecDepth 100000 in
theorem lifted (os : Os) (started : os.Started) (H : Type) (enc : TypeId × Value → H) (F : Stop.Interp) :
    ReturnsInHanded {} Try.checked os 7 .any ((Rows.OpenSpec.upto Rows.fieldUnpacksSpec).pre6 enc Try.prog Try.f7 Rows.fieldUnpacksUptoRow.domain false) (((Rows.OpenSpec.upto Rows.fieldUnpacksSpec).at F).post enc Try.prog Try.f7 false true false false) := by
  refine returnsInHanded_of_cond (C := Try.checked) (s := Rows.OpenSpec.upto Rows.fieldUnpacksSpec) (k := Rows.uptoSmall) rfl own started (by kernel_rfl) Try.func7
    (OpenSpec.witness (enc := enc) (C := Try.checked) (s := Rows.OpenSpec.upto Rows.fieldUnpacksSpec) (k := Rows.uptoSmall) rfl false ⟨#[], #[.slice none 0 0], []⟩ 8 (by kernel_rfl) (by kernel_rfl) (by kernel_rfl)
      (x := ([.nil], [], [])) (by kernel_rfl) rfl (by kernel_rfl)) ?_
  intro W base args ds gs before hval hW _ hk _
  exact contract H enc W base args ds gs before hval hW hk

theorem proved : Rows.FieldUnpacksUptoSaid :=
  OpenClaim.holds_of_cond 7 Try.f7 rfl rfl rfl rfl rfl rfl rfl ⟨rfl, rfl, rfl, rfl, rfl⟩ rfl rfl rfl rfl rfl (by kernel_rfl) Try.func7 (by kernel_rfl)
    (of_decide_eq_true (by kernel_rfl)) (by unfold Func.isWrapper; first | (rw [if_pos (by decide +kernel)]; kernel_rfl) | (rw [if_neg (by decide +kernel)]; exact ⟨rfl, rfl⟩))
    (fun os started H enc _ F => lifted os started H enc F)
end Go.Proofs.Yteaebdonnicbkaa.fieldUnpacks
