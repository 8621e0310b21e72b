import Derived.Test.YtoifmiloaefanaaDoorZUl0
import Derived.Test.YtoifmiloaefanaaDoorZOpn
import Derived.SizedLaws
import Derived.SliceStrings
import Derived.Deep.Slices
/-
  A list of tokens, as an argument: opened.
-/
namespace Go.Proofs.YtoifmiloaefanaaDoor
open Go.RowKit Go.ChangeShapes Go.WideShapes Go.ChangeAt Go.Deep

theorem bulk_one {H : Type} (d : DataW H) : 1 ≤ Rows.uptoBulk d := by
  cases d with
  | lit l => cases l <;> simp [Rows.uptoBulk]
  | _ => simp [Rows.uptoBulk]
theorem spot_none {W : World} {x : Addr} {v : Value} (h : W.cell? (x.add 0) = some v) : ∃ b off, x = ⟨b, off, none⟩ := by
  obtain ⟨b, off, spot⟩ := x
  have hspot : spot = none := by simpa [Addr.add] using World.cell?_spot h
  subst hspot
  exact ⟨b, off, rfl⟩
theorem add_plain (b off t : Nat) : (⟨b, off, none⟩ : Addr).add t = ⟨b, off + t, none⟩ := by unfold Addr.add; split <;> simp_all
theorem add_add (x : Addr) (i j : Nat) : (x.add i).add j = x.add (i + j) := by
  obtain ⟨b, off, spot⟩ := x
  by_cases hi : i = 0 <;> by_cases hj : j = 0 <;> cases spot <;> simp [Addr.add, hi, hj] <;> omega
theorem co3 : Tryd.prog.cellsOf 3 = 1 := by kernel_rfl
theorem co9 : Tryd.prog.cellsOf 9 = 1 := by kernel_rfl
theorem co29 : Tryd.prog.cellsOf 29 = 4 := by kernel_rfl
theorem four {α : Type} {l : List α} (h : l.length = 4) : ∃ a b c d, l = [a, b, c, d] := by
  match l, h with
  | [a, b, c, d], _ => exact ⟨a, b, c, d, rfl⟩
def numL (s : ByteArray) : List Int := s.data.toList.map fun b => (b.toNat : Int)
theorem numL_str (s : ByteArray) : strOfNums (numL s) = s := by
  apply ByteArray.ext
  simp [strOfNums, numL]
  have e : ((fun n : Int => UInt8.ofNat n.toNat) ∘ fun b : UInt8 => (b.toNat : Int)) = id := by funext b; simp
  rw [e, List.map_id]
theorem numL_isB (s : ByteArray) : Pl.isB (numL s) := fun z hz => by
  unfold numL at hz
  obtain ⟨b, _, rfl⟩ := List.mem_map.1 hz
  have := b.toNat_lt
  omega
theorem numL_len (s : ByteArray) : (numL s).length = s.size := by
  unfold numL
  rw [List.length_map, Array.length_toList]
  rfl
set_option maxRecDepth 100000 in
/-- one token -/
theorem open_tok {H : Type} {enc : TypeId × Value → H} {W : World} {fuel : Nat} {x : Addr} {i : Nat} {cs : List Value} {y : DataW H × List MemPlace} (hc : W.cells? 0 (x.add (i * 4)) 4 = some cs) (h : DataW.trod enc Tryd.prog W 0 (fun _ => true) true fuel 29 cs = some y) (hb : Rows.uptoBulk y.1 ≤ 1048576) :
    ∃ t : Tk, TkH t ∧ 4 + t.tx.length ≤ Rows.uptoBulk y.1 ∧
      W.cell? (x.add (i * 4)) = some (.int .i64 t.k) ∧ W.cell? (x.add (i * 4 + 1)) = some (.string (strOfNums t.tx)) ∧ W.cell? (x.add (i * 4 + 2)) = some (.int .i64 t.n) ∧ W.cell? (x.add (i * 4 + 3)) = some (.int .i64 t.a) := by
  obtain ⟨_, hlen, hcell⟩ := World.cells?_some hc
  obtain ⟨xs, k, hk, rfl, hl, hxl, hf⟩ := DataW.trod_struct Tryd.underlying29 h
  obtain ⟨y0, y1, y2, y3, rfl⟩ := four (l := xs) hxl
  obtain ⟨v0, v1, v2, v3, rfl⟩ := four (l := cs) hlen
  have g0 := hf 0 _ rfl
  have g1 := hf 1 _ rfl
  have g2 := hf 2 _ rfl
  have g3 := hf 3 _ rfl
  simp [co3, co9] at g0 g1 g2 g3
  obtain ⟨q0, e0, rfl, w0⟩ := DataW.trod_int Tryd.underlying3 g0
  obtain ⟨q1, e1, rfl, w1⟩ := DataW.trod_string Tryd.underlying9 g1
  obtain ⟨q2, e2, rfl, w2⟩ := DataW.trod_int Tryd.underlying3 g2
  obtain ⟨q3, e3, rfl, w3⟩ := DataW.trod_int Tryd.underlying3 g3
  simp at e0 e1 e2 e3
  subst e0 e1 e2 e3
  have s1 : q1.data.toList.length = q1.size := by rw [Array.length_toList]; rfl
  have hbig : 4 + q1.size ≤ Rows.uptoBulk (DataW.agg ([((.lit (.int .i64 q0), []) : DataW H × List MemPlace), (.lit (.string q1.data.toList), []), (.lit (.int .i64 q2), []), (.lit (.int .i64 q3), [])].map (·.1))) := by
    simp only [List.map_cons, List.map_nil, Rows.uptoBulk, Rows.uptoBulkAll]
    omega
  have b2 := bounds_i64 w2
  have k0 := hcell 0 (by omega)
  have k1 := hcell 1 (by omega)
  have k2 := hcell 2 (by omega)
  have k3 := hcell 3 (by omega)
  rw [add_add] at k0 k1 k2 k3
  have hb' := Nat.le_trans hbig hb
  have hnl := numL_len q1
  refine ⟨⟨q0, numL q1, q2, q3⟩, ⟨numL_isB q1, by show (numL q1).length ≤ _; omega, b2.1, b2.2⟩, by show 4 + (numL q1).length ≤ _; rw [hnl]; exact hbig, by simpa using k0, by show _ = some (Value.string (strOfNums (numL q1))); rw [numL_str]; simpa using k1, by simpa using k2, by simpa using k3⟩

theorem bulk_mem {H : Type} {d : DataW H} {l : List (DataW H)} (h : d ∈ l) : Rows.uptoBulk d ≤ Rows.uptoBulkAll l := by
  induction l with
  | nil => cases h
  | cons x r ih =>
    simp only [Rows.uptoBulkAll]
    rcases List.mem_cons.1 h with rfl | h
    · omega
    · have := ih h; omega
/-- how much tokens weigh at most -/
def tkb : List Tk → Nat
  | [] => 0
  | t :: r => 4 + t.tx.length + tkb r
theorem tkb_len : ∀ (ts : List Tk), 4 * ts.length ≤ tkb ts
  | [] => Nat.le_refl _
  | t :: r => by
    have := tkb_len r
    simp only [List.length_cons, tkb]
    omega
theorem tkb_map {H : Type} (D : Nat → DataW H) (q : Nat → Tk) : ∀ (l : List Nat), (∀ i ∈ l, 4 + (q i).tx.length ≤ Rows.uptoBulk (D i)) → tkb (l.map q) ≤ Rows.uptoBulkAll (l.map D)
  | [], _ => Nat.le_refl _
  | i :: l, h => by
    have ih := tkb_map D q l (fun j hj => h j (by simp [hj]))
    have := h i (by simp)
    simp only [List.map_cons, tkb, Rows.uptoBulkAll]
    omega
/-- tokens -/
theorem open_toks {H : Type} {enc : TypeId × Value → H} {W : World} {a : Option Addr} {len cap : Nat} {d : DataW H} {p : List MemPlace} (h : DataW.Trod enc Tryd.prog W 0 (fun _ => true) true 23 (.slice a len cap) d p) (hbk : Rows.uptoBulk d ≤ 1048576) :
    ∃ ts : List Tk, ts.length = len ∧ TkO W a cap ts ∧ (∀ t ∈ ts, TkH t) ∧ tkb ts ≤ Rows.uptoBulk d := by
  obtain ⟨fuel, hf⟩ := h
  rcases open_slice Tryd.underlying23 hf with ⟨hcs, hx⟩ | ⟨x, l, c, m, n, D, Pl, hcs, hb, hl, hm, hmm, hx, hall⟩
  · simp [Value.cells] at hcs
    obtain ⟨rfl, rfl, rfl⟩ := hcs
    exact ⟨[], rfl, .inl (.inl ⟨rfl, rfl, rfl⟩), by simp, Nat.zero_le _⟩
  · simp [Value.cells] at hcs
    obtain ⟨rfl, rfl, rfl⟩ := hcs
    have hm' : m = cap := by simpa using hmm
    subst hm'
    simp only [Prod.mk.injEq] at hx
    obtain ⟨rfl, _⟩ := hx
    have hbk' : Rows.uptoBulkAll ((List.range len).map D) ≤ 1048576 := by simp only [Rows.uptoBulk] at hbk; omega
    have each : ∀ i, i < len → ∃ t : Tk, TkH t ∧ 4 + t.tx.length ≤ Rows.uptoBulk (D i) ∧ W.cell? (x.add (i * 4)) = some (.int .i64 t.k) ∧ W.cell? (x.add (i * 4 + 1)) = some (.string (strOfNums t.tx)) ∧ W.cell? (x.add (i * 4 + 2)) = some (.int .i64 t.n) ∧ W.cell? (x.add (i * 4 + 3)) = some (.int .i64 t.a) := by
      intro i hi
      obtain ⟨cs', e1, e2⟩ := hall i (by omega)
      rw [co29] at e1
      have hDi : Rows.uptoBulk (D i) ≤ 1048576 := Nat.le_trans (bulk_mem (List.mem_map.2 ⟨i, List.mem_range.2 hi, rfl⟩)) hbk'
      exact open_tok e1 e2 hDi
    have : Inhabited Tk := ⟨tkZ⟩
    obtain ⟨q, hq⟩ := choose_lt each
    refine ⟨(List.range len).map q, by simp, ?_, fun t ht => ?_, ?_⟩
    · by_cases h0 : len = 0
      · subst h0
        exact .inl (.inr ⟨x, rfl, rfl⟩)
      · obtain ⟨b, off, rfl⟩ := spot_none (by obtain ⟨_, _, e, _⟩ := hq 0 (by omega); simpa using e)
        refine .inr ⟨b, off, rfl, fun _ => ?_, fun j v hv => ?_⟩
        · obtain ⟨_, _, e, _⟩ := hq 0 (by omega)
          rw [add_plain] at e
          exact World.block_lt_of_cell? W ⟨b, off, none⟩ (by simpa using e)
        · have hj := (List.getElem?_eq_some_iff.1 hv).1
          rw [flatT_len] at hj
          simp only [List.length_map, List.length_range] at hj
          obtain ⟨_, _, e0, e1, e2, e3⟩ := hq (j / 4) (by omega)
          rw [add_plain] at e0 e1 e2 e3
          have h1 := flatT_at ((List.range len).map q) (j / 4) (by simp; omega) (j % 4) (by omega)
          rw [show j / 4 * 4 + j % 4 = j by omega, hv] at h1
          simp only [List.getElem_map, List.getElem_range] at h1
          rcases (show j % 4 = 0 ∨ j % 4 = 1 ∨ j % 4 = 2 ∨ j % 4 = 3 by omega) with h | h | h | h
          all_goals
            rw [h] at h1
            simp [cellsT] at h1
            subst h1
          · rw [show j / 4 * 4 = j by omega] at e0; exact e0
          · rw [show j / 4 * 4 + 1 = j by omega] at e1; exact e1
          · rw [show j / 4 * 4 + 2 = j by omega] at e2; exact e2
          · rw [show j / 4 * 4 + 3 = j by omega] at e3; exact e3
    · obtain ⟨i, hi, rfl⟩ := List.mem_map.1 ht
      exact (hq i (List.mem_range.1 hi)).1
    · have := tkb_map D q (List.range len) (fun i hi => (hq i (List.mem_range.1 hi)).2.1)
      simp only [Rows.uptoBulk]
      omega

end Go.Proofs.YtoifmiloaefanaaDoor
