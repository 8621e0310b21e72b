/-
  Edges as an argument: opened.
-/
import Derived.Test.YtajnokkmpjdliaaLa0
import Derived.ProofKit
import Derived.OpenShut
import Derived.SizedLaws
import Derived.SliceStrings
import Derived.Deep.Slices
import Derived.JoinedCond
import Derived.ChangeOld
import Derived.Below
namespace Go.Proofs.Ytajnokkmpjdliaa
open Go.RowKit Go.ChangeShapes Go.WideShapes Go.ChangeAt Go.Deep

theorem own : ownKnob Try.prog.godebug = none := by kernel_rfl
theorem laidOut : laidOutB Try.prog = true := by kernel_rfl
theorem bulk_one {H : Type} (d : DataW H) : 1 ≤ Rows.uptoBulk d := by
  cases d with
  | lit l => cases l <;> simp [Rows.uptoBulk]
  | _ => simp [Rows.uptoBulk]
theorem bulk_mem {H : Type} {d : DataW H} {l : List (DataW H)} (h : d ∈ l) : Rows.uptoBulk d ≤ Rows.uptoBulkAll l := by
  induction l with
  | nil => cases h
  | cons x r ih =>
    simp only [Rows.uptoBulkAll]
    rcases List.mem_cons.1 h with rfl | h
    · omega
    · have := ih h; omega
theorem bulk_cnt {H : Type} : ∀ (l : List (DataW H)), l.length ≤ Rows.uptoBulkAll l
  | [] => Nat.zero_le _
  | d :: l => by
    have h1 := bulk_one d
    have h2 := bulk_cnt l
    simp only [Rows.uptoBulkAll, List.length_cons]
    omega
theorem spot_none {W : World} {x : Addr} {v : Value} (h : W.cell? (x.add 0) = some v) : ∃ b off, x = ⟨b, off, none⟩ := by
  obtain ⟨b, off, spot⟩ := x
  have hspot : spot = none := by simpa [Addr.add] using World.cell?_spot h
  subst hspot
  exact ⟨b, off, rfl⟩
theorem add_plain (b off t : Nat) : (⟨b, off, none⟩ : Addr).add t = ⟨b, off + t, none⟩ := by unfold Addr.add; split <;> simp_all
theorem co3 : Try.prog.cellsOf 3 = 1 := by kernel_rfl
theorem co28 : Try.prog.cellsOf 28 = 2 := by kernel_rfl
theorem two {α : Type} {l : List α} (h : l.length = 2) : ∃ a b, l = [a, b] := by
  match l, h with
  | [a, b], _ => exact ⟨a, b, rfl⟩
set_option maxRecDepth 100000 in
/-- one edge -/
theorem open_ed {H : Type} {enc : TypeId × Value → H} {W : World} {fuel : Nat} {x : Addr} {i : Nat} {cs : List Value} {y : DataW H × List MemPlace} (hc : W.cells? 0 (x.add (i * 2)) 2 = some cs) (h : DataW.trod enc Try.prog W 0 (fun _ => true) true fuel 28 cs = some y) :
    ∃ r : Int × Int, W.cell? (x.add (i * 2)) = some (.int .i64 r.1) ∧ W.cell? (x.add (i * 2 + 1)) = some (.int .i64 r.2) := by
  obtain ⟨_, hlen, hcell⟩ := World.cells?_some hc
  obtain ⟨xs, k, hk, rfl, hl, hxl, hf⟩ := DataW.trod_struct Try.underlying28 h
  obtain ⟨y0, y1, rfl⟩ := two (l := xs) hxl
  obtain ⟨v0, v1, rfl⟩ := two (l := cs) hlen
  have g0 := hf 0 _ rfl
  have g1 := hf 1 _ rfl
  simp [co3] at g0 g1
  obtain ⟨q0, e0, rfl, w0⟩ := DataW.trod_int Try.underlying3 g0
  obtain ⟨q1, e1, rfl, w1⟩ := DataW.trod_int Try.underlying3 g1
  simp at e0 e1
  subst e0 e1
  have k0 := hcell 0 (by omega)
  have k1 := hcell 1 (by omega)
  rw [add_add] at k0 k1
  exact ⟨⟨q0, q1⟩, by simpa using k0, by simpa using k1⟩
/-- edges -/
theorem open_edges {H : Type} {enc : TypeId × Value → H} {W : World} {fuel : Nat} {cs : List Value} {y : DataW H × List MemPlace} (h : DataW.trod enc Try.prog W 0 (fun _ => true) true fuel 22 cs = some y) :
    ∃ a m c Z, cs = [.slice a m c] ∧ (a = none → c = 0) ∧ RdZ W a m Z ∧ m + 1 ≤ Rows.uptoBulk y.1 := by
  rcases open_slice Try.underlying22 h with ⟨hcs, hx⟩ | ⟨x, l, c, m, n, D, Pl, hcs, hb, hl, hm, hmm, hx, hall⟩
  · exact ⟨none, 0, 0, [], hcs, fun _ => rfl, ⟨rfl, fun i hi => by omega⟩, bulk_one _⟩
  · have hm' : m = c := by simpa using hmm
    subst hm'
    have each : ∀ i, i < l → ∃ r : Int × Int, W.cell? (x.add (i * 2)) = some (.int .i64 r.1) ∧ W.cell? (x.add (i * 2 + 1)) = some (.int .i64 r.2) := by
      intro i hi
      obtain ⟨cs', e1, e2⟩ := hall i (by omega)
      rw [co28] at e1
      exact open_ed e1 e2
    have : Inhabited (Int × Int) := ⟨⟨0, 0⟩⟩
    obtain ⟨q, hq⟩ := choose_lt each
    refine ⟨some x, l, m, (List.range l).map q, hcs, (fun h => by cases h), ⟨by simp, fun j hj => ?_⟩, ?_⟩
    · obtain ⟨b, off, rfl⟩ := spot_none (by simpa using (hq 0 (by omega)).1)
      refine ⟨b, off, rfl, ?_⟩
      have e := hq j hj
      rw [add_plain, add_plain] at e
      have hz : zg ((List.range l).map q) j = q j := by simp [zg, List.getD_eq_getElem?_getD, hj]
      rw [hz]
      exact e
    · rw [hx]
      simp only [Rows.uptoBulk]
      have := bulk_cnt ((List.range l).map D)
      simp at this
      simp
      omega
theorem bound {H : Type} {l : List (DataW H)} (hk : Rows.uptoSmall H l = true) : Rows.uptoBulkAll l ≤ 1048576 := of_decide_eq_true hk
end Go.Proofs.Ytajnokkmpjdliaa
