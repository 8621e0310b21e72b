/-
  stream: a run that is taken, by its contract.
-/
import Derived.Test.YtahaehjmnafhbaaSr1
namespace Go.Proofs.Ytahaehjmnafhbaa
open Go.RowKit

/-- an edge's block -/
def Edg (w : World) (ed : Nat) (k t : Int) : Prop := w.heap[ed]? = some (.cells #[.int .i64 k, .int .i64 t] 76 (0, 0))
theorem Edg.lt {w : World} {ed : Nat} {k t : Int} (h : Edg w ed k t) : ed < w.heap.size := (Array.getElem?_eq_some_iff.1 h).1
theorem Edg.c0 {w : World} {ed : Nat} {k t : Int} (h : Edg w ed k t) : w.cell? ⟨ed, 0, none⟩ = some (.int .i64 k) := by unfold Edg at h; simp [World.cell?, h]
theorem Edg.c1 {w : World} {ed : Nat} {k t : Int} (h : Edg w ed k t) : w.cell? ⟨ed, 1, none⟩ = some (.int .i64 t) := by unfold Edg at h; simp [World.cell?, h]
theorem Edg.fz {w : World} {ed : Nat} {k t : Int} (h : Edg w ed k t) (i : Nat) : w.frozen? ⟨ed, i, none⟩ = false := by unfold Edg at h; simp [World.frozen?, h]
theorem Edg.but {X : Nat → Prop} {w w' : World} {ed : Nat} {k t : Int} (h : Edg w ed k t) (hb : But X w w') (hX : ¬ X ed) : Edg w' ed k t := by
  have hl := h.lt
  unfold Edg at *
  rw [hb.block ed hl hX]
  exact h
theorem Edg.set {w : World} {ed : Nat} {k t : Int} (h : Edg w ed k t) (a b : Int) : Edg ((w.setCell ⟨ed, 0, none⟩ (.int .i64 a)).setCell ⟨ed, 1, none⟩ (.int .i64 b)) ed a b := by
  unfold Edg at *
  simp only [World.setCell, Array.getElem?_modify]
  rw [h]
  simp
/-- a run as a value -/
def RunV (rv : Value) (r : Rn) : Prop := (r.1 = 1 ∧ ∃ a n c, rv = .iface 98 (.agg #[.int .i64 r.2.1, .int .i64 r.2.2, .iface 94 (.slice a n c)])) ∨ (r.1 = 2 ∧ rv = .iface 100 (.agg #[.int .i64 r.2.1, .int .i64 r.2.2]))
def RunP (sz : Int) (inc : Bool) (k t : Int) (s : St) (kk ed : Nat) (w : World) (e : Ending) (w' : World) : Prop :=
  But (fun x => x = kk ∨ x = ed) w w' ∧ ((oneP sz inc k t s = none ∧ ∃ rv, e = .returned (.tuple #[rv, .bool false])) ∨ ∃ r s' rv, oneP sz inc k t s = some (r, s') ∧ e = .returned (.tuple #[rv, .bool true]) ∧ RunV rv r ∧ TkS 73 w' kk s' ∧ Edg w' ed r.1 r.2.2)

theorem no1_of {sz k t : Int} {s : St} (h : (rC pt s).2.2 = true ∨ ahead k t (rA pt s).1 (rB pt s).1 = false ∨ (rC pt s).1 ≤ (rB pt s).1 ∨ sz < (rC pt s).1) : no1 sz k t s = true := by
  unfold no1
  rcases h with h | h | h | h <;> simp [h]
theorem no1_not {sz k t : Int} {s : St} (h1 : (rC pt s).2.2 = false) (h2 : ahead k t (rA pt s).1 (rB pt s).1 = true) (h3 : (rB pt s).1 < (rC pt s).1) (h4 : (rC pt s).1 ≤ sz) : no1 sz k t s = false := by
  unfold no1
  rw [h1, h2]
  simp
  omega

set_option maxRecDepth 100000 in
set_option maxHeartbeats 2000000 in
theorem run_any {w : World} {kk ed : Nat} {s : St} (h : Hd) (a : Option Addr) (n c : Nat) (k t : Int) (hs : s.1.length ≤ 16777216) (hT : TkS 73 w kk s) (hE : Edg w ed k t) (hlt : kk < ed) :
    Calls Try.prog 29 #[.pointer (some ⟨kk, 0, none⟩), cnt h (.slice a n c), .pointer (some ⟨ed, 0, none⟩)] w (RunP h.size (!decide (h.since = [])) k t s kk ed w) := by
  have hB : Pl.isB s.1 := by obtain ⟨_, _, q⟩ := hT; exact q.1
  have eA : rA pt s = nbG pt s 1 := rfl
  have eB : rB pt s = nbG pt (rA pt s).2 4 := rfl
  have eC : rC pt s = nbG pt (rB pt s).2 4 := rfl
  have bA := nbG_bd (m := 1) hB (by decide)
  rw [← eA] at bA
  have bB := nbG_bd (m := 4) bA.2.2.2 (by decide)
  rw [← eB] at bB
  have bC := nbG_bd (m := 4) bB.2.2.2 (by decide)
  rw [← eC] at bC
  have hedl := hE.lt
  refine run_walk n c a k t (rA pt s).1 (rB pt s).1 (rC pt s).1 (strOfNums h.name) (strOfNums h.since) h.size h.sum (rC pt s).2.2 (ahead k t (rA pt s).1 (rB pt s).1) (decide (h.since = [])) kk ed w _ bB.1 bC.2.1 (str_nil h.since) ?_
  obtain ⟨w0, hw0⟩ : ∃ w0, w0 = w.alloc (.cells #[.string (strOfNums h.name), .int .i64 h.size, .string (strOfNums h.since), .int .u32 h.sum, .slice a n c] 39) := ⟨_, rfl⟩
  have b0 : Below w.heap.size w w0 := by rw [hw0]; exact (Below.refl _ _).alloc (Nat.le_refl _) _
  have z0 : w0.heap.size = w.heap.size + 1 := by rw [hw0]; simp
  have T0 : TkS 73 w0 kk s := hT.but (But.of_below (X := fun _ => False) b0) (fun _ _ q => q)
  have E0 : Edg w0 ed k t := hE.but (But.of_below (X := fun _ => False) b0) (fun q => q)
  have g1 := cell_al hw0 1 _ rfl
  have g2 := cell_al hw0 2 _ rfl
  refine ⟨w0, hw0, Calls.mono (number_any 1 (.inl rfl) hs T0) ?_⟩
  rintro e w1 ⟨rfl, T1, b1⟩
  rw [← eA] at T1
  refine ⟨rfl, Calls.mono (number_any 4 (.inr rfl) (by omega) T1) ?_⟩
  rintro e w2 ⟨rfl, T2, b2⟩
  rw [← eB] at T2
  refine ⟨rfl, Calls.mono (number_any 4 (.inr rfl) (by omega) T2) ?_⟩
  rintro e w3 ⟨rfl, T3, b3⟩
  rw [← eC] at T3
  obtain ⟨w4, hw4⟩ : ∃ w4, w4 = w3.alloc (.cells #[.int .i64 (rB pt s).1, .int .i64 (rC pt s).1] 92) := ⟨_, rfl⟩
  have b4 : Below w3.heap.size w3 w4 := by rw [hw4]; exact (Below.refl _ _).alloc (Nat.le_refl _) _
  have z4 : w4.heap.size = w3.heap.size + 1 := by rw [hw4]; simp
  have b03 : But (fun x => x = kk) w0 w3 := (b1.trans b2).trans b3
  have b04 : But (fun x => x = kk) w0 w4 := b03.trans (But.of_below b4)
  have bw4 : But (fun x => x = kk ∨ x = ed) w w4 := ((But.of_below b0 (X := fun x => x = kk ∨ x = ed))).trans (b04.mono (fun x _ q => .inl q))
  have s03 := b03.size
  have T4 : TkS 73 w4 kk (rC pt s).2 := T3.but (But.of_below (X := fun _ => False) b4) (fun _ _ q => q)
  have E4 : Edg w4 ed k t := E0.but b04 (by omega)
  have r0 := cell_al hw4 0 _ rfl
  have r1 := cell_al hw4 1 _ rfl
  have c1 : w4.cell? ⟨w.heap.size, 1, none⟩ = some (.int .i64 h.size) := (b04.cell (p := ⟨w.heap.size, 1, none⟩) (by show w.heap.size < w0.heap.size; omega) (by have := hT.lt; show ¬ w.heap.size = kk; omega)).trans g1
  have c2 : w4.cell? ⟨w.heap.size, 2, none⟩ = some (.string (strOfNums h.since)) := (b04.cell (p := ⟨w.heap.size, 2, none⟩) (by show w.heap.size < w0.heap.size; omega) (by have := hT.lt; show ¬ w.heap.size = kk; omega)).trans g2
  have hk1 : ∀ {u : World} {q : St}, TkS 73 u kk q → u.cell? ⟨kk, 1, none⟩ = some (.bool q.2) := fun ⟨_, q, _⟩ => q.c1
  have FINno : no1 h.size k t s = true → ∀ u, But (fun x => x = kk ∨ x = ed) w u → RunP h.size (!decide (h.since = [])) k t s kk ed w (.returned (.tuple #[.nilIface, .bool false])) u := by
    intro q u hu
    exact ⟨hu, .inl ⟨by unfold oneP; rw [if_pos q], _, rfl⟩⟩
  refine ⟨rfl, w4, w3.heap.size, w.heap.size, hw4, rfl, rfl, ⟨hk1 T4, E4.c0, E4.c1, r0, r1, c1, c2⟩, fun q => FINno (no1_of (.inl q)) _ bw4.drew, fun q => ?_⟩
  have T4d : TkS 73 w4.drew kk (rC pt s).2 := T4
  have E4d : Edg w4.drew ed k t := E4
  refine Calls.mono (ahead_any k t (rA pt s).1 (rB pt s).1 (rC pt s).1 w4.drew) ?_
  rintro e w5 ⟨rfl, b5⟩
  have b5' : Below w4.heap.size w4.drew w5 := b5
  have hb5 : ∀ X, But X w4.drew w5 := fun X => But.of_below b5
  have bw5 : But (fun x => x = kk ∨ x = ed) w w5 := bw4.drew.trans (hb5 _)
  have T5 : TkS 73 w5 kk (rC pt s).2 := T4d.but (hb5 (fun _ => False)) (fun _ _ q => q)
  have E5 : Edg w5 ed k t := E4d.but (hb5 (fun _ => False)) (fun q => q)
  have cc : ∀ (p : Addr) v, p.block < w4.heap.size → w4.cell? p = some v → w5.cell? p = some v := fun p v q1 q2 => (b5'.cell q1).trans q2
  have hkl := hT.lt
  have r05 := cc ⟨w3.heap.size, 0, none⟩ _ (by show w3.heap.size < _; omega) r0
  have r15 := cc ⟨w3.heap.size, 1, none⟩ _ (by show w3.heap.size < _; omega) r1
  have c15 := cc ⟨w.heap.size, 1, none⟩ _ (by show w.heap.size < _; omega) c1
  have c25 := cc ⟨w.heap.size, 2, none⟩ _ (by show w.heap.size < _; omega) c2
  refine ⟨rfl, ⟨hk1 T5, E5.c0, E5.c1, r05, r15, c15, c25⟩, E5.fz 0, E5.fz 1, fun q2 => FINno (no1_of (.inr q2)) _ bw5, fun a1 a2 a3 => ?_⟩
  have hno := no1_not q a1 a2 a3
  obtain ⟨w6, hw6⟩ : ∃ w6, w6 = (w5.setCell ⟨ed, 0, none⟩ (.int .i64 (rA pt s).1)).setCell ⟨ed, 1, none⟩ (.int .i64 (rC pt s).1) := ⟨_, rfl⟩
  have E6 : Edg w6 ed (rA pt s).1 (rC pt s).1 := by rw [hw6]; exact E5.set _ _
  have b6 : But (fun x => x = ed) w5 w6 := by rw [hw6]; exact ((But.refl (fun x => x = ed) w5).setCell (p := ⟨ed, 0, none⟩) rfl _).setCell (p := ⟨ed, 1, none⟩) rfl _
  have bw6 : But (fun x => x = kk ∨ x = ed) w w6 := bw5.trans (b6.mono (fun x _ q => .inr q))
  have T6 : TkS 73 w6 kk (rC pt s).2 := T5.but b6 (fun x hx => by omega)
  have z5 : w4.heap.size ≤ w5.heap.size := b5'.size
  have r06 := (b6.cell (p := ⟨w3.heap.size, 0, none⟩) (by show w3.heap.size < _; omega) (by show ¬ w3.heap.size = ed; omega)).trans r05
  have r16 := (b6.cell (p := ⟨w3.heap.size, 1, none⟩) (by show w3.heap.size < _; omega) (by show ¬ w3.heap.size = ed; omega)).trans r15
  have c26 := (b6.cell (p := ⟨w.heap.size, 2, none⟩) (by show w.heap.size < _; omega) (by show ¬ w.heap.size = ed; omega)).trans c25
  refine ⟨w6, hw6, fun k1 => ⟨⟨hk1 T6, r06, r16, c26⟩, ?_⟩, fun k2 => ⟨⟨hk1 T6, r06, r16, c26⟩, ?_⟩, fun k1 k2 => ?_⟩
  · refine Calls.mono (part_any (512 * ((rC pt s).1 - (rB pt s).1)) (by omega) (by omega) (by omega) T6) ?_
    rintro e w7 ⟨v, rfl, hv, T7, b7, z7⟩
    obtain ⟨a7, c7, rfl, _, _⟩ := hv.rd
    have r07 := (b7.cell (p := ⟨w3.heap.size, 0, none⟩) (by have := b6.size; show w3.heap.size < _; omega) (by show ¬ w3.heap.size = kk; omega)).trans r06
    have r17 := (b7.cell (p := ⟨w3.heap.size, 1, none⟩) (by have := b6.size; show w3.heap.size < _; omega) (by show ¬ w3.heap.size = kk; omega)).trans r16
    have c27 := (b7.cell (p := ⟨w.heap.size, 2, none⟩) (by have := b6.size; show w.heap.size < _; omega) (by show ¬ w.heap.size = kk; omega)).trans c26
    have E7 : Edg w7 ed (rA pt s).1 (rC pt s).1 := E6.but b7 (by omega)
    have bw7 : But (fun x => x = kk ∨ x = ed) w w7 := bw6.trans (b7.mono (fun x _ q => .inl q))
    have T7' : TkS 73 w7 kk (rD s).2 := T7
    refine ⟨a7, _, c7, (rD s).2.2, rfl, ⟨hk1 T7', r07, r17, c27⟩, bw7.drew, ?_⟩
    cases qd : (rD s).2.2
    · right
      refine ⟨(1, (rB pt s).1, (rC pt s).1), (rD s).2, _, ?_, rfl, .inl ⟨rfl, _, _, _, rfl⟩, T7', by rw [k1] at E7; exact E7⟩
      unfold oneP
      rw [if_neg (by rw [hno]; decide), if_pos k1, if_neg (by rw [qd]; decide)]
    · left
      refine ⟨?_, _, rfl⟩
      unfold oneP
      rw [if_neg (by rw [hno]; decide), if_pos k1, if_pos qd]
  · refine ⟨bw6.drew, ?_⟩
    cases qi : decide (h.since = [])
    · right
      refine ⟨(2, (rB pt s).1, (rC pt s).1), (rC pt s).2, _, ?_, rfl, .inr ⟨rfl, rfl⟩, T6, by rw [k2] at E6; exact E6⟩
      unfold oneP
      rw [if_neg (by rw [hno]; decide), if_neg (by omega), if_pos k2]
      rfl
    · left
      refine ⟨?_, _, rfl⟩
      unfold oneP
      rw [if_neg (by rw [hno]; decide), if_neg (by omega), if_pos k2]
      rfl
  · refine ⟨bw6, .inl ⟨?_, _, rfl⟩⟩
    unfold oneP
    rw [if_neg (by rw [hno]; decide), if_neg k1, if_neg k2]

end Go.Proofs.Ytahaehjmnafhbaa
