/-
  The document's answer: Parse, by its contract: all rounds.
-/
import Derived.Test.YtahaehjmnafhbaaPs2
import Derived.Test.YtahaehjmnafhbaaLk1
namespace Go.Proofs.Ytahaehjmnafhbaa
open Go.RowKit

structure Car (w : World) (B kk r0 sb : Nat) (h : Hd) (q : Nat) (rv : Value) (vals : List Value) (W : World) : Prop where
  S : Snb W sb (strOfNums h.name) (strOfNums h.since) h.size h.sum rv
  row : W.ownsRow kk 51 4 rv q vals
  zb : W.heap[r0]? = some (.cells #[.string ⟨#[]⟩, .int .i64 0, .string ⟨#[]⟩, .int .i64 0, .slice none 0 0] 47 (0, 0))
  bl : Below B w W
theorem Car.but {X : Nat → Prop} {w : World} {B kk r0 sb : Nat} {h : Hd} {q : Nat} {rv : Value} {vals : List Value} {W W' : World} (c : Car w B kk r0 sb h q rv vals W) (hb : But X W W') (hBk : B ≤ kk) (hkW : kk < W.heap.size) (hX : ∀ x, X x → kk ≤ x ∧ x ≠ sb ∧ x ≠ r0 ∧ rv.ownBlock ≠ some x) : Car w B kk r0 sb h q rv vals W' :=
  ⟨c.S.keep (hb.block sb c.S.lt (fun z => (hX sb z).2.1 rfl)), row_keep c.row (fun g hg => hb.block g (row_lt c.row hg).2 (fun z => (hX g z).2.2.2 hg)), by
    rw [hb.block r0 (Array.getElem?_eq_some_iff.1 c.zb).1 (fun z => (hX r0 z).2.2.1 rfl)]; exact c.zb, c.bl.trans (hb.below (by omega) (fun x hx z => by have := (hX x z).1; omega))⟩

set_option maxRecDepth 100000 in
set_option maxHeartbeats 4000000 in
theorem loop_any {w : World} {B kk r0 sb : Nat} {h : Hd} {cn : Nat} {s0 : St} (PO : Ending → World → Prop) (hs0 : s0.1.length ≤ 16777216) (o1 : B ≤ w.heap.size) (o2 : B ≤ r0) (o3 : r0 < kk) (o4 : kk < sb) (b1 : Pl.isB h.name) (b2 : Pl.isB h.since) (l1 : h.name.length ≤ 16777216) (l2 : h.since.length ≤ 16777216) (hcn : cn < 4294967296)
    (FAIL : ∀ l s, runsR cn s0 = (l, s) → (s.2 = true ∨ s.1 ≠ [] ∨ mayB h l = false) → ∀ u, Below B w u → PO (.returned (.tuple #[.agg #[.string ⟨#[]⟩, .int .i64 0, .string ⟨#[]⟩, .int .i64 0, .slice none 0 0], .int .i64 150])) u)
    (GOOD : ∀ l s, runsR cn s0 = (l, s) → s.2 = false → s.1 = [] → mayB h l = true → ∀ u ra rc, Below B w u → RRd u ra l → PO (.returned (.tuple #[.agg #[.string (strOfNums h.name), .int .i64 h.size, .string (strOfNums h.since), .int .i64 h.sum, .slice ra l.length rc], .int .i64 0])) u) :
    LoopC (Lir w B kk r0 sb h cn s0) (strOfNums h.name) (strOfNums h.since) h.size h.sum cn r0 kk sb PO := by
  unfold LoopC
  intro q wt hL
  obtain ⟨⟨l, s, rv, vals, hl, hqc, hT, hsl, hS, hrow, hV, hne, hrun⟩, hz, hbl⟩ := hL
  have hkb : wt.cell? ⟨kk, 1, none⟩ = some (.bool s.2) := by obtain ⟨_, z, _⟩ := hT; exact z.c1
  have hB : Pl.isB s.1 := by obtain ⟨_, _, z⟩ := hT; exact z.1
  have hkl := hT.lt
  have car : Car w B kk r0 sb h q rv vals wt := ⟨hS, hrow, hz, hbl⟩
  have hBk : B ≤ kk := by omega
  refine ⟨s.2, hkb, fun hq hb => ?_, fun hend => ?_⟩
  · have eA : rA tp s = nbG tp s 1 := rfl
    have eB : rB tp s = nbG tp (rA tp s).2 4 := rfl
    have eC : rC tp s = nbG tp (rB tp s).2 4 := rfl
    have bA := nbT_bd (m := 1) hB (by decide)
    rw [← eA] at bA
    have bB := nbT_bd (m := 4) bA.2.2.2 (by decide)
    rw [← eB] at bB
    have bC := nbT_bd (m := 4) bB.2.2.2 (by decide)
    rw [← eC] at bC
    have hXk : ∀ x, x = kk → kk ≤ x ∧ x ≠ sb ∧ x ≠ r0 ∧ rv.ownBlock ≠ some x := fun x hx => ⟨by omega, by omega, by omega, fun z => (hne x z).1 hx⟩
    have hstep : runsR cn s0 = ((l ++ [(oneR s).1]) ++ (runsR (cn - (q + 1)) (oneR s).2).1, (runsR (cn - (q + 1)) (oneR s).2).2) := by
      rw [hrun, show cn - q = (cn - (q + 1)) + 1 by omega]
      simp only [runsR, hb]
      simp
    refine Calls.mono (tnumber_any 1 (by decide) (by decide) (by omega) hT) ?_
    rintro e w1 ⟨rfl, T1, v1⟩
    rw [← eA] at T1
    have car1 := car.but v1 hBk hkl hXk
    have z1 := v1.size
    obtain ⟨w2, hw2⟩ : ∃ w2, w2 = w1.alloc (.cells #[.int .i64 (rA tp s).1, .int .i64 0, .int .i64 0, .slice none 0 0] 51) := ⟨_, rfl⟩
    have v2 : Below w1.heap.size w1 w2 := by rw [hw2]; exact (Below.refl _ _).alloc (Nat.le_refl _) _
    have z2 : w2.heap.size = w1.heap.size + 1 := by rw [hw2]; simp
    have car2 := car1.but (But.of_below (X := fun _ => False) v2) hBk (by omega) (fun _ z => z.elim)
    have T2 : TkS 63 w2 kk (rA tp s).2 := T1.but (But.of_below (X := fun _ => False) v2) (fun _ _ z => z)
    have R2 : Rnb w2 w1.heap.size (rA tp s).1 0 0 (.slice none 0 0) := by unfold Rnb; rw [hw2]; exact Array.getElem?_push_size
    refine ⟨(rA tp s).1, rfl, w2, w1.heap.size, hw2, rfl, Calls.mono (tnumber_any 4 (by decide) (by decide) (by omega) T2) ?_⟩
    rintro e w3 ⟨rfl, T3, v3⟩
    rw [← eB] at T3
    have car3 := car2.but v3 hBk (by omega) hXk
    have z3 := v3.size
    have R3 : Rnb w3 w1.heap.size (rA tp s).1 0 0 (.slice none 0 0) := R2.keep (v3.block _ R2.lt (by omega))
    have hown : ∀ x, rv.ownBlock = some x → x < wt.heap.size := fun x hx => (row_lt hrow hx).2
    have hXr : ∀ x, x = w1.heap.size → kk ≤ x ∧ x ≠ sb ∧ x ≠ r0 ∧ rv.ownBlock ≠ some x := fun x hx => ⟨by omega, by have := hS.lt; omega, by omega, fun z => by have := hown x z; omega⟩
    have s3 : But (fun x => x = w1.heap.size) w3 (w3.setCell ⟨w1.heap.size, 1, none⟩ (.int .i64 (rB tp s).1)) := (But.refl (fun x => x = w1.heap.size) w3).setCell (p := ⟨w1.heap.size, 1, none⟩) rfl _
    have car3' := car3.but s3 hBk (by omega) hXr
    have T3' : TkS 63 (w3.setCell ⟨w1.heap.size, 1, none⟩ (.int .i64 (rB tp s).1)) kk (rB tp s).2 := T3.but s3 (fun x hx => by omega)
    refine ⟨(rB tp s).1, rfl, R3.cells.2.1, R3.fz 1, Calls.mono (tnumber_any 4 (by decide) (by decide) (by omega) T3') ?_⟩
    rintro e w4 ⟨rfl, T4, v4⟩
    rw [← eC] at T4
    have z4' := v4.size
    have z3s := s3.size
    have car4 := car3'.but v4 hBk (by omega) hXk
    have R4 : Rnb w4 w1.heap.size (rA tp s).1 (rB tp s).1 0 (.slice none 0 0) := (R3.s1 _).keep (v4.block _ (R3.s1 _).lt (by omega))
    obtain ⟨w5, hw5⟩ : ∃ w5, w5 = w4.setCell ⟨w1.heap.size, 2, none⟩ (.int .i64 (rC tp s).1) := ⟨_, rfl⟩
    have s5 : But (fun x => x = w1.heap.size) w4 w5 := by rw [hw5]; exact (But.refl (fun x => x = w1.heap.size) w4).setCell (p := ⟨w1.heap.size, 2, none⟩) rfl _
    have z5 := s5.size
    have car5 := car4.but s5 hBk (by omega) hXr
    have T5 : TkS 63 w5 kk (rC tp s).2 := T4.but s5 (fun x hx => by omega)
    have R5 : Rnb w5 w1.heap.size (rA tp s).1 (rB tp s).1 (rC tp s).1 (.slice none 0 0) := by rw [hw5]; exact R4.s2 _
    refine ⟨(rC tp s).1, rfl, bB.1, bC.2.1, R4.cells.2.2.1, R4.fz 2, w5, hw5, R5.cells.1, R5.cells.2.1, R5.cells.2.2.1, fun k1 ft => ?_, fun hn => ?_⟩
    · have e1 : oneR s = (((rA tp s).1, (rB tp s).1, (rC tp s).1), (tp (rC tp s).2 (512 * ((rC tp s).1 - (rB tp s).1))).2) := by unfold oneR; rw [if_pos ⟨k1, ft⟩]
      rw [e1] at hstep
      refine Calls.mono (take_any (512 * ((rC tp s).1 - (rB tp s).1)) (by omega) (by omega) (by omega) T5) ?_
      rintro e w6 ⟨v, rfl, hv, T6, v6, z6⟩
      obtain ⟨a6, c6, rfl, _, _⟩ := hv.rd
      have car6 := car5.but v6 hBk (by omega) hXk
      have R6 : Rnb w6 w1.heap.size (rA tp s).1 (rB tp s).1 (rC tp s).1 (.slice none 0 0) := R5.keep (v6.block _ R5.lt (by omega))
      have s7 : But (fun x => x = w1.heap.size) w6 (w6.setCell ⟨w1.heap.size, 3, none⟩ (.slice a6 (tp (rC tp s).2 (512 * ((rC tp s).1 - (rB tp s).1))).1.length c6)) := (But.refl (fun x => x = w1.heap.size) w6).setCell (p := ⟨w1.heap.size, 3, none⟩) rfl _
      have car7 := car6.but s7 hBk (by omega) hXr
      have T7 := T6.but s7 (fun x hx => by omega)
      have hl6 := (tp_len (s := (rC tp s).2) (m := 512 * ((rC tp s).1 - (rB tp s).1))).2
      exact ⟨a6, _, c6, rfl, ⟨_, R6.cells.2.2.2⟩, R6.fz 3, _, rfl, Lir.app hl hq T7 (by omega) (R6.s3 _) car7.S car7.row hV hne car7.zb car7.bl o1 o2 o3 o4 hstep⟩
    · have e1 : oneR s = (((rA tp s).1, (rB tp s).1, (rC tp s).1), (rC tp s).2) := by unfold oneR; rw [if_neg hn]
      rw [e1] at hstep
      exact Lir.app hl hq T5 (by omega) R5 car5.S car5.row hV hne car5.zb car5.bl o1 o2 o3 o4 hstep
  · have hfin : runsR cn s0 = (l, s) := by
      rw [hrun]
      rcases hend with z | z
      · rw [z, Nat.sub_self]; simp [runsR]
      · cases hc : cn - q with
        | zero => simp [runsR]
        | succ n => simp [runsR, z]
    have hlen := runsR_len cn s0
    rw [hfin] at hlen
    obtain ⟨ra, rc, rfl⟩ := row_slice hrow
    have hR : RRd wt ra l := row_rrd (B := kk) (by rw [hl]; exact hrow) hV
    obtain ⟨v, hTk, hRd⟩ := hT
    obtain ⟨a9, c9, rfl, _, _⟩ := hRd.rd
    have S5 : ∀ u A B' C D E, Below B w u → Below B w (set5 u r0 A B' C D E) := fun u A B' C D E hu => hu.trans ((set5_but u r0 A B' C D E).below (Nat.le_trans o1 (by have := hu.size; omega)) (fun x hx => by omega))
    refine ⟨a9, s.1.length, c9, ra, rc, hTk.c0, hS.cells, hz, fun hbad => FAIL l s hfin ?_ _ (S5 _ _ _ _ _ _ hbl), fun g1 g2 => ?_⟩
    · rcases hbad with z | z
      · exact .inl z
      · exact .inr (.inl (fun e => by rw [e] at z; simp at z))
    · have hm := may_any (w := wt) h rc b1 b2 l1 l2 (by have : l.length ≤ cn := hlen; omega) hR
      rw [hl] at hm
      refine Calls.mono hm ?_
      rintro e u1 ⟨rfl, bu⟩
      have hBu : Below B w u1 := hbl.trans (bu.mono (by have := hbl.size; omega))
      have hzu := (bu.block r0 (Array.getElem?_eq_some_iff.1 hz).1).trans hz
      refine ⟨mayB h l, rfl, hzu, fun z => FAIL l s hfin (.inr (.inr z)) _ (S5 _ _ _ _ _ _ hBu), fun z => ⟨(hS.keep (bu.block sb hS.lt)).cells, ?_⟩⟩
      have hrow5 : ∀ A B' C D E, (set5 u1 r0 A B' C D E).ownsRow kk 51 4 (.slice ra q rc) q vals := fun A B' C D E => row_keep hrow (fun g hg => by
        have hgl := (row_lt hrow hg).2
        rw [(set5_but u1 r0 A B' C D E).block g (by have := bu.size; omega) (hne g hg).2.2, bu.block g hgl])
      have := GOOD l s hfin g1 (List.length_eq_zero_iff.1 g2) z (set5 u1 r0 (.string (strOfNums h.name)) (.int .i64 h.size) (.string (strOfNums h.since)) (.int .i64 h.sum) (.slice ra q rc)) ra rc (S5 _ _ _ _ _ _ hBu) (row_rrd (B := kk) (by rw [hl]; exact hrow5 _ _ _ _ _) hV)
      rw [hl] at this
      exact this

end Go.Proofs.Ytahaehjmnafhbaa
