/-
  The desk whole: asks: Counts, Held.
-/
import Derived.Test.YtfadnmdmohabmaaDe4
namespace Go.Proofs.Ytfadnmdmohabmaa
open Go.RowKit

theorem Dsi.up {B : Nat} {τ : Nat → Nat} {w : World} {x p r nb m m' nK : Nat} {v : Vs} {i : Nat} {cI cJ xI xJ : Value} {D : Ds} {sI sJ : Option CS} (h : Dsi B τ w x p r nb m nK v i cI cJ xI xJ D sI sJ) (hm : m ≤ m') : Dsi B τ w x p r nb m' nK v i cI cJ xI xJ D sI sJ := by
  have a1 := h.hp
  have a2 := h.b1
  have a3 := h.b2
  have a4 := h.b3
  have a5 := h.l1
  have a6 := h.l2
  have a7 := h.n1
  exact ⟨h.dt, h.ps, h.rs, h.ed, h.er, h.sel, h.low, h.hB, h.okI.up hm, h.okJ.up hm, h.lI, h.lJ, by omega, by omega, by omega, by omega, by omega, by omega, h.n0, by omega⟩
theorem heldU_len (room : Nat) (us : Us) : (heldU room us).length ≤ room := by
  unfold heldU
  rw [back_take _ _ _ (by simp)]
  simp
  omega
theorem hdA_len {m nb : Nat} {s : Option CS} (h : OkC m nb s) : (hdA s).2.length ≤ 4096 := by
  cases s with
  | none => simp [hdA]
  | some s =>
    have := heldU_len s.room s.us
    have := h.2.1
    simp [hdA]
    omega
set_option maxRecDepth 100000 in
set_option maxHeartbeats 4000000 in
theorem asks_counts {B : Nat} {w : World} {x m : Nat} (h : Dsk B w x m) (wh at_ fi : Int) (ra : Value) :
    Calls Try.prog 23 #[.pointer (some ⟨x, 0, none⟩), cactV wh 5 at_ fi ra] w fun e w' => e = .returned (.bool true) ∧ Dsk B w' x (m + 1) ∧ Below B w w' := by
  unfold cactV
  obtain ⟨i, hi, ei⟩ := and1_nat wh
  obtain ⟨τ0, p, r, nb, nK, v, cI, cJ, xI, xJ, D, sI, sJ, h0⟩ := h.at hi
  have hB0 := h0.hB
  obtain ⟨W, hW⟩ : ∃ W, W = w.alloc (.cells #[.int .i64 wh, .int .i64 5, .int .i64 at_, .int .i64 fi, ra] 36) := ⟨_, rfl⟩
  have bW : Below w.heap.size w W := by rw [hW]; exact (Below.refl _ _).alloc (Nat.le_refl _) _
  have h := h0.fresh bW
  have hsW : W.heap.size = w.heap.size + 1 := by rw [hW]; simp
  have t9 : tgN τ0 w.heap.size none 9 w.heap.size = 9 := tgN_hi (Nat.le_refl _)
  generalize tgN τ0 w.heap.size none 9 = τ at *
  clear h0
  obtain ⟨cC, cX⟩ := h.cC
  have hxl := h.dt.tbl.lt
  have tx := h.dt.tx
  have HC := hid (h.ps.counts)
  have H := hid h
  have BW := hid bW
  clear h bW
  have hi2 : (i : Int) < 2 := by omega
  have cC0 := cC
  rw [hW] at cC0
  go_enter Try.func23, Try.ntmps23
  go_wp2_with fail
  simp only [← hW]
  clear hW ei cC0
  refine Calls.mono HC.out ?_
  rintro e w1 ⟨rfl, b1⟩
  have d4 := (b1.cell (p := ⟨x, 4 + i, none⟩) hxl).trans cX
  have HX := hid (H.out.rs.below b1).counts
  have B1 := hid b1
  clear b1
  clear HC cC cX
  go_wp2_with fail
  refine Calls.mono HX.out ?_
  rintro e w2 ⟨rfl, b2⟩
  have B2 := hid b2
  clear b2
  have FIN : Hid (Dsk B w2 x (m + 1) ∧ Below B w w2) := by
    show _ ∧ _
    have b := B1.out.trans (B2.out.mono B1.out.size)
    exact ⟨((H.out.fresh b).up (by omega)).dsk, (BW.out.mono hB0).trans (b.mono H.out.hB)⟩
  clear HX d4 B1 B2
  go_wp2_with fail
  refine Calls.mono (Num_any _ w2) ?_
  rintro e w2' ⟨rfl, rfl⟩
  go_wp2
  go_ret
  exact ⟨rfl, FIN.out⟩
set_option maxRecDepth 100000 in
set_option maxHeartbeats 4000000 in
theorem asks_held {B : Nat} {w : World} {x m : Nat} (h : Dsk B w x m) (hm : m ≤ 262144) (wh at_ fi : Int) (ra : Value) :
    Calls Try.prog 23 #[.pointer (some ⟨x, 0, none⟩), cactV wh 4 at_ fi ra] w fun e w' => e = .returned (.bool true) ∧ Dsk B w' x (m + 1) ∧ Below B w w' := by
  unfold cactV
  obtain ⟨i, hi, ei⟩ := and1_nat wh
  obtain ⟨τ0, p, r, nb, nK, v, cI, cJ, xI, xJ, D, sI, sJ, h0⟩ := h.at hi
  have hB0 := h0.hB
  obtain ⟨W, hW⟩ : ∃ W, W = w.alloc (.cells #[.int .i64 wh, .int .i64 4, .int .i64 at_, .int .i64 fi, ra] 36) := ⟨_, rfl⟩
  have bW : Below w.heap.size w W := by rw [hW]; exact (Below.refl _ _).alloc (Nat.le_refl _) _
  have h := h0.fresh bW
  have hsW : W.heap.size = w.heap.size + 1 := by rw [hW]; simp
  have t9 : tgN τ0 w.heap.size none 9 w.heap.size = 9 := tgN_hi (Nat.le_refl _)
  generalize tgN τ0 w.heap.size none 9 = τ at *
  clear h0
  obtain ⟨cC, cX⟩ := h.cC
  have hxl := h.dt.tbl.lt
  have tx := h.dt.tx
  have HC := hid (h.ps.held h.okI)
  have H := hid h
  have BW := hid bW
  clear h bW
  have hi2 : (i : Int) < 2 := by omega
  have cC0 := cC
  rw [hW] at cC0
  go_enter Try.func23, Try.ntmps23
  go_wp2_with fail
  simp only [← hW]
  clear hW ei cC0
  refine Calls.mono HC.out ?_
  rintro e w1 ⟨al1, rfl, hal1, b1⟩
  have d1 := (b1.cell (p := ⟨x, 1 + i, none⟩) hxl).trans cC
  have HC2 := hid ((H.out.ps.below b1).held H.out.okI)
  have B1 := hid b1
  have HA1 := hid hal1
  clear b1 hal1
  clear HC cC
  have s1 := B1.out.size
  go_wp2_with fail
  refine Calls.mono HC2.out ?_
  rintro e w2 ⟨al2, rfl, hal2, b2⟩
  have e4 := ((b2.cell (p := ⟨x, 4 + i, none⟩) (by show x < _; omega)).trans (B1.out.cell (p := ⟨x, 4 + i, none⟩) hxl)).trans cX
  have HX := hid (((H.out.rs.below B1.out).below b2).held (by omega) H.out.okI)
  have B2 := hid b2
  have HA2 := hid hal2
  clear b2 hal2
  clear HC2 d1 cX
  have s2 := B2.out.size
  go_wp2_with fail
  refine Calls.mono HX.out ?_
  rintro e w3 ⟨alW, cpW, rfl, hrdW, b3⟩
  have B3 := hid b3
  have HW := hid hrdW
  clear b3 hrdW
  clear HX e4
  have s3 := B3.out.size
  have hll : (hdA sI).2.length ≤ 4096 := hdA_len H.out.okI
  obtain ⟨R1, R2⟩ : RdI w3.heap.size w3 al1 (hdA sI).2.length (hdA sI).2 ∧ RdI w3.heap.size w3 al2 (hdA sI).2.length (hdA sI).2 := by
    constructor
    · rcases HA1.out with ⟨e1, e2⟩ | ⟨g, e1, e2, e3⟩
      · rw [e2]; exact ⟨rfl, .inl rfl⟩
      · rw [e1]; exact RdI.of_blk (((e3.below B2.out e3.lt)).below B3.out (Nat.lt_of_lt_of_le e3.lt s2)) (by have := e3.lt; omega)
    · rcases HA2.out with ⟨e1, e2⟩ | ⟨g, e1, e2, e3⟩
      · rw [e2]; exact ⟨rfl, .inl rfl⟩
      · rw [e1]; exact RdI.of_blk (e3.below B3.out e3.lt) (by have := e3.lt; omega)
  have HS1 := hid (SameInts_eq w3.heap.size al1 alW _ (hdA sI).2.length cpW _ w3 (Nat.le_refl _) (by omega) R1 HW.out)
  have HR2 := hid R2
  clear R1 R2
  go_wp2_with fail
  refine Calls.mono (Num_any _ w3) ?_
  rintro e w3' ⟨rfl, rfl⟩
  go_wp2_with fail
  refine Calls.mono (Num_any _ w3') ?_
  rintro e w3'' ⟨rfl, rfl⟩
  go_wp2_with fail
  refine Calls.mono HS1.out ?_
  rintro e w4 ⟨rfl, b4⟩
  have s4 := b4.size
  have HS2 := hid (SameInts_eq w3''.heap.size al2 alW _ (hdA sI).2.length cpW _ w4 s4 (by omega) (HR2.out.below b4) (HW.out.below b4))
  have B4 := hid b4
  clear b4 HS1
  go_wp2_with fail
  refine Calls.mono HS2.out ?_
  rintro e w5 ⟨rfl, b5⟩
  have s5 := b5.size
  have B35 := hid (B4.out.trans (b5.mono s4))
  have BW5 := hid (B1.out.trans ((B2.out.trans ((B3.out.trans (B35.out.mono s3)).mono s2)).mono s1))
  have h5 := H.out.fresh BW5.out
  have c24 := h5.dt.tbl.cell 24
  have f24 := h5.dt.tbl.frozen 24
  simp only [List.getElem?_toArray, List.getElem?_cons_succ, List.getElem?_cons_zero] at c24
  have hn0 := h5.n0
  have hn1 := h5.n1
  have hl1 := h5.l1
  have hl2 := h5.l2
  have h6 := h5.dt.setn (v.n + 1)
  have hsV : (w5.setCell ⟨x, 24, none⟩ (.int .i64 (v.n + 1))).heap.size = w5.heap.size := by simp [World.setCell]
  have nx5 : ∀ g, W.heap.size ≤ g → g ≠ x := fun g hg e => by omega
  have t5 : ∀ g, W.heap.size ≤ g → tgN τ W.heap.size none 9 g = 9 := fun g hg => tgN_hi hg
  have q1 : (al1 = none ∧ (hdA sI).2 = []) ∨ ∃ g, al1 = some ⟨g, 0, none⟩ ∧ Blk .i64 3 (w5.setCell ⟨x, 24, none⟩ (.int .i64 (v.n + 1))) g (hdA sI).2 ∧ tgN τ W.heap.size none 9 g = 9 := by
    rcases HA1.out with e | ⟨g, e1, e2, e3⟩
    · exact .inl e
    · exact .inr ⟨g, e1, ((((e3.below B2.out e3.lt).below B3.out (Nat.lt_of_lt_of_le e3.lt s2)).below B35.out (by have := e3.lt; omega)).of_block (Below.heap_setCell _ _ _ _ (show g ≠ x from nx5 g e2))), t5 g e2⟩
  have q2 : (al2 = none ∧ (hdA sI).2 = []) ∨ ∃ g, al2 = some ⟨g, 0, none⟩ ∧ Blk .i64 3 (w5.setCell ⟨x, 24, none⟩ (.int .i64 (v.n + 1))) g (hdA sI).2 ∧ tgN τ W.heap.size none 9 g = 9 ∧ g < w5.heap.size ∧ al1 ≠ some ⟨g, 0, none⟩ := by
    rcases HA2.out with e | ⟨g, e1, e2, e3⟩
    · exact .inl e
    · refine .inr ⟨g, e1, (((e3.below B3.out e3.lt).below B35.out (by have := e3.lt; omega)).of_block (Below.heap_setCell _ _ _ _ (show g ≠ x from nx5 g (by omega)))), t5 g (by omega), by have := e3.lt; omega, fun e => ?_⟩
      rcases HA1.out with ⟨r1, _⟩ | ⟨g', r1, r2, r3⟩
      · rw [r1] at e; cases e
      · rw [r1] at e; cases e; have := r3.lt; omega
  have g1B : ∀ y, al1 = some ⟨y, 0, none⟩ → tgN τ W.heap.size none 9 y = 9 ∧ B ≤ y := fun y e => by
    have hB := H.out.hB
    rcases HA1.out with ⟨r1, _⟩ | ⟨g', r1, r2, r3⟩
    · rw [r1] at e; cases e
    · rw [r1] at e; cases e; exact ⟨t5 _ r2, by omega⟩
  have g2B : ∀ y, al2 = some ⟨y, 0, none⟩ → B ≤ y := fun y e => by
    have hB := H.out.hB
    rcases HA2.out with ⟨r1, _⟩ | ⟨g', r1, r2, r3⟩
    · rw [r1] at e; cases e
    · rw [r1] at e; cases e; omega
  have HO1 := hid (h6.lown al1 (hdA sI).2 0 (by omega) (by omega) (by show v.lcnt ≤ _; omega) (by show v.ltot + _ ≤ _; omega) (by omega) q1)
  have HV := hid (And.intro h5 (And.intro h6 hsV))
  have HQ2 := hid q2
  have HG := hid (And.intro g1B g2B)
  clear b5 HS2 h5 h6 q1 q2 g1B g2B t5 nx5 hsV B35 HW HR2 HA1 HA2
  go_wp2_with fail
  refine Calls.mono HO1.out ?_
  rintro e w6 ⟨rfl, lf, lw, lb, lk, lm, hDt6, hb6⟩
  have s6 := hb6.size
  have hsV := HV.out.2.2
  have hu := HV.out.1.up (show m ≤ m + 1 by omega)
  have h6' := hu.redt (U := fun y => y = x) HV.out.2.1 ((But.refl (fun y => y = x) w5).setCell (p := ⟨x, 24, none⟩) (show (fun y => y = x) x from rfl) (.int .i64 (v.n + 1))) (fun y hy q => by rw [q, hu.dt.tx]; exact ⟨by omega, by omega⟩) (fun _ _ _ => rfl) rfl rfl rfl rfl rfl rfl hu.b1 hu.b2 hu.b3 hu.l1 hu.l2 (by show 0 ≤ v.n + 1; omega) (by show v.n + 1 ≤ _; omega)
  have hb3' := hu.b3
  have hb1' := hu.b1
  have hb2' := hu.b2
  have h7 := h6'.owned (t := 4) (.inr rfl) HG.out.1 hDt6 hb6 rfl rfl rfl rfl rfl rfl hb1' hb2' hb3' (by show v.lcnt + 1 ≤ _; omega) (by show v.ltot + _ ≤ _; omega) (by show 0 ≤ v.n + 1; omega) (by show v.n + 1 ≤ _; omega)
  have tx5 := hu.dt.tx
  have q2 : (al2 = none ∧ (hdA sI).2 = []) ∨ ∃ g, al2 = some ⟨g, 0, none⟩ ∧ Blk .i64 3 w6 g (hdA sI).2 ∧ tgN (tgN τ W.heap.size none 9) (w5.setCell ⟨x, 24, none⟩ (.int .i64 (v.n + 1))).heap.size al1 4 g = 9 := by
    rcases HQ2.out with e | ⟨g, e1, e2, e3, e4, e5⟩
    · exact .inl e
    · refine .inr ⟨g, e1, e2.of_block (hb6.block g e2.lt (fun q => ?_)), ?_⟩
      · rcases q with q | q | q
        · omega
        · rw [q] at e3; omega
        · exact e5 q
      · rw [tgN_lo (by omega) e5]; exact e3
  have g2B : ∀ y, al2 = some ⟨y, 0, none⟩ → tgN (tgN τ W.heap.size none 9) (w5.setCell ⟨x, 24, none⟩ (.int .i64 (v.n + 1))).heap.size al1 4 y = 9 ∧ B ≤ y := fun y e => by
    refine ⟨?_, HG.out.2 y e⟩
    rcases q2 with ⟨r, _⟩ | ⟨g, r, _, r2⟩
    · rw [r] at e; cases e
    · rw [r] at e; cases e; exact r2
  have HO2 := hid (h7.dt.lown al2 (hdA sI).2 0 (by omega) (by omega) (by show v.lcnt + 1 ≤ _; omega) (by show v.ltot + _ + _ ≤ _; omega) (by omega) q2)
  have H7 := hid (And.intro h7 (And.intro g2B hb6))
  clear hDt6 hb6 hu h6' h7 q2 g2B HO1 hb3' hb1' hb2' c24 f24
  go_wp2_with fail
  refine Calls.mono HO2.out ?_
  rintro e w7 ⟨rfl, lf2, lw2, lb2, lk2, lm2, hDt7, hb7⟩
  have h8 := H7.out.1.owned (t := 4) (.inr rfl) H7.out.2.1 hDt7 hb7 rfl rfl rfl rfl rfl rfl H7.out.1.b1 H7.out.1.b2 H7.out.1.b3 (by show v.lcnt + 1 + 1 ≤ _; omega) (by show v.ltot + _ + _ ≤ _; omega) (by show 0 ≤ v.n + 1; omega) (by show v.n + 1 ≤ _; omega)
  have HHo := hid (h8.dt.lholds (by show v.lcnt + 1 + 1 ≤ _; omega))
  have H8 := hid (And.intro h8 hb7)
  clear hDt7 hb7 h8 HO2
  go_wp2_with fail
  refine Calls.mono HHo.out ?_
  rintro e w8 ⟨rfl, hDt8, hb8⟩
  have FIN : Hid (Dsk B w8 x (m + 1) ∧ Below B w w8) := by
    show _ ∧ _
    have h8 := H8.out.1
    have h9 := h8.redt hDt8 hb8 (fun y hy q => by rw [q, h8.dt.tx]; exact ⟨by omega, by omega⟩) (fun _ _ _ => rfl) rfl rfl rfl rfl rfl rfl h8.b1 h8.b2 h8.b3 h8.l1 h8.l2 h8.n0 h8.n1
    have low5 := HV.out.1.low
    have hB5 := HV.out.1.hB
    have bA : Below B w5 (w5.setCell ⟨x, 24, none⟩ (.int .i64 (v.n + 1))) := (Below.refl _ _).setCell (p := ⟨x, 24, none⟩) (show B ≤ x from by
      by_cases hx : x < B
      · have := low5 x hx; omega
      · omega) _
    refine ⟨h9.dsk, ((((BW.out.mono hB0).trans (BW5.out.mono H.out.hB)).trans bA).trans (H7.out.2.2.below (by rw [hsV]; exact hB5) (fun y hy q => ?_))).trans ((H8.out.2.below H7.out.1.hB (fun y hy q => ?_)).trans (hb8.below h8.hB (fun y hy q => ?_)))⟩
    · have := low5 y hy
      rcases q with q | q | q
      · omega
      · rw [q] at this; omega
      · have := (HG.out.1 y q).2; omega
    · have := H7.out.1.low y hy
      rcases q with q | q | q
      · omega
      · rw [q, H7.out.1.dt.tx] at this; omega
      · have := HG.out.2 y q; omega
    · have := h8.low y hy
      rw [q, h8.dt.tx] at this
      omega
  clear hDt8 hb8 HHo H8 H7 HV
  go_wp2
  go_ret
  exact ⟨rfl, FIN.out⟩

end Go.Proofs.Ytfadnmdmohabmaa
