/-
  A new desk; a cache more on it.
-/
import Derived.Test.YtfadnmdmohabmaaDe5
namespace Go.Proofs.Ytfadnmdmohabmaa
open Go.RowKit

theorem Bok1.new {ω : Oth} {w : World} {b : Nat} (h : Bkb ω w b (0 : Nat) (0 : Nat) false (.slice none 0 0) (.slice none 0 0) (.slice none 0 0) (.slice none 0 0) (.slice none 0 0)) : Bok1 ω 0 (fun x => x = b) w b 0 0 0 (fun _ => False) (.slice none 0 0) (.slice none 0 0) (.slice none 0 0) (.slice none 0 0) (.slice none 0 0) 0 [] [] [] [] [] (fun _ => []) (fun _ => []) := by
  refine ⟨by omega, rfl, (fun i h => by omega), (fun i h => by omega), ⟨h, Nat.zero_le _, World.ownsRow_nil _ _ _ _, World.ownsRow_nil _ _ _ _, World.ownsRow_nil _ _ _ _, ⟨World.ownsRow_nil _ _ _ _, fun i h => by omega⟩, ⟨World.ownsRow_nil _ _ _ _, fun i h => by omega⟩, dj_nil _, dj_nil _, dj_nil _, dj_nil _, dj_nil _, dj_nil _, fun g h => h.elim⟩,
    ⟨fun i h => by omega, fun i j g h => by omega⟩, (fun i h => by omega), fun x q => ?_⟩
  rcases q with q | q | q | q | q | q | q | q
  · exact q
  · cases q
  · cases q
  · cases q
  · cases q
  · cases q
  · exact q.elim
  · obtain ⟨j, hj, _⟩ := q
    omega
theorem InS.new {ω : Oth} {κ : Nat → Nat} {w : World} {q : Nat} (h : Inb ω w q (0 : Nat) (0 : Nat) (.slice none 0 0) (.slice none 0 0) (.slice none 0 0) (.slice none 0 0) (.slice none 0 0)) (hk : κ q = 0) : InS ω 0 κ w q 0 0 (.slice none 0 0) (.slice none 0 0) (.slice none 0 0) (.slice none 0 0) (.slice none 0 0) :=
  ⟨0, 0, [], [], [], [], [], fun _ => [], fun _ => [], ⟨h, hk, Nat.zero_le _, World.ownsRow_nil _ _ _ _, (fun g e => by cases e), World.ownsRow_nil _ _ _ _, (fun g e => by cases e), OwI.nil _ _, (fun g e => by cases e), World.ownsRow_nil _ _ _ _, (fun g e => by cases e), World.ownsRow_nil _ _ _ _, (fun g e => by cases e), (fun i _ h2 => by omega), (fun j hj => by omega), fun j hj => by omega⟩, (fun i hi => by omega), by omega, by omega, (fun i hi => by omega), fun j hj => by omega⟩
def v0 (d r : Value) : Vs := ⟨d, .pointer none, .pointer none, r, .pointer none, .pointer none, 0, 0, .slice none 0 0, .slice none 0 0, .slice none 0 0, .slice none 0 0, .slice none 0 0, 0, 0, .slice none 0 0, .slice none 0 0, .slice none 0 0, .slice none 0 0, .slice none 0 0, .slice none 0 0, 0, 0⟩
theorem Dt.new {τ : Nat → Nat} {w : World} {x : Nat} {d r : Value} (h : Tbl w x (v0 d r)) (tx : τ x = 0) : Dt τ w x (v0 d r) 0 := by
  refine ⟨h, tx, ⟨_, _, _, _, _, _, _, _, _, (Bok1.new h.bkb).more (fun y _ q => .inr q)⟩, ⟨fun y => if y = x then 0 else 200, InS.new h.inb (if_pos rfl), fun y _ q => .inl (Classical.byContradiction (fun hn => q (if_neg hn)))⟩, .inl rfl⟩
def Vs.put (v : Vs) (i : Nat) (c x : Value) : Vs := if i = 0 then { v with c0 := c, x0 := x } else { v with c1 := c, x1 := x }
theorem Tbl.put {w : World} {x : Nat} {v : Vs} (h : Tbl w x v) {i : Nat} (hi : i < 2) (c y : Value) : Tbl ((w.setCell ⟨x, 1 + i, none⟩ c).setCell ⟨x, 4 + i, none⟩ y) x (v.put i c y) := by
  unfold Tbl at h ⊢
  rcases (show i = 0 ∨ i = 1 by omega) with rfl | rfl
  · simp only [World.setCell, Array.getElem?_modify]
    rw [h]
    simp [Vs.put]
  · simp only [World.setCell, Array.getElem?_modify]
    rw [h]
    simp [Vs.put]
/-- a cache more -/
theorem Dsi.made {B : Nat} {τ : Nat → Nat} {w w1 w2 : World} {x p r nb nK : Nat} {v : Vs} {i : Nat} {cJ xJ cI xI c0 x0 : Value} {D : Ds} {sI s sJ : Option CS} (h : Dsi B τ w x p r nb 0 nK v i c0 cJ x0 xJ D s sJ) (hb : Below w.heap.size w w1) (hb2 : Below w1.heap.size w1 w2)
    (ps : Ps (fun y => τ y = 1 ∨ w.heap.size ≤ y) w1 p cI cJ D nb sI sJ) (rs : Rs (fun y => (τ y = 2 ∧ y < w.heap.size) ∨ w1.heap.size ≤ y) w2 r xI xJ D nb sI sJ) (o : OkC 0 nb sI) (l : OkL sI) :
    Dsi B (tgB τ w.heap.size w1.heap.size none) ((w2.setCell ⟨x, 1 + i, none⟩ cI).setCell ⟨x, 4 + i, none⟩ xI) x p r nb 0 nK (v.put i cI xI) i cI cJ xI xJ D sI sJ := by
  have s1 := hb.size
  have s2 := hb2.size
  have hi : i < 2 := by rcases h.sel with q | q <;> omega
  have e : ∀ y, y < w.heap.size → tgB τ w.heap.size w1.heap.size none y = τ y := fun y hy => if_pos hy
  have hxl := h.dt.tbl.lt
  have bx : But (fun y => y = x) w2 ((w2.setCell ⟨x, 1 + i, none⟩ cI).setCell ⟨x, 4 + i, none⟩ xI) := ((But.refl (fun y => y = x) w2).setCell (p := ⟨x, 1 + i, none⟩) (show (fun y => y = x) x from rfl) _).setCell (p := ⟨x, 4 + i, none⟩) (show (fun y => y = x) x from rfl) _
  have hb12 : Below w.heap.size w w2 := hb.trans (hb2.mono s1)
  have t2 : Tbl w2 x v := (hb12.block x hxl).trans h.dt.tbl
  have ht := t2.put hi cI xI
  have tx : tgB τ w.heap.size w1.heap.size none x = 0 := (e x hxl).trans h.dt.tx
  have hD : Dt (tgB τ w.heap.size w1.heap.size none) ((w2.setCell ⟨x, 1 + i, none⟩ cI).setCell ⟨x, 4 + i, none⟩ xI) x (v.put i cI xI) nK := by
    have hD2 := h.dt.below (τ' := tgB τ w.heap.size w1.heap.size none) hb12 e
    refine hD2.re (τ' := tgB τ w.heap.size w1.heap.size none) ht bx.size (fun y hy q => bx.block y hy (fun e => by rw [e] at q; omega)) (fun _ _ => rfl) ?_ ?_ ?_ ?_ ?_ ?_ ?_ ?_ ?_ ?_ ?_ ?_ ?_ ?_ ?_ <;> (unfold Vs.put; split <;> rfl)
  refine ⟨hD, (((ps.mono (P' := fun y => tgB τ w.heap.size w1.heap.size none y = 1) (fun k hk q => ?_)).below hb2).but bx (fun k hk q q' => by rw [q'] at q; omega)), ((rs.mono (R' := fun y => tgB τ w.heap.size w1.heap.size none y = 2) (fun k hk q => ?_)).but bx (fun k hk q q' => by rw [q'] at q; omega)), ?_, ?_, ?_, fun y hy => (e y (Nat.lt_of_lt_of_le hy h.hB)).trans (h.low y hy), by have := h.hB; have := bx.size; omega, o, h.okJ, l, h.lJ, h.hp, ?_, ?_, h.b3, ?_, ?_, ?_, ?_⟩
  · unfold tgB
    by_cases hy : k < w.heap.size
    · rw [if_pos hy]
      exact q.resolve_right (by omega)
    · rw [if_neg hy, if_neg (by simp), if_pos hk]
  · unfold tgB
    rcases q with q | q
    · rw [if_pos q.2]; exact q.1
    · rw [if_neg (by omega), if_neg (by simp), if_neg (by omega)]
  · rw [← h.ed]; unfold Vs.put; split <;> rfl
  · rw [← h.er]; unfold Vs.put; split <;> rfl
  · rcases h.sel with ⟨rfl, _, b, _, d⟩ | ⟨rfl, _, b, _, d⟩
    · exact .inl ⟨rfl, rfl, b, rfl, d⟩
    · exact .inr ⟨rfl, rfl, b, rfl, d⟩
  · have := h.b1; unfold Vs.put; split <;> exact this
  · have := h.b2; unfold Vs.put; split <;> exact this
  · have := h.l1; unfold Vs.put; split <;> exact this
  · have := h.l2; unfold Vs.put; split <;> exact this
  · have := h.n0; unfold Vs.put; split <;> exact this
  · have := h.n1; unfold Vs.put; split <;> exact this

end Go.Proofs.Ytfadnmdmohabmaa

/-
  open.
-/
namespace Go.Proofs.Ytfadnmdmohabmaa
open Go.RowKit

set_option maxRecDepth 100000 in
set_option maxHeartbeats 2000000 in
theorem open_bad (w : World) (bl r0 r1 : Int) (hb : bl < 1 ∨ 524288 < bl) :
    Calls Try.prog 7 #[.int .i64 bl, .agg #[.int .i64 r0, .int .i64 r1]] w fun e w' => e = .returned (.tuple #[.pointer none, .bool true]) ∧ Below w.heap.size w w' := by
  have FIN := hid ((Below.refl w.heap.size w).alloc (Nat.le_refl _) (.cells #[.int .i64 r0, .int .i64 r1] 22))
  go_enter Try.func7, Try.ntmps7
  go_wp2_with fail
  refine Calls.mono (New_bad bl _ hb) ?_
  rintro e w1 ⟨rfl, rfl⟩
  go_wp2_with fail
  refine Calls.mono (refNew_bad bl _ hb) ?_
  rintro e w2 ⟨rfl, rfl⟩
  go_wp2_with fail
  refine Calls.mono (Num_any _ _) ?_
  rintro e w3 ⟨rfl, rfl⟩
  go_wp2_with fail
  refine Calls.mono (CNew_nil _ r0) ?_
  rintro e w4 ⟨rfl, rfl⟩
  go_wp2_with fail
  refine Calls.mono (Num_any _ _) ?_
  rintro e w5 ⟨rfl, rfl⟩
  go_wp2
  go_ret2
  exact ⟨rfl, FIN.out⟩
theorem Ps.add {P : Nat → Prop} {w w1 : World} {p c room : Nat} {c0 cJ : Value} {D : Ds} {nb : Nat} {sJ : Option CS} (h : Ps P w p c0 cJ D nb none sJ) (hb : Below w.heap.size w w1) (hc : Cst (fun k => w.heap.size ≤ k) w1 c p room 0 0 []) : Ps (fun y => P y ∨ w.heap.size ≤ y) w1 p (.pointer (some ⟨c, 0, none⟩)) cJ D nb (some ⟨room, [], 0, 0⟩) sJ := by
  obtain ⟨X, Y0, Y1, hX, h0, h1, hd, hc0, hc1⟩ := h
  have hs := hb.size
  exact ⟨X, fun k => w.heap.size ≤ k ∧ k < w1.heap.size, Y1, fun k q => ⟨.inl (hX k q).1, by have := (hX k q).2.1; omega, fun q' => by have := (hX k q).2.1; omega, (hX k q).2.2.2⟩, fun k q => ⟨.inr q.1, q.2, fun q' => by have := (h1 k q').2; omega⟩, fun k q => ⟨.inl (h1 k q).1, by have := (h1 k q).2; omega⟩, hd.below hb, ⟨c, rfl, hc.cut⟩, hc1.keep (fun k q hk => hb.block k hk)⟩
theorem Rs.add {P : Nat → Prop} {w w1 : World} {r x room : Nat} {x0 xJ : Value} {D : Ds} {nb : Nat} {sJ : Option CS} (h : Rs P w r x0 xJ D nb none sJ) (hb : Below w.heap.size w w1) (hc : Rcs (fun k => w.heap.size ≤ k) w1 x r room [] 0 0 (.slice none 0 0)) : Rs (fun y => P y ∨ w.heap.size ≤ y) w1 r (.pointer (some ⟨x, 0, none⟩)) xJ D nb (some ⟨room, [], 0, 0⟩) sJ := by
  obtain ⟨X, Y0, Y1, hX, h0, h1, hd, hc0, hc1⟩ := h
  have hs := hb.size
  exact ⟨X, fun k => w.heap.size ≤ k ∧ k < w1.heap.size, Y1, fun k q => ⟨.inl (hX k q).1, by have := (hX k q).2.1; omega, fun q' => by have := (hX k q).2.1; omega, (hX k q).2.2.2⟩, fun k q => ⟨.inr q.1, q.2, fun q' => by have := (h1 k q').2; omega⟩, fun k q => ⟨.inl (h1 k q).1, by have := (h1 k q).2; omega⟩, hd.below hb, ⟨x, _, rfl, hc.lt⟩, hc1.keep (fun k q hk => hb.block k hk)⟩
def Vs.putC (v : Vs) (i : Nat) (c : Value) : Vs := if i = 0 then { v with c0 := c } else { v with c1 := c }
theorem Tbl.putC {w : World} {x : Nat} {v : Vs} (h : Tbl w x v) {i : Nat} (hi : i < 2) (c : Value) : Tbl (w.setCell ⟨x, 1 + i, none⟩ c) x (v.putC i c) := by
  unfold Tbl at h ⊢
  rcases (show i = 0 ∨ i = 1 by omega) with rfl | rfl
  · simp only [World.setCell, Array.getElem?_modify]
    rw [h]
    simp [Vs.putC]
  · simp only [World.setCell, Array.getElem?_modify]
    rw [h]
    simp [Vs.putC]
theorem Rs.nilx {R : Nat → Prop} {w : World} {r : Nat} {x0 x1 : Value} {D : Ds} {nb : Nat} {s1 : Option CS} (h : Rs R w r x0 x1 D nb none s1) : x0 = .pointer none := by
  obtain ⟨X, Y0, Y1, hX, h0, h1, hd, hc0, hc1⟩ := h
  exact hc0
theorem Dsk.low {B B' : Nat} {w : World} {x m : Nat} (h : Dsk B w x m) (hB : B' ≤ B) : Dsk B' w x m := by
  obtain ⟨τ, p, r, nb, nK, v, cI, cJ, xI, xJ, D, sI, sJ, h⟩ := h
  exact ⟨τ, p, r, nb, nK, v, cI, cJ, xI, xJ, D, sI, sJ, ⟨h.dt, h.ps, h.rs, h.ed, h.er, h.sel, fun y hy => h.low y (by omega), by have := h.hB; omega, h.okI, h.okJ, h.lI, h.lJ, h.hp, h.b1, h.b2, h.b3, h.l1, h.l2, h.n0, h.n1⟩⟩
/-- the desk while its caches are made: i of them are -/
def Mkg (B : Nat) (w : World) (x p r nb : Nat) (D : Ds) (i : Nat) : Prop := ∃ τ v s0 s1, Dsi B τ w x p r nb 0 0 v 0 v.c0 v.c1 v.x0 v.x1 D s0 s1 ∧ (i ≤ 0 → s0 = none) ∧ (i ≤ 1 → s1 = none)
theorem Mkg.at {B : Nat} {w : World} {x p r nb : Nat} {D : Ds} {i : Nat} (h : Mkg B w x p r nb D i) (hi : i < 2) : ∃ τ v cI cJ xI xJ sJ, Dsi B τ w x p r nb 0 0 v i cI cJ xI xJ D none sJ ∧ (i = 0 → sJ = none) := by
  obtain ⟨τ, v, s0, s1, h, e0, e1⟩ := h
  rcases (show i = 0 ∨ i = 1 by omega) with rfl | rfl
  · rw [e0 (by omega)] at h
    exact ⟨τ, v, _, _, _, _, s1, h, fun _ => e1 (by omega)⟩
  · rw [e1 (by omega)] at h
    exact ⟨τ, v, _, _, _, _, s0, h.turn, fun e => by omega⟩
theorem Mkg.of {B : Nat} {τ : Nat → Nat} {w : World} {x p r nb : Nat} {v : Vs} {i : Nat} {cI cJ xI xJ : Value} {D : Ds} {sI sJ : Option CS} (h : Dsi B τ w x p r nb 0 0 v i cI cJ xI xJ D sI sJ) (e : i = 0 → sJ = none) : Mkg B w x p r nb D (i + 1) := by
  have hs := h.sel
  rcases hs with ⟨rfl, a, b, c, d⟩ | ⟨rfl, a, b, c, d⟩
  · refine ⟨τ, v, sI, sJ, ?_, fun q => by omega, fun _ => e rfl⟩
    rw [a, b, c, d]
    exact h
  · refine ⟨τ, v, sJ, sI, ?_, fun q => by omega, fun q => by omega⟩
    rw [a, b, c, d]
    exact h.turn
set_option maxRecDepth 100000 in
set_option maxHeartbeats 4000000 in
theorem open_ok (w : World) (nb : Nat) (r0 r1 : Int) (lo : 1 ≤ nb) (hi : nb ≤ 524288) :
    Calls Try.prog 7 #[.int .i64 (nb : Int), .agg #[.int .i64 r0, .int .i64 r1]] w fun e w' => ∃ x, e = .returned (.tuple #[.pointer (some ⟨x, 0, none⟩), .bool true]) ∧ Dsk w.heap.size w' x 0 ∧ Below w.heap.size w w' := by
  obtain ⟨W, hW⟩ : ∃ W, W = w.alloc (.cells #[.int .i64 r0, .int .i64 r1] 22) := ⟨_, rfl⟩
  have bW : Below w.heap.size w W := by rw [hW]; exact (Below.refl _ _).alloc (Nat.le_refl _) _
  have hsW : w.heap.size < W.heap.size := by rw [hW]; simp
  have q0 : W.cell? ⟨w.heap.size, 0, none⟩ = some (.int .i64 r0) := by rw [hW]; simp
  have q1 : W.cell? ⟨w.heap.size, 1, none⟩ = some (.int .i64 r1) := by rw [hW]; simp
  have HN := hid (New_ok nb W lo hi)
  have BW := hid bW
  clear bW
  go_enter Try.func7, Try.ntmps7
  go_wp2_with fail
  simp only [← hW]
  clear hW
  refine Calls.mono HN.out ?_
  rintro e w1 ⟨p, rfl, hp, hd, b1⟩
  have HR := hid (refNew_ok nb w1 lo hi)
  have s1 := b1.size
  have D1 := hid (And.intro hd b1)
  clear hd b1 HN
  go_wp2_with fail
  refine Calls.mono HR.out ?_
  rintro e w2 ⟨r, rfl, hr, hk, b2⟩
  have s2 := b2.size
  have D2 := hid (And.intro hk b2)
  clear hk b2 HR
  go_wp2_with fail
  refine Calls.mono (Num_any _ _) ?_
  rintro e w2' ⟨rfl, rfl⟩
  go_wp2_with fail
  generalize hW3 : w2'.alloc (.cells _ 52) = W3
  have hx3 : w2'.heap.size < W3.heap.size := by rw [← hW3]; simp
  have ST : Hid (Mkg W.heap.size W3 w2'.heap.size p r nb ⟨zeros (512 * nb), [], -1, false⟩ 0 ∧ Below W.heap.size W W3) := by
    show _ ∧ _
    have b3 : Below w2'.heap.size w2' W3 := by rw [← hW3]; exact (Below.refl _ _).alloc (Nat.le_refl _) _
    have b12 := D1.out.2.trans ((D2.out.2.trans (b3.mono s2)).mono s1)
    have ht : Tbl W3 w2'.heap.size (v0 (.pointer (some ⟨p, 0, none⟩)) (.pointer (some ⟨r, 0, none⟩))) := by
      rw [← hW3]
      show (w2'.heap.push _)[w2'.heap.size]? = _
      simp [v0]
    refine ⟨⟨fun y => if y < W.heap.size then 9 else if y < w1.heap.size then 1 else if y < w2'.heap.size then 2 else 0, _, none, none, ⟨Dt.new ht (by show (if _ then _ else _) = 0; rw [if_neg (by omega), if_neg (by omega), if_neg (by omega)]), ⟨fun y => W.heap.size ≤ y ∧ y < w1.heap.size, fun _ => False, fun _ => False, fun k q => ⟨by show (if _ then _ else _) = 1; rw [if_neg (by omega), if_pos (by omega)], by omega, fun q => q, fun q => q⟩, fun k q => q.elim, fun k q => q.elim, (D1.out.1.cut.below D2.out.2).below b3, rfl, rfl⟩, ⟨fun y => w1.heap.size ≤ y ∧ y < w2'.heap.size, fun _ => False, fun _ => False, fun k q => ⟨by show (if _ then _ else _) = 2; rw [if_neg (by omega), if_neg (by omega), if_pos (by omega)], by omega, fun q => q, fun q => q⟩, fun k q => q.elim, fun k q => q.elim, D2.out.1.lt.below b3, rfl, rfl⟩, rfl, rfl, .inl ⟨rfl, rfl, rfl, rfl, rfl⟩, fun y hy => if_pos hy, by omega, trivial, trivial, trivial, trivial, Nat.zero_le _, Nat.zero_le _, Nat.zero_le _, Nat.zero_le _, Nat.zero_le _, Nat.zero_le _, Int.le_refl _, Int.le_refl _⟩, fun _ => rfl, fun _ => rfl⟩, b12⟩
  clear hW3 D1 D2
  generalize w2'.heap.size = x at *
  clear hx3
  go_loopw [13] (fun s wt => ∃ i : Nat, i ≤ 2 ∧ s = .int .i64 (i : Int) ∧ Mkg W.heap.size wt x p r nb ⟨zeros (512 * nb), [], -1, false⟩ i ∧ Below W.heap.size W wt) (fun s _ => 2 - (intOf s).toNat)
  case atStart => exact ⟨0, by omega, rfl, ST.out⟩
  case round =>
    clear ST
    obtain ⟨i, hi2, rfl, hM, hbt⟩ := hrel
    by_cases hin : i < 2
    · obtain ⟨τ, v, cI, cJ, xI, xJ, sJ, h, hsJ⟩ := hM.at hin
      have hin' : (i : Int) < 2 := by omega
      obtain ⟨ρ, hρ⟩ : ∃ ρ : Int, W.cell? ⟨w.heap.size, i, none⟩ = some (.int .i64 ρ) := by
        rcases (show i = 0 ∨ i = 1 by omega) with rfl | rfl
        · exact ⟨r0, q0⟩
        · exact ⟨r1, q1⟩
      have cρ := (hbt.cell (p := ⟨w.heap.size, i, none⟩) hsW).trans hρ
      have hxl := h.dt.tbl.lt
      by_cases hg : 1 ≤ ρ ∧ ρ ≤ 4096
      · obtain ⟨room, rfl⟩ : ∃ room : Nat, ρ = (room : Int) := ⟨ρ.toNat, by omega⟩
        have HC := hid (CNew_ok (w := wr) p room (by omega) (by omega))
        have H := hid h
        have Hbt := hid hbt
        clear h hM hbt
        go_wp2_with fail
        refine Calls.mono HC.out ?_
        rintro e w1 ⟨c, rfl, hcs, hcst, b1⟩
        have s1 := b1.size
        have eρ := (b1.cell (p := ⟨w.heap.size, i, none⟩) (by show w.heap.size < _; have := Hbt.out.size; omega)).trans cρ
        have HX := hid (refCNew_ok (w := w1) r room (by omega) (by omega))
        have P1 := hid (H.out.ps.add b1 hcst)
        have B1 := hid b1
        clear hcst b1 HC
        go_wp2_with fail
        refine Calls.mono HX.out ?_
        rintro e w2 ⟨rfl, hrcs, b2⟩
        have s2 := b2.size
        have R1 := hid (((H.out.rs.mono (R' := fun y => τ y = 2 ∧ y < wr.heap.size) (fun k hk q => ⟨q, hk⟩)).below B1.out).add b2 hrcs)
        have B2 := hid b2
        clear hrcs b2 HX eρ cρ
        have T2 : Tbl w2 x v := (B2.out.block x (by omega)).trans ((B1.out.block x hxl).trans H.out.dt.tbl)
        have kC : ∃ z, w2.cell? ⟨x, 1 + i, none⟩ = some z := by
          rcases (show i = 0 ∨ i = 1 by omega) with rfl | rfl
          · exact ⟨_, T2.cell 1⟩
          · exact ⟨_, T2.cell 2⟩
        have T3 := T2.putC hin (.pointer (some ⟨c, 0, none⟩))
        have kX : ∃ z, (w2.setCell ⟨x, 1 + i, none⟩ (.pointer (some ⟨c, 0, none⟩))).cell? ⟨x, 4 + i, none⟩ = some z := by
          rcases (show i = 0 ∨ i = 1 by omega) with rfl | rfl
          · exact ⟨_, T3.cell 4⟩
          · exact ⟨_, T3.cell 5⟩
        obtain ⟨z1, kC⟩ := kC
        obtain ⟨z2, kX⟩ := kX
        have fC := T2.frozen (1 + i)
        have fX : (w2.setCell ⟨x, 1 + i, none⟩ (.pointer (some ⟨c, 0, none⟩))).frozen? ⟨x, 4 + i, none⟩ = false := T3.frozen (4 + i)
        have FIN : Hid (Mkg W.heap.size ((w2.setCell ⟨x, 1 + i, none⟩ (.pointer (some ⟨c, 0, none⟩))).setCell ⟨x, 4 + i, none⟩ (.pointer (some ⟨w1.heap.size, 0, none⟩))) x p r nb ⟨zeros (512 * nb), [], -1, false⟩ (i + 1) ∧ Below W.heap.size W ((w2.setCell ⟨x, 1 + i, none⟩ (.pointer (some ⟨c, 0, none⟩))).setCell ⟨x, 4 + i, none⟩ (.pointer (some ⟨w1.heap.size, 0, none⟩)))) := by
          show _ ∧ _
          have hm := H.out.made B1.out B2.out P1.out R1.out ⟨by show 1 ≤ room; omega, by show room ≤ 4096; omega, Nat.zero_le _, Int.le_refl _, Int.le_refl _, Int.le_refl _, Int.le_refl _, fun q hq => by cases hq⟩ (fun q hq => by cases hq)
          have hxB : W.heap.size ≤ x := Classical.byContradiction (fun hn => by
            have h1 := H.out.low x (by omega)
            have h2 := H.out.dt.tx
            omega)
          exact ⟨Mkg.of hm hsJ, (((Hbt.out.trans (B1.out.mono Hbt.out.size)).trans (B2.out.mono (by have := Hbt.out.size; omega))).setCell (p := ⟨x, 1 + i, none⟩) hxB _).setCell (p := ⟨x, 4 + i, none⟩) hxB _⟩
        clear T2 T3 H P1 R1 B1 B2
        go_wp2_with fail
        refine Calls.mono (Num_any _ _) ?_
        rintro e w2a ⟨rfl, rfl⟩
        go_wp2_with fail
        go_roundw
        case rel => exact ⟨i + 1, by omega, by go_num, FIN.out⟩
        case measure => simp [intOf]; omega
      · have hg' : ρ < 1 ∨ 4096 < ρ := by omega
        have HC := hid (CNew_bad wr p ρ hg')
        have HX := hid (refCNew_bad (w := wr) (.pointer (some ⟨r, 0, none⟩)) ρ hg')
        have H := hid h
        have Hbt := hid hbt
        clear h hM hbt
        go_wp2_with fail
        refine Calls.mono HC.out ?_
        rintro e w1 ⟨rfl, rfl⟩
        go_wp2_with fail
        refine Calls.mono HX.out ?_
        rintro e w2 ⟨rfl, rfl⟩
        have B1 := hid (Below.refl w2.heap.size w2)
        have B2 := hid (Below.refl w2.heap.size w2)
        clear HC HX cρ
        have T2 : Tbl w2 x v := (B2.out.block x (by omega)).trans ((B1.out.block x hxl).trans H.out.dt.tbl)
        have kC : ∃ z, w2.cell? ⟨x, 1 + i, none⟩ = some z := by
          rcases (show i = 0 ∨ i = 1 by omega) with rfl | rfl
          · exact ⟨_, T2.cell 1⟩
          · exact ⟨_, T2.cell 2⟩
        have T3 := T2.putC hin (.pointer none)
        have kX : ∃ z, (w2.setCell ⟨x, 1 + i, none⟩ (.pointer none)).cell? ⟨x, 4 + i, none⟩ = some z := by
          rcases (show i = 0 ∨ i = 1 by omega) with rfl | rfl
          · exact ⟨_, T3.cell 4⟩
          · exact ⟨_, T3.cell 5⟩
        obtain ⟨z1, kC⟩ := kC
        obtain ⟨z2, kX⟩ := kX
        have fC := T2.frozen (1 + i)
        have fX : (w2.setCell ⟨x, 1 + i, none⟩ (.pointer none)).frozen? ⟨x, 4 + i, none⟩ = false := T3.frozen (4 + i)
        have FIN : Hid (Mkg W.heap.size ((w2.setCell ⟨x, 1 + i, none⟩ (.pointer none)).setCell ⟨x, 4 + i, none⟩ (.pointer none)) x p r nb ⟨zeros (512 * nb), [], -1, false⟩ (i + 1) ∧ Below W.heap.size W ((w2.setCell ⟨x, 1 + i, none⟩ (.pointer none)).setCell ⟨x, 4 + i, none⟩ (.pointer none))) := by
          show _ ∧ _
          have h := H.out
          obtain ⟨eC, _⟩ := (h.ps.nil).resolve_right (fun ⟨c, e⟩ => by
            have hp := h.ps
            rw [e] at hp
            exact hp.cell.2.2.2 rfl)
          have eX := h.rs.nilx
          have hp := h.ps
          have hr := h.rs
          rw [eC] at hp
          rw [eX] at hr
          have hm := h.made (cI := .pointer none) (xI := .pointer none) B1.out B2.out (hp.mono (fun k _ q => .inl q)) (hr.mono (fun k hk q => .inl ⟨q, hk⟩)) trivial trivial
          have hxB : W.heap.size ≤ x := Classical.byContradiction (fun hn => by
            have h1 := h.low x (by omega)
            have h2 := h.dt.tx
            omega)
          exact ⟨Mkg.of hm hsJ, (Hbt.out.setCell (p := ⟨x, 1 + i, none⟩) hxB _).setCell (p := ⟨x, 4 + i, none⟩) hxB _⟩
        clear T2 T3 H B1 B2
        go_wp2_with fail
        refine Calls.mono (Num_any _ _) ?_
        rintro e w2a ⟨rfl, rfl⟩
        go_wp2_with fail
        go_roundw
        case rel => exact ⟨i + 1, by omega, by go_num, FIN.out⟩
        case measure => simp [intOf]; omega
    · have hin' : ¬ (i : Int) < 2 := by omega
      have FIN : Hid (Dsk w.heap.size wr x 0 ∧ Below w.heap.size w wr) := by
        show _ ∧ _
        obtain ⟨τ, v, s0, s1, h, _⟩ := hM
        exact ⟨Dsk.low h.dsk (by omega), BW.out.trans (hbt.mono (by omega))⟩
      clear hM hbt
      go_wp2
      go_ret2
      exact ⟨x, rfl, FIN.out⟩

end Go.Proofs.Ytfadnmdmohabmaa
