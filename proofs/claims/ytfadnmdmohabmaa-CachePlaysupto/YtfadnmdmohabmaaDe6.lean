/-
  The desk whole: promoted: Fuse, and what is none of its kinds.
-/
import Derived.Test.YtfadnmdmohabmaaDe5
namespace Go.Proofs.Ytfadnmdmohabmaa
open Go.RowKit

theorem Dsi.drew {B : Nat} {τ : Nat → Nat} {w : World} {x p r nb m nK : Nat} {v : Vs} {i : Nat} {cI cJ xI xJ : Value} {D : Ds} {sI sJ : Option CS} (h : Dsi B τ w x p r nb m nK v i cI cJ xI xJ D sI sJ) : Dsi B τ w.drew x p r nb m nK v i cI cJ xI xJ D sI sJ :=
  ⟨h.dt.below ((Below.refl _ _).drew) (fun _ _ => rfl), h.ps.below ((Below.refl _ _).drew), h.rs.below ((Below.refl _ _).drew), h.ed, h.er, h.sel, h.low, h.hB, h.okI, h.okJ, h.lI, h.lJ, h.hp, h.b1, h.b2, h.b3, h.l1, h.l2, h.n0, h.n1⟩
set_option maxRecDepth 100000 in
set_option maxHeartbeats 4000000 in
theorem promoted_other {B : Nat} {w : World} {x m : Nat} (h : Dsk B w x m) (wh at_ fi : Int) (kd : Int) (hk : kd ≠ 7 ∧ kd ≠ 8 ∧ kd ≠ 9 ∧ kd ≠ 10) (ra : Value) :
    Calls Try.prog 24 #[.pointer (some ⟨x, 0, none⟩), cactV wh kd at_ fi ra] w fun e w' => e = .returned (.bool true) ∧ Dsk B w' x (m + 1) ∧ Below B w w' := by
  obtain ⟨i, hi, ei⟩ := and1_nat wh
  obtain ⟨τ0, p, r, nb, nK, v, cI, cJ, xI, xJ, D, sI, sJ, h0⟩ := h.at hi
  have hB0 := h0.hB
  obtain ⟨W, hW⟩ : ∃ W, W = w.alloc (.cells #[.int .i64 wh, .int .i64 kd, .int .i64 at_, .int .i64 fi, ra] 36) := ⟨_, rfl⟩
  have bW : Below w.heap.size w W := by rw [hW]; exact (Below.refl _ _).alloc (Nat.le_refl _) _
  have h := h0.fresh bW
  have hsW : W.heap.size = w.heap.size + 1 := by rw [hW]; simp
  have t9 : tgN τ0 w.heap.size none 9 w.heap.size = 9 := tgN_hi (Nat.le_refl _)
  generalize tgN τ0 w.heap.size none 9 = τ at *
  clear h0
  obtain ⟨cC, _⟩ := h.cC
  have hxl := h.dt.tbl.lt
  have tx := h.dt.tx
  have hi2 : (i : Int) < 2 := by omega
  have aW : W.cell? ⟨w.heap.size, 0, none⟩ = some (.int .i64 wh) := by rw [hW]; simp
  obtain ⟨V, hV⟩ : ∃ V, V = W.drew := ⟨_, rfl⟩
  have hVs : V.heap.size = W.heap.size := by rw [hV]; rfl
  have bV : Below W.heap.size W V := by rw [hV]; exact (Below.refl _ _).drew
  have h : Dsi B τ V x p r nb m nK v i cI cJ xI xJ D sI sJ := by rw [hV]; exact h.drew
  have hxV : x < V.heap.size := by omega
  have FIN0 := hid (And.intro (h.up (show m ≤ m + 1 by omega)).dsk ((bW.mono hB0).trans (bV.mono (by omega))))
  have hk1 := hk.1
  have hk2 := hk.2.1
  have hk3 := hk.2.2.1
  have hk4 := hk.2.2.2
  have b1 : V.cell? ⟨w.heap.size, 1, none⟩ = some (.int .i64 kd) := by rw [hV, hW]; simp
  have hn := h.ps.nil
  unfold cactV
  clear h bW bV
  rcases hn with ⟨rfl, _⟩ | ⟨c, rfl⟩
  · go_enter Try.func24, Try.ntmps24
    go_wp2_with fail
    simp only [← hW]
    go_region_held3 (fun w' => w'.cell? ⟨w.heap.size, 0, none⟩ = some (.int .i64 wh) ∧ w'.cell? ⟨x, 1 + i, none⟩ = some (.pointer none)) (first | (exact ⟨by assumption, by assumption⟩) | go_keep) (fail)
    simp only [← hV]
    clear hW hV
    go_wp2_with fail
    go_ret
    exact ⟨rfl, FIN0.out⟩
  · go_enter Try.func24, Try.ntmps24
    go_wp2_with fail
    simp only [← hW]
    go_region_held3 (fun w' => w'.cell? ⟨w.heap.size, 0, none⟩ = some (.int .i64 wh) ∧ w'.cell? ⟨x, 1 + i, none⟩ = some (.pointer (some ⟨c, 0, none⟩))) (first | (exact ⟨by assumption, by assumption⟩) | go_keep) (fail)
    simp only [← hV]
    clear hW hV
    go_wp2_with fail
    go_ret
    exact ⟨rfl, FIN0.out⟩
set_option maxRecDepth 100000 in
set_option maxHeartbeats 4000000 in
theorem promoted_fuse {B : Nat} {w : World} {x m : Nat} (h : Dsk B w x m) (wh at_ fi : Int) (hat : at_ ≤ 9223372036854775807) (ra : Value) :
    Calls Try.prog 24 #[.pointer (some ⟨x, 0, none⟩), cactV wh 8 at_ fi ra] w fun e w' => e = .returned (.bool true) ∧ Dsk B w' x (m + 1) ∧ Below B w w' := by
  obtain ⟨i, hi, ei⟩ := and1_nat wh
  obtain ⟨τ0, p, r, nb, nK, v, cI, cJ, xI, xJ, D, sI, sJ, h0⟩ := h.at hi
  have hB0 := h0.hB
  obtain ⟨W, hW⟩ : ∃ W, W = w.alloc (.cells #[.int .i64 wh, .int .i64 8, .int .i64 at_, .int .i64 fi, ra] 36) := ⟨_, rfl⟩
  have bW : Below w.heap.size w W := by rw [hW]; exact (Below.refl _ _).alloc (Nat.le_refl _) _
  have h := h0.fresh bW
  have hsW : W.heap.size = w.heap.size + 1 := by rw [hW]; simp
  have t9 : tgN τ0 w.heap.size none 9 w.heap.size = 9 := tgN_hi (Nat.le_refl _)
  generalize tgN τ0 w.heap.size none 9 = τ at *
  clear h0
  obtain ⟨cC, _⟩ := h.cC
  have hxl := h.dt.tbl.lt
  have tx := h.dt.tx
  have hi2 : (i : Int) < 2 := by omega
  have aW : W.cell? ⟨w.heap.size, 0, none⟩ = some (.int .i64 wh) := by rw [hW]; simp
  obtain ⟨V, hV⟩ : ∃ V, V = W.drew := ⟨_, rfl⟩
  have hVs : V.heap.size = W.heap.size := by rw [hV]; rfl
  have bV : Below W.heap.size W V := by rw [hV]; exact (Below.refl _ _).drew
  have h : Dsi B τ V x p r nb m nK v i cI cJ xI xJ D sI sJ := by rw [hV]; exact h.drew
  have hxV : x < V.heap.size := by omega
  have FIN0 := hid (And.intro (h.up (show m ≤ m + 1 by omega)).dsk ((bW.mono hB0).trans (bV.mono (by omega))))
  rcases h.ps.nil with ⟨rfl, _⟩ | ⟨c, rfl⟩
  · unfold cactV
    clear h bW bV
    go_enter Try.func24, Try.ntmps24
    go_wp2_with fail
    simp only [← hW]
    go_region_held3 (fun w' => w'.cell? ⟨w.heap.size, 0, none⟩ = some (.int .i64 wh) ∧ w'.cell? ⟨x, 1 + i, none⟩ = some (.pointer none)) (first | (exact ⟨by assumption, by assumption⟩) | go_keep) (fail)
    simp only [← hV]
    clear hW hV
    go_wp2_with fail
    go_ret
    exact ⟨rfl, FIN0.out⟩
  clear FIN0
  obtain ⟨cc, hcl, hcP, _⟩ := h.ps.cell
  have c3 : V.cell? ⟨x, 3, none⟩ = some (.pointer (some ⟨r, 0, none⟩)) := by have := h.dt.tbl.cell 3; rw [← h.er]; exact this
  have c0 : V.cell? ⟨x, 0, none⟩ = some (.pointer (some ⟨p, 0, none⟩)) := by have := h.dt.tbl.cell 0; rw [← h.ed]; exact this
  have a1 : V.cell? ⟨w.heap.size, 1, none⟩ = some (.int .i64 8) := by rw [hV, hW]; simp
  have a2 : V.cell? ⟨w.heap.size, 2, none⟩ = some (.int .i64 at_) := by rw [hV, hW]; simp
  have HC := hid ((h.ps.below (w' := V.drew) (Below.refl _ _).drew).fuse at_ hat)
  have H := hid h
  have BW := hid (bW.trans (bV.mono (by omega)))
  clear h bW bV
  unfold cactV
  go_enter Try.func24, Try.ntmps24
  go_wp2_with fail
  simp only [← hW]
  go_region_held3 (fun w' => w'.cell? ⟨w.heap.size, 0, none⟩ = some (.int .i64 wh) ∧ w'.cell? ⟨x, 1 + i, none⟩ = some (.pointer (some ⟨c, 0, none⟩))) (first | (exact ⟨by assumption, by assumption⟩) | go_keep) (fail)
  simp only [← hV]
  clear hW ei hV aW
  go_wp2_with fail
  go_region_held3 (fun w' => w'.cell? ⟨c, 0, none⟩ = some (.pointer (some ⟨p, 0, none⟩)) ∧ w'.cell? ⟨x, 3, none⟩ = some (.pointer (some ⟨r, 0, none⟩)) ∧ w'.cell? ⟨w.heap.size, 2, none⟩ = some (.int .i64 at_)) (first | (exact ⟨by assumption, by assumption, by assumption⟩) | (exact SK1.out) | (exact SK2.out) | go_keep)
    (first
      | (go_at_call 51; refine Calls.mono HC.out ?_; rintro e w1 ⟨rfl, ps1, b1⟩
         have b1' : But (fun y => τ y = 1) V w1 := ⟨b1.os, b1.tape, b1.output, b1.size, b1.block⟩
         have k1 : ∀ y, y < V.heap.size → τ y ≠ 1 → ∀ t, w1.cell? ⟨y, t, none⟩ = V.cell? ⟨y, t, none⟩ := fun y hy q t => World.cell?_of_block (a := ⟨y, t, none⟩) (b1'.block y hy q)
         have SK1 := hid (And.intro ps1.cell.1 (And.intro ((k1 x hxV (by omega) 3).trans c3) ((k1 w.heap.size (by omega) (by omega) 2).trans a2)))
         have HX := hid ((H.out.rs1 b1' (w2 := w1) (Below.refl _ _)).fuse at_ hat)
         have HP1 := hid (And.intro ps1 b1')
         clear ps1 b1 b1' k1)
      | (go_at_call 5; refine Calls.mono (Num_any _ _) ?_; rintro e w1' ⟨rfl, rfl⟩)
      | (go_at_call 52; refine Calls.mono HX.out ?_; rintro e w2 ⟨rfl, rs1, b2⟩
         have s1 := HP1.out.2.size
         have k2 : ∀ y, y < w1'.heap.size → ¬ (τ y = 2 ∧ y < V.heap.size) → ∀ t, w2.cell? ⟨y, t, none⟩ = w1'.cell? ⟨y, t, none⟩ := fun y hy q t => World.cell?_of_block (a := ⟨y, t, none⟩) (b2.block y hy q)
         have SK2 := hid (And.intro ((k2 c (by omega) (by omega) 0).trans SK1.out.1) (And.intro ((k2 x (by omega) (by omega) 3).trans SK1.out.2.1) ((k2 w.heap.size (by omega) (by omega) 2).trans SK1.out.2.2)))
         have HP2 := hid (And.intro rs1 b2)
         clear rs1 b2 k2))
  have FIN : Hid (Dsk B w2 x (m + 1) ∧ Below B w w2) := by
    show _ ∧ _
    obtain ⟨hD2, b02⟩ := H.out.both (al := none) (m' := m + 1) (D' := fuD D at_) (HP1.out.1.mono (fun k _ q => ⟨.inl q, by simp⟩)) HP1.out.2 (fun y e => by cases e) (w2 := w1') (Below.refl _ _) HP2.out.1 HP2.out.2 (by omega) (H.out.okI.up (by omega)) (H.out.okJ.up (by omega)) H.out.lI H.out.lJ (by have := H.out.hp; show D.puts.length ≤ _; omega)
    exact ⟨hD2.dsk, (BW.out.mono hB0).trans (b02.below H.out.hB (fun y hy q => by have := H.out.low y hy; omega))⟩
  clear HC HX SK1 SK2 HP1 HP2 cC
  go_wp2
  go_ret
  exact ⟨rfl, FIN.out⟩

end Go.Proofs.Ytfadnmdmohabmaa
