/-
  The desk whole: asks: Flush, Forget.
-/
import Derived.Test.YtfadnmdmohabmaaDe3
namespace Go.Proofs.Ytfadnmdmohabmaa
open Go.RowKit

theorem OkC.forget {m m' nb : Nat} {s : Option CS} (h : OkC m nb s) (hm : m ≤ m') : OkC m' nb (fgS s) := by
  cases s with
  | none => exact h
  | some s =>
    obtain ⟨o1, o2, o3, o4, o5, o6, o7, o8⟩ := h
    exact ⟨o1, o2, Nat.zero_le _, o4, by dsimp only; omega, o6, by dsimp only; omega, fun q hq => by cases hq⟩
theorem OkL.forget (s : Option CS) : OkL (fgS s) := by
  cases s with
  | none => exact trivial
  | some s => exact fun q hq => by cases hq
theorem flD_len {m : Nat} (s : Option CS) (D : Ds) (h : D.puts.length ≤ m) : (flD s D).puts.length ≤ m + 1 := by
  cases s with
  | none => show D.puts.length ≤ _; omega
  | some s =>
    unfold flD
    dsimp only
    split
    · simp
    · omega
set_option maxRecDepth 100000 in
set_option maxHeartbeats 4000000 in
theorem asks_flush {B : Nat} {w : World} {x m : Nat} (h : Dsk B w x m) (hm : m ≤ 1048576) (wh at_ fi : Int) (ra : Value) :
    Calls Try.prog 23 #[.pointer (some ⟨x, 0, none⟩), cactV wh 3 at_ fi ra] w fun e w' => e = .returned (.bool true) ∧ Dsk B w' x (m + 1) ∧ Below B w w' := by
  unfold cactV
  obtain ⟨i, hi, ei⟩ := and1_nat wh
  obtain ⟨τ0, p, r, nb, nK, v, cI, cJ, xI, xJ, D, sI, sJ, h0⟩ := h.at hi
  have hB0 := h0.hB
  obtain ⟨W, hW⟩ : ∃ W, W = w.alloc (.cells #[.int .i64 wh, .int .i64 3, .int .i64 at_, .int .i64 fi, ra] 36) := ⟨_, rfl⟩
  have bW : Below w.heap.size w W := by rw [hW]; exact (Below.refl _ _).alloc (Nat.le_refl _) _
  have h := h0.fresh bW
  have hsW : W.heap.size = w.heap.size + 1 := by rw [hW]; simp
  have t9 : tgN τ0 w.heap.size none 9 w.heap.size = 9 := tgN_hi (Nat.le_refl _)
  generalize tgN τ0 w.heap.size none 9 = τ at *
  clear h0
  obtain ⟨cC, cX⟩ := h.cC
  have hxl := h.dt.tbl.lt
  have tx := h.dt.tx
  have HC := hid ((h.ps.below (w' := W.drew) (Below.refl _ _).drew).flush (by omega) h.hp)
  have H := hid h
  have BW := hid bW
  clear h bW
  have hi2 : (i : Int) < 2 := by omega
  go_enter Try.func23, Try.ntmps23
  go_wp2_with fail
  simp only [← hW]
  clear hW ei
  go_region_held3 (fun w' => w'.cell? ⟨x, 1 + i, none⟩ = some cI ∧ w'.cell? ⟨x, 4 + i, none⟩ = some xI) (first | (exact ⟨by assumption, by assumption⟩) | (exact SK1.out) | (exact SK2.out) | go_keep)
    (first
      | (go_at_call 17; refine Calls.mono HC.out ?_; rintro e w1 ⟨rfl, ps1, b1⟩
         have b1' : But (fun y => τ y = 1) W w1 := ⟨b1.os, b1.tape, b1.output, b1.size, b1.block⟩
         have k1 : ∀ t, w1.cell? ⟨x, t, none⟩ = W.cell? ⟨x, t, none⟩ := fun t => World.cell?_of_block (a := ⟨x, t, none⟩) (b1'.block x hxl (by omega))
         have SK1 := hid (And.intro ((k1 (1 + i)).trans cC) ((k1 (4 + i)).trans cX))
         have HX := hid ((H.out.rs1 b1' (w2 := w1) (Below.refl _ _)).flush (by omega) H.out.hp)
         have HP1 := hid (And.intro ps1 b1')
         clear ps1 b1 b1' k1)
      | (go_at_call 5; refine Calls.mono (Num_any _ _) ?_; rintro e w1' ⟨rfl, rfl⟩)
      | (go_at_call 50; refine Calls.mono HX.out ?_; rintro e w2 ⟨rfl, rs1, b2⟩
         have s1 := HP1.out.2.size
         have k2 : ∀ t, w2.cell? ⟨x, t, none⟩ = w1'.cell? ⟨x, t, none⟩ := fun t => World.cell?_of_block (a := ⟨x, t, none⟩) (b2.block x (by omega) (by omega))
         have SK2 := hid (And.intro ((k2 (1 + i)).trans SK1.out.1) ((k2 (4 + i)).trans SK1.out.2))
         have HP2 := hid (And.intro rs1 b2)
         clear rs1 b2 k2))
  have FIN : Hid (Dsk B w2 x (m + 1) ∧ Below B w w2) := by
    show _ ∧ _
    obtain ⟨hD2, b02⟩ := H.out.both (al := none) (m' := m + 1) (HP1.out.1.mono (fun k _ q => ⟨q, by simp⟩)) HP1.out.2 (fun y e => by cases e) (w2 := w1') (Below.refl _ _) HP2.out.1 HP2.out.2 (by omega) (H.out.okI.up (by omega)) (H.out.okJ.up (by omega)) H.out.lI H.out.lJ (flD_len _ _ H.out.hp)
    exact ⟨hD2.dsk, (BW.out.mono hB0).trans (b02.below H.out.hB (fun y hy q => by have := H.out.low y hy; omega))⟩
  clear HC HX SK1 SK2 HP1 HP2 cC cX
  go_wp2
  go_ret
  exact ⟨rfl, FIN.out⟩
set_option maxRecDepth 100000 in
set_option maxHeartbeats 4000000 in
theorem asks_forget {B : Nat} {w : World} {x m : Nat} (h : Dsk B w x m) (wh at_ fi : Int) (ra : Value) :
    Calls Try.prog 23 #[.pointer (some ⟨x, 0, none⟩), cactV wh 6 at_ fi ra] w fun e w' => e = .returned (.bool true) ∧ Dsk B w' x (m + 1) ∧ Below B w w' := by
  unfold cactV
  obtain ⟨i, hi, ei⟩ := and1_nat wh
  obtain ⟨τ0, p, r, nb, nK, v, cI, cJ, xI, xJ, D, sI, sJ, h0⟩ := h.at hi
  have hB0 := h0.hB
  obtain ⟨W, hW⟩ : ∃ W, W = w.alloc (.cells #[.int .i64 wh, .int .i64 6, .int .i64 at_, .int .i64 fi, ra] 36) := ⟨_, rfl⟩
  have bW : Below w.heap.size w W := by rw [hW]; exact (Below.refl _ _).alloc (Nat.le_refl _) _
  have h := h0.fresh bW
  have hsW : W.heap.size = w.heap.size + 1 := by rw [hW]; simp
  have t9 : tgN τ0 w.heap.size none 9 w.heap.size = 9 := tgN_hi (Nat.le_refl _)
  generalize tgN τ0 w.heap.size none 9 = τ at *
  clear h0
  obtain ⟨cC, cX⟩ := h.cC
  have hxl := h.dt.tbl.lt
  have tx := h.dt.tx
  have HC := hid ((h.ps.below (w' := W.drew) (Below.refl _ _).drew).forget)
  have H := hid h
  have BW := hid bW
  clear h bW
  have hi2 : (i : Int) < 2 := by omega
  go_enter Try.func23, Try.ntmps23
  go_wp2_with fail
  simp only [← hW]
  clear hW ei
  go_region_held3 (fun w' => w'.cell? ⟨x, 1 + i, none⟩ = some cI ∧ w'.cell? ⟨x, 4 + i, none⟩ = some xI) (first | (exact ⟨by assumption, by assumption⟩) | (exact SK1.out) | (exact SK2.out) | go_keep)
    (first
      | (go_at_call 18; refine Calls.mono HC.out ?_; rintro e w1 ⟨rfl, ps1, b1⟩
         have b1' : But (fun y => τ y = 1) W w1 := ⟨b1.os, b1.tape, b1.output, b1.size, b1.block⟩
         have k1 : ∀ t, w1.cell? ⟨x, t, none⟩ = W.cell? ⟨x, t, none⟩ := fun t => World.cell?_of_block (a := ⟨x, t, none⟩) (b1'.block x hxl (by omega))
         have SK1 := hid (And.intro ((k1 (1 + i)).trans cC) ((k1 (4 + i)).trans cX))
         have HX := hid ((H.out.rs1 b1' (w2 := w1) (Below.refl _ _)).forget)
         have HP1 := hid (And.intro ps1 b1')
         clear ps1 b1 b1' k1)
      | (go_at_call 5; refine Calls.mono (Num_any _ _) ?_; rintro e w1' ⟨rfl, rfl⟩)
      | (go_at_call 49; refine Calls.mono HX.out ?_; rintro e w2 ⟨rfl, rs1, b2⟩
         have s1 := HP1.out.2.size
         have k2 : ∀ t, w2.cell? ⟨x, t, none⟩ = w1'.cell? ⟨x, t, none⟩ := fun t => World.cell?_of_block (a := ⟨x, t, none⟩) (b2.block x (by omega) (by omega))
         have SK2 := hid (And.intro ((k2 (1 + i)).trans SK1.out.1) ((k2 (4 + i)).trans SK1.out.2))
         have HP2 := hid (And.intro rs1 b2)
         clear rs1 b2 k2))
  have FIN : Hid (Dsk B w2 x (m + 1) ∧ Below B w w2) := by
    show _ ∧ _
    obtain ⟨hD2, b02⟩ := H.out.both (al := none) (m' := m + 1) (HP1.out.1.mono (fun k _ q => ⟨q, by simp⟩)) HP1.out.2 (fun y e => by cases e) (w2 := w1') (Below.refl _ _) HP2.out.1 HP2.out.2 (by omega) (H.out.okI.forget (by omega)) (H.out.okJ.up (by omega)) (OkL.forget sI) H.out.lJ (by have := H.out.hp; omega)
    exact ⟨hD2.dsk, (BW.out.mono hB0).trans (b02.below H.out.hB (fun y hy q => by have := H.out.low y hy; omega))⟩
  clear HC HX SK1 SK2 HP1 HP2 cC cX
  go_wp2
  go_ret
  exact ⟨rfl, FIN.out⟩

end Go.Proofs.Ytfadnmdmohabmaa
