/-
  A desk without a disk: every act answers ErrNil, with nothing.
-/
import Derived.Test.YteokekllbpkemaaCpi
namespace Go.Proofs.Yteokekllbpkemaa
open Go.RowKit

theorem RdI.mono {B B' : Nat} {w : World} {a : Option Addr} {n : Nat} {zs : List Int} (h : RdI B w a n zs) (hb : B ≤ B') : RdI B' w a n zs := ⟨h.1, h.2.imp id (fun ⟨b, o, e, l, c⟩ => ⟨b, o, e, Nat.lt_of_lt_of_le l hb, c⟩)⟩
/-- an act as a value -/
def actV (wh kd at_ fi : Int) (ra ke : Value) : Value := .agg #[.int .i64 wh, .int .i64 kd, .int .i64 at_, .int .i64 fi, ra, ke]
theorem undrew {w w1 : World} (h : Below w.drew.heap.size w.drew w1) : Below w.heap.size w w1 := ⟨h.os, h.tape, h.output, h.size, h.block⟩
theorem act_ready {w W : World} {x : Nat} {wh kd at_ fi : Int} {ra ke v : Value} (hx : x < w.heap.size) (h0 : w.cell? ⟨x, 0, none⟩ = some v) (hW : W = w.alloc (.cells #[.int .i64 wh, .int .i64 kd, .int .i64 at_, .int .i64 fi, ra, ke] 44)) :
    Below w.heap.size w W ∧ W.cell? ⟨x, 0, none⟩ = some v ∧ W.cell? ⟨w.heap.size, 1, none⟩ = some (.int .i64 kd) ∧ W.cell? ⟨w.heap.size, 2, none⟩ = some (.int .i64 at_) ∧ W.cell? ⟨w.heap.size, 3, none⟩ = some (.int .i64 fi) ∧ W.cell? ⟨w.heap.size, 4, none⟩ = some ra ∧ W.cell? ⟨w.heap.size, 5, none⟩ = some ke ∧ w.heap.size < W.heap.size := by
  subst hW
  exact ⟨(Below.refl _ _).alloc (Nat.le_refl _) _, (World.cell?_alloc_past _ _ _ hx).trans h0, cell_new rfl 1 _ rfl, cell_new rfl 2 _ rfl, cell_new rfl 3 _ rfl, cell_new rfl 4 _ rfl, cell_new rfl 5 _ rfl, by simp⟩
set_option maxRecDepth 100000 in
set_option maxHeartbeats 2000000 in
theorem nothing1 {w : World} {x : Nat} (wh at_ fi : Int) (aR aK : Option Addr) (nR cR nK cK : Nat) (hx : x < w.heap.size) (h0 : w.cell? ⟨x, 0, none⟩ = some (.pointer none)) : Calls Try.prog 21 #[.pointer (some ⟨x, 0, none⟩), actV wh 1 at_ fi (.slice aR nR cR) (.slice aK nK cK)] w fun e w' => e = .returned (.bool true) ∧ Below w.heap.size w w' := by
  unfold actV
  obtain ⟨W, hW⟩ : ∃ W, W = w.alloc (.cells #[.int .i64 wh, .int .i64 1, .int .i64 at_, .int .i64 fi, .slice aR nR cR, .slice aK nK cK] 44) := ⟨_, rfl⟩
  obtain ⟨hb, c0, c1, c2, _, c4, c5, hA⟩ := act_ready (kd := 1) hx h0 hW
  have hx2 : x < W.heap.size := Nat.lt_of_lt_of_le hx hb.size
  have HB := hid hb
  clear hb
  go_enter Try.func21, Try.ntmps21
  go_wp2_with fail
  rw [← hW]
  clear hW h0
  go_region_held3 (fun w' => w'.cell? ⟨x, 0, none⟩ = some (.pointer none) ∧ w'.cell? ⟨w.heap.size, 2, none⟩ = some (.int .i64 at_)) (first | exact ⟨by assumption, by assumption⟩ | go_keep)
    ((go_at_call 29; refine (Read_nil at_ _).mono ?_; rintro e w1 ⟨rfl, hb1⟩
      have Hb1 := hid (undrew hb1)
      have j0 := (Hb1.out.cell (p := ⟨x, 0, none⟩) hx2).trans c0
      have j2 := (Hb1.out.cell (p := ⟨w.heap.size, 2, none⟩) hA).trans c2
      clear hb1))
  clear c0 c2 c4 c5 j0 j2
  go_wp2_with fail
  refine (num_any 1 w1).mono ?_
  rintro e w2 ⟨rfl, e5⟩
  have e6 := e5.symm
  subst e6
  clear e5
  go_wp2
  go_ret
  exact ⟨rfl, (HB.out.trans (Hb1.out.mono HB.out.size))⟩
set_option maxRecDepth 100000 in
set_option maxHeartbeats 2000000 in
theorem nothing2 {w : World} {x : Nat} (wh at_ fi : Int) (aR aK : Option Addr) (nR cR nK cK : Nat) (zs : List Int) (hn : nR ≤ 16777216) (hnil : aR = none → cR = 0) (hR : Rd w.heap.size w aR nR zs) (hx : x < w.heap.size) (h0 : w.cell? ⟨x, 0, none⟩ = some (.pointer none)) : Calls Try.prog 21 #[.pointer (some ⟨x, 0, none⟩), actV wh 2 at_ fi (.slice aR nR cR) (.slice aK nK cK)] w fun e w' => e = .returned (.bool true) ∧ Below w.heap.size w w' := by
  unfold actV
  obtain ⟨W, hW⟩ : ∃ W, W = w.alloc (.cells #[.int .i64 wh, .int .i64 2, .int .i64 at_, .int .i64 fi, .slice aR nR cR, .slice aK nK cK] 44) := ⟨_, rfl⟩
  obtain ⟨hb, c0, c1, c2, _, c4, c5, hA⟩ := act_ready (kd := 2) hx h0 hW
  have hx2 : x < W.heap.size := Nat.lt_of_lt_of_le hx hb.size
  have HC := hid (CopyBytes_any aR nR cR zs W.drew (by omega) hnil ((hR.below hb).mono hb.size))
  have HB := hid hb
  clear hb
  go_enter Try.func21, Try.ntmps21
  go_wp2_with fail
  rw [← hW]
  clear hW h0
  go_region_held3 (fun w' => w'.cell? ⟨x, 0, none⟩ = some (.pointer none) ∧ w'.cell? ⟨w.heap.size, 2, none⟩ = some (.int .i64 at_) ∧ w'.cell? ⟨w.heap.size, 4, none⟩ = some (.slice aR nR cR)) (first | exact ⟨by assumption, by assumption, by assumption⟩ | go_keep)
    ((first
      | (go_at_call 43; refine Calls.mono HC.out ?_; rintro e w0 ⟨g, cap, rfl, _, _, hb0⟩
         have Hb0 := hid (undrew hb0)
         have hx0 := Nat.lt_of_lt_of_le hx2 Hb0.out.size
         have hA0 := Nat.lt_of_lt_of_le hA Hb0.out.size
         have i0 := (Hb0.out.cell (p := ⟨x, 0, none⟩) hx2).trans c0
         have i2 := (Hb0.out.cell (p := ⟨w.heap.size, 2, none⟩) hA).trans c2
         have i4 := (Hb0.out.cell (p := ⟨w.heap.size, 4, none⟩) hA).trans c4
         clear hb0)
      | (go_at_call 50; refine (Write_nil at_ _ _ _ _).mono ?_; rintro e w1 ⟨rfl, hb1⟩
         have Hb1 := hid (id hb1)
         have j0 := (Hb1.out.cell (p := ⟨x, 0, none⟩) hx0).trans i0
         have j2 := (Hb1.out.cell (p := ⟨w.heap.size, 2, none⟩) hA0).trans i2
         have j4 := (Hb1.out.cell (p := ⟨w.heap.size, 4, none⟩) hA0).trans i4
         clear hb1)))
  clear c0 c2 c4 c5 j0 j2 j4
  go_wp2_with fail
  refine (num_any 1 w1).mono ?_
  rintro e w2 ⟨rfl, e5⟩
  have e6 := e5.symm
  subst e6
  clear e5
  go_wp2
  go_ret
  exact ⟨rfl, ((HB.out.trans (Hb0.out.mono HB.out.size)).trans (Hb1.out.mono (Nat.le_trans HB.out.size Hb0.out.size)))⟩
set_option maxRecDepth 100000 in
set_option maxHeartbeats 2000000 in
theorem nothing3 {w : World} {x : Nat} (wh at_ fi : Int) (aR aK : Option Addr) (nR cR nK cK : Nat) (zs : List Int) (hn : nR ≤ 16777216) (hnil : aR = none → cR = 0) (hR : Rd w.heap.size w aR nR zs) (hx : x < w.heap.size) (h0 : w.cell? ⟨x, 0, none⟩ = some (.pointer none)) : Calls Try.prog 21 #[.pointer (some ⟨x, 0, none⟩), actV wh 3 at_ fi (.slice aR nR cR) (.slice aK nK cK)] w fun e w' => e = .returned (.bool true) ∧ Below w.heap.size w w' := by
  unfold actV
  obtain ⟨W, hW⟩ : ∃ W, W = w.alloc (.cells #[.int .i64 wh, .int .i64 3, .int .i64 at_, .int .i64 fi, .slice aR nR cR, .slice aK nK cK] 44) := ⟨_, rfl⟩
  obtain ⟨hb, c0, c1, c2, _, c4, c5, hA⟩ := act_ready (kd := 3) hx h0 hW
  have hx2 : x < W.heap.size := Nat.lt_of_lt_of_le hx hb.size
  have HC := hid (CopyBytes_any aR nR cR zs W.drew (by omega) hnil ((hR.below hb).mono hb.size))
  have HB := hid hb
  clear hb
  go_enter Try.func21, Try.ntmps21
  go_wp2_with fail
  rw [← hW]
  clear hW h0
  go_region_held3 (fun w' => w'.cell? ⟨x, 0, none⟩ = some (.pointer none) ∧ w'.cell? ⟨w.heap.size, 2, none⟩ = some (.int .i64 at_) ∧ w'.cell? ⟨w.heap.size, 4, none⟩ = some (.slice aR nR cR)) (first | exact ⟨by assumption, by assumption, by assumption⟩ | go_keep)
    ((first
      | (go_at_call 43; refine Calls.mono HC.out ?_; rintro e w0 ⟨g, cap, rfl, _, _, hb0⟩
         have Hb0 := hid (undrew hb0)
         have hx0 := Nat.lt_of_lt_of_le hx2 Hb0.out.size
         have hA0 := Nat.lt_of_lt_of_le hA Hb0.out.size
         have i0 := (Hb0.out.cell (p := ⟨x, 0, none⟩) hx2).trans c0
         have i2 := (Hb0.out.cell (p := ⟨w.heap.size, 2, none⟩) hA).trans c2
         have i4 := (Hb0.out.cell (p := ⟨w.heap.size, 4, none⟩) hA).trans c4
         clear hb0)
      | (go_at_call 50; refine (Write_nil at_ _ _ _ _).mono ?_; rintro e w1 ⟨rfl, hb1⟩
         have Hb1 := hid (id hb1)
         have j0 := (Hb1.out.cell (p := ⟨x, 0, none⟩) hx0).trans i0
         have j2 := (Hb1.out.cell (p := ⟨w.heap.size, 2, none⟩) hA0).trans i2
         have j4 := (Hb1.out.cell (p := ⟨w.heap.size, 4, none⟩) hA0).trans i4
         clear hb1)))
  clear c0 c2 c4 c5 j0 j2 j4
  go_wp2_with fail
  refine (num_any 1 w1).mono ?_
  rintro e w2 ⟨rfl, e5⟩
  have e6 := e5.symm
  subst e6
  clear e5
  go_wp2
  go_ret
  exact ⟨rfl, ((HB.out.trans (Hb0.out.mono HB.out.size)).trans (Hb1.out.mono (Nat.le_trans HB.out.size Hb0.out.size)))⟩
set_option maxRecDepth 100000 in
set_option maxHeartbeats 2000000 in
theorem nothing4 {w : World} {x : Nat} (wh at_ fi : Int) (aR aK : Option Addr) (nR cR nK cK : Nat) (hx : x < w.heap.size) (h0 : w.cell? ⟨x, 0, none⟩ = some (.pointer none)) : Calls Try.prog 21 #[.pointer (some ⟨x, 0, none⟩), actV wh 4 at_ fi (.slice aR nR cR) (.slice aK nK cK)] w fun e w' => e = .returned (.bool true) ∧ Below w.heap.size w w' := by
  unfold actV
  obtain ⟨W, hW⟩ : ∃ W, W = w.alloc (.cells #[.int .i64 wh, .int .i64 4, .int .i64 at_, .int .i64 fi, .slice aR nR cR, .slice aK nK cK] 44) := ⟨_, rfl⟩
  obtain ⟨hb, c0, c1, c2, _, c4, c5, hA⟩ := act_ready (kd := 4) hx h0 hW
  have hx2 : x < W.heap.size := Nat.lt_of_lt_of_le hx hb.size
  have HB := hid hb
  clear hb
  go_enter Try.func21, Try.ntmps21
  go_wp2_with fail
  rw [← hW]
  clear hW h0
  refine (Flush_nil _).mono ?_
  rintro e w1 ⟨rfl, hb1⟩
  have Hb1 := hid hb1
  clear hb1 c0 c1 c2 c4 c5
  go_wp2_with fail
  refine (num_any 1 w1).mono ?_
  rintro e w2 ⟨rfl, e5⟩
  have e6 := e5.symm
  subst e6
  clear e5
  go_wp2
  go_ret
  exact ⟨rfl, (HB.out.trans (Hb1.out.mono HB.out.size))⟩
set_option maxRecDepth 100000 in
set_option maxHeartbeats 2000000 in
theorem nothing5 {w : World} {x : Nat} (wh at_ fi : Int) (aR aK : Option Addr) (nR cR nK cK : Nat) (hx : x < w.heap.size) (h0 : w.cell? ⟨x, 0, none⟩ = some (.pointer none)) : Calls Try.prog 21 #[.pointer (some ⟨x, 0, none⟩), actV wh 5 at_ fi (.slice aR nR cR) (.slice aK nK cK)] w fun e w' => e = .returned (.bool true) ∧ Below w.heap.size w w' := by
  unfold actV
  obtain ⟨W, hW⟩ : ∃ W, W = w.alloc (.cells #[.int .i64 wh, .int .i64 5, .int .i64 at_, .int .i64 fi, .slice aR nR cR, .slice aK nK cK] 44) := ⟨_, rfl⟩
  obtain ⟨hb, c0, c1, c2, _, c4, c5, hA⟩ := act_ready (kd := 5) hx h0 hW
  have hx2 : x < W.heap.size := Nat.lt_of_lt_of_le hx hb.size
  have HB := hid hb
  clear hb
  go_enter Try.func21, Try.ntmps21
  go_wp2_with fail
  rw [← hW]
  clear hW h0
  go_region_held3 (fun w' => w'.cell? ⟨x, 0, none⟩ = some (.pointer none) ∧ w'.cell? ⟨w.heap.size, 2, none⟩ = some (.int .i64 at_)) (first | exact ⟨by assumption, by assumption⟩ | go_keep)
    ((go_at_call 35; refine (Fuse_nil at_ _).mono ?_; rintro e w1 ⟨rfl, hb1⟩
      have Hb1 := hid (undrew hb1)
      have j0 := (Hb1.out.cell (p := ⟨x, 0, none⟩) hx2).trans c0
      have j2 := (Hb1.out.cell (p := ⟨w.heap.size, 2, none⟩) hA).trans c2
      clear hb1))
  clear c0 c2 c4 c5 j0 j2
  go_wp2_with fail
  refine (num_any 1 w1).mono ?_
  rintro e w2 ⟨rfl, e5⟩
  have e6 := e5.symm
  subst e6
  clear e5
  go_wp2
  go_ret
  exact ⟨rfl, (HB.out.trans (Hb1.out.mono HB.out.size))⟩
set_option maxRecDepth 100000 in
set_option maxHeartbeats 2000000 in
theorem nothing6 {w : World} {x : Nat} (wh at_ fi : Int) (aR aK : Option Addr) (nR cR nK cK : Nat) (hx : x < w.heap.size) (h0 : w.cell? ⟨x, 0, none⟩ = some (.pointer none)) : Calls Try.prog 21 #[.pointer (some ⟨x, 0, none⟩), actV wh 6 at_ fi (.slice aR nR cR) (.slice aK nK cK)] w fun e w' => e = .returned (.bool true) ∧ Below w.heap.size w w' := by
  unfold actV
  obtain ⟨W, hW⟩ : ∃ W, W = w.alloc (.cells #[.int .i64 wh, .int .i64 6, .int .i64 at_, .int .i64 fi, .slice aR nR cR, .slice aK nK cK] 44) := ⟨_, rfl⟩
  obtain ⟨hb, c0, c1, c2, _, c4, c5, hA⟩ := act_ready (kd := 6) hx h0 hW
  have hx2 : x < W.heap.size := Nat.lt_of_lt_of_le hx hb.size
  have HB := hid hb
  clear hb
  go_enter Try.func21, Try.ntmps21
  go_wp2_with fail
  rw [← hW]
  clear hW h0
  refine (On_nil _).mono ?_
  rintro e w1 ⟨rfl, hb1⟩
  have Hb1 := hid hb1
  clear hb1 c0 c1 c2 c4 c5
  go_wp2
  go_ret
  exact ⟨rfl, (HB.out.trans (Hb1.out.mono HB.out.size))⟩
set_option maxRecDepth 100000 in
set_option maxHeartbeats 2000000 in
theorem nothing7 {w : World} {x : Nat} (wh at_ fi : Int) (aR aK : Option Addr) (nR cR nK cK : Nat) (hx : x < w.heap.size) (h0 : w.cell? ⟨x, 0, none⟩ = some (.pointer none)) : Calls Try.prog 21 #[.pointer (some ⟨x, 0, none⟩), actV wh 7 at_ fi (.slice aR nR cR) (.slice aK nK cK)] w fun e w' => e = .returned (.bool true) ∧ Below w.heap.size w w' := by
  unfold actV
  obtain ⟨W, hW⟩ : ∃ W, W = w.alloc (.cells #[.int .i64 wh, .int .i64 7, .int .i64 at_, .int .i64 fi, .slice aR nR cR, .slice aK nK cK] 44) := ⟨_, rfl⟩
  obtain ⟨hb, c0, c1, c2, _, c4, c5, hA⟩ := act_ready (kd := 7) hx h0 hW
  have hx2 : x < W.heap.size := Nat.lt_of_lt_of_le hx hb.size
  have HB := hid hb
  clear hb
  go_enter Try.func21, Try.ntmps21
  go_wp2_with fail
  rw [← hW]
  clear hW h0
  refine (Blocks_nil _).mono ?_
  rintro e w1 ⟨rfl, hb1⟩
  have Hb1 := hid hb1
  clear hb1 c0 c1 c2 c4 c5
  go_wp2_with fail
  refine (num_any 1 w1).mono ?_
  rintro e w2 ⟨rfl, e5⟩
  have e6 := e5.symm
  subst e6
  clear e5
  go_wp2
  go_ret
  exact ⟨rfl, (HB.out.trans (Hb1.out.mono HB.out.size))⟩
set_option maxRecDepth 100000 in
set_option maxHeartbeats 2000000 in
theorem nothing8 {w : World} {x : Nat} (wh at_ fi : Int) (aR aK : Option Addr) (nR cR nK cK : Nat) (hx : x < w.heap.size) (h0 : w.cell? ⟨x, 0, none⟩ = some (.pointer none)) : Calls Try.prog 21 #[.pointer (some ⟨x, 0, none⟩), actV wh 8 at_ fi (.slice aR nR cR) (.slice aK nK cK)] w fun e w' => e = .returned (.bool true) ∧ Below w.heap.size w w' := by
  unfold actV
  obtain ⟨W, hW⟩ : ∃ W, W = w.alloc (.cells #[.int .i64 wh, .int .i64 8, .int .i64 at_, .int .i64 fi, .slice aR nR cR, .slice aK nK cK] 44) := ⟨_, rfl⟩
  obtain ⟨hb, c0, c1, c2, _, c4, c5, hA⟩ := act_ready (kd := 8) hx h0 hW
  have hx2 : x < W.heap.size := Nat.lt_of_lt_of_le hx hb.size
  have HB := hid hb
  clear hb
  go_enter Try.func21, Try.ntmps21
  go_wp2_with fail
  rw [← hW]
  clear hW h0
  refine (Pending_nil _).mono ?_
  rintro e w1 ⟨rfl, hb1⟩
  have Hb1 := hid hb1
  clear hb1 c0 c1 c2 c4 c5
  go_wp2_with fail
  refine (num_any 1 w1).mono ?_
  rintro e w2 ⟨rfl, e5⟩
  have e6 := e5.symm
  subst e6
  clear e5
  go_wp2
  go_ret
  exact ⟨rfl, (HB.out.trans (Hb1.out.mono HB.out.size))⟩
set_option maxRecDepth 100000 in
set_option maxHeartbeats 2000000 in
theorem nothing9 {w : World} {x : Nat} (wh at_ fi : Int) (aR aK : Option Addr) (nR cR nK cK : Nat) (hx : x < w.heap.size) (h0 : w.cell? ⟨x, 0, none⟩ = some (.pointer none)) : Calls Try.prog 21 #[.pointer (some ⟨x, 0, none⟩), actV wh 9 at_ fi (.slice aR nR cR) (.slice aK nK cK)] w fun e w' => e = .returned (.bool true) ∧ Below w.heap.size w w' := by
  unfold actV
  obtain ⟨W, hW⟩ : ∃ W, W = w.alloc (.cells #[.int .i64 wh, .int .i64 9, .int .i64 at_, .int .i64 fi, .slice aR nR cR, .slice aK nK cK] 44) := ⟨_, rfl⟩
  obtain ⟨hb, c0, c1, c2, _, c4, c5, hA⟩ := act_ready (kd := 9) hx h0 hW
  have hx2 : x < W.heap.size := Nat.lt_of_lt_of_le hx hb.size
  have HB := hid hb
  clear hb
  go_enter Try.func21, Try.ntmps21
  go_wp2_with fail
  rw [← hW]
  clear hW h0
  refine (Image_nil _).mono ?_
  rintro e w1 ⟨rfl, hb1⟩
  have Hb1 := hid hb1
  clear hb1 c0 c1 c2 c4 c5
  go_wp2_with fail
  refine (num_any 1 w1).mono ?_
  rintro e w2 ⟨rfl, e5⟩
  have e6 := e5.symm
  subst e6
  clear e5
  go_wp2
  go_ret
  exact ⟨rfl, (HB.out.trans (Hb1.out.mono HB.out.size))⟩
set_option maxRecDepth 100000 in
set_option maxHeartbeats 2000000 in
theorem nothing10 {w : World} {x : Nat} (wh at_ fi : Int) (aR aK : Option Addr) (nR cR nK cK : Nat) (ks : List Int) (hn : nK ≤ 16777216) (hnil : aK = none → cK = 0) (hR : RdI w.heap.size w aK nK ks) (hx : x < w.heap.size) (h0 : w.cell? ⟨x, 0, none⟩ = some (.pointer none)) : Calls Try.prog 21 #[.pointer (some ⟨x, 0, none⟩), actV wh 10 at_ fi (.slice aR nR cR) (.slice aK nK cK)] w fun e w' => e = .returned (.bool true) ∧ Below w.heap.size w w' := by
  unfold actV
  obtain ⟨W, hW⟩ : ∃ W, W = w.alloc (.cells #[.int .i64 wh, .int .i64 10, .int .i64 at_, .int .i64 fi, .slice aR nR cR, .slice aK nK cK] 44) := ⟨_, rfl⟩
  obtain ⟨hb, c0, c1, c2, _, c4, c5, hA⟩ := act_ready (kd := 10) hx h0 hW
  have hx2 : x < W.heap.size := Nat.lt_of_lt_of_le hx hb.size
  have HC := hid (CopyInts_any aK nK cK ks W.drew (by omega) hnil ((hR.below hb).mono hb.size))
  have HB := hid hb
  clear hb
  go_enter Try.func21, Try.ntmps21
  go_wp2_with fail
  rw [← hW]
  clear hW h0
  go_region_held3 (fun w' => w'.cell? ⟨x, 0, none⟩ = some (.pointer none) ∧ w'.cell? ⟨w.heap.size, 5, none⟩ = some (.slice aK nK cK)) (first | exact ⟨by assumption, by assumption⟩ | go_keep)
    ((first
      | (go_at_call 46; refine Calls.mono HC.out ?_; rintro e w0 ⟨g, cap, rfl, _, _, hb0⟩
         have Hb0 := hid (undrew hb0)
         have hx0 := Nat.lt_of_lt_of_le hx2 Hb0.out.size
         have hA0 := Nat.lt_of_lt_of_le hA Hb0.out.size
         have i0 := (Hb0.out.cell (p := ⟨x, 0, none⟩) hx2).trans c0
         have i5 := (Hb0.out.cell (p := ⟨w.heap.size, 5, none⟩) hA).trans c5
         clear hb0)
      | (go_at_call 51; refine (Crash_nil _ _ _ _).mono ?_; rintro e w1 ⟨rfl, hb1⟩
         have Hb1 := hid (id hb1)
         have j0 := (Hb1.out.cell (p := ⟨x, 0, none⟩) hx0).trans i0
         have j5 := (Hb1.out.cell (p := ⟨w.heap.size, 5, none⟩) hA0).trans i5
         clear hb1)))
  clear c0 c2 c4 c5 j0 j5
  go_wp2_with fail
  refine (num_any 1 w1).mono ?_
  rintro e w2 ⟨rfl, e5⟩
  have e6 := e5.symm
  subst e6
  clear e5
  go_wp2
  go_ret
  exact ⟨rfl, ((HB.out.trans (Hb0.out.mono HB.out.size)).trans (Hb1.out.mono (Nat.le_trans HB.out.size Hb0.out.size)))⟩

end Go.Proofs.Yteokekllbpkemaa
