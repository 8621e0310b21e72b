/-
  The desk whole: a step.
-/
import Derived.Test.YtfadnmdmohabmaaDe7
import Derived.Test.YtfadnmdmohabmaaDe8
import Derived.Test.YtfadnmdmohabmaaDe9
import Derived.Test.YtfadnmdmohabmaaDea
namespace Go.Proofs.Ytfadnmdmohabmaa
open Go.RowKit

theorem Dsk.below {B : Nat} {w w' : World} {x m : Nat} (h : Dsk B w x m) (hb : Below w.heap.size w w') : Dsk B w' x m := by
  obtain ⟨τ, p, r, nb, nK, v, cI, cJ, xI, xJ, D, sI, sJ, h⟩ := h
  exact (h.fresh hb).dsk
theorem Dsk.hB {B : Nat} {w : World} {x m : Nat} (h : Dsk B w x m) : B ≤ w.heap.size := by
  obtain ⟨τ, p, r, nb, nK, v, cI, cJ, xI, xJ, D, sI, sJ, h⟩ := h
  exact h.hB
set_option maxRecDepth 100000 in
set_option maxHeartbeats 4000000 in
theorem step_of {B : Nat} {w W : World} {x m f : Nat} {act : Value} (hB0 : B ≤ w.heap.size) (bW : Below w.heap.size w W) (HC : Calls Try.prog f #[.pointer (some ⟨x, 0, none⟩), act] W fun e w' => e = .returned (.bool true) ∧ Dsk B w' x (m + 1) ∧ Below B W w') :
    Calls Try.prog f #[.pointer (some ⟨x, 0, none⟩), act] W fun e w' => e = .returned (.bool true) ∧ Dsk B w' x (m + 1) ∧ Below B w w' := by
  refine Calls.mono HC ?_
  rintro e w' ⟨rfl, h1, h2⟩
  exact ⟨rfl, h1, (bW.mono hB0).trans h2⟩
set_option maxRecDepth 100000 in
set_option maxHeartbeats 4000000 in
theorem step_any {B : Nat} {w : World} {x m : Nat} (h : Dsk B w x m) (hm : m ≤ 262144) (wh kd at_ fi : Int) (hwf : (Lit.int .i64 at_).wf = true) (hat : at_ ≤ 9223372036854775807) (a : Option Addr) (n c : Nat) (zs : List Int) (hR : Rd B w a n zs) (hn : n ≤ 1048576) :
    Calls Try.prog 8 #[.pointer (some ⟨x, 0, none⟩), cactV wh kd at_ fi (.slice a n c)] w fun e w' => e = .returned (.bool true) ∧ Dsk B w' x (m + 1) ∧ Below B w w' := by
  have hB0 := h.hB
  obtain ⟨W, hW⟩ : ∃ W, W = w.alloc (.cells #[.int .i64 wh, .int .i64 kd, .int .i64 at_, .int .i64 fi, .slice a n c] 36) := ⟨_, rfl⟩
  have bW : Below w.heap.size w W := by rw [hW]; exact (Below.refl _ _).alloc (Nat.le_refl _) _
  have hR' := hR.below (bW.mono hB0)
  have h' := h.below bW
  by_cases e1 : kd = 1
  · subst e1
    have HC := step_of hB0 bW (reads_read h' (by omega) wh at_ fi hwf (.slice a n c))
    unfold cactV at HC ⊢
    have HC := hid HC
    clear h h' hR hR' bW
    go_enter Try.func8, Try.ntmps8
    go_wp2_with fail
    simp only [← hW]
    refine Calls.mono HC.out ?_
    rintro e w1 ⟨rfl, h1⟩
    have H1 := hid h1
    clear h1 HC hW
    go_wp2
    go_ret
    exact ⟨rfl, H1.out⟩
  by_cases e2 : kd = 2
  · subst e2
    have HC := step_of hB0 bW (reads_write h' (by omega) wh at_ fi a n c zs hR' hn)
    unfold cactV at HC ⊢
    have HC := hid HC
    clear h h' hR hR' bW
    go_enter Try.func8, Try.ntmps8
    go_wp2_with fail
    simp only [← hW]
    refine Calls.mono HC.out ?_
    rintro e w1 ⟨rfl, h1⟩
    have H1 := hid h1
    clear h1 HC hW
    go_wp2
    go_ret
    exact ⟨rfl, H1.out⟩
  by_cases e3 : kd = 3
  · subst e3
    have HC := step_of hB0 bW (asks_flush h' (by omega) wh at_ fi (.slice a n c))
    unfold cactV at HC ⊢
    have HC := hid HC
    clear h h' hR hR' bW
    go_enter Try.func8, Try.ntmps8
    go_wp2_with fail
    simp only [← hW]
    refine Calls.mono HC.out ?_
    rintro e w1 ⟨rfl, h1⟩
    have H1 := hid h1
    clear h1 HC hW
    go_wp2
    go_ret
    exact ⟨rfl, H1.out⟩
  by_cases e4 : kd = 4
  · subst e4
    have HC := step_of hB0 bW (asks_held h' (by omega) wh at_ fi (.slice a n c))
    unfold cactV at HC ⊢
    have HC := hid HC
    clear h h' hR hR' bW
    go_enter Try.func8, Try.ntmps8
    go_wp2_with fail
    simp only [← hW]
    refine Calls.mono HC.out ?_
    rintro e w1 ⟨rfl, h1⟩
    have H1 := hid h1
    clear h1 HC hW
    go_wp2
    go_ret
    exact ⟨rfl, H1.out⟩
  by_cases e5 : kd = 5
  · subst e5
    have HC := step_of hB0 bW (asks_counts h' wh at_ fi (.slice a n c))
    unfold cactV at HC ⊢
    have HC := hid HC
    clear h h' hR hR' bW
    go_enter Try.func8, Try.ntmps8
    go_wp2_with fail
    simp only [← hW]
    refine Calls.mono HC.out ?_
    rintro e w1 ⟨rfl, h1⟩
    have H1 := hid h1
    clear h1 HC hW
    go_wp2
    go_ret
    exact ⟨rfl, H1.out⟩
  by_cases e6 : kd = 6
  · subst e6
    have HC := step_of hB0 bW (asks_forget h' wh at_ fi (.slice a n c))
    unfold cactV at HC ⊢
    have HC := hid HC
    clear h h' hR hR' bW
    go_enter Try.func8, Try.ntmps8
    go_wp2_with fail
    simp only [← hW]
    refine Calls.mono HC.out ?_
    rintro e w1 ⟨rfl, h1⟩
    have H1 := hid h1
    clear h1 HC hW
    go_wp2
    go_ret
    exact ⟨rfl, H1.out⟩
  by_cases e7 : kd = 7
  · subst e7
    have HC := step_of hB0 bW (promoted_past h' (by omega) wh at_ fi a n c zs hR')
    unfold cactV at HC ⊢
    have HC := hid HC
    clear h h' hR hR' bW
    go_enter Try.func8, Try.ntmps8
    go_wp2_with fail
    simp only [← hW]
    refine Calls.mono HC.out ?_
    rintro e w1 ⟨rfl, h1⟩
    have H1 := hid h1
    clear h1 HC hW
    go_wp2
    go_ret
    exact ⟨rfl, H1.out⟩
  by_cases e8 : kd = 8
  · subst e8
    have HC := step_of hB0 bW (promoted_fuse h' wh at_ fi hat (.slice a n c))
    unfold cactV at HC ⊢
    have HC := hid HC
    clear h h' hR hR' bW
    go_enter Try.func8, Try.ntmps8
    go_wp2_with fail
    simp only [← hW]
    refine Calls.mono HC.out ?_
    rintro e w1 ⟨rfl, h1⟩
    have H1 := hid h1
    clear h1 HC hW
    go_wp2
    go_ret
    exact ⟨rfl, H1.out⟩
  by_cases e9 : kd = 9
  · subst e9
    have HC := step_of hB0 bW (promoted_on h' (by omega) wh at_ fi (.slice a n c))
    unfold cactV at HC ⊢
    have HC := hid HC
    clear h h' hR hR' bW
    go_enter Try.func8, Try.ntmps8
    go_wp2_with fail
    simp only [← hW]
    refine Calls.mono HC.out ?_
    rintro e w1 ⟨rfl, h1⟩
    have H1 := hid h1
    clear h1 HC hW
    go_wp2
    go_ret
    exact ⟨rfl, H1.out⟩
  by_cases e10 : kd = 10
  · subst e10
    have HC := step_of hB0 bW (promoted_crash h' (by omega) wh at_ fi (.slice a n c))
    unfold cactV at HC ⊢
    have HC := hid HC
    clear h h' hR hR' bW
    go_enter Try.func8, Try.ntmps8
    go_wp2_with fail
    simp only [← hW]
    refine Calls.mono HC.out ?_
    rintro e w1 ⟨rfl, h1⟩
    have H1 := hid h1
    clear h1 HC hW
    go_wp2
    go_ret
    exact ⟨rfl, H1.out⟩
  · have HC := step_of hB0 bW (promoted_other h' wh at_ fi kd ⟨e7, e8, e9, e10⟩ (.slice a n c))
    unfold cactV at HC ⊢
    have HC := hid HC
    clear h h' hR hR' bW
    go_enter Try.func8, Try.ntmps8
    go_wp2_with fail
    simp only [← hW]
    refine Calls.mono HC.out ?_
    rintro e w1 ⟨rfl, h1⟩
    have H1 := hid h1
    clear h1 HC hW
    go_wp2
    go_ret
    exact ⟨rfl, H1.out⟩

end Go.Proofs.Ytfadnmdmohabmaa

/-
  nils: every method of what is no cache.
-/
namespace Go.Proofs.Ytfadnmdmohabmaa
open Go.RowKit

set_option maxRecDepth 100000 in
set_option maxHeartbeats 2000000 in
theorem nils_any (w : World) : Calls Try.prog 6 #[] w fun e w' => e = .returned (.bool true) ∧ Below w.heap.size w w' := by
  go_enter Try.func6, Try.ntmps6
  go_wp2_with fail
  refine Calls.mono (CRead_nil w 0) ?_
  rintro e w1 ⟨rfl, rfl⟩
  go_wp2_with fail
  refine Calls.mono (CHeld_nil w1) ?_
  rintro e w2 ⟨rfl, rfl⟩
  go_wp2_with fail
  refine Calls.mono (CCounts_nil w2) ?_
  rintro e w3 ⟨rfl, rfl⟩
  go_wp2_with fail
  refine Calls.mono (Num_any _ w3) ?_
  rintro e w4 ⟨rfl, rfl⟩
  go_wp2_with fail
  refine Calls.mono (Num_any _ w4) ?_
  rintro e w5 ⟨rfl, rfl⟩
  go_wp2_with fail
  refine Calls.mono (Num_any _ w5) ?_
  rintro e w6 ⟨rfl, rfl⟩
  go_wp2_with fail
  refine Calls.mono (Block_any 1 w6) ?_
  rintro e w7 ⟨g, rfl, _, _, b7⟩
  have B7 := hid b7
  clear b7
  go_wp2_with fail
  refine Calls.mono (CWrite_nil w7 0 _) ?_
  rintro e w8 ⟨rfl, rfl⟩
  go_wp2_with fail
  refine Calls.mono (Num_any _ w8) ?_
  rintro e w9 ⟨rfl, rfl⟩
  go_wp2_with fail
  refine Calls.mono (CFlush_nil w9) ?_
  rintro e w10 ⟨rfl, rfl⟩
  go_wp2_with fail
  refine Calls.mono (Num_any _ w10) ?_
  rintro e w11 ⟨rfl, rfl⟩
  go_wp2_with fail
  refine Calls.mono (CForget_nil w11) ?_
  rintro e w12 ⟨rfl, rfl⟩
  go_wp2_with fail
  refine Calls.mono (Num_any _ w12) ?_
  rintro e w13 ⟨rfl, rfl⟩
  go_wp2
  go_ret
  exact ⟨rfl, B7.out⟩

end Go.Proofs.Ytfadnmdmohabmaa
