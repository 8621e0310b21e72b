/-
  The desk whole: promoted: a Write past the caches.
-/
import Derived.Test.YtfadnmdmohabmaaDe6
import Derived.Test.YtfadnmdmohabmaaDe3
namespace Go.Proofs.Ytfadnmdmohabmaa
open Go.RowKit

set_option maxRecDepth 100000 in
set_option maxHeartbeats 4000000 in
theorem promoted_past {B : Nat} {w : World} {x m : Nat} (h : Dsk B w x m) (hm : m ≤ 1048576) (wh at_ fi : Int) (a : Option Addr) (n c : Nat) (zs : List Int) (hR : Rd B w a n zs) :
    Calls Try.prog 24 #[.pointer (some ⟨x, 0, none⟩), cactV wh 7 at_ fi (.slice a n c)] w fun e w' => e = .returned (.bool true) ∧ Dsk B w' x (m + 1) ∧ Below B w w' := by
  obtain ⟨i, hi, ei⟩ := and1_nat wh
  obtain ⟨τ0, p, r, nb, nK, v, cI, cJ, xI, xJ, D, sI, sJ, h0⟩ := h.at hi
  have hB0 := h0.hB
  obtain ⟨W, hW⟩ : ∃ W, W = w.alloc (.cells #[.int .i64 wh, .int .i64 7, .int .i64 at_, .int .i64 fi, (.slice a n c)] 36) := ⟨_, rfl⟩
  have bW : Below w.heap.size w W := by rw [hW]; exact (Below.refl _ _).alloc (Nat.le_refl _) _
  have h := h0.fresh bW
  have hsW : W.heap.size = w.heap.size + 1 := by rw [hW]; simp
  have t9 : tgN τ0 w.heap.size none 9 w.heap.size = 9 := tgN_hi (Nat.le_refl _)
  generalize tgN τ0 w.heap.size none 9 = τ at *
  clear h0
  obtain ⟨cC, _⟩ := h.cC
  have hxl := h.dt.tbl.lt
  have tx := h.dt.tx
  have hi2 : (i : Int) < 2 := by omega
  have aW : W.cell? ⟨w.heap.size, 0, none⟩ = some (.int .i64 wh) := by rw [hW]; simp
  obtain ⟨V, hV⟩ : ∃ V, V = W.drew := ⟨_, rfl⟩
  have hVs : V.heap.size = W.heap.size := by rw [hV]; rfl
  have bV : Below W.heap.size W V := by rw [hV]; exact (Below.refl _ _).drew
  have h : Dsi B τ V x p r nb m nK v i cI cJ xI xJ D sI sJ := by rw [hV]; exact h.drew
  have hxV : x < V.heap.size := by omega
  have FIN0 := hid (And.intro (h.up (show m ≤ m + 1 by omega)).dsk ((bW.mono hB0).trans (bV.mono (by omega))))
  rcases h.ps.nil with ⟨rfl, _⟩ | ⟨cq, rfl⟩
  · unfold cactV
    clear h bW bV
    go_enter Try.func24, Try.ntmps24
    go_wp2_with fail
    simp only [← hW]
    go_region_held3 (fun w' => w'.cell? ⟨w.heap.size, 0, none⟩ = some (.int .i64 wh) ∧ w'.cell? ⟨x, 1 + i, none⟩ = some (.pointer none)) (first | (exact ⟨by assumption, by assumption⟩) | go_keep) (fail)
    simp only [← hV]
    clear hW hV
    go_wp2_with fail
    go_ret
    exact ⟨rfl, FIN0.out⟩
  clear FIN0
  have c3 : V.cell? ⟨x, 3, none⟩ = some (.pointer (some ⟨r, 0, none⟩)) := by have := h.dt.tbl.cell 3; rw [← h.er]; exact this
  have c0 : V.cell? ⟨x, 0, none⟩ = some (.pointer (some ⟨p, 0, none⟩)) := by have := h.dt.tbl.cell 0; rw [← h.ed]; exact this
  have a0 : V.cell? ⟨w.heap.size, 0, none⟩ = some (.int .i64 wh) := by rw [hV, hW]; simp
  have a1 : V.cell? ⟨w.heap.size, 1, none⟩ = some (.int .i64 7) := by rw [hV, hW]; simp
  have a2 : V.cell? ⟨w.heap.size, 2, none⟩ = some (.int .i64 at_) := by rw [hV, hW]; simp
  have a3 : V.cell? ⟨w.heap.size, 3, none⟩ = some (.int .i64 fi) := by rw [hV, hW]; simp
  have a4 : V.cell? ⟨w.heap.size, 4, none⟩ = some (.slice a n c) := by rw [hV, hW]; simp
  have HB := hid hR.2.1
  have HR0 := hid hR
  have hBV := h.hB
  have HDa := hid (data_any (w := V.drew) (B := B) (by show B ≤ V.heap.size; omega) wh 7 at_ fi c (((hR.below (bW.mono hB0)).below (bV.mono (by omega))).below ((Below.refl _ _).drew)))
  unfold cactV at HDa
  clear hR
  have H := hid h
  have BW := hid (bW.trans (bV.mono (by omega)))
  clear h bW bV
  unfold cactV
  go_enter Try.func24, Try.ntmps24
  go_wp2_with fail
  simp only [← hW]
  go_region_held3 (fun w' => w'.cell? ⟨w.heap.size, 0, none⟩ = some (.int .i64 wh) ∧ w'.cell? ⟨x, 1 + i, none⟩ = some (.pointer (some ⟨cq, 0, none⟩))) (first | (exact ⟨by assumption, by assumption⟩) | go_keep) (fail)
  simp only [← hV]
  clear hW ei hV aW
  go_wp2_with fail
  have HA := hid (show ActC V w.heap.size wh 7 at_ fi (.slice a n c) from ⟨a0, a1, a2, a3, a4⟩)
  go_region_held3 (fun w' => w'.cell? ⟨x, 0, none⟩ = some (.pointer (some ⟨p, 0, none⟩)) ∧ w'.cell? ⟨x, 3, none⟩ = some (.pointer (some ⟨r, 0, none⟩)) ∧ w'.cell? ⟨w.heap.size, 0, none⟩ = some (.int .i64 wh) ∧ w'.cell? ⟨w.heap.size, 1, none⟩ = some (.int .i64 7) ∧ w'.cell? ⟨w.heap.size, 2, none⟩ = some (.int .i64 at_) ∧ w'.cell? ⟨w.heap.size, 3, none⟩ = some (.int .i64 fi) ∧ w'.cell? ⟨w.heap.size, 4, none⟩ = some (.slice a n c)) (first | (exact ⟨by assumption, by assumption, by assumption, by assumption, by assumption, by assumption, by assumption⟩) | (exact SK1.out) | (exact SK2.out) | (exact SK3.out) | (exact SK4.out) | go_keep)
    (first
      | (go_at_call 42; refine Calls.mono HDa.out ?_; rintro e w1 ⟨al, cp, rfl, hrd1, hb1⟩
         have b1 : Below V.heap.size V w1 := ⟨hb1.os, hb1.tape, hb1.output, hb1.size, hb1.block⟩
         have h1 := H.out.fresh b1
         have HA1 := hid (HA.out.keep (b1.block w.heap.size (by omega)))
         have SK1 := hid (And.intro ((b1.cell (p := ⟨x, 0, none⟩) hxV).trans c0) (And.intro ((b1.cell (p := ⟨x, 3, none⟩) hxV).trans c3) HA1.out))
         have HWr := hid (h1.ps.dwrite (by omega) h1.hp at_ al (dataZ fi zs).length cp (dataZ fi zs) (hrd1.low' (fun k hk q q' => by
           have : tgN τ V.heap.size none 9 k = 9 := by
             rcases q with q | q
             · exact h1.low k q
             · exact tgN_hi q
           omega)))
         have H1 := hid h1
         have B1 := hid b1
         have s1 := b1.size
         have ta : tgN τ V.heap.size none 9 w.heap.size = 9 := by rw [tgN_lo (by omega) (by simp)]; exact t9
         clear hb1 hrd1 b1 h1)
      | (go_at_call 35; refine Calls.mono HWr.out ?_; rintro e w3 ⟨rfl, ps3, b3⟩
         have s3 := b3.size
         have HA3 := hid (HA1.out.keep (b3.block w.heap.size (by omega) (by omega)))
         have k3 : ∀ t, w3.cell? ⟨x, t, none⟩ = w1.cell? ⟨x, t, none⟩ := fun t => World.cell?_of_block (a := ⟨x, t, none⟩) (b3.block x (by omega) (by rw [H1.out.dt.tx]; omega))
         have SK2 := hid (And.intro ((k3 0).trans SK1.out.1) (And.intro ((k3 3).trans SK1.out.2.1) HA3.out))
         have HP3 := hid (And.intro ps3 b3)
         clear ps3 b3 k3)
      | (go_at_call 5; refine Calls.mono (Num_any _ _) ?_; rintro e w3' ⟨rfl, rfl⟩
         have BB3 : Hid (Below B w w3') := ((BW.out.mono hB0).trans (B1.out.mono hBV)).trans (HP3.out.2.below H1.out.hB (fun y hy q => by have := H1.out.low y hy; omega))
         have HDb := data_any (w := w3') (B := B) (by omega) wh 7 at_ fi c (HR0.out.below BB3.out)
         unfold cactV at HDb
         have HDb := hid HDb)
      | (go_at_call 42; refine Calls.mono HDb.out ?_; rintro e w4 ⟨al2, cp2, rfl, hrd4, b4⟩
         have s4 := b4.size
         have HA4 := hid (HA3.out.keep (b4.block w.heap.size (by omega)))
         have SK3 := hid (And.intro ((b4.cell (p := ⟨x, 0, none⟩) (by show x < _; omega)).trans SK2.out.1) (And.intro ((b4.cell (p := ⟨x, 3, none⟩) (by show x < _; omega)).trans SK2.out.2.1) HA4.out))
         have HXw := hid ((H1.out.rs1 HP3.out.2 b4).dwrite (by omega) H1.out.hp at_ al2 (dataZ fi zs).length cp2 (dataZ fi zs) (hrd4.low' (fun k hk q q' => by
           rcases q with q | q
           · have := H1.out.low k q; omega
           · have : w3'.heap.size ≤ k := q
             omega)))
         have B4 := hid b4
         clear hrd4 b4)
      | (go_at_call 61; refine Calls.mono HXw.out ?_; rintro e w5 ⟨rfl, rs5, b5⟩
         have HA5 := hid (HA4.out.keep (b5.block w.heap.size (by omega) (by omega)))
         have k5 : ∀ t, w5.cell? ⟨x, t, none⟩ = w4.cell? ⟨x, t, none⟩ := fun t => World.cell?_of_block (a := ⟨x, t, none⟩) (b5.block x (by omega) (by rw [H1.out.dt.tx]; omega))
         have SK4 := hid (And.intro ((k5 0).trans SK3.out.1) (And.intro ((k5 3).trans SK3.out.2.1) HA5.out))
         have HP5 := hid (And.intro rs5 b5)
         clear rs5 b5 k5))
  have FIN : Hid (Dsk B w5 x (m + 1) ∧ Below B w w5) := by
    show _ ∧ _
    obtain ⟨hD2, b02⟩ := H1.out.both (al := none) (m' := m + 1) (D' := dwD D nb at_ _ _) (HP3.out.1.mono (fun k _ q => ⟨q, by simp⟩)) HP3.out.2 (fun y e => by cases e) B4.out HP5.out.1 HP5.out.2 (by omega) (H1.out.okI.up (by omega)) (H1.out.okJ.up (by omega)) H1.out.lI H1.out.lJ (by
      have := H1.out.hp
      unfold dwD
      dsimp only
      split
      · simp; omega
      · omega)
    exact ⟨hD2.dsk, ((BW.out.mono hB0).trans (B1.out.mono hBV)).trans (b02.below H1.out.hB (fun y hy q => by have := H1.out.low y hy; omega))⟩
  clear HDa HWr HDb HXw SK1 SK2 SK3 SK4 HA HA1 HA3 HA4 HA5 a0 a1 a2 a3 a4 H1 HP3 HP5
  go_wp2
  go_ret
  exact ⟨rfl, FIN.out⟩

end Go.Proofs.Ytfadnmdmohabmaa
