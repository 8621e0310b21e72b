/-
  The desk whole: promoted: On, Blocks, Pending, Image.
-/
import Derived.Test.YtfadnmdmohabmaaDe6
namespace Go.Proofs.Ytfadnmdmohabmaa
open Go.RowKit

set_option maxRecDepth 100000 in
set_option maxHeartbeats 4000000 in
theorem promoted_on {B : Nat} {w : World} {x m : Nat} (h : Dsk B w x m) (hm : m ≤ 1048576) (wh at_ fi : Int) (ra : Value) :
    Calls Try.prog 24 #[.pointer (some ⟨x, 0, none⟩), cactV wh 9 at_ fi ra] w fun e w' => e = .returned (.bool true) ∧ Dsk B w' x (m + 1) ∧ Below B w w' := by
  obtain ⟨i, hi, ei⟩ := and1_nat wh
  obtain ⟨τ0, p, r, nb, nK, v, cI, cJ, xI, xJ, D, sI, sJ, h0⟩ := h.at hi
  have hB0 := h0.hB
  obtain ⟨W, hW⟩ : ∃ W, W = w.alloc (.cells #[.int .i64 wh, .int .i64 9, .int .i64 at_, .int .i64 fi, ra] 36) := ⟨_, rfl⟩
  have bW : Below w.heap.size w W := by rw [hW]; exact (Below.refl _ _).alloc (Nat.le_refl _) _
  have h := h0.fresh bW
  have hsW : W.heap.size = w.heap.size + 1 := by rw [hW]; simp
  have t9 : tgN τ0 w.heap.size none 9 w.heap.size = 9 := tgN_hi (Nat.le_refl _)
  generalize tgN τ0 w.heap.size none 9 = τ at *
  clear h0
  obtain ⟨cC, _⟩ := h.cC
  have hxl := h.dt.tbl.lt
  have tx := h.dt.tx
  have hi2 : (i : Int) < 2 := by omega
  have aW : W.cell? ⟨w.heap.size, 0, none⟩ = some (.int .i64 wh) := by rw [hW]; simp
  obtain ⟨V, hV⟩ : ∃ V, V = W.drew := ⟨_, rfl⟩
  have hVs : V.heap.size = W.heap.size := by rw [hV]; rfl
  have bV : Below W.heap.size W V := by rw [hV]; exact (Below.refl _ _).drew
  have h : Dsi B τ V x p r nb m nK v i cI cJ xI xJ D sI sJ := by rw [hV]; exact h.drew
  have hxV : x < V.heap.size := by omega
  have FIN0 := hid (And.intro (h.up (show m ≤ m + 1 by omega)).dsk ((bW.mono hB0).trans (bV.mono (by omega))))
  rcases h.ps.nil with ⟨rfl, _⟩ | ⟨c, rfl⟩
  · unfold cactV
    clear h bW bV
    go_enter Try.func24, Try.ntmps24
    go_wp2_with fail
    simp only [← hW]
    go_region_held3 (fun w' => w'.cell? ⟨w.heap.size, 0, none⟩ = some (.int .i64 wh) ∧ w'.cell? ⟨x, 1 + i, none⟩ = some (.pointer none)) (first | (exact ⟨by assumption, by assumption⟩) | go_keep) (fail)
    simp only [← hV]
    clear hW hV
    go_wp2_with fail
    go_ret
    exact ⟨rfl, FIN0.out⟩
  clear FIN0
  obtain ⟨cc, hcl, hcP, _⟩ := h.ps.cell
  have c3 : V.cell? ⟨x, 3, none⟩ = some (.pointer (some ⟨r, 0, none⟩)) := by have := h.dt.tbl.cell 3; rw [← h.er]; exact this
  have c0 : V.cell? ⟨x, 0, none⟩ = some (.pointer (some ⟨p, 0, none⟩)) := by have := h.dt.tbl.cell 0; rw [← h.ed]; exact this
  have a1 : V.cell? ⟨w.heap.size, 1, none⟩ = some (.int .i64 9) := by rw [hV, hW]; simp
  have HC1 := hid h.ps.blocks
  have HC3 := hid (h.ps.pending (by omega) h.hp)
  have H := hid h
  have BW := hid (bW.trans (bV.mono (by omega)))
  clear h bW bV
  unfold cactV
  go_enter Try.func24, Try.ntmps24
  go_wp2_with fail
  simp only [← hW]
  go_region_held3 (fun w' => w'.cell? ⟨w.heap.size, 0, none⟩ = some (.int .i64 wh) ∧ w'.cell? ⟨x, 1 + i, none⟩ = some (.pointer (some ⟨c, 0, none⟩))) (first | (exact ⟨by assumption, by assumption⟩) | go_keep) (fail)
  simp only [← hV]
  clear hW ei hV aW
  go_wp2_with fail
  refine Calls.mono HC1.out ?_
  rintro e V1 ⟨rfl, rfl⟩
  go_wp2_with fail
  refine Calls.mono HC1.out ?_
  rintro e V2 ⟨rfl, rfl⟩
  go_wp2_with fail
  refine Calls.mono HC3.out ?_
  rintro e w3 ⟨g3, rfl, hg3, hB3, b3⟩
  have s3 := b3.size
  have d0 := (b3.cell (p := ⟨c, 0, none⟩) hcl).trans cc
  have HC4 := hid ((H.out.ps.below b3).image)
  have B3 := hid b3
  have HB3 := hid hB3
  clear b3 hB3 HC1 HC3
  go_wp2_with fail
  refine Calls.mono HC4.out ?_
  rintro e w4 ⟨g4, c4, rfl, hg4, hO4, b4⟩
  have s4 := b4.size
  have B4 := hid (B3.out.trans (b4.mono s3))
  have e0 := (b4.cell (p := ⟨c, 0, none⟩) (by show c < _; omega)).trans d0
  have e3 := (B4.out.cell (p := ⟨x, 3, none⟩) hxV).trans c3
  have HB4 := hid (And.intro (HB3.out.below b4 HB3.out.lt) hO4)
  have b4' := hid b4
  clear b4 hO4 HC4
  go_wp2_with fail
  refine Calls.mono (Num_any _ w4) ?_
  rintro e w4a ⟨rfl, rfl⟩
  go_wp2_with fail
  refine Calls.mono (Num_any _ w4a) ?_
  rintro e w4b ⟨rfl, rfl⟩
  go_wp2_with fail
  refine Calls.mono (Num_any _ w4b) ?_
  rintro e w4c ⟨rfl, rfl⟩
  go_wp2_with fail
  refine Calls.mono (Num_any _ w4c) ?_
  rintro e w4d ⟨rfl, rfl⟩
  have hr4 := (H.out.rs.below B4.out).offc
  have HOn := (H.out.ps.below B4.out).below (w' := w4d.drew) (Below.refl _ _).drew |>.on
  have e2 := hr4.1
  have hrl := hr4.2.1
  generalize D.off = o at HOn e2
  have HOn := hid HOn
  have hfx := H.out.ps.facts
  have hpl := H.out.hp
  have hnb := hfx.2.2.2
  have HFx := hid hfx
  clear hfx hr4
  go_wp2_with fail
  cases o
  · go_region_held3 (fun w' => w'.cell? ⟨c, 0, none⟩ = some (.pointer (some ⟨p, 0, none⟩)) ∧ w'.cell? ⟨x, 3, none⟩ = some (.pointer (some ⟨r, 0, none⟩)) ∧ w'.cell? ⟨r, 2, none⟩ = some (.bool false)) (first | (exact ⟨by assumption, by assumption, by assumption⟩) | (exact SK5.out) | (exact SK6.out) | (exact SK7.out) | (exact SK8.out) | go_keep)
      (first
        | (go_at_call 30; refine Calls.mono HOn.out ?_; rintro e w5 ⟨rfl, hb5⟩
           have b5 : Below w4d.heap.size w4d w5 := ⟨hb5.os, hb5.tape, hb5.output, hb5.size, hb5.block⟩
           have B5 := hid b5
           have SK5 := hid (And.intro ((b5.cell (p := ⟨c, 0, none⟩) (by show c < _; omega)).trans e0) (And.intro ((b5.cell (p := ⟨x, 3, none⟩) (by show x < _; omega)).trans e3) ((b5.cell (p := ⟨r, 2, none⟩) hrl).trans e2)))
           have HPd := hid (((H.out.rs.below B4.out).below b5).pending (by omega) H.out.hp)
           have s5 := b5.size
           clear hb5 b5)
        | (go_at_call 56; refine Calls.mono HPd.out ?_; rintro e w6 ⟨a6, c6, rfl, hR6, b6⟩
           have s6 := b6.size
           have B6 := hid b6
           have SK6 := hid (And.intro ((b6.cell (p := ⟨c, 0, none⟩) (by show c < _; omega)).trans SK5.out.1) (And.intro ((b6.cell (p := ⟨x, 3, none⟩) (by show x < _; omega)).trans SK5.out.2.1) ((b6.cell (p := ⟨r, 2, none⟩) (by show r < _; omega)).trans SK5.out.2.2)))
           have hg3l := HB4.out.1.lt
           have hb3 := ((HB4.out.1.below B5.out hg3l).below b6 (by omega))
           have HSI := hid (SameInts_eq w6.heap.size (some ⟨g3, 0, none⟩) a6 D.puts.length D.puts.length c6 _ w6 (Nat.le_refl _) (by omega) (by have := RdI.of_blk hb3 hb3.lt; rw [List.length_map] at this; exact this) hR6)
           clear b6 hR6 hb3)
        | (go_at_call 46; refine Calls.mono HSI.out ?_; rintro e w7 ⟨rfl, b7⟩
           have s7 := b7.size
           have B7 := hid b7
           have SK7 := hid (And.intro ((b7.cell (p := ⟨c, 0, none⟩) (by show c < _; omega)).trans SK6.out.1) (And.intro ((b7.cell (p := ⟨x, 3, none⟩) (by show x < _; omega)).trans SK6.out.2.1) ((b7.cell (p := ⟨r, 2, none⟩) (by show r < _; omega)).trans SK6.out.2.2)))
           have HIm := hid (((((H.out.rs.below B4.out).below B5.out).below B6.out).below b7).image HFx.out.1)
           clear b7)
        | (go_at_call 58; refine Calls.mono HIm.out ?_; rintro e w8 ⟨a8, c8, rfl, hR8, b8⟩
           have s8 := b8.size
           have B8 := hid b8
           have SK8 := hid (And.intro ((b8.cell (p := ⟨c, 0, none⟩) (by show c < _; omega)).trans SK7.out.1) (And.intro ((b8.cell (p := ⟨x, 3, none⟩) (by show x < _; omega)).trans SK7.out.2.1) ((b8.cell (p := ⟨r, 2, none⟩) (by show r < _; omega)).trans SK7.out.2.2)))
           have hO := ((((HB4.out.2.below B5.out).below B6.out).below B7.out).below b8)
           have HSB := hid (SameBytes_eq w8.heap.size (some ⟨g4, 0, none⟩) a8 D.img.length c4 (512 * nb) c8 D.img w8 (hO.rd HFx.out.1) hR8)
           clear b8 hR8 hO)
        | (go_at_call 57; refine Calls.mono HSB.out ?_; rintro e w9 ⟨rfl, rfl⟩))
    have FIN : Hid (Dsk B w9 x (m + 1) ∧ Below B w w9) := by
      show _ ∧ _
      have b := B4.out.trans ((B5.out.trans ((B6.out.trans ((B7.out.trans (B8.out.mono s7)).mono s6)).mono s5)).mono (by omega))
      exact ⟨((H.out.fresh b).up (by omega)).dsk, (BW.out.mono hB0).trans (b.mono H.out.hB)⟩
    clear HSB HIm HSI HPd HOn SK5 SK6 SK7 SK8 B5 B6 B7 B8 HB4 e0 e3 e2
    go_wp2
    go_ret
    exact ⟨rfl, FIN.out⟩
  · go_region_held3 (fun w' => w'.cell? ⟨c, 0, none⟩ = some (.pointer (some ⟨p, 0, none⟩)) ∧ w'.cell? ⟨x, 3, none⟩ = some (.pointer (some ⟨r, 0, none⟩)) ∧ w'.cell? ⟨r, 2, none⟩ = some (.bool true)) (first | (exact ⟨by assumption, by assumption, by assumption⟩) | (exact SK5.out) | (exact SK6.out) | (exact SK7.out) | (exact SK8.out) | go_keep)
      (first
        | (go_at_call 30; refine Calls.mono HOn.out ?_; rintro e w5 ⟨rfl, hb5⟩
           have b5 : Below w4d.heap.size w4d w5 := ⟨hb5.os, hb5.tape, hb5.output, hb5.size, hb5.block⟩
           have B5 := hid b5
           have SK5 := hid (And.intro ((b5.cell (p := ⟨c, 0, none⟩) (by show c < _; omega)).trans e0) (And.intro ((b5.cell (p := ⟨x, 3, none⟩) (by show x < _; omega)).trans e3) ((b5.cell (p := ⟨r, 2, none⟩) hrl).trans e2)))
           have HPd := hid (((H.out.rs.below B4.out).below b5).pending (by omega) H.out.hp)
           have s5 := b5.size
           clear hb5 b5)
        | (go_at_call 56; refine Calls.mono HPd.out ?_; rintro e w6 ⟨a6, c6, rfl, hR6, b6⟩
           have s6 := b6.size
           have B6 := hid b6
           have SK6 := hid (And.intro ((b6.cell (p := ⟨c, 0, none⟩) (by show c < _; omega)).trans SK5.out.1) (And.intro ((b6.cell (p := ⟨x, 3, none⟩) (by show x < _; omega)).trans SK5.out.2.1) ((b6.cell (p := ⟨r, 2, none⟩) (by show r < _; omega)).trans SK5.out.2.2)))
           have hg3l := HB4.out.1.lt
           have hb3 := ((HB4.out.1.below B5.out hg3l).below b6 (by omega))
           have HSI := hid (SameInts_eq w6.heap.size (some ⟨g3, 0, none⟩) a6 D.puts.length D.puts.length c6 _ w6 (Nat.le_refl _) (by omega) (by have := RdI.of_blk hb3 hb3.lt; rw [List.length_map] at this; exact this) hR6)
           clear b6 hR6 hb3)
        | (go_at_call 46; refine Calls.mono HSI.out ?_; rintro e w7 ⟨rfl, b7⟩
           have s7 := b7.size
           have B7 := hid b7
           have SK7 := hid (And.intro ((b7.cell (p := ⟨c, 0, none⟩) (by show c < _; omega)).trans SK6.out.1) (And.intro ((b7.cell (p := ⟨x, 3, none⟩) (by show x < _; omega)).trans SK6.out.2.1) ((b7.cell (p := ⟨r, 2, none⟩) (by show r < _; omega)).trans SK6.out.2.2)))
           have HIm := hid (((((H.out.rs.below B4.out).below B5.out).below B6.out).below b7).image HFx.out.1)
           clear b7)
        | (go_at_call 58; refine Calls.mono HIm.out ?_; rintro e w8 ⟨a8, c8, rfl, hR8, b8⟩
           have s8 := b8.size
           have B8 := hid b8
           have SK8 := hid (And.intro ((b8.cell (p := ⟨c, 0, none⟩) (by show c < _; omega)).trans SK7.out.1) (And.intro ((b8.cell (p := ⟨x, 3, none⟩) (by show x < _; omega)).trans SK7.out.2.1) ((b8.cell (p := ⟨r, 2, none⟩) (by show r < _; omega)).trans SK7.out.2.2)))
           have hO := ((((HB4.out.2.below B5.out).below B6.out).below B7.out).below b8)
           have HSB := hid (SameBytes_eq w8.heap.size (some ⟨g4, 0, none⟩) a8 D.img.length c4 (512 * nb) c8 D.img w8 (hO.rd HFx.out.1) hR8)
           clear b8 hR8 hO)
        | (go_at_call 57; refine Calls.mono HSB.out ?_; rintro e w9 ⟨rfl, rfl⟩))
    have FIN : Hid (Dsk B w9 x (m + 1) ∧ Below B w w9) := by
      show _ ∧ _
      have b := B4.out.trans ((B5.out.trans ((B6.out.trans ((B7.out.trans (B8.out.mono s7)).mono s6)).mono s5)).mono (by omega))
      exact ⟨((H.out.fresh b).up (by omega)).dsk, (BW.out.mono hB0).trans (b.mono H.out.hB)⟩
    clear HSB HIm HSI HPd HOn SK5 SK6 SK7 SK8 B5 B6 B7 B8 HB4 e0 e3 e2
    go_wp2
    go_ret
    exact ⟨rfl, FIN.out⟩

end Go.Proofs.Ytfadnmdmohabmaa
