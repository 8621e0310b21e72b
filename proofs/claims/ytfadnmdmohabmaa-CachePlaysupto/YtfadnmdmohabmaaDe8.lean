/-
  The desk whole: promoted: Crash.
-/
import Derived.Test.YtfadnmdmohabmaaDe6
namespace Go.Proofs.Ytfadnmdmohabmaa
open Go.RowKit

set_option maxRecDepth 100000 in
set_option maxHeartbeats 8000000 in
theorem promoted_crash {B : Nat} {w : World} {x m : Nat} (h : Dsk B w x m) (hm : m ≤ 1048576) (wh at_ fi : Int) (ra : Value) :
    Calls Try.prog 24 #[.pointer (some ⟨x, 0, none⟩), cactV wh 10 at_ fi ra] w fun e w' => e = .returned (.bool true) ∧ Dsk B w' x (m + 1) ∧ Below B w w' := by
  obtain ⟨i, hi, ei⟩ := and1_nat wh
  obtain ⟨τ0, p, r, nb, nK, v, cI, cJ, xI, xJ, D, sI, sJ, h0⟩ := h.at hi
  have hB0 := h0.hB
  obtain ⟨W, hW⟩ : ∃ W, W = w.alloc (.cells #[.int .i64 wh, .int .i64 10, .int .i64 at_, .int .i64 fi, ra] 36) := ⟨_, rfl⟩
  have bW : Below w.heap.size w W := by rw [hW]; exact (Below.refl _ _).alloc (Nat.le_refl _) _
  have h := h0.fresh bW
  have hsW : W.heap.size = w.heap.size + 1 := by rw [hW]; simp
  have t9 : tgN τ0 w.heap.size none 9 w.heap.size = 9 := tgN_hi (Nat.le_refl _)
  generalize tgN τ0 w.heap.size none 9 = τ at *
  clear h0
  obtain ⟨cC, _⟩ := h.cC
  have hxl := h.dt.tbl.lt
  have tx := h.dt.tx
  have hi2 : (i : Int) < 2 := by omega
  have aW : W.cell? ⟨w.heap.size, 0, none⟩ = some (.int .i64 wh) := by rw [hW]; simp
  obtain ⟨V, hV⟩ : ∃ V, V = W.drew := ⟨_, rfl⟩
  have hVs : V.heap.size = W.heap.size := by rw [hV]; rfl
  have bV : Below W.heap.size W V := by rw [hV]; exact (Below.refl _ _).drew
  have h : Dsi B τ V x p r nb m nK v i cI cJ xI xJ D sI sJ := by rw [hV]; exact h.drew
  have hxV : x < V.heap.size := by omega
  have FIN0 := hid (And.intro (h.up (show m ≤ m + 1 by omega)).dsk ((bW.mono hB0).trans (bV.mono (by omega))))
  rcases h.ps.nil with ⟨rfl, _⟩ | ⟨c, rfl⟩
  · unfold cactV
    clear h bW bV
    go_enter Try.func24, Try.ntmps24
    go_wp2_with fail
    simp only [← hW]
    go_region_held3 (fun w' => w'.cell? ⟨w.heap.size, 0, none⟩ = some (.int .i64 wh) ∧ w'.cell? ⟨x, 1 + i, none⟩ = some (.pointer none)) (first | (exact ⟨by assumption, by assumption⟩) | go_keep) (fail)
    simp only [← hV]
    clear hW hV
    go_wp2_with fail
    go_ret
    exact ⟨rfl, FIN0.out⟩
  clear FIN0
  obtain ⟨cc, hcl, hcP, _⟩ := h.ps.cell
  have c3 : V.cell? ⟨x, 3, none⟩ = some (.pointer (some ⟨r, 0, none⟩)) := by have := h.dt.tbl.cell 3; rw [← h.er]; exact this
  have c0 : V.cell? ⟨x, 0, none⟩ = some (.pointer (some ⟨p, 0, none⟩)) := by have := h.dt.tbl.cell 0; rw [← h.ed]; exact this
  unfold cactV
  by_cases hpl : placesC D.puts.length [at_] = 0
  · have a1 : V.cell? ⟨w.heap.size, 1, none⟩ = some (.int .i64 10) := by rw [hV, hW]; simp
    have a2 : V.cell? ⟨w.heap.size, 2, none⟩ = some (.int .i64 at_) := by rw [hV, hW]; simp
    have hfx := h.ps.facts
    have HFx := hid hfx
    have HPl := hid hpl
    have one : ∀ U : World, RdI (U.alloc (.cells #[.int .i64 at_] 3)).drew.heap.size (U.alloc (.cells #[.int .i64 at_] 3)).drew (some ⟨U.heap.size, 0, none⟩) 1 [at_] := fun U => ⟨rfl, .inr ⟨U.heap.size, 0, rfl, by show _ < (U.alloc (.cells #[.int .i64 at_] 3)).heap.size; simp, fun t ht => by
      obtain rfl : t = 0 := by omega
      show (U.alloc (.cells #[.int .i64 at_] 3)).cell? _ = _
      simp⟩⟩
    have bA : ∀ U : World, Below U.heap.size U (U.alloc (.cells #[.int .i64 at_] 3)).drew := fun U => ((Below.refl _ _).alloc (Nat.le_refl _) _).drew
    have HOne := hid (And.intro one bA)
    have HC := (h.ps.below (bA V)).crash (by omega) h.hp (some ⟨V.heap.size, 0, none⟩) 1 1 [at_] (by omega) (one V)
    have HC := hid (Calls.mono (R' := fun e w' => Below V.heap.size V w' ∧ (∃ g c4, e = .returned (.tuple #[.slice (some ⟨g, 0, none⟩) D.img.length c4, .int .i64 0]) ∧ V.heap.size ≤ g ∧ Own w' g D.img.length c4 (crashZ D.img D.puts [at_]) ∧ Pl.isB (crashZ D.img D.puts [at_]))) HC (by
      rintro e w' ⟨hb, hq⟩
      refine ⟨(bA V).trans (hb.mono (bA V).size), ?_⟩
      rcases hq with ⟨q, _⟩ | ⟨_, g, c4, q1, q2, q3, q4⟩
      · exact absurd hpl q
      · exact ⟨g, c4, q1, Nat.le_trans (bA V).size q2, q3, q4⟩))
    clear one bA hfx hpl
    have hwV : w.heap.size < V.heap.size := by omega
    have H := hid h
    have BW := hid (bW.trans (bV.mono (by omega)))
    clear h bW bV
    go_enter Try.func24, Try.ntmps24
    go_wp2_with fail
    simp only [← hW]
    go_region_held3 (fun w' => w'.cell? ⟨w.heap.size, 0, none⟩ = some (.int .i64 wh) ∧ w'.cell? ⟨x, 1 + i, none⟩ = some (.pointer (some ⟨c, 0, none⟩))) (first | (exact ⟨by assumption, by assumption⟩) | go_keep) (fail)
    simp only [← hV]
    clear hW ei hV aW
    go_wp2_with fail
    clear hsW hVs
    go_region_held3 (fun w' => w'.cell? ⟨c, 0, none⟩ = some (.pointer (some ⟨p, 0, none⟩)) ∧ w'.cell? ⟨w.heap.size, 2, none⟩ = some (.int .i64 at_)) (first | (exact ⟨by assumption, by assumption⟩) | (exact SK1.out) | go_keep)
      ((go_at_call 59; refine Calls.mono HC.out ?_; rintro e w1 ⟨b1, g, c4, rfl, hg, hO, hBz⟩
        have s1 := b1.size
        have d3 := (b1.cell (p := ⟨x, 3, none⟩) hxV).trans c3
        have d2 := (b1.cell (p := ⟨w.heap.size, 2, none⟩) (by show w.heap.size < _; omega)).trans a2
        have SK1 := hid (And.intro ((b1.cell (p := ⟨c, 0, none⟩) hcl).trans cc) d2)
        have B1 := hid b1
        have HO := hid (And.intro hO hBz)
        clear b1 hO hBz))
    have HX := (((H.out.rs.below B1.out).below (HOne.out.2 w1)).crash (by omega) H.out.hp HFx.out.1 HFx.out.2.2.1 (some ⟨w1.heap.size, 0, none⟩) 1 1 [at_] (by omega) (HOne.out.1 w1))
    have HX := hid (Calls.mono (R' := fun e w' => Below w1.heap.size w1 w' ∧ (∃ a2 c2, e = .returned (.tuple #[.slice a2 (512 * nb) c2, .int .i64 0]) ∧ Rd w'.heap.size w' a2 (512 * nb) (crashZ D.img D.puts [at_]))) HX (by
      rintro e w' ⟨hb, hq⟩
      refine ⟨(HOne.out.2 w1).trans (hb.mono (HOne.out.2 w1).size), ?_⟩
      rcases hq with ⟨q, _⟩ | ⟨_, q⟩
      · exact absurd HPl.out q
      · exact q))
    clear HC SK1
    go_wp2_with fail
    go_region_held3 (fun w' => w'.cell? ⟨x, 3, none⟩ = some (.pointer (some ⟨r, 0, none⟩)) ∧ w'.cell? ⟨w.heap.size, 2, none⟩ = some (.int .i64 at_)) (first | (exact ⟨by assumption, by assumption⟩) | (exact SK2.out) | go_keep)
      ((go_at_call 60; refine Calls.mono HX.out ?_; rintro e w2 ⟨b2, a8, c8, rfl, hR8⟩
        have s2 := b2.size
        have SK2 := hid (And.intro ((b2.cell (p := ⟨x, 3, none⟩) (by show x < _; omega)).trans d3) ((b2.cell (p := ⟨w.heap.size, 2, none⟩) (by show w.heap.size < _; omega)).trans d2))
        have B2 := hid b2
        have HR8 := hid hR8
        clear b2 hR8))
    have HSB := hid (SameBytes_eq w2.heap.size (some ⟨g, 0, none⟩) a8 D.img.length c4 (512 * nb) c8 (crashZ D.img D.puts [at_]) w2 ((HO.out.1.below B2.out).rd HO.out.2) HR8.out)
    have FIN : Hid (Dsk B w2 x (m + 1) ∧ Below B w w2) := by
      show _ ∧ _
      have b := B1.out.trans (B2.out.mono s1)
      exact ⟨((H.out.fresh b).up (by omega)).dsk, (BW.out.mono hB0).trans (b.mono H.out.hB)⟩
    clear HX SK2 d2 d3
    go_wp2_with fail
    refine Calls.mono (Num_any _ w2) ?_
    rintro e w2a ⟨rfl, rfl⟩
    go_wp2_with fail
    refine Calls.mono HSB.out ?_
    rintro e w2b ⟨rfl, rfl⟩
    go_wp2
    go_ret
    exact ⟨rfl, FIN.out⟩
  · have a1 : V.cell? ⟨w.heap.size, 1, none⟩ = some (.int .i64 10) := by rw [hV, hW]; simp
    have a2 : V.cell? ⟨w.heap.size, 2, none⟩ = some (.int .i64 at_) := by rw [hV, hW]; simp
    have hfx := h.ps.facts
    have HFx := hid hfx
    have HPl := hid hpl
    have one : ∀ U : World, RdI (U.alloc (.cells #[.int .i64 at_] 3)).drew.heap.size (U.alloc (.cells #[.int .i64 at_] 3)).drew (some ⟨U.heap.size, 0, none⟩) 1 [at_] := fun U => ⟨rfl, .inr ⟨U.heap.size, 0, rfl, by show _ < (U.alloc (.cells #[.int .i64 at_] 3)).heap.size; simp, fun t ht => by
      obtain rfl : t = 0 := by omega
      show (U.alloc (.cells #[.int .i64 at_] 3)).cell? _ = _
      simp⟩⟩
    have bA : ∀ U : World, Below U.heap.size U (U.alloc (.cells #[.int .i64 at_] 3)).drew := fun U => ((Below.refl _ _).alloc (Nat.le_refl _) _).drew
    have HOne := hid (And.intro one bA)
    have HC := (h.ps.below (bA V)).crash (by omega) h.hp (some ⟨V.heap.size, 0, none⟩) 1 1 [at_] (by omega) (one V)
    have HC := hid (Calls.mono (R' := fun e w' => Below V.heap.size V w' ∧ (e = .returned (.tuple #[.slice none 0 0, .int .i64 26]))) HC (by
      rintro e w' ⟨hb, hq⟩
      refine ⟨(bA V).trans (hb.mono (bA V).size), ?_⟩
      rcases hq with ⟨_, q⟩ | ⟨q, _⟩
      · exact q
      · exact absurd q hpl))
    clear one bA hfx hpl
    have hwV : w.heap.size < V.heap.size := by omega
    have H := hid h
    have BW := hid (bW.trans (bV.mono (by omega)))
    clear h bW bV
    go_enter Try.func24, Try.ntmps24
    go_wp2_with fail
    simp only [← hW]
    go_region_held3 (fun w' => w'.cell? ⟨w.heap.size, 0, none⟩ = some (.int .i64 wh) ∧ w'.cell? ⟨x, 1 + i, none⟩ = some (.pointer (some ⟨c, 0, none⟩))) (first | (exact ⟨by assumption, by assumption⟩) | go_keep) (fail)
    simp only [← hV]
    clear hW ei hV aW
    go_wp2_with fail
    clear hsW hVs
    go_region_held3 (fun w' => w'.cell? ⟨c, 0, none⟩ = some (.pointer (some ⟨p, 0, none⟩)) ∧ w'.cell? ⟨w.heap.size, 2, none⟩ = some (.int .i64 at_)) (first | (exact ⟨by assumption, by assumption⟩) | (exact SK1.out) | go_keep)
      ((go_at_call 59; refine Calls.mono HC.out ?_; rintro e w1 ⟨b1, rfl⟩
        have s1 := b1.size
        have d3 := (b1.cell (p := ⟨x, 3, none⟩) hxV).trans c3
        have d2 := (b1.cell (p := ⟨w.heap.size, 2, none⟩) (by show w.heap.size < _; omega)).trans a2
        have SK1 := hid (And.intro ((b1.cell (p := ⟨c, 0, none⟩) hcl).trans cc) d2)
        have B1 := hid b1
        have HO := hid (Eq.refl 1)
        clear b1))
    have HX := (((H.out.rs.below B1.out).below (HOne.out.2 w1)).crash (by omega) H.out.hp HFx.out.1 HFx.out.2.2.1 (some ⟨w1.heap.size, 0, none⟩) 1 1 [at_] (by omega) (HOne.out.1 w1))
    have HX := hid (Calls.mono (R' := fun e w' => Below w1.heap.size w1 w' ∧ (e = .returned (.tuple #[.slice none 0 0, .int .i64 26]))) HX (by
      rintro e w' ⟨hb, hq⟩
      refine ⟨(HOne.out.2 w1).trans (hb.mono (HOne.out.2 w1).size), ?_⟩
      rcases hq with ⟨_, q⟩ | ⟨q, _⟩
      · exact q
      · exact absurd q HPl.out))
    clear HC SK1
    go_wp2_with fail
    go_region_held3 (fun w' => w'.cell? ⟨x, 3, none⟩ = some (.pointer (some ⟨r, 0, none⟩)) ∧ w'.cell? ⟨w.heap.size, 2, none⟩ = some (.int .i64 at_)) (first | (exact ⟨by assumption, by assumption⟩) | (exact SK2.out) | go_keep)
      ((go_at_call 60; refine Calls.mono HX.out ?_; rintro e w2 ⟨b2, rfl⟩
        have s2 := b2.size
        have SK2 := hid (And.intro ((b2.cell (p := ⟨x, 3, none⟩) (by show x < _; omega)).trans d3) ((b2.cell (p := ⟨w.heap.size, 2, none⟩) (by show w.heap.size < _; omega)).trans d2))
        have B2 := hid b2
        have HR8 := hid (Eq.refl 1)
        clear b2))
    have HSB := hid (SameBytes_eq w2.heap.size none none 0 0 0 0 [] w2 ⟨rfl, Pl.isB_nil, .inl rfl⟩ ⟨rfl, Pl.isB_nil, .inl rfl⟩)
    have FIN : Hid (Dsk B w2 x (m + 1) ∧ Below B w w2) := by
      show _ ∧ _
      have b := B1.out.trans (B2.out.mono s1)
      exact ⟨((H.out.fresh b).up (by omega)).dsk, (BW.out.mono hB0).trans (b.mono H.out.hB)⟩
    clear HX SK2 d2 d3
    go_wp2_with fail
    refine Calls.mono (Num_any _ w2) ?_
    rintro e w2a ⟨rfl, rfl⟩
    go_wp2_with fail
    refine Calls.mono HSB.out ?_
    rintro e w2b ⟨rfl, rfl⟩
    go_wp2
    go_ret
    exact ⟨rfl, FIN.out⟩

end Go.Proofs.Ytfadnmdmohabmaa
