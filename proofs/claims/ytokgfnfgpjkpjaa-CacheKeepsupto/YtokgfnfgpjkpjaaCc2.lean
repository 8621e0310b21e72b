/-
  CacheReads: alike, a Fuse; alike of any act.
-/
import Derived.Test.YtokgfnfgpjkpjaaCc1
import Derived.Test.YtokgfnfgpjkpjaaSc
namespace Go.Proofs.Ytokgfnfgpjkpjaa
open Go.RowKit

set_option maxRecDepth 100000 in
set_option maxHeartbeats 4000000 in
theorem alike8 {B : Nat} {w0 w : World} {c p p2 room nb m : Nat} (h : Duo B w0 w c p p2 room nb m) (wh at_ fi : Int) (ra : Value) (hat : at_ ≤ 9223372036854775807) :
    Calls Try.prog 19 #[.pointer (some ⟨c, 0, none⟩), .pointer (some ⟨p2, 0, none⟩), cactV wh 8 at_ fi ra] w fun q w' => q = .returned (.bool true) ∧ Duo B w0 w' c p p2 room nb (m + 1) := by
  obtain ⟨W, hW⟩ : ∃ W, W = w.alloc (.cells #[.int .i64 wh, .int .i64 8, .int .i64 at_, .int .i64 fi, ra] 42) := ⟨_, rfl⟩
  have bW : Below w.heap.size w W := by rw [hW]; exact (Below.refl _ _).alloc (Nat.le_refl _) _
  have zW : W.heap.size = w.heap.size + 1 := by rw [hW]; simp
  have kW : W.heap[w.heap.size]? = some (.cells #[.int .i64 wh, .int .i64 8, .int .i64 at_, .int .i64 fi, ra] 42 (0, 0)) := by
    rw [hW]
    show (w.heap.push _)[w.heap.size]? = _
    simp
  obtain ⟨X, Y, X2, hi, mi, l, img, puts, fu, off, h1, h2, h3, h4, h5, h6, h7, h8⟩ := h
  obtain ⟨c0, c1, c2, c3, c4⟩ := five_cells kW
  have T := h1.below bW
  obtain ⟨v2, v3, cg, hYc⟩ := T.cd.cg
  have e0 : W.cell? ⟨c, 0, none⟩ = some (.pointer (some ⟨p, 0, none⟩)) := cg.cell 0
  have hcl := cg.lt
  have TD := h1.below bW.drew
  have HF := hid (Fuse_any TD.cd.dk at_ hat)
  have HQ : Hid (∀ w1, Dk (fun k => X k ∧ k < w.heap.size) w1 p img puts (if fuseR off at_ = 0 then at_ else fu) off nb → But (fun k => X k ∧ k < w.heap.size) W.drew w1 → (w1.cell? ⟨c, 0, none⟩ = some (.pointer (some ⟨p, 0, none⟩)) ∧ w1.cell? ⟨w.heap.size, 2, none⟩ = some (.int .i64 at_)) ∧ Calls Try.prog 15 #[.pointer (some ⟨p2, 0, none⟩), .int .i64 at_] w1 fun e w' => e = .returned (.int .i64 (fuseR off at_)) ∧ Duo B w0 w' c p p2 room nb (m + 1) ∧ (w'.cell? ⟨c, 0, none⟩ = some (.pointer (some ⟨p, 0, none⟩)) ∧ w'.cell? ⟨w.heap.size, 2, none⟩ = some (.int .i64 at_))) := fun w1 d1 b1 => by
    obtain ⟨⟨X', Y', cd1, g1⟩, b1'⟩ := TD.cd.disk (d1.mono (fun k q => .inl q)) b1
    have k0 := (b1.cell (p := ⟨c, 0, none⟩) hcl (fun q => T.cd.dj c hYc q)).trans e0
    have k2 := (b1.cell (p := ⟨w.heap.size, 2, none⟩) (show w.heap.size < W.heap.size by omega) (fun q => Nat.lt_irrefl _ q.2)).trans c2
    have s1 := b1.size
    have zD : W.drew.heap.size = W.heap.size := rfl
    refine ⟨⟨k0, k2⟩, Calls.mono (Fuse_any (TD.next cd1 g1 b1').1 at_ hat) ?_⟩
    rintro e w2 ⟨rfl, d2, b2⟩
    refine ⟨rfl, Duo.of TD (fun k q => h6 k (by rcases q with q | q | q; exact .inl q.1; exact .inr (.inl q.1); exact .inr (.inr q.1))) (by omega) (h8.trans (bW.drew.mono h7)) cd1 g1 b1' (d2.mono (fun k q => .inl q)) b2 h2 (by omega) (by omega) (by omega), ?_, ?_⟩
    · exact (b2.cell (p := ⟨c, 0, none⟩) (by show c < w1.heap.size; omega) (fun q => (T.dx c q.1).2 hYc)).trans k0
    · exact (b2.cell (p := ⟨w.heap.size, 2, none⟩) (show w.heap.size < w1.heap.size by omega) (fun q => Nat.lt_irrefl _ q.1.2)).trans k2
  generalize fuseR off at_ = C at *
  clear h1 h2 h6 h8 bW T TD kW zW cg hYc
  unfold cactV at *
  go_enter Try.func19, Try.ntmps19
  go_wp2_with fail
  rw [← hW]
  clear hW
  go_region_held3 (fun w' => w'.cell? ⟨c, 0, none⟩ = some (.pointer (some ⟨p, 0, none⟩)) ∧ w'.cell? ⟨w.heap.size, 2, none⟩ = some (.int .i64 at_)) (first | exact ⟨by assumption, by assumption⟩ | go_keep)
    ((first
      | (go_at_call 15; refine Calls.mono K1.out.2 ?_; rintro e w2 ⟨rfl, hduo, l0, l1⟩
         have FIN := hid hduo
         clear hduo)
      | (go_at_call 15; refine Calls.mono HF.out ?_; rintro e w1 ⟨rfl, r1, b1⟩
         have K1 := hid (HQ.out w1 r1 b1)
         have d0 := K1.out.1.1
         have d1 := K1.out.1.2
         clear r1 b1)))
  go_wp2
  go_ret
  exact ⟨by simp, FIN.out⟩
theorem alike_any {B : Nat} {w0 w : World} {c p p2 room nb m : Nat} (h : Duo B w0 w c p p2 room nb m) (hm : m ≤ 1073741823) {d : CAct} (hd : d.Ok B w0) :
    Calls Try.prog 19 #[.pointer (some ⟨c, 0, none⟩), .pointer (some ⟨p2, 0, none⟩), d.val] w fun q w' => q = .returned (.bool true) ∧ Duo B w0 w' c p p2 room nb (m + 1) := by
  obtain ⟨wh, kd, at_, fi, aR, nR, cR, zs⟩ := d
  unfold CAct.val
  by_cases k1 : kd = 1
  · subst k1; exact alike1 h hm wh at_ fi _ hd.wf
  by_cases k2 : kd = 2
  · subst k2; exact alike2 h hm wh at_ fi cR hd.rd
  by_cases k3 : kd = 3
  · subst k3; exact alike3 h hm wh at_ fi _
  by_cases k6 : kd = 6
  · subst k6; exact alike6 h wh at_ fi _
  by_cases k8 : kd = 8
  · subst k8; exact alike8 h wh at_ fi _ (by have := hd.wf; simp [Lit.wf] at this; omega)
  exact alike0 h wh kd at_ fi _ k1 k2 k3 k6 k8

end Go.Proofs.Ytokgfnfgpjkpjaa
