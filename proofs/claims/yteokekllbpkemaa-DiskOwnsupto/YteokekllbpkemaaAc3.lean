/-
  A desk: act (function 12): Flush, Fuse.
-/
import Derived.Test.YteokekllbpkemaaAc2
namespace Go.Proofs.Yteokekllbpkemaa
open Go.RowKit

/-- the tags behind a change of both disks -/
def flK (κ : Nat → Nat) (t S S1 y : Nat) : Nat := if y < S then κ y else if y < S1 then t + 2 else t + 3
theorem DskW.change {t : Nat} {κ : Nat → Nat} {w w1 w2 : World} {x m p r : Nat} {bv kv : Value} {img img' : List Int} {puts puts' : List (Nat × List Int)} {fu fu' : Int} {off off' : Bool} {nb : Nat} (h : DskW t κ w x m p r bv kv img puts fu off nb) (hz : ∀ y, w.heap.size ≤ y → κ y = 0)
    (hD : Dk (fun y => κ y = t + 2 ∨ w.heap.size ≤ y) w1 p img' puts' fu' off' nb) (b1 : But (fun y => κ y = t + 2) w w1) (hK : Rk (fun y => κ y = t + 3 ∨ w1.heap.size ≤ y) w2 r img' puts' fu' off' nb) (b2 : But (fun y => κ y = t + 3) w1 w2) (hp : puts'.length ≤ m + 1) :
    ActR t κ w x (m + 1) (.returned (.tuple #[.bool true, .slice none 0 0])) w2 := by
  have z1 := b1.size
  have z2 := b2.size
  have lo : ∀ y, y < w.heap.size → flK κ t w.heap.size w1.heap.size y = κ y := fun y hy => if_pos hy
  have bb : ∀ y, y < w.heap.size → κ y ≠ t + 2 → κ y ≠ t + 3 → w2.heap[y]? = w.heap[y]? := fun y hy n2 n3 => (b2.block y (by omega) n3).trans (b1.block y hy n2)
  refine ⟨.slice none 0 0, flK κ t w.heap.size w1.heap.size, rfl, hands_none _ _ _, ⟨bv, kv, _, _, h.ls.keep (fun y hy => bb y (h.ls.there hy) (by have := h.xl y hy; omega) (by have := h.xl y hy; omega)), fun y hy => by rw [lo y (h.ls.there hy)]; exact h.xl y hy, h.ks.keep (fun g e hl => bb g hl (by have := h.kt g e; omega) (by have := h.kt g e; omega)), fun g e => ?_,
    .inr ⟨p, r, img', puts', fu', off', nb, rfl, rfl, (hD.cut.but b2 (fun y hy hx => by have := hz y; omega)).mono (fun y hy => ?_), hK.cut.mono (fun y hy => ?_), hp⟩⟩, lo, (b1.mono (fun y _ hy => by unfold tg; omega)).comp b2 (fun y _ hy => by unfold tg; omega)⟩
  · rcases h.ks with h3 | ⟨g', M, ys, g1, g2, _⟩
    · rw [h3] at e; cases e
    · have e2 : g = g' := by rw [g1] at e; cases e; rfl
      rw [lo g (e2 ▸ g2.lt)]; exact h.kt g e
  · have := hz y
    unfold flK
    by_cases hl : y < w.heap.size
    · rw [if_pos hl]; omega
    · rw [if_neg hl, if_pos hy.2]
  · have := hz y
    unfold flK
    by_cases hl : y < w.heap.size
    · rw [if_pos hl]; omega
    · rw [if_neg hl, if_neg (by omega)]
set_option maxRecDepth 100000 in
set_option maxHeartbeats 4000000 in
theorem act4 {t : Nat} {κ : Nat → Nat} {w : World} {x m p r : Nat} {bv kv : Value} {img : List Int} {puts : List (Nat × List Int)} {fu : Int} {off : Bool} {nb : Nat} (h : DskW t κ w x m p r bv kv img puts fu off nb) (hm2 : m ≤ 134217727) (wh at_ fi : Int) (ra ke : Value) :
    Calls Try.prog 12 #[.pointer (some ⟨x, 0, none⟩), actV wh 4 at_ fi ra ke] w (ActR t κ w x (m + 1)) := by
  unfold actV
  obtain ⟨W, hW⟩ : ∃ W, W = w.alloc (.cells #[.int .i64 wh, .int .i64 4, .int .i64 at_, .int .i64 fi, ra, ke] 44) := ⟨_, rfl⟩
  obtain ⟨hb, hd, hx, hA, c0, c1, ck, c2, c3, c4, c5⟩ := h.ready hW
  refine Calls.mono (?_ : Calls Try.prog 12 _ w (ActR t (cutK κ w.heap.size) W x (m + 1))) (fun e w' q => ActR.shift hb q)
  have hlen := hd.len
  have Hd := hid hd
  have Hk0 : Hid (cutK κ w.heap.size w.heap.size = 0) := cutK_hi κ (Nat.le_refl _)
  have Hz : Hid (∀ y, W.heap.size ≤ y → cutK κ w.heap.size y = 0) := fun y hy => cutK_hi κ (by omega)
  have HO := hid (Flush_any hd.dk (by omega))
  have hx1 := hd.xl x (.inl rfl)
  have d1 := hW ▸ c1
  have d0 := hW ▸ c0
  have HW := hid hW
  have HC := hid (And.intro c0 c1)
  clear hd h hb hW c0 c1 c2 c3 c4 c5 ck
  go_enter Try.func12, Try.ntmps12
  go_wp2_with fail
  rw [← HW.out]
  clear d0 d1
  obtain ⟨c0, c1⟩ := HC.out
  refine Calls.mono HO.out ?_
  rintro e w1 ⟨rfl, hD1, hb1⟩
  have j1 := (hb1.cell (p := ⟨x, 1, none⟩) hx (by show ¬ cutK κ w.heap.size x = t + 2; omega)).trans c1
  have HP := hid (refFlush_any (Hd.out.rk.but hb1 (fun y h1 h2 => by omega)) (by omega))
  have HD1 := hid (And.intro hD1 hb1)
  clear hD1 hb1 HO c0 c1
  generalize hC : flushC off fu = C at *
  go_wp2_with fail
  refine Calls.mono HP.out ?_
  rintro e w2 ⟨rfl, hK2, hb2⟩
  have HK2 := hid (And.intro hK2 hb2)
  clear hK2 hb2 HP j1
  go_wp2_with fail
  refine (num_any C w2).mono ?_
  rintro e w7 ⟨rfl, e7⟩
  have e8 := e7.symm
  subst e8
  clear e7
  go_wp2
  go_ret2
  refine Hd.out.change Hz.out HD1.out.1 HD1.out.2 HK2.out.1 HK2.out.2 ?_
  split
  · simp
  · omega
set_option maxRecDepth 100000 in
set_option maxHeartbeats 4000000 in
theorem act5 {t : Nat} {κ : Nat → Nat} {w : World} {x m p r : Nat} {bv kv : Value} {img : List Int} {puts : List (Nat × List Int)} {fu : Int} {off : Bool} {nb : Nat} (h : DskW t κ w x m p r bv kv img puts fu off nb) (_hm2 : m ≤ 134217727) (wh at_ fi : Int) (ra ke : Value) (hat : at_ ≤ 9223372036854775807) :
    Calls Try.prog 12 #[.pointer (some ⟨x, 0, none⟩), actV wh 5 at_ fi ra ke] w (ActR t κ w x (m + 1)) := by
  unfold actV
  obtain ⟨W, hW⟩ : ∃ W, W = w.alloc (.cells #[.int .i64 wh, .int .i64 5, .int .i64 at_, .int .i64 fi, ra, ke] 44) := ⟨_, rfl⟩
  obtain ⟨hb, hd, hx, hA, c0, c1, ck, c2, c3, c4, c5⟩ := h.ready hW
  refine Calls.mono (?_ : Calls Try.prog 12 _ w (ActR t (cutK κ w.heap.size) W x (m + 1))) (fun e w' q => ActR.shift hb q)
  have hlen := hd.len
  have Hd := hid hd
  have Hk0 : Hid (cutK κ w.heap.size w.heap.size = 0) := cutK_hi κ (Nat.le_refl _)
  have Hz : Hid (∀ y, W.heap.size ≤ y → cutK κ w.heap.size y = 0) := fun y hy => cutK_hi κ (by omega)
  have HO := hid (Fuse_any (w := W.drew) (hd.dk.keep (w' := W.drew) (fun _ _ _ => rfl)) at_ hat)
  have hx1 := hd.xl x (.inl rfl)
  have hA0 : cutK κ w.heap.size w.heap.size = 0 := cutK_hi κ (Nat.le_refl _)
  have HP : Hid (∀ w1, But (fun y => cutK κ w.heap.size y = t + 2) W w1 → Calls Try.prog 36 #[.pointer (some ⟨r, 0, none⟩), .int .i64 at_] w1.drew fun e w' => e = .returned (.int .i64 (fuseR off at_)) ∧ Rk (fun y => cutK κ w.heap.size y = t + 3) w' r img puts (if fuseR off at_ = 0 then at_ else fu) off nb ∧ But (fun y => cutK κ w.heap.size y = t + 3) w1.drew w') := fun w1 hb1 => SetFuse_any (w := w1.drew) ((hd.rk.but hb1 (fun y h1 h2 => by omega)).keep (w' := w1.drew) (fun _ _ _ => rfl)) at_ hat
  have d1 := hW ▸ c1
  have d0 := hW ▸ c0
  have HW := hid hW
  have HC := hid (And.intro c0 (And.intro c1 c2))
  clear hd h hb hW c0 c1 c2 c3 c4 c5 ck
  go_enter Try.func12, Try.ntmps12
  go_wp2_with fail
  rw [← HW.out]
  clear d0 d1
  obtain ⟨c0, c1, c2⟩ := HC.out
  go_region_held3 (fun w' => w'.cell? ⟨x, 0, none⟩ = some (.pointer (some ⟨p, 0, none⟩)) ∧ w'.cell? ⟨w.heap.size, 2, none⟩ = some (.int .i64 at_)) (first | exact ⟨by assumption, by assumption⟩ | go_keep)
    ((go_at_call 35; refine Calls.mono HO.out ?_; rintro e w1 ⟨rfl, hD1, hb1⟩
      have HD1 := hid (And.intro hD1 (show But (fun y => cutK κ w.heap.size y = t + 2) W w1 from ⟨hb1.os, hb1.tape, hb1.output, hb1.size, hb1.block⟩))
      have j0 := (HD1.out.2.cell (p := ⟨x, 0, none⟩) hx (by show ¬ cutK κ w.heap.size x = t + 2; omega)).trans c0
      have j1 := (HD1.out.2.cell (p := ⟨x, 1, none⟩) hx (by show ¬ cutK κ w.heap.size x = t + 2; omega)).trans c1
      have j2 := (HD1.out.2.cell (p := ⟨w.heap.size, 2, none⟩) hA (by show ¬ cutK κ w.heap.size w.heap.size = t + 2; omega)).trans c2
      clear hD1 hb1))
  have HP1 := hid (HP.out w1 HD1.out.2)
  have hs1 := Nat.lt_of_lt_of_le hx HD1.out.2.size
  have hs2 := Nat.lt_of_lt_of_le hA HD1.out.2.size
  clear c0 c1 c2 j0 HO HP
  generalize hC : fuseR off at_ = C at *
  go_wp2_with fail
  go_region_held3 (fun w' => w'.cell? ⟨x, 1, none⟩ = some (.pointer (some ⟨r, 0, none⟩)) ∧ w'.cell? ⟨w.heap.size, 2, none⟩ = some (.int .i64 at_)) (first | exact ⟨by assumption, by assumption⟩ | go_keep)
    ((go_at_call 36; refine Calls.mono HP1.out ?_; rintro e w2 ⟨rfl, hK2, hb2⟩
      have HK2 := hid (And.intro hK2 (show But (fun y => cutK κ w.heap.size y = t + 3) w1 w2 from ⟨hb2.os, hb2.tape, hb2.output, hb2.size, hb2.block⟩))
      have i1 := (HK2.out.2.cell (p := ⟨x, 1, none⟩) hs1 (by show ¬ cutK κ w.heap.size x = t + 3; omega)).trans j1
      have i2 := (HK2.out.2.cell (p := ⟨w.heap.size, 2, none⟩) hs2 (by show ¬ cutK κ w.heap.size w.heap.size = t + 3; omega)).trans j2
      clear hK2 hb2))
  clear j1 j2 i1 i2 HP1
  go_wp2_with fail
  refine (num_any C w2).mono ?_
  rintro e w7 ⟨rfl, e7⟩
  have e8 := e7.symm
  subst e8
  clear e7
  go_wp2
  go_ret2
  exact Hd.out.change Hz.out (HD1.out.1.mono (fun _ h => .inl h)) HD1.out.2 (HK2.out.1.mono (fun _ h => .inl h)) HK2.out.2 (by omega)

end Go.Proofs.Yteokekllbpkemaa
