/-
  A desk: act (function 12): On, Blocks, Pending, Image.
-/
import Derived.Test.YteokekllbpkemaaAc1
namespace Go.Proofs.Yteokekllbpkemaa
open Go.RowKit

theorem Rk.cells {X : Nat → Prop} {w : World} {r : Nat} {img : List Int} {puts : List (Nat × List Int)} {fu : Int} {off : Bool} {nb : Nat} (h : Rk X w r img puts fu off nb) : r < w.heap.size ∧ w.cell? ⟨r, 2, none⟩ = some (.bool off) ∧ ∃ aL cL, w.cell? ⟨r, 0, none⟩ = some (.slice aL nb cL) := by
  obtain ⟨lv, pv, h⟩ := h
  obtain ⟨aL, cL, rfl, _⟩ := owns_slice h.rowL
  have q2 := h.blk.cell 2
  have q0 := h.blk.cell 0
  simp only [List.getElem?_toArray, List.getElem?_cons_succ, List.getElem?_cons_zero] at q2 q0
  exact ⟨h.blk.lt, q2, aL, cL, q0⟩
set_option maxRecDepth 100000 in
set_option maxHeartbeats 4000000 in
theorem act6 {t : Nat} {κ : Nat → Nat} {w : World} {x m p r : Nat} {bv kv : Value} {img : List Int} {puts : List (Nat × List Int)} {fu : Int} {off : Bool} {nb : Nat} (h : DskW t κ w x m p r bv kv img puts fu off nb) (_hm2 : m ≤ 134217727) (wh at_ fi : Int) (ra ke : Value) :
    Calls Try.prog 12 #[.pointer (some ⟨x, 0, none⟩), actV wh 6 at_ fi ra ke] w (ActR t κ w x (m + 1)) := by
  unfold actV
  obtain ⟨W, hW⟩ : ∃ W, W = w.alloc (.cells #[.int .i64 wh, .int .i64 6, .int .i64 at_, .int .i64 fi, ra, ke] 44) := ⟨_, rfl⟩
  obtain ⟨hb, hd, hx, hA, c0, c1, ck, c2, c3, c4, c5⟩ := h.ready hW
  refine Calls.mono (?_ : Calls Try.prog 12 _ w (ActR t (cutK κ w.heap.size) W x (m + 1))) (fun e w' q => ActR.shift hb q)
  have hlen := hd.len
  have Hd := hid hd
  have Hk0 : Hid (cutK κ w.heap.size w.heap.size = 0) := cutK_hi κ (Nat.le_refl _)
  have HO := hid (On_any (w := W.drew) (hd.dk.keep (w' := W.drew) (fun _ _ _ => rfl)))
  obtain ⟨hr, r2, _⟩ := hd.rk.cells
  have d1 := hW ▸ c1
  have d0 := hW ▸ c0
  have HW := hid hW
  have HC := hid (And.intro c0 (And.intro c1 r2))
  clear hd h hb hW c0 c1 c2 c3 c4 c5 ck
  go_enter Try.func12, Try.ntmps12
  go_wp2_with fail
  rw [← HW.out]
  clear d0 d1
  obtain ⟨c0, c1, r2⟩ := HC.out
  go_region_held3 (fun w' => w'.cell? ⟨x, 0, none⟩ = some (.pointer (some ⟨p, 0, none⟩)) ∧ w'.cell? ⟨x, 1, none⟩ = some (.pointer (some ⟨r, 0, none⟩)) ∧ w'.cell? ⟨r, 2, none⟩ = some (.bool off)) (first | exact ⟨by assumption, by assumption, by assumption⟩ | go_keep)
    ((go_at_call 37; refine Calls.mono HO.out ?_; rintro e w1 ⟨rfl, hb1⟩
      have Hb1 := hid (undrew hb1)
      have j0 := (Hb1.out.cell (p := ⟨x, 0, none⟩) hx).trans c0
      have j1 := (Hb1.out.cell (p := ⟨x, 1, none⟩) hx).trans c1
      have j2 := (Hb1.out.cell (p := ⟨r, 2, none⟩) hr).trans r2
      clear hb1))
  clear c0 c1 r2 j0 j1 j2 HO
  go_wp2
  go_ret2
  exact Hd.out.still Hb1.out none [] 0 (.inl ⟨rfl, rfl, rfl⟩)
set_option maxRecDepth 100000 in
set_option maxHeartbeats 4000000 in
theorem act7 {t : Nat} {κ : Nat → Nat} {w : World} {x m p r : Nat} {bv kv : Value} {img : List Int} {puts : List (Nat × List Int)} {fu : Int} {off : Bool} {nb : Nat} (h : DskW t κ w x m p r bv kv img puts fu off nb) (_hm2 : m ≤ 134217727) (wh at_ fi : Int) (ra ke : Value) :
    Calls Try.prog 12 #[.pointer (some ⟨x, 0, none⟩), actV wh 7 at_ fi ra ke] w (ActR t κ w x (m + 1)) := by
  unfold actV
  obtain ⟨W, hW⟩ : ∃ W, W = w.alloc (.cells #[.int .i64 wh, .int .i64 7, .int .i64 at_, .int .i64 fi, ra, ke] 44) := ⟨_, rfl⟩
  obtain ⟨hb, hd, hx, hA, c0, c1, ck, c2, c3, c4, c5⟩ := h.ready hW
  refine Calls.mono (?_ : Calls Try.prog 12 _ w (ActR t (cutK κ w.heap.size) W x (m + 1))) (fun e w' q => ActR.shift hb q)
  have hlen := hd.len
  have Hd := hid hd
  have Hk0 : Hid (cutK κ w.heap.size w.heap.size = 0) := cutK_hi κ (Nat.le_refl _)
  have HO := hid (Blocks_any hd.dk)
  obtain ⟨hr, r2, aL, cL, r0⟩ := hd.rk.cells
  have d1 := hW ▸ c1
  have d0 := hW ▸ c0
  have HW := hid hW
  have HC := hid (And.intro c0 (And.intro c1 r0))
  clear hd h hb hW c0 c1 c2 c3 c4 c5 ck
  go_enter Try.func12, Try.ntmps12
  go_wp2_with fail
  rw [← HW.out]
  clear d0 d1
  obtain ⟨c0, c1, r0⟩ := HC.out
  refine Calls.mono HO.out ?_
  rintro e w1 ⟨rfl, rfl⟩
  clear HO
  go_wp2_with fail
  refine (num_any 0 w1).mono ?_
  rintro e w7 ⟨rfl, e7⟩
  have e8 := e7.symm
  subst e8
  clear e7
  go_wp2
  go_ret2
  exact Hd.out.still (Below.refl _ _) none [] 0 (.inl ⟨rfl, rfl, rfl⟩)
set_option maxRecDepth 100000 in
set_option maxHeartbeats 4000000 in
theorem act8 {t : Nat} {κ : Nat → Nat} {w : World} {x m p r : Nat} {bv kv : Value} {img : List Int} {puts : List (Nat × List Int)} {fu : Int} {off : Bool} {nb : Nat} (h : DskW t κ w x m p r bv kv img puts fu off nb) (hm2 : m ≤ 134217727) (wh at_ fi : Int) (ra ke : Value) :
    Calls Try.prog 12 #[.pointer (some ⟨x, 0, none⟩), actV wh 8 at_ fi ra ke] w (ActR t κ w x (m + 1)) := by
  unfold actV
  obtain ⟨W, hW⟩ : ∃ W, W = w.alloc (.cells #[.int .i64 wh, .int .i64 8, .int .i64 at_, .int .i64 fi, ra, ke] 44) := ⟨_, rfl⟩
  obtain ⟨hb, hd, hx, hA, c0, c1, ck, c2, c3, c4, c5⟩ := h.ready hW
  refine Calls.mono (?_ : Calls Try.prog 12 _ w (ActR t (cutK κ w.heap.size) W x (m + 1))) (fun e w' q => ActR.shift hb q)
  have hlen := hd.len
  have Hd := hid hd
  have Hk0 : Hid (cutK κ w.heap.size w.heap.size = 0) := cutK_hi κ (Nat.le_refl _)
  have HO := hid (Pending_any hd.dk (by omega))
  have d1 := hW ▸ c1
  have d0 := hW ▸ c0
  have HW := hid hW
  have HC := hid (And.intro c0 c1)
  clear hd h hb hW c0 c1 c2 c3 c4 c5 ck
  go_enter Try.func12, Try.ntmps12
  go_wp2_with fail
  rw [← HW.out]
  clear d0 d1
  obtain ⟨c0, c1⟩ := HC.out
  refine Calls.mono HO.out ?_
  rintro e w1 ⟨g, rfl, hg, hB1, hb1⟩
  have j1 := (hb1.cell (p := ⟨x, 1, none⟩) hx).trans c1
  have HP := hid (refPending_any (Hd.out.rk.below hb1) (by omega))
  have HB1 := hid hB1
  have Hb1 := hid hb1
  clear hg hB1 hb1 HO c0 c1
  go_wp2_with fail
  refine Calls.mono HP.out ?_
  rintro e w2 ⟨a2, c2, rfl, hr2, hb2⟩
  have hlp : (puts.map fun q => (q.1 : Int)).length = puts.length := by simp
  have HS := hid (SameInts_eq w2.heap.size (some ⟨g, 0, none⟩) a2 puts.length puts.length c2 (atsQ puts) w2 (Nat.le_refl _) (by omega) (by have h := (RdI.of_blk (HB1.out.below hb2 HB1.out.lt) (B := w2.heap.size) (HB1.out.below hb2 HB1.out.lt).lt); rw [hlp] at h; exact h) hr2)
  have Hb2 := hid hb2
  clear hb2 hr2 HP j1 hlp
  go_wp2_with fail
  refine Calls.mono HS.out ?_
  rintro e w3 ⟨rfl, hb3⟩
  have Hb3 := hid hb3
  clear hb3 HS
  go_wp2_with fail
  refine (num_any 0 w3).mono ?_
  rintro e w7 ⟨rfl, e7⟩
  have e8 := e7.symm
  subst e8
  clear e7
  go_wp2
  go_ret2
  exact Hd.out.still ((Hb1.out.trans (Hb2.out.mono Hb1.out.size)).trans (Hb3.out.mono (Nat.le_trans Hb1.out.size Hb2.out.size))) none [] 0 (.inl ⟨rfl, rfl, rfl⟩)
set_option maxRecDepth 100000 in
set_option maxHeartbeats 4000000 in
theorem act9 {t : Nat} {κ : Nat → Nat} {w : World} {x m p r : Nat} {bv kv : Value} {img : List Int} {puts : List (Nat × List Int)} {fu : Int} {off : Bool} {nb : Nat} (h : DskW t κ w x m p r bv kv img puts fu off nb) (_hm2 : m ≤ 134217727) (wh at_ fi : Int) (ra ke : Value) :
    Calls Try.prog 12 #[.pointer (some ⟨x, 0, none⟩), actV wh 9 at_ fi ra ke] w (ActR t κ w x (m + 1)) := by
  unfold actV
  obtain ⟨W, hW⟩ : ∃ W, W = w.alloc (.cells #[.int .i64 wh, .int .i64 9, .int .i64 at_, .int .i64 fi, ra, ke] 44) := ⟨_, rfl⟩
  obtain ⟨hb, hd, hx, hA, c0, c1, ck, c2, c3, c4, c5⟩ := h.ready hW
  refine Calls.mono (?_ : Calls Try.prog 12 _ w (ActR t (cutK κ w.heap.size) W x (m + 1))) (fun e w' q => ActR.shift hb q)
  have hlen := hd.len
  have Hd := hid hd
  have Hk0 : Hid (cutK κ w.heap.size w.heap.size = 0) := cutK_hi κ (Nat.le_refl _)
  have HO := hid (Image_any hd.dk)
  have d1 := hW ▸ c1
  have d0 := hW ▸ c0
  have HW := hid hW
  have HC := hid (And.intro c0 c1)
  clear hd h hb hW c0 c1 c2 c3 c4 c5 ck
  go_enter Try.func12, Try.ntmps12
  go_wp2_with fail
  rw [← HW.out]
  clear d0 d1
  obtain ⟨c0, c1⟩ := HC.out
  refine Calls.mono HO.out ?_
  rintro e w1 ⟨g, cc, rfl, hg, hO1, hb1⟩
  have j1 := (hb1.cell (p := ⟨x, 1, none⟩) hx).trans c1
  have HP := hid (refImage_any (Hd.out.rk.below hb1) Hd.out.dk.facts.1)
  have HO1 := hid (And.intro hg hO1)
  have Hb1 := hid hb1
  clear hg hO1 hb1 HO c0 c1
  go_wp2_with fail
  refine Calls.mono HP.out ?_
  rintro e w2 ⟨a2, c2, rfl, hr2, hb2⟩
  have hlp : img.length = 512 * nb := Hd.out.dk.facts.2.1
  have hO2 := HO1.out.2.below hb2
  have HS := hid (SameBytes_eq w2.heap.size (some ⟨g, 0, none⟩) a2 img.length cc (512 * nb) c2 img w2 (hO2.rd Hd.out.dk.facts.1) hr2)
  have Hb2 := hid hb2
  have HO2 := hid hO2
  clear hb2 hr2 HP j1 hlp hO2
  go_wp2_with fail
  refine Calls.mono HS.out ?_
  rintro e w3 ⟨rfl, e7⟩
  have e8 := e7.symm
  subst e8
  clear e7 HS
  go_wp2_with fail
  refine (num_any 0 w2).mono ?_
  rintro e w7 ⟨rfl, e7⟩
  have e8 := e7.symm
  subst e8
  clear e7
  go_wp2
  go_ret2
  exact Hd.out.still (Hb1.out.trans (Hb2.out.mono Hb1.out.size)) (some ⟨g, 0, none⟩) img cc (.inr ⟨g, rfl, HO1.out.1, HO2.out, Hd.out.dk.facts.1, by have := Hd.out.dk.facts; omega⟩)

end Go.Proofs.Yteokekllbpkemaa
