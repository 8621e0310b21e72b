/-
  A desk: act (function 12), whole.
-/
import Derived.Test.YteokekllbpkemaaAc4
namespace Go.Proofs.Yteokekllbpkemaa
open Go.RowKit

set_option maxRecDepth 100000 in
set_option maxHeartbeats 4000000 in
theorem act_else {t : Nat} {κ : Nat → Nat} {w : World} {x m p r : Nat} {bv kv : Value} {img : List Int} {puts : List (Nat × List Int)} {fu : Int} {off : Bool} {nb : Nat} (h : DskW t κ w x m p r bv kv img puts fu off nb) (_hm2 : m ≤ 134217727) (wh kd at_ fi : Int) (ra ke : Value) (hk : kd < 1 ∨ 10 < kd) :
    Calls Try.prog 12 #[.pointer (some ⟨x, 0, none⟩), actV wh kd at_ fi ra ke] w (ActR t κ w x (m + 1)) := by
  unfold actV
  obtain ⟨W, hW⟩ : ∃ W, W = w.alloc (.cells #[.int .i64 wh, .int .i64 kd, .int .i64 at_, .int .i64 fi, ra, ke] 44) := ⟨_, rfl⟩
  obtain ⟨hb, hd, hx, hA, c0, c1, ck, c2, c3, c4, c5⟩ := h.ready hW
  refine Calls.mono (?_ : Calls Try.prog 12 _ w (ActR t (cutK κ w.heap.size) W x (m + 1))) (fun e w' q => ActR.shift hb q)
  have hlen := hd.len
  have Hd := hid hd
  have Hk0 : Hid (cutK κ w.heap.size w.heap.size = 0) := cutK_hi κ (Nat.le_refl _)
  have n1 : ¬ kd = 1 := by omega
  have n2 : ¬ kd = 2 := by omega
  have n3 : ¬ kd = 3 := by omega
  have n4 : ¬ kd = 4 := by omega
  have n5 : ¬ kd = 5 := by omega
  have n6 : ¬ kd = 6 := by omega
  have n7 : ¬ kd = 7 := by omega
  have n8 : ¬ kd = 8 := by omega
  have n9 : ¬ kd = 9 := by omega
  have n10 : ¬ kd = 10 := by omega
  clear hk
  have d1 := hW ▸ c1
  have HW := hid hW
  clear hd h hb hW c0 c1 c2 c3 c4 c5 ck hlen
  go_enter Try.func12, Try.ntmps12
  go_wp2
  go_ret2
  rw [← HW.out]
  exact Hd.out.still (Below.refl _ _) none [] 0 (.inl ⟨rfl, rfl, rfl⟩)

theorem ActIn.below {X : Nat → Prop} {w w' : World} {aR aK : Option Addr} {nR cR nK cK : Nat} {zs ks : List Int} (h : ActIn X w aR aK nR cR nK cK zs ks) (hb : But X w w') : ActIn X w' aR aK nR cR nK cK zs ks := ⟨h.hR, h.hK, h.nilR, h.nilK, h.rd.but hb, RiN.but (X := X) h.ri hb⟩
set_option maxRecDepth 100000 in
set_option maxHeartbeats 4000000 in
theorem act_nil {t : Nat} {κ : Nat → Nat} {w : World} {x m : Nat} {bv kv : Value} (h1 : LS (.pointer none, .pointer none, kv) w x bv) (hd : Dsk t κ w x m) (wh kd at_ fi : Int) {aR aK : Option Addr} {nR cR nK cK : Nat} {zs ks : List Int} (hI : ActIn (fun y => tg t (κ y)) w aR aK nR cR nK cK zs ks) :
    Calls Try.prog 12 #[.pointer (some ⟨x, 0, none⟩), actV wh kd at_ fi (.slice aR nR cR) (.slice aK nK cK)] w (ActR t κ w x (m + 1)) := by
  unfold actV
  obtain ⟨W, hW⟩ : ∃ W, W = w.alloc (.cells #[.int .i64 wh, .int .i64 kd, .int .i64 at_, .int .i64 fi, .slice aR nR cR, .slice aK nK cK] 44) := ⟨_, rfl⟩
  obtain ⟨N, hN⟩ := h1.1
  obtain ⟨hb, c0, ck, c2, c3, c4, c5, hA⟩ := act_ready hN.lt hN.dsk.1 hW
  have c1 := (hb.cell (p := ⟨x, 1, none⟩) hN.lt).trans hN.dsk.2.1
  have hx : x < W.heap.size := Nat.lt_of_lt_of_le hN.lt hb.size
  have HNo := hid (nothing_any wh kd at_ fi (hI.below (But.of_below hb)) hx c0)
  unfold actV at HNo
  have Hb := hid hb
  have Hd := hid hd
  have d1 := hW ▸ c1
  have HW := hid hW
  clear hN h1 hd hb hW c0 c1 c2 c3 c4 c5 ck hI
  go_enter Try.func12, Try.ntmps12
  go_wp2_with fail
  rw [← HW.out]
  refine Calls.mono HNo.out ?_
  rintro e w2 ⟨rfl, hb2⟩
  have Hb2 := hid hb2
  clear hb2 HNo d1
  go_wp2
  go_ret2
  have hB := Hb.out.trans (Hb2.out.mono Hb.out.size)
  exact ⟨_, cutK κ w.heap.size, rfl, hands_none _ _ _, Hd.out.keep (by omega) (fun y hy _ => hB.block y hy) (fun y hy _ => cutK_lo κ hy), fun y hy => cutK_lo κ hy, But.of_below hB⟩

theorem act_any {t : Nat} {κ : Nat → Nat} {w : World} {x m : Nat} (h : Dsk t κ w x m) (hm2 : m ≤ 134217727) (wh kd at_ fi : Int) (hat : at_ ≤ 9223372036854775807) {aR aK : Option Addr} {nR cR nK cK : Nat} {zs ks : List Int} (hI : ActIn (fun y => tg t (κ y)) w aR aK nR cR nK cK zs ks) :
    Calls Try.prog 12 #[.pointer (some ⟨x, 0, none⟩), actV wh kd at_ fi (.slice aR nR cR) (.slice aK nK cK)] w (ActR t κ w x (m + 1)) := by
  have h0 := h
  obtain ⟨bv, kv, dv, rv, h1, h2, h3, h4, h5⟩ := h
  rcases h5 with ⟨rfl, rfl⟩ | ⟨p, r, img, puts, fu, off, nb, rfl, rfl, h6, h7, h8⟩
  · exact act_nil h1 h0 wh kd at_ fi hI
  · have hw : DskW t κ w x m p r bv kv img puts fu off nb := ⟨h1, h2, h3, h4, h6, h7, h8⟩
    by_cases hk : kd < 1 ∨ 10 < kd
    · exact act_else hw hm2 wh kd at_ fi _ _ hk
    · have hk2 : kd = 1 ∨ kd = 2 ∨ kd = 3 ∨ kd = 4 ∨ kd = 5 ∨ kd = 6 ∨ kd = 7 ∨ kd = 8 ∨ kd = 9 ∨ kd = 10 := by omega
      rcases hk2 with rfl | rfl | rfl | rfl | rfl | rfl | rfl | rfl | rfl | rfl
      · exact act1 hw (by omega) wh at_ fi _ _
      · exact act2 hw hm2 wh at_ fi _ _
      · exact act3 hw hm2 wh at_ fi hI
      · exact act4 hw hm2 wh at_ fi _ _
      · exact act5 hw hm2 wh at_ fi _ _ hat
      · exact act6 hw hm2 wh at_ fi _ _
      · exact act7 hw hm2 wh at_ fi _ _
      · exact act8 hw hm2 wh at_ fi _ _
      · exact act9 hw hm2 wh at_ fi _ _
      · exact act10 hw hm2 wh at_ fi hI

end Go.Proofs.Yteokekllbpkemaa
