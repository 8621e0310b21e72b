/-
  A desk: act (function 12): Write, Raw, Crash, and any other kind.
-/
import Derived.Test.YteokekllbpkemaaAc3
namespace Go.Proofs.Yteokekllbpkemaa
open Go.RowKit

theorem ActR.of_write {t : Nat} {κ κ' : Nat → Nat} {w w1 w2 : World} {x n : Nat} (hb : Below w.heap.size w w1) (h : Dsk t κ' w2 x n) (hk : ∀ y, y < w1.heap.size → κ' y = κ y) (hbt : But (fun y => tg t (κ y)) w1 w2) : ActR t κ w x n (.returned (.tuple #[.bool true, .slice none 0 0])) w2 :=
  ⟨_, κ', rfl, hands_none _ _ _, h, fun y hy => hk y (Nat.lt_of_lt_of_le hy hb.size), (But.of_below hb).trans hbt⟩
theorem ActIn.rdW {t : Nat} {κ : Nat → Nat} {w W : World} {aR aK : Option Addr} {nR cR nK cK : Nat} {zs ks : List Int} (h : ActIn (fun y => tg t (κ y)) w aR aK nR cR nK cK zs ks) (hb : Below w.heap.size w W) : RdN (fun y => tg t (cutK κ w.heap.size y)) W aR nR zs :=
  (h.rd.mono (Y := fun y => tg t (cutK κ w.heap.size y)) (fun y hy q => by rw [cutK_lo κ hy] at q; exact q)).but (But.of_below hb)
theorem ActIn.riW {t : Nat} {κ : Nat → Nat} {w W : World} {aR aK : Option Addr} {nR cR nK cK : Nat} {zs ks : List Int} (h : ActIn (fun y => tg t (κ y)) w aR aK nR cR nK cK zs ks) (hb : Below w.heap.size w W) : RiN (fun y => tg t (cutK κ w.heap.size y)) W aK nK ks :=
  (RiN.mono (X := fun y => tg t (κ y)) (Y := fun y => tg t (cutK κ w.heap.size y)) h.ri (fun y hy q => by rw [cutK_lo κ hy] at q; exact q)).but (But.of_below hb)
set_option maxRecDepth 100000 in
set_option maxHeartbeats 4000000 in
theorem act2 {t : Nat} {κ : Nat → Nat} {w : World} {x m p r : Nat} {bv kv : Value} {img : List Int} {puts : List (Nat × List Int)} {fu : Int} {off : Bool} {nb : Nat} (h : DskW t κ w x m p r bv kv img puts fu off nb) (hm2 : m ≤ 134217727) (wh at_ fi : Int) (ra ke : Value) :
    Calls Try.prog 12 #[.pointer (some ⟨x, 0, none⟩), actV wh 2 at_ fi ra ke] w (ActR t κ w x (m + 1)) := by
  unfold actV
  obtain ⟨W, hW⟩ : ∃ W, W = w.alloc (.cells #[.int .i64 wh, .int .i64 2, .int .i64 at_, .int .i64 fi, ra, ke] 44) := ⟨_, rfl⟩
  obtain ⟨hb, hd, hx, hA, c0, c1, ck, c2, c3, c4, c5⟩ := h.ready hW
  refine Calls.mono (?_ : Calls Try.prog 12 _ w (ActR t (cutK κ w.heap.size) W x (m + 1))) (fun e w' q => ActR.shift hb q)
  have hlen := hd.len
  have Hd := hid hd
  have Hk0 : Hid (cutK κ w.heap.size w.heap.size = 0) := cutK_hi κ (Nat.le_refl _)
  have hA0 : cutK κ w.heap.size w.heap.size = 0 := cutK_hi κ (Nat.le_refl _)
  have HO := hid (Block_any fi W.drew)
  have HA2 : Hid (∀ w1 g zs, W.heap.size ≤ g → Blk .u8 5 w1 g zs → zs.length = 512 → Pl.isB zs → Below W.heap.size W w1 → Calls Try.prog 31 #[.pointer (some ⟨x, 0, none⟩), .int .i64 at_, .slice (some ⟨g, 0, none⟩) 512 512] w1 fun e w' => e = .returned (.bool true) ∧ ∃ κ', Dsk t κ' w' x (m + 1) ∧ (∀ y, y < w1.heap.size → κ' y = cutK κ w.heap.size y) ∧ But (fun y => tg t (cutK κ w.heap.size y)) w1 w') := by
    intro w1 g zs hg hB hl hz hb1
    have h1 := hd.below hb1
    refine dwrite_any h1.ls h1.xl h1.ks h1.kt h1.dk h1.rk h1.len (by omega) at_ (some ⟨g, 0, none⟩) 512 512 zs (by omega) ⟨hl, hz, .inr ⟨g, 0, rfl, hB.lt, ?_, fun q hq => by rw [Nat.zero_add]; exact hB.cell q (by omega)⟩⟩
    show ¬ tg t (cutK κ w.heap.size g)
    rw [cutK_hi κ (by omega)]; unfold tg; omega
  have d1 := hW ▸ c1
  have d0 := hW ▸ c0
  have HW := hid hW
  have HC := hid (And.intro c2 c3)
  clear hd h hb hW c0 c1 c2 c3 c4 c5 ck
  go_enter Try.func12, Try.ntmps12
  go_wp2_with fail
  rw [← HW.out]
  clear d0 d1
  obtain ⟨c2, c3⟩ := HC.out
  go_region_held3 (fun w' => w'.cell? ⟨w.heap.size, 2, none⟩ = some (.int .i64 at_) ∧ w'.cell? ⟨w.heap.size, 3, none⟩ = some (.int .i64 fi)) (first | exact ⟨by assumption, by assumption⟩ | go_keep)
    ((first
      | (go_at_call 32; refine Calls.mono HO.out ?_; rintro e w1 ⟨g, zs, rfl, hg, hB1, hl1, hz1, hb1⟩
         have Hb1 := hid (undrew hb1)
         have HA3 := hid (HA2.out w1 g zs hg hB1 hl1 hz1 Hb1.out)
         have hs := Nat.lt_of_lt_of_le hA Hb1.out.size
         have j2 := (Hb1.out.cell (p := ⟨w.heap.size, 2, none⟩) hA).trans c2
         have j3 := (Hb1.out.cell (p := ⟨w.heap.size, 3, none⟩) hA).trans c3
         clear hg hB1 hl1 hz1 hb1)
      | (go_at_call 31; refine Calls.mono HA3.out ?_; rintro e w2 ⟨rfl, κ', hd2, hk2, hb2⟩
         have H2 := hid (And.intro hd2 (And.intro hk2 hb2))
         have i2 := (hb2.cell (p := ⟨w.heap.size, 2, none⟩) hs (by show ¬ tg t (cutK κ w.heap.size w.heap.size); unfold tg; omega)).trans j2
         have i3 := (hb2.cell (p := ⟨w.heap.size, 3, none⟩) hs (by show ¬ tg t (cutK κ w.heap.size w.heap.size); unfold tg; omega)).trans j3
         clear hd2 hk2 hb2)))
  clear c2 c3 j2 j3 i2 i3 HA2 HA3 HO
  go_wp2
  go_ret2
  exact ActR.of_write Hb1.out H2.out.1 H2.out.2.1 H2.out.2.2
set_option maxRecDepth 100000 in
set_option maxHeartbeats 4000000 in
theorem act3 {t : Nat} {κ : Nat → Nat} {w : World} {x m p r : Nat} {bv kv : Value} {img : List Int} {puts : List (Nat × List Int)} {fu : Int} {off : Bool} {nb : Nat} (h : DskW t κ w x m p r bv kv img puts fu off nb) (hm2 : m ≤ 134217727) (wh at_ fi : Int) {aR aK : Option Addr} {nR cR nK cK : Nat} {zs ks : List Int} (hI : ActIn (fun y => tg t (κ y)) w aR aK nR cR nK cK zs ks) :
    Calls Try.prog 12 #[.pointer (some ⟨x, 0, none⟩), actV wh 3 at_ fi (.slice aR nR cR) (.slice aK nK cK)] w (ActR t κ w x (m + 1)) := by
  unfold actV
  obtain ⟨W, hW⟩ : ∃ W, W = w.alloc (.cells #[.int .i64 wh, .int .i64 3, .int .i64 at_, .int .i64 fi, .slice aR nR cR, .slice aK nK cK] 44) := ⟨_, rfl⟩
  obtain ⟨hb, hd, hx, hA, c0, c1, ck, c2, c3, c4, c5⟩ := h.ready hW
  refine Calls.mono (?_ : Calls Try.prog 12 _ w (ActR t (cutK κ w.heap.size) W x (m + 1))) (fun e w' q => ActR.shift hb q)
  have hlen := hd.len
  have Hd := hid hd
  have Hk0 : Hid (cutK κ w.heap.size w.heap.size = 0) := cutK_hi κ (Nat.le_refl _)
  have hA0 : cutK κ w.heap.size w.heap.size = 0 := cutK_hi κ (Nat.le_refl _)
  have HO := hid (dwrite_any hd.ls hd.xl hd.ks hd.kt hd.dk hd.rk hd.len (by omega) at_ aR nR cR zs hI.hR (hI.rdW hb))
  have d1 := hW ▸ c1
  have d0 := hW ▸ c0
  have HW := hid hW
  have HC := hid (And.intro c2 c4)
  clear hd h hb hW c0 c1 c2 c3 c4 c5 ck
  go_enter Try.func12, Try.ntmps12
  go_wp2_with fail
  rw [← HW.out]
  clear d0 d1
  obtain ⟨c2, c4⟩ := HC.out
  clear hI
  refine Calls.mono HO.out ?_
  rintro e w2 ⟨rfl, κ', hd2, hk2, hb2⟩
  have H2 := hid (And.intro hd2 (And.intro hk2 hb2))
  clear hd2 hk2 hb2 c2 c4 HO
  go_wp2
  go_ret2
  exact ActR.of_write (Below.refl _ _) H2.out.1 H2.out.2.1 H2.out.2.2
set_option maxRecDepth 100000 in
set_option maxHeartbeats 4000000 in
theorem act10 {t : Nat} {κ : Nat → Nat} {w : World} {x m p r : Nat} {bv kv : Value} {img : List Int} {puts : List (Nat × List Int)} {fu : Int} {off : Bool} {nb : Nat} (h : DskW t κ w x m p r bv kv img puts fu off nb) (hm2 : m ≤ 134217727) (wh at_ fi : Int) {aR aK : Option Addr} {nR cR nK cK : Nat} {zs ks : List Int} (hI : ActIn (fun y => tg t (κ y)) w aR aK nR cR nK cK zs ks) :
    Calls Try.prog 12 #[.pointer (some ⟨x, 0, none⟩), actV wh 10 at_ fi (.slice aR nR cR) (.slice aK nK cK)] w (ActR t κ w x (m + 1)) := by
  unfold actV
  obtain ⟨W, hW⟩ : ∃ W, W = w.alloc (.cells #[.int .i64 wh, .int .i64 10, .int .i64 at_, .int .i64 fi, .slice aR nR cR, .slice aK nK cK] 44) := ⟨_, rfl⟩
  obtain ⟨hb, hd, hx, hA, c0, c1, ck, c2, c3, c4, c5⟩ := h.ready hW
  refine Calls.mono (?_ : Calls Try.prog 12 _ w (ActR t (cutK κ w.heap.size) W x (m + 1))) (fun e w' q => ActR.shift hb q)
  have hlen := hd.len
  have Hd := hid hd
  have Hk0 : Hid (cutK κ w.heap.size w.heap.size = 0) := cutK_hi κ (Nat.le_refl _)
  have HO := hid (dcrash_any hd.ls hd.xl hd.ks hd.kt hd.dk hd.rk hd.len (by omega) aK nK cK ks hI.hK (hI.riW hb))
  have d1 := hW ▸ c1
  have d0 := hW ▸ c0
  have HW := hid hW
  have HC := hid c5
  clear hd h hb hW c0 c1 c2 c3 c4 c5 ck
  go_enter Try.func12, Try.ntmps12
  go_wp2_with fail
  rw [← HW.out]
  clear d0 d1
  have c5 := HC.out
  clear hI
  refine Calls.mono HO.out ?_
  rintro e w2 ⟨lv, κ', rfl, h1, h2, h3, h4⟩
  have H2 := hid (And.intro h1 (And.intro h2 (And.intro h3 h4)))
  clear h1 h2 h3 h4 HO c5
  go_wp2
  go_ret2
  exact ⟨lv, κ', rfl, H2.out.1, H2.out.2.1.more (by omega), H2.out.2.2.1, H2.out.2.2.2⟩

end Go.Proofs.Yteokekllbpkemaa
