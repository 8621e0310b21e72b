/-
  A desk without a disk: all acts.
-/
import Derived.Test.YteokekllbpkemaaNl1
namespace Go.Proofs.Yteokekllbpkemaa
open Go.RowKit

set_option maxRecDepth 100000 in
set_option maxHeartbeats 2000000 in
theorem nothing_else {w : World} {x : Nat} (wh kd at_ fi : Int) (ra ke : Value) (hk : kd < 1 ∨ 10 < kd) : Calls Try.prog 21 #[.pointer (some ⟨x, 0, none⟩), actV wh kd at_ fi ra ke] w fun e w' => e = .returned (.bool true) ∧ Below w.heap.size w w' := by
  unfold actV
  have n1 : ¬ kd = 1 := by omega
  have n2 : ¬ kd = 2 := by omega
  have n3 : ¬ kd = 3 := by omega
  have n4 : ¬ kd = 4 := by omega
  have n5 : ¬ kd = 5 := by omega
  have n6 : ¬ kd = 6 := by omega
  have n7 : ¬ kd = 7 := by omega
  have n8 : ¬ kd = 8 := by omega
  have n9 : ¬ kd = 9 := by omega
  have n10 : ¬ kd = 10 := by omega
  clear hk
  have HB : Hid (Below w.heap.size w (w.alloc (.cells #[.int .i64 wh, .int .i64 kd, .int .i64 at_, .int .i64 fi, ra, ke] 44))) := (Below.refl _ _).alloc (Nat.le_refl _) _
  go_enter Try.func21, Try.ntmps21
  go_wp2
  go_ret
  exact ⟨rfl, HB.out⟩

/-- what an act hands in -/
structure ActIn (X : Nat → Prop) (w : World) (aR aK : Option Addr) (nR cR nK cK : Nat) (zs ks : List Int) : Prop where
  hR : nR ≤ 16777216
  hK : nK ≤ 16777216
  nilR : aR = none → cR = 0
  nilK : aK = none → cK = 0
  rd : RdN X w aR nR zs
  ri : ks.length = nK ∧ (nK = 0 ∨ ∃ b off, aK = some ⟨b, off, none⟩ ∧ b < w.heap.size ∧ ¬ X b ∧ ∀ t, t < nK → w.cell? ⟨b, off + t, none⟩ = some (.int .i64 (ks.getD t 0)))
theorem ActIn.rdi {X : Nat → Prop} {w : World} {aR aK : Option Addr} {nR cR nK cK : Nat} {zs ks : List Int} (h : ActIn X w aR aK nR cR nK cK zs ks) : RdI w.heap.size w aK nK ks := ⟨h.ri.1, h.ri.2.imp id (fun ⟨b, o, e, l, _, c⟩ => ⟨b, o, e, l, c⟩)⟩
theorem nothing_any {X : Nat → Prop} {w : World} {x : Nat} (wh kd at_ fi : Int) {aR aK : Option Addr} {nR cR nK cK : Nat} {zs ks : List Int} (hI : ActIn X w aR aK nR cR nK cK zs ks) (hx : x < w.heap.size) (h0 : w.cell? ⟨x, 0, none⟩ = some (.pointer none)) :
    Calls Try.prog 21 #[.pointer (some ⟨x, 0, none⟩), actV wh kd at_ fi (.slice aR nR cR) (.slice aK nK cK)] w fun e w' => e = .returned (.bool true) ∧ Below w.heap.size w w' := by
  by_cases hk : kd < 1 ∨ 10 < kd
  · exact nothing_else wh kd at_ fi _ _ hk
  · have hk2 : kd = 1 ∨ kd = 2 ∨ kd = 3 ∨ kd = 4 ∨ kd = 5 ∨ kd = 6 ∨ kd = 7 ∨ kd = 8 ∨ kd = 9 ∨ kd = 10 := by omega
    rcases hk2 with rfl | rfl | rfl | rfl | rfl | rfl | rfl | rfl | rfl | rfl
    · exact nothing1 wh at_ fi aR aK nR cR nK cK hx h0
    · exact nothing2 wh at_ fi aR aK nR cR nK cK zs hI.hR hI.nilR hI.rd.rd hx h0
    · exact nothing3 wh at_ fi aR aK nR cR nK cK zs hI.hR hI.nilR hI.rd.rd hx h0
    · exact nothing4 wh at_ fi aR aK nR cR nK cK hx h0
    · exact nothing5 wh at_ fi aR aK nR cR nK cK hx h0
    · exact nothing6 wh at_ fi aR aK nR cR nK cK hx h0
    · exact nothing7 wh at_ fi aR aK nR cR nK cK hx h0
    · exact nothing8 wh at_ fi aR aK nR cR nK cK hx h0
    · exact nothing9 wh at_ fi aR aK nR cR nK cK hx h0
    · exact nothing10 wh at_ fi aR aK nR cR nK cK ks hI.hK hI.nilK hI.rdi hx h0

theorem actIn_none (w : World) : ActIn (fun _ => False) w none none 0 0 0 0 [] [] := ⟨by omega, by omega, fun _ => rfl, fun _ => rfl, ⟨rfl, Pl.isB_zeros 0, .inl rfl⟩, rfl, .inl rfl⟩
set_option maxRecDepth 100000 in
set_option maxHeartbeats 2000000 in
theorem nils_any (w : World) : Calls Try.prog 10 #[] w fun e w' => e = .returned (.bool true) ∧ Below w.heap.size w w' := by
  go_enter Try.func10, Try.ntmps10
  go_wp2_with fail
  obtain ⟨W, hW⟩ : ∃ W, W = w.alloc (.cells #[.pointer none, .pointer none, .slice none 0 0, .int .i64 0, .slice none 0 0] 51) := ⟨_, rfl⟩
  have c0 : W.cell? ⟨w.heap.size, 0, none⟩ = some (.pointer none) := by rw [hW]; exact cell_new rfl 0 _ rfl
  have hb : Below w.heap.size w W := by rw [hW]; exact (Below.refl _ _).alloc (Nat.le_refl _) _
  have hs : w.heap.size < W.heap.size := by rw [hW]; simp
  rw [← hW]
  clear hW
  go_loopw [2] (fun i wt => ∃ k : Nat, k ≤ 10 ∧ i = .int .i64 ((k + 1 : Nat) : Int) ∧ wt.cell? ⟨w.heap.size, 0, none⟩ = some (.pointer none) ∧ w.heap.size < wt.heap.size ∧ Below w.heap.size w wt) (fun i _ => 11 - (intOf i).toNat)
  case atStart => exact ⟨0, by omega, rfl, c0, hs, hb⟩
  case round =>
    clear c0 hs hb
    obtain ⟨k, hk, rfl, c0, hs, hb⟩ := hrel
    have HB := hid hb
    clear hb
    by_cases hkn : k < 10
    · have hkn' : ((k + 1 : Nat) : Int) ≤ 10 := by omega
      have HN := hid (nothing_any (x := w.heap.size) 0 ((k + 1 : Nat) : Int) 0 0 (actIn_none wr) hs c0)
      unfold actV at HN
      go_wp2_with fail
      refine Calls.mono HN.out ?_
      rintro e w2 ⟨rfl, hb2⟩
      have c2 := (hb2.cell (p := ⟨w.heap.size, 0, none⟩) hs).trans c0
      have hs2 := Nat.lt_of_lt_of_le hs hb2.size
      have Hb2 := hid hb2
      clear hb2 HN
      go_wp2_with fail
      go_roundw
      case rel => exact ⟨k + 1, by omega, by go_num, c2, hs2, HB.out.trans (Hb2.out.mono HB.out.size)⟩
      case measure => simp [intOf]; omega
    · have hkn' : ¬ ((k + 1 : Nat) : Int) ≤ 10 := by omega
      go_wp2
      go_ret
      exact ⟨rfl, HB.out⟩

end Go.Proofs.Yteokekllbpkemaa
