/-
  Package disk: New, Open.
-/
import Derived.Test.YteokekllbpkemaaDk8
namespace Go.Proofs.Yteokekllbpkemaa
open Go.RowKit

theorem Own.of_blk {w : World} {g n : Nat} {zs : List Int} (h : Blk .u8 5 w g zs) (hl : zs.length = n) (hn : n ≤ maxLen) : Own w g n n zs :=
  ⟨by simp [hl], .inr ⟨g, n, _, rfl, Nat.le_refl _, h, Nat.le_refl _, hn, by simp [hl], by rw [Nat.mul_one, ← hl]; simpa using List.take_length (l := zs.map (Value.int .u8))⟩⟩

theorem diskOf_any {w : World} {g nb c : Nat} {img : List Int} (h : Own w g (512 * nb) c img) (hb : Pl.isB img) (lo : 1 ≤ nb) (hi : nb ≤ 524288) :
    Calls Try.prog 52 #[.slice (some ⟨g, 0, none⟩) (512 * nb) c] w fun e w' => ∃ p, e = .returned (.pointer (some ⟨p, 0, none⟩)) ∧ w.heap.size ≤ p ∧ Dk (fun x => x = g ∨ w.heap.size ≤ x) w' p img [] (-1) false nb ∧ Below w.heap.size w w' := by
  have hmm := @run_makeMap Try.prog
  obtain ⟨wm, hwm⟩ : ∃ wm, wm = w.alloc (.map #[] 0) := ⟨_, rfl⟩
  have zm : wm.heap.size = w.heap.size + 1 := by rw [hwm]; simp
  have bm : Below w.heap.size w wm := by rw [hwm]; exact (Below.refl _ _).alloc (Nat.le_refl _) _
  have hM : MapL wm w.heap.size 0 [] := by rw [hwm]; exact mapL_new w
  go_enter Try.func52, Try.ntmps52
  go_wp2
  go_ret
  rw [← hwm]
  have bp : Below wm.heap.size wm (wm.alloc (.cells #[.slice (some ⟨g, 0, none⟩) (512 * nb) c, .slice none 0 0, .map (some w.heap.size), .int .i64 (-1), .bool false] 94)) := (Below.refl _ _).alloc (Nat.le_refl _) _
  refine ⟨w.heap.size + 1, rfl, by omega, ⟨[], g, c, .slice none 0 0, w.heap.size, rfl, ?_⟩, bm.trans (bp.mono bm.size)⟩
  refine ⟨?_, (h.keep (bm.block g h.lt)).keep (bp.block g (by have := h.lt; omega)), hb, lo, hi, ⟨rfl, .inl ⟨rfl, rfl⟩⟩, (fun d hd => by cases hd), hM.keep (bp.block _ (by omega)), .inr (by omega), .inl rfl, .inr (Nat.le_refl _), (fun g e => by cases e), by omega⟩
  rw [← zm]
  show (wm.heap.push _)[wm.heap.size]? = _
  simp

/-- what New answers -/
def newC (x : Int) : Int := if x < 1 ∨ 524288 < x then 20 else 0
theorem New_bad (x : Int) (w : World) (hx : x < 1 ∨ 524288 < x) : Calls Try.prog 22 #[.int .i64 x] w fun e w' => e = .returned (.tuple #[.pointer none, .int .i64 20]) ∧ w' = w := by
  go_enter Try.func22, Try.ntmps22
  by_cases h1 : x < 1
  · go_wp2
    go_ret2
    exact ⟨rfl, rfl⟩
  · have h2 : 524288 < x := by omega
    go_wp2
    go_ret2
    exact ⟨rfl, rfl⟩
theorem New_ok (nb : Nat) (w : World) (lo : 1 ≤ nb) (hi : nb ≤ 524288) : Calls Try.prog 22 #[.int .i64 (nb : Int)] w fun e w' => ∃ p, e = .returned (.tuple #[.pointer (some ⟨p, 0, none⟩), .int .i64 0]) ∧ w.heap.size ≤ p ∧ Dk (fun x => w.heap.size ≤ x) w' p (zeros (512 * nb)) [] (-1) false nb ∧ Below w.heap.size w w' := by
  obtain ⟨wz, hwz⟩ : ∃ wz, wz = w.alloc (.cells ((zeros (512 * nb)).map (Value.int .u8)).toArray 5) := ⟨_, rfl⟩
  have bz : Below w.heap.size w wz := by rw [hwz]; exact (Below.refl _ _).alloc (Nat.le_refl _) _
  have hO : Own wz w.heap.size (512 * nb) (512 * nb) (zeros (512 * nb)) := Own.of_blk (by rw [hwz]; exact Blk.new w _) (length_zeros _) (by unfold maxLen; omega)
  have HD := hid (diskOf_any hO (isB_zeros _) lo hi)
  have hmk := make_u8 (512 * nb) (by omega) w
  rw [← hwz] at hmk
  have e1 : ((512 * nb : Nat) : Int) = (nb : Int) * 512 := by omega
  rw [e1] at hmk
  have zz : wz.heap.size = w.heap.size + 1 := by rw [hwz]; simp
  have n1 : ¬ ((nb : Int) < 1) := by omega
  have n2 : ¬ ((524288 : Int) < (nb : Int)) := by omega
  have Hbz := hid bz
  clear hO bz hwz
  go_enter Try.func22, Try.ntmps22
  go_wp2_with fail
  refine Calls.mono HD.out ?_
  rintro e w2 ⟨p, rfl, hp, hD, hb⟩
  have HD2 := hid hD
  have Hb := hid hb
  clear HD hD hb hmk
  go_wp2
  go_ret2
  exact ⟨p, rfl, by omega, HD2.out.mono (fun x h => h.elim (fun h => by omega) (fun h => by omega)), Hbz.out.trans (Hb.out.mono (by omega))⟩

/-- what Open answers -/
def openBad (n : Nat) : Prop := n = 0 ∨ n % 512 ≠ 0 ∨ 268435456 < n
theorem Open_bad (a : Option Addr) (n c : Nat) (w : World) (hn : openBad n) : Calls Try.prog 25 #[.slice a n c] w fun e w' => e = .returned (.tuple #[.pointer none, .int .i64 21]) ∧ w' = w := by
  have e0 : ((n : Int)).tmod 512 = ((n % 512 : Nat) : Int) := by rw [Int.tmod_eq_emod_of_nonneg (by omega)]; omega
  unfold openBad at hn
  go_enter Try.func25, Try.ntmps25
  by_cases h0 : n = 0
  · subst h0
    go_wp2
    go_ret2
    exact ⟨rfl, rfl⟩
  · have h0' : ¬ (n : Int) = 0 := by omega
    by_cases h1 : n % 512 = 0
    · have h2 : (268435456 : Int) < (n : Int) := by omega
      rw [h1] at e0
      go_wp2
      go_ret2
      exact ⟨rfl, rfl⟩
    · generalize n % 512 = r at *
      have h1' : ¬ (r : Int) = 0 := by omega
      go_wp2
      go_ret2
      exact ⟨rfl, rfl⟩
set_option maxRecDepth 100000 in
theorem Open_ok (ad : Addr) (nb c : Nat) (zs : List Int) (w : World) (lo : 1 ≤ nb) (hi : nb ≤ 524288) (hR : Rd w.heap.size w (some ad) (512 * nb) zs) : Calls Try.prog 25 #[.slice (some ad) (512 * nb) c] w fun e w' => ∃ p, e = .returned (.tuple #[.pointer (some ⟨p, 0, none⟩), .int .i64 0]) ∧ w.heap.size ≤ p ∧ Dk (fun x => w.heap.size ≤ x) w' p zs [] (-1) false nb ∧ Below w.heap.size w w' := by
  have HCl := hid (Clone_any ad (512 * nb) c zs w (by omega) hR)
  have hzb := hR.2.1
  have e0 : ((512 * nb : Nat) : Int).tmod 512 = 0 := by rw [Int.tmod_eq_emod_of_nonneg (by omega)]; omega
  have n0 : ¬ ((512 * nb : Nat) : Int) = 0 := by omega
  have n1 : ¬ ((268435456 : Int) < ((512 * nb : Nat) : Int)) := by omega
  clear hR
  generalize hm : ((512 * nb : Nat) : Int) = m at *
  go_enter Try.func25, Try.ntmps25
  go_wp2_with fail
  refine Calls.mono HCl.out ?_
  rintro e w1 ⟨g, cap, rfl, hg, hO, hb⟩
  have HD := hid (diskOf_any hO hzb lo hi)
  have Hb := hid hb
  have Hg := hid hg
  clear hO hb hg HCl
  go_wp2_with fail
  refine Calls.mono HD.out ?_
  rintro e w2 ⟨p, rfl, hp, hD, hb2⟩
  have HD2 := hid hD
  have Hb2 := hid hb2
  clear HD hD hb2
  go_wp2
  go_ret2
  have z1 := Hb.out.size
  have zg := Hg.out
  exact ⟨p, rfl, by omega, HD2.out.mono (fun x h => h.elim (fun h => by omega) (fun h => by omega)), Hb.out.trans (Hb2.out.mono z1)⟩

end Go.Proofs.Yteokekllbpkemaa
