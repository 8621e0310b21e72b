/-
  Package disk: New, Open.
-/
import Derived.Test.YtokgfnfgpjkpjaaDk8
namespace Go.Proofs.Ytokgfnfgpjkpjaa
open Go.RowKit

theorem Own.of_blk {w : World} {g n : Nat} {zs : List Int} (h : Blk .u8 5 w g zs) (hl : zs.length = n) (hn : n ≤ maxLen) : Own w g n n zs :=
  ⟨by simp [hl], .inr ⟨g, n, _, rfl, Nat.le_refl _, h, Nat.le_refl _, hn, by simp [hl], by rw [Nat.mul_one, ← hl]; simpa using List.take_length (l := zs.map (Value.int .u8))⟩⟩

theorem diskOf_any {w : World} {g nb c : Nat} {img : List Int} (h : Own w g (512 * nb) c img) (hb : Pl.isB img) (lo : 1 ≤ nb) (hi : nb ≤ 524288) :
    Calls Try.prog 37 #[.slice (some ⟨g, 0, none⟩) (512 * nb) c] w fun e w' => ∃ p, e = .returned (.pointer (some ⟨p, 0, none⟩)) ∧ w.heap.size ≤ p ∧ Dk (fun x => x = g ∨ w.heap.size ≤ x) w' p img [] (-1) false nb ∧ Below w.heap.size w w' := by
  have hmm := @run_makeMap Try.prog
  obtain ⟨wm, hwm⟩ : ∃ wm, wm = w.alloc (.map #[] 0) := ⟨_, rfl⟩
  have zm : wm.heap.size = w.heap.size + 1 := by rw [hwm]; simp
  have bm : Below w.heap.size w wm := by rw [hwm]; exact (Below.refl _ _).alloc (Nat.le_refl _) _
  have hM : MapL wm w.heap.size 0 [] := by rw [hwm]; exact mapL_new w
  go_enter Try.func37, Try.ntmps37
  go_wp2
  go_ret
  rw [← hwm]
  have bp : Below wm.heap.size wm (wm.alloc (.cells #[.slice (some ⟨g, 0, none⟩) (512 * nb) c, .slice none 0 0, .map (some w.heap.size), .int .i64 (-1), .bool false] 76)) := (Below.refl _ _).alloc (Nat.le_refl _) _
  refine ⟨w.heap.size + 1, rfl, by omega, ⟨[], g, c, .slice none 0 0, w.heap.size, rfl, ?_⟩, bm.trans (bp.mono bm.size)⟩
  refine ⟨?_, (h.keep (bm.block g h.lt)).keep (bp.block g (by have := h.lt; omega)), hb, lo, hi, ⟨rfl, .inl ⟨rfl, rfl⟩⟩, (fun d hd => by cases hd), hM.keep (bp.block _ (by omega)), .inr (by omega), .inl rfl, .inr (Nat.le_refl _), (fun g e => by cases e), by omega⟩
  rw [← zm]
  show (wm.heap.push _)[wm.heap.size]? = _
  simp

/-- what New answers -/
def newC (x : Int) : Int := if x < 1 ∨ 524288 < x then 20 else 0
theorem New_bad (x : Int) (w : World) (hx : x < 1 ∨ 524288 < x) : Calls Try.prog 24 #[.int .i64 x] w fun e w' => e = .returned (.tuple #[.pointer none, .int .i64 20]) ∧ w' = w := by
  go_enter Try.func24, Try.ntmps24
  by_cases h1 : x < 1
  · go_wp2
    go_ret2
    exact ⟨rfl, rfl⟩
  · have h2 : 524288 < x := by omega
    go_wp2
    go_ret2
    exact ⟨rfl, rfl⟩
theorem New_ok (nb : Nat) (w : World) (lo : 1 ≤ nb) (hi : nb ≤ 524288) : Calls Try.prog 24 #[.int .i64 (nb : Int)] w fun e w' => ∃ p, e = .returned (.tuple #[.pointer (some ⟨p, 0, none⟩), .int .i64 0]) ∧ w.heap.size ≤ p ∧ Dk (fun x => w.heap.size ≤ x) w' p (zeros (512 * nb)) [] (-1) false nb ∧ Below w.heap.size w w' := by
  obtain ⟨wz, hwz⟩ : ∃ wz, wz = w.alloc (.cells ((zeros (512 * nb)).map (Value.int .u8)).toArray 5) := ⟨_, rfl⟩
  have bz : Below w.heap.size w wz := by rw [hwz]; exact (Below.refl _ _).alloc (Nat.le_refl _) _
  have hO : Own wz w.heap.size (512 * nb) (512 * nb) (zeros (512 * nb)) := Own.of_blk (by rw [hwz]; exact Blk.new w _) (length_zeros _) (by unfold maxLen; omega)
  have HD := hid (diskOf_any hO (isB_zeros _) lo hi)
  have hmk := make_u8 (512 * nb) (by omega) w
  rw [← hwz] at hmk
  have e1 : ((512 * nb : Nat) : Int) = (nb : Int) * 512 := by omega
  rw [e1] at hmk
  have zz : wz.heap.size = w.heap.size + 1 := by rw [hwz]; simp
  have n1 : ¬ ((nb : Int) < 1) := by omega
  have n2 : ¬ ((524288 : Int) < (nb : Int)) := by omega
  have Hbz := hid bz
  clear hO bz hwz
  go_enter Try.func24, Try.ntmps24
  go_wp2_with fail
  refine Calls.mono HD.out ?_
  rintro e w2 ⟨p, rfl, hp, hD, hb⟩
  have HD2 := hid hD
  have Hb := hid hb
  clear HD hD hb hmk
  go_wp2
  go_ret2
  exact ⟨p, rfl, by omega, HD2.out.mono (fun x h => h.elim (fun h => by omega) (fun h => by omega)), Hbz.out.trans (Hb.out.mono (by omega))⟩

/-- what Open answers -/
def openBad (n : Nat) : Prop := n = 0 ∨ n % 512 ≠ 0 ∨ 268435456 < n
end Go.Proofs.Ytokgfnfgpjkpjaa
