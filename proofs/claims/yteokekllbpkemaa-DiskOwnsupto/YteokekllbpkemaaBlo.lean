/-
  Block (function 32): a block told by its number.
-/
import Derived.Test.YteokekllbpkemaaNl2
namespace Go.Proofs.Yteokekllbpkemaa
open Go.RowKit

set_option maxRecDepth 100000 in
set_option maxHeartbeats 2000000 in
theorem Block_any (x : Int) (w : World) : Calls Try.prog 32 #[.int .i64 x] w fun e w' => ∃ g zs, e = .returned (.slice (some ⟨g, 0, none⟩) 512 512) ∧ w.heap.size ≤ g ∧ Blk .u8 5 w' g zs ∧ zs.length = 512 ∧ Pl.isB zs ∧ Below w.heap.size w w' := by
  have hmk := make_u8 512 (by omega)
  have hB0 : Hid (Blk .u8 5 (w.alloc (.cells ((zeros 512).map (Value.int .u8)).toArray 5)) w.heap.size (zeros 512)) := Blk.new w _
  have hb0 : Hid (Below w.heap.size w (w.alloc (.cells ((zeros 512).map (Value.int .u8)).toArray 5))) := (Below.refl _ _).alloc (Nat.le_refl _) _
  have hmk' : ∀ u : World, (Instr.makeSlice 22 (.int .i64 512) (.int .i64 512)).run Try.prog u = .ok (.slice (some ⟨u.heap.size, 0, none⟩) 512 512) (u.alloc (.cells ((zeros 512).map (Value.int .u8)).toArray 5)) := hmk
  clear hmk
  go_enter Try.func32, Try.ntmps32
  go_wp2_with fail
  generalize hwm : w.alloc (.cells ((zeros 512).map (Value.int .u8)).toArray 5) = wm at *
  clear hwm hmk'
  go_loopw [4] (fun i wt => ∃ k : Nat, ∃ ys, k ≤ 512 ∧ i = .int .i64 (k : Int) ∧ Blk .u8 5 wt w.heap.size ys ∧ ys.length = 512 ∧ Pl.isB ys ∧ Below w.heap.size w wt) (fun i _ => 512 - (intOf i).toNat)
  case atStart => exact ⟨0, _, Nat.zero_le _, rfl, hB0.out, length_zeros _, isB_zeros _, hb0.out⟩
  case round =>
    clear hB0 hb0
    obtain ⟨k, ys, hk, rfl, hB, hl, hbs, hbt⟩ := hrel
    by_cases hkn : k < 512
    · have hkn' : (k : Int) < 512 := by omega
      have cB := hB.cell k (by omega)
      have fB := hB.frozen k
      have HB := hid hB
      have Hb := hid hbt
      have Hl := hid (And.intro hl hbs)
      clear hB hbt hl hbs
      go_wp2_with fail
      obtain ⟨V, hV, hV2⟩ : ∃ V : Int, V = wrap64 (wrap64 (x + wrap64 (x / 256 * 3)) + wrap64 ((k : Int) * wrap64 (1 + x.tmod 5))) % 256 ∧ (0 ≤ V ∧ V ≤ 255) := ⟨_, rfl, by omega⟩
      rw [← hV]
      clear hV
      go_roundw
      case rel =>
        refine ⟨k + 1, ys.set k V, by omega, by go_num, HB.out.set k V, by rw [List.length_set]; exact Hl.out.1, ?_, Hb.out.setCell (Nat.le_refl _) _⟩
        intro z hz
        rcases List.mem_or_eq_of_mem_set hz with h | h
        · exact Hl.out.2 z h
        · subst h; omega
      case measure => simp [intOf]; omega
    · obtain rfl : k = 512 := by omega
      have HB := hid hB
      have Hb := hid hbt
      have Hl := hid (And.intro hl hbs)
      clear hB hbt hl hbs
      go_wp2
      go_ret
      exact ⟨w.heap.size, ys, rfl, Nat.le_refl _, HB.out, Hl.out.1, Hl.out.2, Hb.out⟩

end Go.Proofs.Yteokekllbpkemaa
