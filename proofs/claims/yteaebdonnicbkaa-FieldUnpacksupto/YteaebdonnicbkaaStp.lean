/-
  Sum, stampSum.
-/
import Derived.Test.YteaebdonnicbkaaSum
import Derived.Test.YteaebdonnicbkaaMk
namespace Go.Proofs.Yteaebdonnicbkaa
open Go.RowKit

set_option maxHeartbeats 400000 in
theorem Sum_any (a : Option Addr) (n c : Nat) (zs : List Int) (w : World) (hn : n ≤ 16777216) (hR : Rd w.heap.size w a n zs) :
    Calls Try.prog 22 #[.slice a n c] w fun e w' => e = .returned (.int .u32 (crc zs)) ∧ Below w.heap.size w w' := by
  have hb : Below w.heap.size w (w.alloc (.cells #[.slice a n c] 22)) := (Below.refl _ _).alloc (Nat.le_refl _) _
  have hR2 := (hR.below hb).mono hb.size
  have hc : (w.alloc (.cells #[.slice a n c] 22)).cell? ⟨w.heap.size, 0, none⟩ = some (.slice a n c) := by simp
  go_enter Try.func22, Try.ntmps22
  go_wp2_with fail
  refine (sumOf_any _ _ 1 _ (fun _ => a) (fun _ => n) (fun _ => c) (fun _ => zs) _ (by decide) (by simp) (fun _ _ => hn) ?_ (fun _ _ => hR2)).mono ?_
  · intro t ht
    obtain rfl : t = 0 := by omega
    exact hc
  · rintro e w' ⟨rfl, hb2⟩
    go_wp2
    go_ret
    refine ⟨?_, hb.trans (hb2.mono hb.size)⟩
    simp [cat]

theorem cat3 (zs : List Int) : cat (fun t => if t = 0 then zs.take 11 else if t = 1 then zeros 4 else zs.drop 15) 3 = splice zs 11 [0, 0, 0, 0] := by
  simp [cat, splice, zeros, List.replicate]

theorem parts3 (b off cap : Nat) (zs : List Int) (w : World) (hz : zs.length = 512) (hzb : Pl.isB zs) (hb : b < w.heap.size)
    (hc : ∀ t, t < 512 → w.cell? ⟨b, off + t, none⟩ = some (.int .u8 (zs.getD t 0))) :
    Calls Try.prog 39 #[.slice (some ⟨w.heap.size + 1, 0, none⟩) 3 3] ((w.alloc (.cells ((zeros 4).map (Value.int .u8)).toArray 5)).alloc (.cells #[.slice (some ⟨b, off, none⟩) 11 cap, .slice (some ⟨w.heap.size, 0, none⟩) 4 4, .slice (some ⟨b, off + 15, none⟩) 497 (cap - 15)] 22)).drew
      fun e w' => e = .returned (.int .u32 (crc (splice zs 11 [0, 0, 0, 0]))) ∧ Below w.heap.size w w' := by
  have hb1 : Below w.heap.size w ((w.alloc (.cells ((zeros 4).map (Value.int .u8)).toArray 5)).alloc (.cells #[.slice (some ⟨b, off, none⟩) 11 cap, .slice (some ⟨w.heap.size, 0, none⟩) 4 4, .slice (some ⟨b, off + 15, none⟩) 497 (cap - 15)] 22)).drew := (two_below w _ _).drew
  have hz4 : Blk .u8 5 ((w.alloc (.cells ((zeros 4).map (Value.int .u8)).toArray 5)).alloc (.cells #[.slice (some ⟨b, off, none⟩) 11 cap, .slice (some ⟨w.heap.size, 0, none⟩) 4 4, .slice (some ⟨b, off + 15, none⟩) 497 (cap - 15)] 22)).drew w.heap.size (zeros 4) := ((Blk.new w (zeros 4)).alloc _).drew
  have hsz : ((w.alloc (.cells ((zeros 4).map (Value.int .u8)).toArray 5)).alloc (.cells #[.slice (some ⟨b, off, none⟩) 11 cap, .slice (some ⟨w.heap.size, 0, none⟩) 4 4, .slice (some ⟨b, off + 15, none⟩) 497 (cap - 15)] 22)).drew.heap.size = w.heap.size + 2 := by simp
  have hcells : ∀ t, t < 3 → ((w.alloc (.cells ((zeros 4).map (Value.int .u8)).toArray 5)).alloc (.cells #[.slice (some ⟨b, off, none⟩) 11 cap, .slice (some ⟨w.heap.size, 0, none⟩) 4 4, .slice (some ⟨b, off + 15, none⟩) 497 (cap - 15)] 22)).drew.cell? ⟨w.heap.size + 1, 0 + t, none⟩ =
      some (.slice (if t = 0 then some ⟨b, off, none⟩ else if t = 1 then some ⟨w.heap.size, 0, none⟩ else some ⟨b, off + 15, none⟩) (if t = 0 then 11 else if t = 1 then 4 else 497) (if t = 0 then cap else if t = 1 then 4 else cap - 15)) := by
    intro t ht
    rcases (show t = 0 ∨ t = 1 ∨ t = 2 from by omega) with rfl | rfl | rfl <;> simp
  generalize ((w.alloc (.cells ((zeros 4).map (Value.int .u8)).toArray 5)).alloc (.cells #[.slice (some ⟨b, off, none⟩) 11 cap, .slice (some ⟨w.heap.size, 0, none⟩) 4 4, .slice (some ⟨b, off + 15, none⟩) 497 (cap - 15)] 22)).drew = W at *
  have hcW : ∀ t, t < 512 → W.cell? ⟨b, off + t, none⟩ = some (.int .u8 (zs.getD t 0)) := fun t ht => (hb1.cell (by exact hb)).trans (hc t ht)
  refine (sumOf_any _ _ 3 _ (fun t => if t = 0 then some ⟨b, off, none⟩ else if t = 1 then some ⟨w.heap.size, 0, none⟩ else some ⟨b, off + 15, none⟩) (fun t => if t = 0 then 11 else if t = 1 then 4 else 497) (fun t => if t = 0 then cap else if t = 1 then 4 else cap - 15)
    (fun t => if t = 0 then zs.take 11 else if t = 1 then zeros 4 else zs.drop 15) W (by decide) (by omega) ?_ hcells ?_).mono ?_
  · intro t ht
    rcases (show t = 0 ∨ t = 1 ∨ t = 2 from by omega) with rfl | rfl | rfl <;> simp
  · intro t ht
    rcases (show t = 0 ∨ t = 1 ∨ t = 2 from by omega) with rfl | rfl | rfl
    · refine ⟨by simp; omega, Pl.isB_take hzb _, .inr ⟨b, off, rfl, by omega, fun t ht => ?_⟩⟩
      rw [hcW t (by simp at ht; omega)]
      simp at ht
      simp [List.getElem?_take_of_lt ht]
    · refine ⟨by simp [zeros], isB_zeros 4, .inr ⟨w.heap.size, 0, rfl, by omega, fun t ht => ?_⟩⟩
      have h := hz4.cell t (by simp at ht; simpa [zeros] using ht)
      simpa using h
    · refine ⟨by simp; omega, Pl.isB_drop hzb _, .inr ⟨b, off + 15, rfl, by omega, fun t ht => ?_⟩⟩
      have h := hcW (15 + t) (by simp at ht; omega)
      rw [show off + 15 + t = off + (15 + t) by omega, h]
      simp
  · rintro e w' ⟨rfl, hb2⟩
    exact ⟨by rw [cat3], hb1.trans (hb2.mono (by omega))⟩

set_option maxRecDepth 100000 in
set_option maxHeartbeats 400000 in
theorem stampSum_any (b off cap : Nat) (zs : List Int) (w : World) (hz : zs.length = 512) (hzb : Pl.isB zs) (hb : b < w.heap.size) (hcap : 512 ≤ cap)
    (hc : ∀ t, t < 512 → w.cell? ⟨b, off + t, none⟩ = some (.int .u8 (zs.getD t 0))) :
    Calls Try.prog 34 #[.slice (some ⟨b, off, none⟩) 512 cap] w fun e w' => e = .returned (.int .u32 (crc (splice zs 11 [0, 0, 0, 0]))) ∧ Below w.heap.size w w' := by
  have hmk : ∀ u : World, (Instr.makeSlice 22 (.int .i64 4) (.int .i64 4)).run Try.prog u = .ok (.slice (some ⟨u.heap.size, 0, none⟩) 4 4) (u.alloc (.cells ((zeros 4).map (Value.int .u8)).toArray 5)) := make_u8 4 (by decide)
  go_enter Try.func34, Try.ntmps34
  go_wp2_with fail
  go_region_with (go_at_call 39; refine (parts3 b off cap zs w hz hzb hb hc).mono ?_; rintro e w' ⟨rfl, hb2⟩)
  all_goals go_wp2
  all_goals go_ret
  all_goals exact ⟨rfl, by assumption⟩

end Go.Proofs.Yteaebdonnicbkaa
