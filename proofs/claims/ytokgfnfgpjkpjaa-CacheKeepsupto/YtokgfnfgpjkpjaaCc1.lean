/-
  CacheReads: alike, a Write.
-/
import Derived.Test.YtokgfnfgpjkpjaaCc0
import Derived.Deep.RegionHeld3
namespace Go.Proofs.Ytokgfnfgpjkpjaa
open Go.RowKit

theorem five_cells {w : World} {A : Nat} {v0 v1 v2 v3 v4 : Value} (h : w.heap[A]? = some (.cells #[v0, v1, v2, v3, v4] 42 (0, 0))) : w.cell? ⟨A, 0, none⟩ = some v0 ∧ w.cell? ⟨A, 1, none⟩ = some v1 ∧ w.cell? ⟨A, 2, none⟩ = some v2 ∧ w.cell? ⟨A, 3, none⟩ = some v3 ∧ w.cell? ⟨A, 4, none⟩ = some v4 := by
  refine ⟨?_, ?_, ?_, ?_, ?_⟩ <;> simp [World.cell?, h]
set_option maxRecDepth 100000 in
set_option maxHeartbeats 4000000 in
theorem alike2 {B : Nat} {w0 w : World} {c p p2 room nb m : Nat} (h : Duo B w0 w c p p2 room nb m) (hm : m ≤ 1073741823) (wh at_ fi : Int) {a : Option Addr} {n : Nat} (cp : Nat) {zs : List Int} (hR : Rd B w0 a n zs) :
    Calls Try.prog 19 #[.pointer (some ⟨c, 0, none⟩), .pointer (some ⟨p2, 0, none⟩), cactV wh 2 at_ fi (.slice a n cp)] w fun q w' => q = .returned (.bool true) ∧ Duo B w0 w' c p p2 room nb (m + 1) := by
  obtain ⟨W, hW⟩ : ∃ W, W = w.alloc (.cells #[.int .i64 wh, .int .i64 2, .int .i64 at_, .int .i64 fi, .slice a n cp] 42) := ⟨_, rfl⟩
  have bW : Below w.heap.size w W := by rw [hW]; exact (Below.refl _ _).alloc (Nat.le_refl _) _
  have zW : W.heap.size = w.heap.size + 1 := by rw [hW]; simp
  have kW : W.heap[w.heap.size]? = some (.cells #[.int .i64 wh, .int .i64 2, .int .i64 at_, .int .i64 fi, .slice a n cp] 42 (0, 0)) := by
    rw [hW]
    show (w.heap.push _)[w.heap.size]? = _
    simp
  obtain ⟨X, Y, X2, hi, mi, l, img, puts, fu, off, h1, h2, h3, h4, h5, h6, h7, h8⟩ := h
  obtain ⟨c0, c1, c2, c3, c4⟩ := five_cells kW
  have bD : Below w.heap.size w W.drew := bW.drew
  have T := h1.below bD
  have hR1 : Rd B W.drew a n zs := hR.below (h8.trans (bD.mono h7))
  have HD1 := hid (data_any (w := W.drew) (B := B) (by show B ≤ W.heap.size; omega) wh 2 at_ fi cp hR1)
  generalize hZ : dataZ fi zs = Z at *
  have HW : Hid (∀ w1 al cp1, RdS B W.drew.heap.size w1 al Z.length Z → Below W.drew.heap.size W.drew w1 → (w1.cell? ⟨w.heap.size, 0, none⟩ = some (.int .i64 wh) ∧ w1.cell? ⟨w.heap.size, 1, none⟩ = some (.int .i64 2) ∧ w1.cell? ⟨w.heap.size, 2, none⟩ = some (.int .i64 at_) ∧ w1.cell? ⟨w.heap.size, 3, none⟩ = some (.int .i64 fi) ∧ w1.cell? ⟨w.heap.size, 4, none⟩ = some (.slice a n cp)) ∧
      Calls Try.prog 10 #[.pointer (some ⟨c, 0, none⟩), .int .i64 at_, .slice al Z.length cp1] w1 fun e w2 => e = .returned (.int .i64 (writeC off fu nb at_ Z.length)) ∧ (w2.cell? ⟨w.heap.size, 0, none⟩ = some (.int .i64 wh) ∧ w2.cell? ⟨w.heap.size, 1, none⟩ = some (.int .i64 2) ∧ w2.cell? ⟨w.heap.size, 2, none⟩ = some (.int .i64 at_) ∧ w2.cell? ⟨w.heap.size, 3, none⟩ = some (.int .i64 fi) ∧ w2.cell? ⟨w.heap.size, 4, none⟩ = some (.slice a n cp)) ∧
        Calls Try.prog 14 #[.agg #[.int .i64 wh, .int .i64 2, .int .i64 at_, .int .i64 fi, .slice a n cp]] w2 fun e w3 => ∃ al2 cp2, e = .returned (.slice al2 Z.length cp2) ∧ (w3.cell? ⟨w.heap.size, 0, none⟩ = some (.int .i64 wh) ∧ w3.cell? ⟨w.heap.size, 1, none⟩ = some (.int .i64 2) ∧ w3.cell? ⟨w.heap.size, 2, none⟩ = some (.int .i64 at_) ∧ w3.cell? ⟨w.heap.size, 3, none⟩ = some (.int .i64 fi) ∧ w3.cell? ⟨w.heap.size, 4, none⟩ = some (.slice a n cp)) ∧
          Calls Try.prog 30 #[.pointer (some ⟨p2, 0, none⟩), .int .i64 at_, .slice al2 Z.length cp2] w3 fun e w4 => e = .returned (.int .i64 (writeC off fu nb at_ Z.length)) ∧ Duo B w0 w4 c p p2 room nb (m + 1) ∧ (w4.cell? ⟨w.heap.size, 0, none⟩ = some (.int .i64 wh) ∧ w4.cell? ⟨w.heap.size, 1, none⟩ = some (.int .i64 2) ∧ w4.cell? ⟨w.heap.size, 2, none⟩ = some (.int .i64 at_) ∧ w4.cell? ⟨w.heap.size, 3, none⟩ = some (.int .i64 fi) ∧ w4.cell? ⟨w.heap.size, 4, none⟩ = some (.slice a n cp))) := by
    intro w1 al cp1 r1 b1
    have zD : W.drew.heap.size = w.heap.size + 1 := zW
    have k1 := (b1.block w.heap.size (by omega)).trans kW
    have s1 := b1.size
    refine ⟨five_cells k1, Calls.mono (T.write2 (S := w.heap.size) h2 h3 h4 h5 (fun k q => ?_) (by omega) h7 (h8.trans (bD.mono h7)) hm at_ Z cp1 (r1.low (by omega)) (b1.mono (by omega))) ?_⟩
    · rcases q with q | q | q
      · exact ⟨h6 k (.inl q.1), q.2⟩
      · exact ⟨h6 k (.inr (.inl q.1)), q.2⟩
      · exact ⟨h6 k (.inr (.inr q.1)), q.2⟩
    · rintro e w2 ⟨rfl, s2, u2, k2, H⟩
      have k2' := (k2 w.heap.size (Nat.le_refl _) (by omega)).trans k1
      refine ⟨rfl, five_cells k2', ?_⟩
      have hD := data_any (w := w2) (B := B) (by omega) wh 2 at_ fi cp (hR.below u2)
      rw [hZ] at hD
      refine Calls.mono hD ?_
      rintro e w3 ⟨al2, cp2, rfl, r3, b3⟩
      have k3 := (b3.block w.heap.size (by omega)).trans k2'
      refine ⟨al2, cp2, rfl, five_cells k3, Calls.mono (H w3 al2 cp2 (r3.low (by omega)) b3) ?_⟩
      rintro e w4 ⟨rfl, hduo, k4⟩
      exact ⟨rfl, hduo, five_cells ((k4 w.heap.size (Nat.le_refl _) (by have := b3.size; omega)).trans k3)⟩
  generalize writeC off fu nb at_ Z.length = C at *
  generalize Z.length = N at *
  clear h1 h2 h6 h8 bW bD T hR1 hR kW hZ zW
  unfold cactV at *
  go_enter Try.func19, Try.ntmps19
  go_wp2_with fail
  rw [← hW]
  clear hW
  go_region_held3 (fun w' => w'.cell? ⟨w.heap.size, 0, none⟩ = some (.int .i64 wh) ∧ w'.cell? ⟨w.heap.size, 1, none⟩ = some (.int .i64 2) ∧ w'.cell? ⟨w.heap.size, 2, none⟩ = some (.int .i64 at_) ∧ w'.cell? ⟨w.heap.size, 3, none⟩ = some (.int .i64 fi) ∧ w'.cell? ⟨w.heap.size, 4, none⟩ = some (.slice a n cp)) (first | exact ⟨by assumption, by assumption, by assumption, by assumption, by assumption⟩ | go_keep)
    ((first
      | (go_at_call 30; refine Calls.mono K3.out.2 ?_; rintro e w4 ⟨rfl, hduo, l0, l1, l2, l3, l4⟩
         have FIN := hid hduo
         clear hduo)
      | (go_at_call 14; refine Calls.mono K2.out.2 ?_; rintro e w3 ⟨al2, cp2, rfl, q3⟩
         have K3 := hid q3
         have j0 := q3.1.1
         have j1 := q3.1.2.1
         have j2 := q3.1.2.2.1
         have j3 := q3.1.2.2.2.1
         have j4 := q3.1.2.2.2.2
         clear q3)
      | (go_at_call 10; refine Calls.mono K1.out.2 ?_; rintro e w2 ⟨rfl, q2⟩
         have K2 := hid q2
         have i0 := q2.1.1
         have i1 := q2.1.2.1
         have i2 := q2.1.2.2.1
         have i3 := q2.1.2.2.2.1
         have i4 := q2.1.2.2.2.2
         clear q2)
      | (go_at_call 14; refine Calls.mono HD1.out ?_; rintro e w1 ⟨al, cp1, rfl, r1, b1⟩
         have K1 := hid (HW.out w1 al cp1 r1 b1)
         have d0 := K1.out.1.1
         have d1 := K1.out.1.2.1
         have d2 := K1.out.1.2.2.1
         have d3 := K1.out.1.2.2.2.1
         have d4 := K1.out.1.2.2.2.2
         clear r1 b1)))
  go_wp2
  go_ret
  exact ⟨by simp, FIN.out⟩

end Go.Proofs.Ytokgfnfgpjkpjaa
