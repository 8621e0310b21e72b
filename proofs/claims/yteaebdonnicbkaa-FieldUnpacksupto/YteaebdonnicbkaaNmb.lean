/-
  The document's number (function 61).
-/
import Derived.Test.YteaebdonnicbkaaPack
namespace Go.Proofs.Yteaebdonnicbkaa
open Go.RowKit

theorem num_drop_step {zs : List Int} {j : Nat} (hj : j < zs.length) : Pl.num (zs.drop j) = 256 * Pl.num (zs.drop (j + 1)) + zs.getD j 0 := by
  rw [List.drop_eq_getElem_cons hj, Pl.num]
  have : zs.getD j 0 = zs[j] := by simp [hj]
  omega
theorem num_small {zs : List Int} (hb : Pl.isB zs) (j : Nat) (hj : zs.length - j ≤ 7) : 0 ≤ Pl.num (zs.drop j) ∧ Pl.num (zs.drop j) < 72057594037927936 := by
  have h0 := Pl.num_nonneg (Pl.isB_drop hb j)
  have h1 := Pl.num_lt (Pl.isB_drop hb j)
  rw [List.length_drop] at h1
  refine ⟨h0, Int.lt_of_lt_of_le h1 ?_⟩
  generalize zs.length - j = k at *
  rcases (show k = 0 ∨ k = 1 ∨ k = 2 ∨ k = 3 ∨ k = 4 ∨ k = 5 ∨ k = 6 ∨ k = 7 from by omega) with rfl | rfl | rfl | rfl | rfl | rfl | rfl | rfl <;> decide

set_option maxRecDepth 100000 in
set_option maxHeartbeats 1000000 in
theorem number_high (b off cap : Nat) (zs : List Int) (w : World) (hc : w.cell? ⟨b, off + 7, none⟩ = some (.int .u8 (zs.getD 7 0))) (h : 127 < zs.getD 7 0) :
    Calls Try.prog 61 #[.slice (some ⟨b, off, none⟩) 8 cap] w fun e w' => e = .returned (.tuple #[.int .i64 0, .bool false]) ∧ w' = w := by
  generalize zs.getD 7 0 = x at *
  go_enter Try.func61, Try.ntmps61
  go_wp2
  go_ret2
  exact ⟨rfl, rfl⟩

theorem num_top {zs : List Int} (hb : Pl.isB zs) (hz : zs.length = 8) (h : zs.getD 7 0 ≤ 127) : Pl.num zs ≤ 9223372036854775807 := by
  have e0 := num_drop_step (zs := zs) (j := 0) (by omega)
  have e1 := num_drop_step (zs := zs) (j := 1) (by omega)
  have e2 := num_drop_step (zs := zs) (j := 2) (by omega)
  have e3 := num_drop_step (zs := zs) (j := 3) (by omega)
  have e4 := num_drop_step (zs := zs) (j := 4) (by omega)
  have e5 := num_drop_step (zs := zs) (j := 5) (by omega)
  have e6 := num_drop_step (zs := zs) (j := 6) (by omega)
  have e7 := num_drop_step (zs := zs) (j := 7) (by omega)
  have e8 : zs.drop 8 = [] := List.drop_of_length_le (by omega)
  have bd : ∀ t, 0 ≤ zs.getD t 0 ∧ zs.getD t 0 < 256 := fun t => by
    have := Pl.isB_getD hb t
    rw [← List.getD_eq_getElem?_getD] at this
    exact this
  have b0 := bd 0
  have b1 := bd 1
  have b2 := bd 2
  have b3 := bd 3
  have b4 := bd 4
  have b5 := bd 5
  have b6 := bd 6
  have b7 := bd 7
  simp only [Nat.zero_add, Nat.reduceAdd, List.drop_zero] at e0 e1 e2 e3 e4 e5 e6 e7
  rw [e8, Pl.num] at e7
  omega
theorem num_all {zs : List Int} (hb : Pl.isB zs) (hz : zs.length ≤ 8) (h : zs.length = 8 → zs.getD 7 0 ≤ 127) (j : Nat) : 0 ≤ Pl.num (zs.drop j) ∧ Pl.num (zs.drop j) ≤ 9223372036854775807 := by
  refine ⟨Pl.num_nonneg (Pl.isB_drop hb j), ?_⟩
  by_cases h8 : zs.length - j ≤ 7
  · have := (num_small hb j h8).2
    omega
  · have hj : j = 0 := by omega
    subst hj
    rw [List.drop_zero]
    exact num_top hb (by omega) (h (by omega))

set_option maxRecDepth 100000 in
set_option maxHeartbeats 1000000 in
theorem number_ok (b off n cap : Nat) (zs : List Int) (w : World) (hn : n ≤ 8) (hz : zs.length = n) (hb : Pl.isB zs)
    (hc : ∀ t, t < n → w.cell? ⟨b, off + t, none⟩ = some (.int .u8 (zs.getD t 0))) (h : n = 8 → zs.getD 7 0 ≤ 127) :
    Calls Try.prog 61 #[.slice (some ⟨b, off, none⟩) n cap] w fun e w' => e = .returned (.tuple #[.int .i64 (Pl.num zs), .bool true]) ∧ w' = w := by
  have HA := hid (fun j => num_all hb (by omega) (fun h8 => h (by omega)) j)
  have Hs := hid (fun (j : Nat) (hj : j < n) => num_drop_step (zs := zs) (j := j) (by omega))
  have hd0 : zs.drop 0 = zs := List.drop_zero
  have H0 := hid hd0
  have Hc := hid hc
  have Hdn : Hid (zs.drop n = []) := List.drop_of_length_le (by omega)
  have Hb8 := hid (fun j => by have := Pl.isB_getD hb j; rw [← List.getD_eq_getElem?_getD] at this; exact this)
  clear hb hd0
  by_cases h8 : n = 8
  · subst h8
    have h7 := h rfl
    have c7 := hc 7 (by decide)
    generalize zs.getD 7 0 = x7 at h7 c7
    clear h hc hz
    go_enter Try.func61, Try.ntmps61
    go_wp2_with fail
    clear c7 h7
    go_loop [4, 5] (fun v i => ∃ j : Nat, j ≤ 8 ∧ i = .int .i64 ((j : Int) - 1) ∧ v = .int .i64 (Pl.num (zs.drop j))) (fun _ i => (intOf i + 1).toNat)
    case atStart => exact ⟨8, Nat.le_refl _, by go_num, by rw [Hdn.out]; rfl⟩
    case round =>
      obtain ⟨j, hj, rfl, rfl⟩ := hrel
      by_cases hj0 : j = 0
      · subst hj0
        rw [H0.out]
        go_wp2
        go_ret2
        exact ⟨rfl, rfl⟩
      · obtain ⟨k, rfl⟩ : ∃ k, j = k + 1 := ⟨j - 1, by omega⟩
        have hcj := Hc.out k (by omega)
        have hst := Hs.out k (by omega)
        have ha := HA.out k
        have hb1 := HA.out (k + 1)
        have hb2 := Hb8.out k
        have HE := hid hst
        rw [hst] at ha
        clear hst
        have hu : IntKind.i64.wrap (zs.getD k 0) = zs.getD k 0 := by rw [IntKind.wrap_i64]; omega
        generalize Pl.num (zs.drop (k + 1)) = v at *
        generalize zs.getD k 0 = x at *
        have e1 : IntKind.i64.wrap (256 * v) = 256 * v := by rw [IntKind.wrap_i64]; omega
        have e2 : IntKind.i64.wrap (256 * v + x) = 256 * v + x := by rw [IntKind.wrap_i64]; omega
        go_wp2
        go_round
        case rel => exact ⟨k, by omega, by go_num, by rw [HE.out]⟩
        case measure => simp [intOf]
  · have h8' : ((n : Int) == 8) = false := by simp; omega
    clear h hc
    go_enter Try.func61, Try.ntmps61
    go_wp2_with fail
    go_loop [4, 5] (fun v i => ∃ j : Nat, j ≤ n ∧ i = .int .i64 ((j : Int) - 1) ∧ v = .int .i64 (Pl.num (zs.drop j))) (fun _ i => (intOf i + 1).toNat)
    case atStart => exact ⟨n, Nat.le_refl _, by go_num, by rw [Hdn.out]; rfl⟩
    case round =>
      obtain ⟨j, hj, rfl, rfl⟩ := hrel
      by_cases hj0 : j = 0
      · subst hj0
        rw [H0.out]
        go_wp2
        go_ret2
        exact ⟨rfl, rfl⟩
      · obtain ⟨k, rfl⟩ : ∃ k, j = k + 1 := ⟨j - 1, by omega⟩
        have hcj := Hc.out k (by omega)
        have hst := Hs.out k (by omega)
        have ha := HA.out k
        have hb1 := HA.out (k + 1)
        have hb2 := Hb8.out k
        have HE := hid hst
        rw [hst] at ha
        clear hst
        have hu : IntKind.i64.wrap (zs.getD k 0) = zs.getD k 0 := by rw [IntKind.wrap_i64]; omega
        generalize Pl.num (zs.drop (k + 1)) = v at *
        generalize zs.getD k 0 = x at *
        have e1 : IntKind.i64.wrap (256 * v) = 256 * v := by rw [IntKind.wrap_i64]; omega
        have e2 : IntKind.i64.wrap (256 * v + x) = 256 * v + x := by rw [IntKind.wrap_i64]; omega
        go_wp2
        go_round
        case rel => exact ⟨k, by omega, by go_num, by rw [HE.out]⟩
        case measure => simp [intOf]

end Go.Proofs.Yteaebdonnicbkaa
