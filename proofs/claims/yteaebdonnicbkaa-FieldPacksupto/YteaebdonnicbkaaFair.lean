/-
  fair.
-/
import Derived.Test.YteaebdonnicbkaaUAny
namespace Go.Proofs.Yteaebdonnicbkaa
open Go.RowKit

theorem chk_ok {x v : Int} (h1 : 1 ≤ x) (h2 : x ≤ 8) (h3 : 0 ≤ v) (h4 : v < 256 ^ x.toNat) : chk x v = 0 := by
  unfold chk
  rw [if_neg (by simp [wfB]; omega), if_neg (by omega)]

set_option maxRecDepth 100000 in
set_option maxHeartbeats 1000000 in
theorem fair_any (x v : Int) (w : World) : Calls Try.prog 16 #[.agg #[.int .i64 x, .int .i64 v]] w fun e w' => ∃ X V, e = .returned (.agg #[.int .i64 X, .int .i64 V]) ∧ chk X V = 0 ∧ V ≤ 9223372036854775807 ∧ Below w.heap.size w w' := by
  go_enter Try.func16, Try.ntmps16
  go_wp2_with fail
  refine (low_any x _).mono ?_
  rintro e w1 ⟨y, rfl, y0, y1, rfl⟩
  rcases (show y % 8 = 0 ∨ y % 8 = 1 ∨ y % 8 = 2 ∨ y % 8 = 3 ∨ y % 8 = 4 ∨ y % 8 = 5 ∨ y % 8 = 6 ∨ y % 8 = 7 from by omega) with e0 | e0 | e0 | e0 | e0 | e0 | e0 | e0
  · go_wp2_with fail
    refine (low_any v _).mono ?_
    rintro e w1 ⟨z, rfl, z0, z1, rfl⟩
    go_wp2_with fail
    exact bodyPost_ret (v := .agg #[.int .i64 1, .int .i64 (z % 256)]) (by simp [results, Try.results16, go_sem]) rfl ⟨1, (z % 256), rfl, chk_ok (by decide) (by decide) (by omega) (by rw [show (256 : Int) ^ (1 : Int).toNat = 256 from by decide]; omega), by omega, two_below _ _ _⟩
  · go_wp2_with fail
    refine (low_any v _).mono ?_
    rintro e w1 ⟨z, rfl, z0, z1, rfl⟩
    go_wp2_with fail
    exact bodyPost_ret (v := .agg #[.int .i64 2, .int .i64 (z % 65536)]) (by simp [results, Try.results16, go_sem]) rfl ⟨2, (z % 65536), rfl, chk_ok (by decide) (by decide) (by omega) (by rw [show (256 : Int) ^ (2 : Int).toNat = 65536 from by decide]; omega), by omega, two_below _ _ _⟩
  · go_wp2_with fail
    refine (low_any v _).mono ?_
    rintro e w1 ⟨z, rfl, z0, z1, rfl⟩
    go_wp2_with fail
    exact bodyPost_ret (v := .agg #[.int .i64 3, .int .i64 (z % 16777216)]) (by simp [results, Try.results16, go_sem]) rfl ⟨3, (z % 16777216), rfl, chk_ok (by decide) (by decide) (by omega) (by rw [show (256 : Int) ^ (3 : Int).toNat = 16777216 from by decide]; omega), by omega, two_below _ _ _⟩
  · go_wp2_with fail
    refine (low_any v _).mono ?_
    rintro e w1 ⟨z, rfl, z0, z1, rfl⟩
    go_wp2_with fail
    exact bodyPost_ret (v := .agg #[.int .i64 4, .int .i64 (z % 4294967296)]) (by simp [results, Try.results16, go_sem]) rfl ⟨4, (z % 4294967296), rfl, chk_ok (by decide) (by decide) (by omega) (by rw [show (256 : Int) ^ (4 : Int).toNat = 4294967296 from by decide]; omega), by omega, two_below _ _ _⟩
  · go_wp2_with fail
    refine (low_any v _).mono ?_
    rintro e w1 ⟨z, rfl, z0, z1, rfl⟩
    go_wp2_with fail
    exact bodyPost_ret (v := .agg #[.int .i64 5, .int .i64 (z % 1099511627776)]) (by simp [results, Try.results16, go_sem]) rfl ⟨5, (z % 1099511627776), rfl, chk_ok (by decide) (by decide) (by omega) (by rw [show (256 : Int) ^ (5 : Int).toNat = 1099511627776 from by decide]; omega), by omega, two_below _ _ _⟩
  · go_wp2_with fail
    refine (low_any v _).mono ?_
    rintro e w1 ⟨z, rfl, z0, z1, rfl⟩
    go_wp2_with fail
    exact bodyPost_ret (v := .agg #[.int .i64 6, .int .i64 (z % 281474976710656)]) (by simp [results, Try.results16, go_sem]) rfl ⟨6, (z % 281474976710656), rfl, chk_ok (by decide) (by decide) (by omega) (by rw [show (256 : Int) ^ (6 : Int).toNat = 281474976710656 from by decide]; omega), by omega, two_below _ _ _⟩
  · go_wp2_with fail
    refine (low_any v _).mono ?_
    rintro e w1 ⟨z, rfl, z0, z1, rfl⟩
    go_wp2_with fail
    exact bodyPost_ret (v := .agg #[.int .i64 7, .int .i64 (z % 72057594037927936)]) (by simp [results, Try.results16, go_sem]) rfl ⟨7, (z % 72057594037927936), rfl, chk_ok (by decide) (by decide) (by omega) (by rw [show (256 : Int) ^ (7 : Int).toNat = 72057594037927936 from by decide]; omega), by omega, two_below _ _ _⟩
  · go_wp2_with fail
    refine (low_any v _).mono ?_
    rintro e w1 ⟨z, rfl, z0, z1, rfl⟩
    go_wp2_with fail
    exact bodyPost_ret (v := .agg #[.int .i64 8, .int .i64 z]) (by simp [results, Try.results16, go_sem]) rfl ⟨8, z, rfl, chk_ok (by decide) (by decide) (by omega) (by rw [show (256 : Int) ^ (8 : Int).toNat = 18446744073709551616 from by decide]; omega), by omega, two_below _ _ _⟩

end Go.Proofs.Yteaebdonnicbkaa
