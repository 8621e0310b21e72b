/-
  THE LEAVES: what the small functions answer, over bytes that are only read.
-/
import Derived.Test.YteaebdonnicbkaaRows
import Derived.Test.YteaebdonnicbkaaPlain
import Derived.Test.YteaebdonnicbkaaBlk
import Derived.WalkKit
import Derived.WalkSpells
import Derived.WalkLawsBesides
import Derived.Laws.BitsAllLaws
namespace Go.Proofs.Yteaebdonnicbkaa
open Go.RowKit

theorem or_u64 {A z : Int} (h0 : 0 ≤ A) (h1 : A < 72057594037927936) (z0 : 0 ≤ z) (z1 : z < 256) :
    bits BinOp.or IntKind.u64 (IntKind.u64.wrap (A * 256)) (IntKind.u64.wrap z) = z + 256 * A := by
  obtain ⟨a, rfl⟩ := Int.eq_ofNat_of_zero_le h0
  obtain ⟨y, rfl⟩ := Int.eq_ofNat_of_zero_le z0
  rw [IntKind.wrap_u64, IntKind.wrap_u64, show ((a : Int) * 256) % 18446744073709551616 = ((a * 256 : Nat) : Int) by omega, show ((y : Int)) % 18446744073709551616 = ((y : Nat) : Int) by omega,
    u64_or_nat _ _ (by omega) (by omega), Pl.lor_add a y (by omega)]
  omega

set_option maxHeartbeats 400000 in
theorem num_any (x : Int) (w : World) :
    Calls Try.prog 14 #[.int .i64 x] w fun e w' => e = .returned (.int .i64 x) ∧ w' = w := by
  go_enter Try.func14, Try.ntmps14
  go_wp2
  go_ret
  exact ⟨rfl, rfl⟩

def wfB (x : Int) : Bool := decide (1 ≤ x) && decide (x ≤ 8)

set_option maxHeartbeats 400000 in
theorem widthFits_any (x : Int) (w : World) :
    Calls Try.prog 38 #[.int .i64 x] w fun e w' => e = .returned (.bool (wfB x)) ∧ w' = w := by
  go_enter Try.func38, Try.ntmps38
  go_wp2
  all_goals go_ret
  · exact ⟨by simp [wfB, *], rfl⟩
  · exact ⟨by simp [wfB]; omega, rfl⟩

theorem num_lt7 {zs : List Int} (hb : Pl.isB zs) (j : Nat) (hn : zs.length ≤ 8) : Pl.num (zs.drop (j + 1)) < 72057594037927936 := by
  have h := Pl.num_lt (Pl.isB_drop hb (j + 1))
  have hl : (zs.drop (j + 1)).length ≤ 7 := by simp; omega
  have h2 : (256 : Int) ^ (zs.drop (j + 1)).length ≤ 72057594037927936 := by
    generalize (zs.drop (j + 1)).length = n at hl
    rcases (show n = 0 ∨ n = 1 ∨ n = 2 ∨ n = 3 ∨ n = 4 ∨ n = 5 ∨ n = 6 ∨ n = 7 from by omega) with rfl | rfl | rfl | rfl | rfl | rfl | rfl | rfl <;> decide
  omega

theorem getNumber_step {zs : List Int} (hb : Pl.isB zs) {j : Nat} (hj : j < zs.length) (hn : zs.length ≤ 8) :
    bits BinOp.or IntKind.u64 (IntKind.u64.wrap (Pl.num (List.drop (j + 1) zs) * 256)) (IntKind.u64.wrap (zs[j]?.getD 0)) = Pl.num (zs.drop j) := by
  rw [Pl.num_step hj]
  have hz := Pl.isB_getD hb j
  exact or_u64 (Pl.num_nonneg (Pl.isB_drop hb _)) (num_lt7 hb j hn) hz.1 hz.2

set_option maxHeartbeats 400000 in
theorem getNumber_any (b off n cap : Nat) (zs : List Int) (w : World) (hn : n ≤ 8) (hz : zs.length = n) (hb : Pl.isB zs)
    (hc : ∀ t, t < n → w.cell? ⟨b, off + t, none⟩ = some (.int .u8 (zs.getD t 0))) :
    Calls Try.prog 35 #[.slice (some ⟨b, off, none⟩) n cap] w fun e w' => e = .returned (.int .u64 (Pl.num zs)) ∧ w' = w := by
  go_enter Try.func35, Try.ntmps35
  go_wp2
  go_loop [3, 4] (fun s i => ∃ k : Nat, k ≤ n ∧ i = .int .i64 ((k : Int) - 1) ∧ s = .int .u64 (Pl.num (zs.drop k))) (fun _ i => (intOf i + 1).toNat)
  case atStart => exact ⟨n, Nat.le_refl _, rfl, by rw [List.drop_of_length_le (by omega)]; rfl⟩
  case round =>
    obtain ⟨k, hk, rfl, rfl⟩ := hrel
    by_cases h0 : k = 0
    · subst h0
      go_wp2
      go_ret
      exact ⟨by simp, rfl⟩
    · obtain ⟨j, rfl⟩ : ∃ j, k = j + 1 := ⟨k - 1, by omega⟩
      have hcj := hc j (by omega)
      go_wp2
      go_round
      case rel => exact ⟨j, by omega, rfl, by rw [getNumber_step hb (by omega) (by omega)]⟩
      case measure => simp [intOf]

/-- BYTES THAT ARE READ: n of them, at an address below block B (of none of them nothing is known) -/
def Rd (B : Nat) (w : World) (a : Option Addr) (n : Nat) (zs : List Int) : Prop :=
  zs.length = n ∧ Pl.isB zs ∧ (n = 0 ∨ ∃ b off, a = some ⟨b, off, none⟩ ∧ b < B ∧ ∀ t, t < n → w.cell? ⟨b, off + t, none⟩ = some (.int .u8 (zs.getD t 0)))

theorem Rd.below {B : Nat} {w w' : World} {a : Option Addr} {n : Nat} {zs : List Int} (h : Rd B w a n zs) (hb : Below B w w') : Rd B w' a n zs := by
  obtain ⟨h1, h2, h3⟩ := h
  refine ⟨h1, h2, ?_⟩
  rcases h3 with h3 | ⟨b, off, rfl, hlt, hc⟩
  · exact .inl h3
  · exact .inr ⟨b, off, rfl, hlt, fun t ht => (hb.cell (by exact hlt)).trans (hc t ht)⟩
theorem Rd.mono {B B' : Nat} {w : World} {a : Option Addr} {n : Nat} {zs : List Int} (h : Rd B w a n zs) (hb : B ≤ B') : Rd B' w a n zs := by
  obtain ⟨h1, h2, h3⟩ := h
  refine ⟨h1, h2, ?_⟩
  rcases h3 with h3 | ⟨b, off, rfl, hlt, hc⟩
  · exact .inl h3
  · exact .inr ⟨b, off, rfl, by omega, hc⟩

def zeroB (zs : List Int) : Bool := zs.all (· == 0)
theorem zeroB_step {zs : List Int} {k : Nat} (h : zeroB (zs.take k) = true) (he : zs[k]?.getD 0 = 0) : zeroB (zs.take (k + 1)) = true := by
  unfold zeroB at *
  rw [List.take_add_one, List.all_append, h]
  cases hk : zs[k]? <;> simp_all
theorem zeroB_not {zs : List Int} {k : Nat} (he : zs[k]?.getD 0 ≠ 0) : zeroB zs = false := by
  unfold zeroB
  rw [List.all_eq_false]
  cases hk : zs[k]? with
  | none => simp [hk] at he
  | some z => exact ⟨z, List.mem_of_getElem? hk, by simpa [hk] using he⟩

set_option maxHeartbeats 400000 in
theorem allZero_any (B : Nat) (a : Option Addr) (n cap : Nat) (zs : List Int) (w : World) (hm : n ≤ 1048576) (h : Rd B w a n zs) :
    Calls Try.prog 36 #[.slice a n cap] w fun e w' => e = .returned (.bool (zeroB zs)) ∧ w' = w := by
  obtain ⟨hz, hb, h3⟩ := h
  rcases h3 with rfl | ⟨b, off, rfl, hlt, hc⟩
  · have : zs = [] := List.length_eq_zero_iff.1 hz
    subst this
    go_enter Try.func36, Try.ntmps36
    go_wp2
    refine wp_loop_rounds 1 ?_
    rw [rounds_succ]
    go_wp2
    go_ret
    exact ⟨rfl, rfl⟩
  · go_enter Try.func36, Try.ntmps36
    go_wp2
    go_loop [7] (fun i => ∃ k : Nat, k ≤ n ∧ i = .int .i64 (k : Int) ∧ zeroB (zs.take k) = true) (fun i => n - (intOf i).toNat)
    case atStart => exact ⟨0, Nat.zero_le _, rfl, rfl⟩
    case round =>
      obtain ⟨k, hk, rfl, hzt⟩ := hrel
      by_cases h0 : k < n
      · obtain ⟨z, hzv⟩ : ∃ z, z = zs.getD k 0 := ⟨_, rfl⟩
        have hcj := hc k h0
        rw [← hzv] at hcj
        rw [List.getD_eq_getElem?_getD] at hzv
        have H : Hid (z = zs[k]?.getD 0) := hzv
        clear hzv hc hz hb
        by_cases he : z = 0
        · subst he
          go_wp2
          go_round
          case rel => exact ⟨k + 1, by omega, by go_num, zeroB_step hzt H.out.symm⟩
          case measure => simp [intOf]; omega
        · have hne : (z != 0) = true := by simpa using he
          go_wp2
          go_ret
          exact ⟨by rw [zeroB_not (k := k) (by rw [← H.out]; exact he)]; rfl, rfl⟩
      · go_wp2
        go_ret
        rw [List.take_of_length_le (by omega)] at hzt
        exact ⟨by rw [hzt]; rfl, rfl⟩

set_option maxHeartbeats 400000 in
theorem putNumber_any (g off n cap : Nat) (v : Int) (zs : List Int) (w : World) (hn : n ≤ 8) (h0 : 0 ≤ v) (h1 : v < 18446744073709551616) (hB : Blk .u8 5 w g zs) (hl : off + n ≤ zs.length) :
    Calls Try.prog 33 #[.slice (some ⟨g, off, none⟩) n cap, .int .u64 v] w fun e w' => e = .returned (.tuple #[]) ∧ w'.heap.size = w.heap.size ∧ w.grownBy w' (some g) ∧ Blk .u8 5 w' g (splice zs off (Pl.dig v n)) := by
  go_enter Try.func33, Try.ntmps33
  go_wp2
  go_loopw [1, 7] (fun s i wr => ∃ (k : Nat) (u : Int) (ys : List Int), k ≤ n ∧ 0 ≤ u ∧ u < 18446744073709551616 ∧ i = .int .i64 (k : Int) ∧ s = .int .u64 u ∧ Blk .u8 5 wr g ys ∧ ys.length = zs.length ∧
      splice ys (off + k) (Pl.dig u (n - k)) = splice zs off (Pl.dig v n) ∧ wr.heap.size = w.heap.size ∧ w.grownBy wr (some g)) (fun _ i _ => n - (intOf i).toNat)
  case atStart => exact ⟨0, v, zs, Nat.zero_le _, h0, h1, rfl, rfl, hB, rfl, by simp, rfl, World.grownBy.refl _ _⟩
  case round =>
    obtain ⟨k, u, ys, hk, u0, u1, rfl, rfl, hBk, hyl, hsp, hsz, hgr⟩ := hrel
    by_cases hlt : k < n
    · have hc := hBk.cell (off + k) (by omega)
      have hf := hBk.frozen (off + k)
      go_wp2
      go_roundw
      case rel =>
        refine ⟨k + 1, u / 256, ys.set (off + k) (u % 256), by omega, by omega, by omega, by go_num, rfl, hBk.set _ _, by simpa using hyl, ?_, by simpa [World.setCell] using hsz, grown_set hgr rfl _⟩
        rw [← hsp, show n - k = (n - (k + 1)) + 1 by omega, Pl.dig, splice_cons _ _ _ _ (by omega)]
        rfl
      case measure => simp [intOf]; omega
    · go_wp2
      go_end0
      rw [show n - k = 0 by omega, Pl.dig, splice_nil] at hsp
      exact ⟨rfl, hsz, hgr, hsp ▸ hBk⟩

theorem steps_tab : (List.range 16).map (fun x => ((Pl.stepN 4 x : Nat) : Int)) = [0, 274646895, 549293790, 820201905, 1098587580, 1361435347, 1640403810, 1905808397, 2197175160, 2460548119, 2722870694, 2987750089, 3280807620, 3553878443, 3811616794, 4084100981] := by decide

def tab : List Int := (List.range 16).map (fun x => ((Pl.stepN 4 x : Nat) : Int))
set_option maxHeartbeats 400000 in
theorem sumSteps_any (w : World) :
    Calls Try.prog 63 #[] w fun e w' => e = .returned (.agg (tab.map (Value.int .u32)).toArray) ∧ w' = w.alloc (.cells (tab.map (Value.int .u32)).toArray 102) := by
  rw [show tab = _ from steps_tab]
  go_enter Try.func63, Try.ntmps63
  go_wp2
  exact bodyPost_ret (v := .agg (List.map (Value.int .u32) [0, 274646895, 549293790, 820201905, 1098587580, 1361435347, 1640403810, 1905808397, 2197175160, 2460548119, 2722870694, 2987750089, 3280807620, 3553878443, 3811616794, 4084100981]).toArray) (by simp [results, Try.results63, go_sem]) rfl ⟨rfl, rfl⟩

end Go.Proofs.Yteaebdonnicbkaa
