/-
  stream: may a run follow; may a head be.
-/
import Derived.Test.YtahaehjmnafhbaaNm0
namespace Go.Proofs.Ytahaehjmnafhbaa
open Go.RowKit

set_option maxRecDepth 100000 in
set_option maxHeartbeats 1000000 in
theorem ahead_any (k t kind fr to : Int) (w : World) : Calls Try.prog 38 #[.agg #[.int .i64 k, .int .i64 t], .int .i64 kind, .agg #[.int .i64 fr, .int .i64 to]] w fun e w' => e = .returned (.bool (ahead k t kind fr)) ∧ Below w.heap.size w w' := by
  have hb := hid (two_below w (.cells #[.int .i64 k, .int .i64 t] 76) (.cells #[.int .i64 fr, .int .i64 to] 92))
  by_cases q1 : t < fr
  · have e : ahead k t kind fr = true := by unfold ahead; simp [q1]
    rw [e]
    go_enter Try.func38, Try.ntmps38
    go_wp2
    go_ret
    exact ⟨rfl, hb.out⟩
  · by_cases q2 : fr = t
    · subst q2
      by_cases q3 : kind = k
      · subst q3
        have e : ahead kind fr kind fr = false := by unfold ahead; simp
        rw [e]
        go_enter Try.func38, Try.ntmps38
        go_wp2
        go_ret
        exact ⟨by simp, hb.out⟩
      · have e : ahead k fr kind fr = true := by unfold ahead; simp [q3]
        rw [e]
        have q4 : (kind != k) = true := by simpa using q3
        go_enter Try.func38, Try.ntmps38
        go_wp2
        go_ret
        exact ⟨rfl, hb.out⟩
    · have e : ahead k t kind fr = false := by unfold ahead; simp [q2]; omega
      rw [e]
      have q4 : (fr == t) = false := by simpa using q2
      go_enter Try.func38, Try.ntmps38
      go_wp2
      go_ret
      exact ⟨rfl, hb.out⟩

theorem str_nil (l : List Int) : ((strOfNums l).toList == ([] : List UInt8)) = decide (l = []) := by
  rw [Lib.strOfNums_toList]
  cases l <;> simp [Lib.bytesOf]
/-- a content's cells -/
abbrev cnt (h : Hd) (v : Value) : Value := .agg #[.string (strOfNums h.name), .int .i64 h.size, .string (strOfNums h.since), .int .u32 h.sum, v]
set_option maxRecDepth 100000 in
set_option maxHeartbeats 1000000 in
theorem headMay_gen (S1 S2 : ByteArray) (sz sm : Int) (N1 N2 E R : Bool) (a : Option Addr) (n c : Nat) (w : World) (H1 : ∀ W, Calls Try.prog 37 #[.string S1] W fun e w' => e = .returned (.bool N1) ∧ w' = W) (H2 : ∀ W, Calls Try.prog 37 #[.string S2] W fun e w' => e = .returned (.bool N2) ∧ w' = W) (hn : (S2.toList == ([] : List UInt8)) = E)
    (hR : Hid (R = (N1 && decide (1 ≤ sz) && decide (sz ≤ 262144) && (if E then decide (sm = 0) else N2)))) :
    Calls Try.prog 28 #[.agg #[.string S1, .int .i64 sz, .string S2, .int .u32 sm, .slice a n c]] w fun e w' => e = .returned (.bool R) ∧ Below w.heap.size w w' := by
  have hb := hid ((Below.refl w.heap.size w).alloc (Nat.le_refl _) (.cells #[.string S1, .int .i64 sz, .string S2, .int .u32 sm, .slice a n c] 39))
  have G1 := hid H1
  have G2 := hid H2
  clear H1 H2
  go_enter Try.func28, Try.ntmps28
  go_wp2_with fail
  refine Calls.mono (G1.out _) ?_
  rintro e w' ⟨rfl, rfl⟩
  clear G1
  cases N1
  · go_wp2
    go_ret
    exact ⟨by rw [hR.out]; rfl, hb.out⟩
  by_cases q1 : sz < 1
  · go_wp2
    go_ret
    exact ⟨by rw [hR.out, show decide (1 ≤ sz) = false by simp; omega]; rfl, hb.out⟩
  by_cases q2 : 262144 < sz
  · go_wp2
    go_ret
    exact ⟨by rw [hR.out, show decide (sz ≤ 262144) = false by simp; omega, Bool.and_false]; rfl, hb.out⟩
  have e1 := hid (show decide (1 ≤ sz) = true by simp; omega)
  have e2 := hid (show decide (sz ≤ 262144) = true by simp; omega)
  cases E
  · go_wp2_with fail
    refine Calls.mono (G2.out _) ?_
    rintro e w' ⟨rfl, rfl⟩
    clear G2
    go_wp2
    go_ret
    exact ⟨by rw [hR.out, e1.out, e2.out]; rfl, hb.out⟩
  · go_wp2
    go_ret
    exact ⟨by rw [hR.out, e1.out, e2.out]; rfl, hb.out⟩

theorem hmy_eq (h : Hd) : hmy h = (nmd h.name && decide (1 ≤ h.size) && decide (h.size ≤ 262144) && (if decide (h.since = []) = true then decide (h.sum = 0) else nmd h.since)) := by
  unfold hmy
  congr 1
  by_cases q : h.since = [] <;> simp [q]
theorem headMay_any (h : Hd) (a : Option Addr) (n c : Nat) (b1 : Pl.isB h.name) (b2 : Pl.isB h.since) (l1 : h.name.length ≤ 16777216) (l2 : h.since.length ≤ 16777216) (w : World) :
    Calls Try.prog 28 #[cnt h (.slice a n c)] w fun e w' => e = .returned (.bool (hmy h)) ∧ Below w.heap.size w w' := by
  rw [hmy_eq]
  exact headMay_gen _ _ _ _ _ _ _ _ a n c w (IsName_any h.name b1 l1) (IsName_any h.since b2 l2) (str_nil h.since) (hid rfl)

end Go.Proofs.Ytahaehjmnafhbaa
