/-
  scope: product, the two numbers of a couple.
-/
import Derived.Test.YtbllaacbeagljaaGreatDoorSb3
namespace Go.Proofs.YtbllaacbeagljaaGreatDoor
open Go.RowKit Go.Maps

abbrev mxN : Int := 1099511627776
/-- the product, or the least that may not be -/
def prZ (a b : Int) : Int := if 0 < a ∧ mxN / a < b then 1099511627777 else a * b
/-- what is thrown -/
def flt (at_ e : Int) : Value := .iface 100 (.agg #[.int .i64 at_, .int .i64 e])
/-- a number, or what is thrown in its place -/
structure Rs where
  v : Int
  at_ : Int
  e : Int
def RkQ (x : Rs) (w : World) (e : Ending) (w' : World) : Prop :=
  (x.e = 0 ∧ e = .returned (.int .i64 x.v) ∨ x.e ≠ 0 ∧ e = .panicked [{ v := flt x.at_ x.e, recovered := false }]) ∧ Below w.heap.size w w'
theorem mul_bd {a b : Int} (ha : 0 ≤ a) (hb : 0 ≤ b) (h : ¬ (0 < a ∧ mxN / a < b)) : 0 ≤ a * b ∧ a * b ≤ mxN := by
  refine ⟨Int.mul_nonneg ha hb, ?_⟩
  by_cases h0 : 0 < a
  · have h1 : b ≤ mxN / a := by
      by_cases q : mxN / a < b
      · exact absurd ⟨h0, q⟩ h
      · omega
    have h2 : a * b ≤ a * (mxN / a) := Int.mul_le_mul_of_nonneg_left h1 ha
    have h3 : a * (mxN / a) ≤ mxN := Int.mul_ediv_self_le (by omega)
    omega
  · obtain rfl : a = 0 := by omega
    simp
set_option maxRecDepth 100000 in
set_option maxHeartbeats 2000000 in
theorem product_any (a b : Int) (w : World) (ha : 0 ≤ a) (hb : 0 ≤ b) (hm : a ≤ 1099511627776) : Calls Tryz.prog 110 #[.int .i64 a, .int .i64 b] w fun e w' => e = .returned (.int .i64 (prZ a b)) ∧ w' = w := by
  unfold prZ
  by_cases h0 : 0 < a
  · obtain ⟨q, hq⟩ : ∃ q, q = mxN / a := ⟨_, rfl⟩
    have hbd := mul_bd ha hb
    by_cases h1 : q < b
    · rw [if_pos ⟨h0, by rw [← hq]; exact h1⟩]
      have hq' : (1099511627776 : Int) / a = q := hq.symm
      have hq0 : 0 ≤ q := by rw [hq]; exact Int.ediv_nonneg (by decide) ha
      clear hbd hq
      go_enter Tryz.func110, Tryz.ntmps110
      go_wp2
      all_goals
        go_ret
        exact ⟨ret_int (by first | rfl | (unfold wrap64; omega)), rfl⟩
    · rw [if_neg (fun h => h1 (by rw [hq]; exact h.2))]
      have hq' : (1099511627776 : Int) / a = q := hq.symm
      obtain ⟨g1, g2⟩ := hbd (fun h => h1 (by rw [hq]; exact h.2))
      have hq0 : 0 ≤ q := by rw [hq]; exact Int.ediv_nonneg (by decide) ha
      obtain ⟨z, hz⟩ : ∃ z, z = a * b := ⟨_, rfl⟩
      have hz' : a * b = z := hz.symm
      rw [← hz] at g1 g2 ⊢
      replace g2 : z ≤ 1099511627776 := g2
      clear hbd hq hz
      go_enter Tryz.func110, Tryz.ntmps110
      go_wp2
      all_goals
        go_ret
        exact ⟨ret_int (by first | rfl | (unfold wrap64; omega)), rfl⟩
  · rw [if_neg (fun h => h0 h.1)]
    obtain rfl : a = 0 := by omega
    have h0' : decide ((0 : Int) < 0) = false := rfl
    go_enter Tryz.func110, Tryz.ntmps110
    go_wp2
    all_goals
      go_ret
      exact ⟨ret_int (by simp), rfl⟩

/-- what comes of the two numbers of a couple -/
def ofZ (k at_ a b : Int) : Rs := if k = 22 then ⟨a + b, 0, 0⟩ else if k = 23 then ⟨a - b, 0, 0⟩ else if k = 24 then ⟨prZ a b, 0, 0⟩ else if b = 0 then ⟨0, at_, 204⟩ else if k = 25 then ⟨a / b, 0, 0⟩ else ⟨a % b, 0, 0⟩
set_option maxRecDepth 100000 in
set_option maxHeartbeats 2000000 in
theorem of_any (k at_ a b : Int) (v1 v2 : Value) (w : World) (ha : 0 ≤ a) (hb : 0 ≤ b) (hm : a ≤ 1099511627776) (hb' : b ≤ 1099511627776) : Calls Tryz.prog 79 #[.agg #[.int .i64 at_, .int .i64 k, v1, v2], .int .i64 a, .int .i64 b] w (RkQ (ofZ k at_ a b) w) := by
  obtain ⟨PO, hPO⟩ : ∃ PO, PO = RkQ (ofZ k at_ a b) w := ⟨_, rfl⟩
  have HPO := hid hPO
  rw [← hPO]
  have HB := hid (below1 w (.cells #[.int .i64 at_, .int .i64 k, v1, v2] 125))
  have HP := fun u => hid (product_any a b u ha hb hm)
  clear hPO
  by_cases h22 : k = 22
  · have HZ : Hid (ofZ k at_ a b = ⟨a + b, 0, 0⟩) := if_pos h22
    subst h22
    go_enter Tryz.func79, Tryz.ntmps79
    go_wp2_with fail
    show PO (.returned (.int .i64 _)) _
    rw [HPO.out, HZ.out]
    exact ⟨.inl ⟨rfl, rfl⟩, HB.out⟩
  by_cases h23 : k = 23
  · have HZ : Hid (ofZ k at_ a b = ⟨a - b, 0, 0⟩) := by unfold ofZ; rw [if_neg h22, if_pos h23]; exact hid rfl
    subst h23
    clear h22
    go_enter Tryz.func79, Tryz.ntmps79
    go_wp2_with fail
    show PO (.returned (.int .i64 _)) _
    rw [HPO.out, HZ.out]
    exact ⟨.inl ⟨rfl, rfl⟩, HB.out⟩
  by_cases h24 : k = 24
  · have HZ : Hid (ofZ k at_ a b = ⟨prZ a b, 0, 0⟩) := by unfold ofZ; rw [if_neg h22, if_neg h23, if_pos h24]; exact hid rfl
    subst h24
    clear h22 h23
    generalize prZ a b = z at *
    go_enter Tryz.func79, Tryz.ntmps79
    go_wp2_with (go_at_call 110; refine (HP _).out.mono ?_; rintro e w2 ⟨rfl, rfl⟩)
    show PO (.returned (.int .i64 z)) _
    rw [HPO.out, HZ.out]
    exact ⟨.inl ⟨rfl, rfl⟩, HB.out⟩
  have q22 : (k == 22) = false := by simpa using h22
  have q23 : (k == 23) = false := by simpa using h23
  have q24 : (k == 24) = false := by simpa using h24
  by_cases h0 : b = 0
  · have HZ : Hid (ofZ k at_ a b = ⟨0, at_, 204⟩) := by unfold ofZ; rw [if_neg h22, if_neg h23, if_neg h24, if_pos h0]; exact hid rfl
    subst h0
    clear h22 h23 h24
    go_enter Tryz.func79, Tryz.ntmps79
    go_wp2_with fail
    exact ⟨rfl, by rw [HPO.out, HZ.out]; exact ⟨.inr ⟨by simp, rfl⟩, HB.out⟩⟩
  have q0 : (b == 0) = false := by simpa using h0
  by_cases h25 : k = 25
  · have HZ : Hid (ofZ k at_ a b = ⟨a / b, 0, 0⟩) := by unfold ofZ; rw [if_neg h22, if_neg h23, if_neg h24, if_neg h0, if_pos h25]; exact hid rfl
    subst h25
    clear h22 h23 h24 q22 q23 q24
    go_enter Tryz.func79, Tryz.ntmps79
    go_wp2_with fail
    show PO (.returned (.int .i64 _)) _
    rw [HPO.out, HZ.out]
    exact ⟨.inl ⟨rfl, rfl⟩, HB.out⟩
  have HZ : Hid (ofZ k at_ a b = ⟨a % b, 0, 0⟩) := by unfold ofZ; rw [if_neg h22, if_neg h23, if_neg h24, if_neg h0, if_neg h25]; exact hid rfl
  have q25 : (k == 25) = false := by simpa using h25
  clear h22 h23 h24 h25
  go_enter Tryz.func79, Tryz.ntmps79
  go_wp2_with fail
  show PO (.returned (.int .i64 _)) _
  rw [HPO.out, HZ.out]
  exact ⟨.inl ⟨rfl, rfl⟩, HB.out⟩

end Go.Proofs.YtbllaacbeagljaaGreatDoor
