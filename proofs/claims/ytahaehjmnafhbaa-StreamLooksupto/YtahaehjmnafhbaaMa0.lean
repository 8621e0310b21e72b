/-
  The document's answer: may a stream be.
-/
import Derived.Test.YtahaehjmnafhbaaRf0
import Derived.Test.YtahaehjmnafhbaaNm1
import Derived.Deep.RegionHeld3
namespace Go.Proofs.Ytahaehjmnafhbaa
open Go.RowKit
open Act (put)
open List (setIfInBounds_toArray set_cons_zero set_cons_succ)

theorem ahead_no1 {k t kind fr : Int} (h : fr < t) : ahead k t kind fr = false := by
  unfold ahead
  rw [show decide (t < fr) = false by simp; omega, show decide (fr = t) = false by simp; omega]
  rfl
theorem ahead_no2 {k t kind fr : Int} (h : fr = t) (h2 : kind = k) : ahead k t kind fr = false := by
  subst h; subst h2
  unfold ahead
  simp
theorem ahead_yes1 {k t kind fr : Int} (h : fr = t) (h2 : ¬ kind = k) : ahead k t kind fr = true := by
  subst h
  unfold ahead
  simp [h2]
theorem ahead_yes2 {k t kind fr : Int} (h : ¬ fr < t) (h2 : ¬ fr = t) : ahead k t kind fr = true := by
  unfold ahead
  rw [show decide (t < fr) = true by simp; omega]
  rfl
/-- the document's runs that can be read -/
def RRd (w : World) (a : Option Addr) (l : List Rn) : Prop := l = [] ∨ ∃ g, a = some ⟨g, 0, none⟩ ∧ g < w.heap.size ∧ ∀ (j : Nat) (r : Rn), l[j]? = some r → w.cell? ⟨g, j * 4, none⟩ = some (.int .i64 r.1) ∧ w.cell? ⟨g, j * 4 + 1, none⟩ = some (.int .i64 r.2.1) ∧ w.cell? ⟨g, j * 4 + 2, none⟩ = some (.int .i64 r.2.2) ∧ ∃ x y z, w.cell? ⟨g, j * 4 + 3, none⟩ = some (.slice x y z)

set_option maxRecDepth 100000 in
set_option maxHeartbeats 4000000 in
theorem may_gen (S1 S2 : ByteArray) (sz sm : Int) (N1 N2 E inc RR : Bool) (a : Option Addr) (n rc : Nat) (l : List Rn) (w : World) (hl : l.length = n) (hn : n < 4294967296)
    (H1 : ∀ W, Calls Try.prog 31 #[.string S1] W fun e w' => e = .returned (.bool N1) ∧ w' = W) (H2 : ∀ W, Calls Try.prog 31 #[.string S2] W fun e w' => e = .returned (.bool N2) ∧ w' = W) (hE : (S2.toList == ([] : List UInt8)) = E) (hinc : inc = !E) (hRR : RRd w a l)
    (HNO : Hid (∀ q, q < n → chkR sz inc l q = false → RR = false)) (HYES : Hid ((∀ j, j < n → chkR sz inc l j = true) → RR = true)) :
    Calls Try.prog 23 #[.agg #[.string S1, .int .i64 sz, .string S2, .int .i64 sm, .slice a n rc]] w fun e w' => e = .returned (.bool (N1 && decide (1 ≤ sz) && decide (sz ≤ 262144) && (if E then decide (sm = 0) else N2) && RR)) ∧ Below w.heap.size w w' := by
  obtain ⟨PR, hPR⟩ : ∃ PR, PR = (N1 && decide (1 ≤ sz) && decide (sz ≤ 262144) && (if E then decide (sm = 0) else N2) && RR) := ⟨_, rfl⟩
  rw [← hPR]
  have HPR := hid hPR
  obtain ⟨w0, hw0⟩ : ∃ w0, w0 = w.alloc (.cells #[.string S1, .int .i64 sz, .string S2, .int .i64 sm, .slice a n rc] 47) := ⟨_, rfl⟩
  have b0 : Below w.heap.size w w0 := by rw [hw0]; exact (Below.refl _ _).alloc (Nat.le_refl _) _
  have z0 : w0.heap.size = w.heap.size + 1 := by rw [hw0]; simp
  have B0 : Hid (Below w0.heap.size w0 w0) := Below.refl _ _
  have HBW : Hid (∀ u, Below w0.heap.size w0 u → Below w.heap.size w u) := fun u hu => b0.trans (hu.mono (by omega))
  obtain ⟨sb, hsb⟩ : ∃ sb, sb = w.heap.size := ⟨_, rfl⟩
  have HC : Hid (∀ u, Below w0.heap.size w0 u → u.cell? ⟨sb, 1, none⟩ = some (.int .i64 sz) ∧ u.cell? ⟨sb, 2, none⟩ = some (.string S2) ∧ u.cell? ⟨sb, 4, none⟩ = some (.slice a n rc)) := fun u hu => by
    rw [hsb]
    exact ⟨(hu.cell (p := ⟨w.heap.size, 1, none⟩) (by show w.heap.size < _; omega)).trans (cell_al hw0 1 _ rfl), (hu.cell (p := ⟨w.heap.size, 2, none⟩) (by show w.heap.size < _; omega)).trans (cell_al hw0 2 _ rfl), (hu.cell (p := ⟨w.heap.size, 4, none⟩) (by show w.heap.size < _; omega)).trans (cell_al hw0 4 _ rfl)⟩
  have HG : Hid (0 < n → ∃ g, a = some ⟨g, 0, none⟩ ∧ g < w0.heap.size ∧ ∀ u, Below w0.heap.size w0 u → ∀ (j : Nat) (r : Rn), l[j]? = some r → u.cell? ⟨g, j * 4, none⟩ = some (.int .i64 r.1) ∧ u.cell? ⟨g, j * 4 + 1, none⟩ = some (.int .i64 r.2.1) ∧ u.cell? ⟨g, j * 4 + 2, none⟩ = some (.int .i64 r.2.2) ∧ ∃ x y z, u.cell? ⟨g, j * 4 + 3, none⟩ = some (.slice x y z)) := fun h0 => by
    rcases hRR with q | ⟨g, e, hg, hc⟩
    · rw [q] at hl; simp at hl; omega
    · refine ⟨g, e, by omega, fun u hu j r hr => ?_⟩
      obtain ⟨c0, c1, c2, x, y, z, c3⟩ := hc j r hr
      have hb := b0.trans (hu.mono (by omega))
      exact ⟨(hb.cell (p := ⟨g, j * 4, none⟩) hg).trans c0, (hb.cell (p := ⟨g, j * 4 + 1, none⟩) hg).trans c1, (hb.cell (p := ⟨g, j * 4 + 2, none⟩) hg).trans c2, x, y, z, (hb.cell (p := ⟨g, j * 4 + 3, none⟩) hg).trans c3⟩
  have HW0 := hid hw0
  have HSB := hid hsb
  have G1 := hid H1
  have G2 := hid H2
  clear hPR hw0 b0 z0 H1 H2 hRR hsb
  go_enter Try.func23, Try.ntmps23
  go_wp2_with fail
  refine Calls.mono (G1.out _) ?_
  rintro e w' ⟨rfl, rfl⟩
  clear G1
  cases N1
  · go_wp2
    go_ret
    exact ⟨by rw [HPR.out]; rfl, by rw [← HW0.out]; exact HBW.out _ B0.out⟩
  by_cases s1 : sz < 1
  · go_wp2
    go_ret
    exact ⟨by rw [HPR.out, show decide (1 ≤ sz) = false by simp; omega]; rfl, by rw [← HW0.out]; exact HBW.out _ B0.out⟩
  by_cases s2 : 262144 < sz
  · go_wp2
    go_ret
    exact ⟨by rw [HPR.out, show decide (sz ≤ 262144) = false by simp; omega, Bool.and_false]; rfl, by rw [← HW0.out]; exact HBW.out _ B0.out⟩
  have e1 := hid (show decide (1 ≤ sz) = true by simp; omega)
  have e2 := hid (show decide (sz ≤ 262144) = true by simp; omega)
  cases E
  · go_wp2_with fail
    refine Calls.mono (G2.out _) ?_
    rintro e w' ⟨rfl, rfl⟩
    clear G2
    cases N2
    · go_wp2
      go_ret
      exact ⟨by rw [HPR.out, e1.out, e2.out]; rfl, by rw [← HW0.out]; exact HBW.out _ B0.out⟩
    · have hi : inc = true := hinc
      subst hi
      have HNP : Hid (∀ q, q < n → chkR sz true l q = false → PR = false) := fun q a b => by rw [HPR.out, HNO.out q a b, Bool.and_false]
      have HYP : Hid ((∀ j, j < n → chkR sz true l j = true) → PR = true) := fun a => by rw [HPR.out, HYES.out a, e1.out, e2.out]; rfl
      clear HPR HNO HYES hinc
      go_wp2_with fail
      rw [← HW0.out, ← HSB.out]
      clear HW0 HSB
      go_loopw [3] (fun iv wt => ∃ q : Nat, q ≤ n ∧ iv = .int .i64 (q : Int) ∧ (∀ j, j < q → chkR sz true l j = true) ∧ Below w0.heap.size w0 wt) (fun iv _ => n - (intOf iv).toNat)
      case atStart => exact ⟨0, Nat.zero_le _, rfl, fun j hj => absurd hj (by omega), B0.out⟩
      case round =>
        clear B0
        obtain ⟨q, hq, rfl, hall, hbt⟩ := hrel
        have hC := HC.out wr hbt
        by_cases hqn : q < n
        · have hqn' : (q : Int) < (n : Int) := by omega
          obtain ⟨g, rfl, hlt, hcl⟩ := HG.out (by omega)
          obtain ⟨r, hrq⟩ : ∃ r, l[q]? = some r := ⟨l[q]'(by omega), List.getElem?_eq_getElem (by omega)⟩
          obtain ⟨u0, u1, u2, dx, dy, dz, u3⟩ := hcl wr hbt q r hrq
          obtain ⟨w2, hw2⟩ : ∃ w2, w2 = wr.alloc (.cells #[.int .i64 r.1, .int .i64 r.2.1, .int .i64 r.2.2, .slice dx dy dz] 51) := ⟨_, rfl⟩
          obtain ⟨rb, hrb⟩ : ∃ rb, rb = wr.heap.size := ⟨_, rfl⟩
          have hb2 : Below w0.heap.size w0 w2 := by rw [hw2]; exact hbt.alloc hbt.size _
          have hgd : l.getD q (0, 0, 0) = r := by rw [List.getD_eq_getElem?_getD, hrq]; rfl
          have BT := hid hb2
          have BTd := hid hb2.drew
          obtain ⟨sb1, sb2, sb4⟩ := HC.out w2 hb2
          have sb4' := sb4
          have sc4 := hC.2.2
          have v0 : w2.cell? ⟨rb, 0, none⟩ = some (.int .i64 r.1) := by rw [hrb]; exact cell_al hw2 0 _ rfl
          have v1 : w2.cell? ⟨rb, 1, none⟩ = some (.int .i64 r.2.1) := by rw [hrb]; exact cell_al hw2 1 _ rfl
          have v2 : w2.cell? ⟨rb, 2, none⟩ = some (.int .i64 r.2.2) := by rw [hrb]; exact cell_al hw2 2 _ rfl
          have HPV : Hid (0 < q → ∃ p r', q = p + 1 ∧ l[p]? = some r' ∧ w2.cell? ⟨g, p * 4 + 2, none⟩ = some (.int .i64 r'.2.2) ∧ w2.cell? ⟨g, p * 4, none⟩ = some (.int .i64 r'.1)) := fun h0 => by
            have hp : q - 1 < l.length := by omega
            obtain ⟨t0, _, t2, _⟩ := hcl w2 hb2 (q - 1) _ (List.getElem?_eq_getElem hp)
            exact ⟨q - 1, _, by omega, List.getElem?_eq_getElem hp, t2, t0⟩
          have HA := hid hall
          have HIN : Hid (chkR sz true l q = true → ∀ j, j < q + 1 → chkR sz true l j = true) := fun e j hj => by
            rcases Nat.lt_or_ge j q with a | a
            · exact HA.out j a
            · obtain rfl : j = q := by omega
              exact e
          have HN1 := hid (HNP.out q hqn)
          have HCK : Hid (chkR sz true l q = (okR sz true (r.1, r.2.1, r.2.2) && (decide (q = 0) || ahead (l.getD (q - 1) (0, 0, 0)).1 (l.getD (q - 1) (0, 0, 0)).2.2 r.1 r.2.1))) := hid (by unfold chkR; rw [hgd])
          rw [hw2] at sb1 sb2 sb4
          have HW2 := hid hw2
          have HRB := hid hrb
          clear hall hbt hb2 hcl hC hlt hgd hrq HA hw2 hrb
          generalize r.1 = k at *
          generalize r.2.1 = f at *
          generalize hr22 : r.2.2 = t at *
          clear hr22
          by_cases k1 : k = 1
          · subst k1
            by_cases o1 : f < t
            · by_cases o2 : t ≤ sz
              · have o3 : ¬ t ≤ f := by omega
                have o4 : ¬ sz < t := by omega
                go_wp2_with fail
                rw [← HW2.out, ← HRB.out]
                have HOK : Hid (okR sz true ((1 : Int), f, t) = true) := hid (by unfold okR; simp [o1, o2])
                by_cases q0 : q = 0
                · have NX := hid (HIN.out (by rw [HCK.out, HOK.out, show decide (q = 0) = true from by simp [q0]]; rfl))
                  have z0 : ¬ (0 : Int) < (q : Int) := by omega
                  have kS := v0
                  clear HIN HN1 HCK HOK HPV v0 v1 v2 u0 u1 u2 u3 sb1 sb2 sb4 HW2 HRB
                  refine wp_region_held_drew (S := fun w' => (w'.cell? ⟨rb, 0, none⟩ = some (.int .i64 1))) (by kernel_rfl) kS (fun hSS => ?_)
                  refine wpAnyH_take (i := 0) (oi := ⟨some 84, .move (.tmp 3), 3, _, _, none⟩) (v := ?_) rfl (by kernel_rfl) (by kernel_rfl) (by kernel_rfl) (fun _ _ _ h => h) (Or.inl ⟨by rfl, ?_⟩) hSS ?_; rotate_left
                  · intro w9 hSw; (try dsimp only at hSw); (try go_split_ands); first | (go_simp; done) | (go_simp; with_reducible rfl)
                  try simp only [put, setIfInBounds_toArray, set_cons_zero, set_cons_succ]
                  refine wpAnyH_take (i := 1) (oi := ⟨some 85, .binOp .gtr 3 (.tmp 84) (.const (.int .i64 0)) 3, 4, _, _, none⟩) (v := .bool false) rfl (by kernel_rfl) (by kernel_rfl) (by kernel_rfl) (fun _ _ _ h => h) (Or.inl ⟨by rfl, ?_⟩) hSS ?_
                  · intro w9 hSw; (try dsimp only at hSw); (try go_split_ands); first | (go_simp; done) | (go_simp; simp [z0]; done)
                  try simp only [put, setIfInBounds_toArray, set_cons_zero, set_cons_succ]
                  refine wpAnyH_take (i := 2) (oi := ⟨some 86, .move (.tmp 85), 4, _, _, none⟩) (v := ?_) rfl (by kernel_rfl) (by kernel_rfl) (by kernel_rfl) (fun _ _ _ h => h) (Or.inl ⟨by rfl, ?_⟩) hSS ?_; rotate_left
                  · intro w9 hSw; (try dsimp only at hSw); (try go_split_ands); first | (go_simp; done) | (go_simp; with_reducible rfl)
                  try simp only [put, setIfInBounds_toArray, set_cons_zero, set_cons_succ]
                  refine wpAnyH_take (i := 3) (oi := ⟨some 87, .fieldAddr 51 (.tmp 4) 1, 0, _, _, some (2, true)⟩) (v := undef) rfl (by kernel_rfl) (by kernel_rfl) (by kernel_rfl) (fun _ _ _ h => h) (Or.inr ⟨by rfl, rfl⟩) hSS ?_
                  try simp only [put, setIfInBounds_toArray, set_cons_zero, set_cons_succ]
                  refine wpAnyH_take (i := 4) (oi := ⟨some 88, .load 3 (.tmp 87), 3, _, _, some (2, true)⟩) (v := undef) rfl (by kernel_rfl) (by kernel_rfl) (by kernel_rfl) (fun _ _ _ h => h) (Or.inr ⟨by rfl, rfl⟩) hSS ?_
                  try simp only [put, setIfInBounds_toArray, set_cons_zero, set_cons_succ]
                  refine wpAnyH_take (i := 5) (oi := ⟨some 89, .fieldAddr 47 (.tmp 1) 4, 0, _, _, some (2, true)⟩) (v := undef) rfl (by kernel_rfl) (by kernel_rfl) (by kernel_rfl) (fun _ _ _ h => h) (Or.inr ⟨by rfl, rfl⟩) hSS ?_
                  try simp only [put, setIfInBounds_toArray, set_cons_zero, set_cons_succ]
                  refine wpAnyH_take (i := 6) (oi := ⟨some 90, .load 45 (.tmp 89), 45, _, _, some (2, true)⟩) (v := undef) rfl (by kernel_rfl) (by kernel_rfl) (by kernel_rfl) (fun _ _ _ h => h) (Or.inr ⟨by rfl, rfl⟩) hSS ?_
                  try simp only [put, setIfInBounds_toArray, set_cons_zero, set_cons_succ]
                  refine wpAnyH_take (i := 7) (oi := ⟨some 91, .move (.tmp 3), 3, _, _, some (2, true)⟩) (v := undef) rfl (by kernel_rfl) (by kernel_rfl) (by kernel_rfl) (fun _ _ _ h => h) (Or.inr ⟨by rfl, rfl⟩) hSS ?_
                  try simp only [put, setIfInBounds_toArray, set_cons_zero, set_cons_succ]
                  refine wpAnyH_take (i := 8) (oi := ⟨some 92, .binOp .sub 3 (.tmp 91) (.const (.int .i64 1)) 3, 3, _, _, some (2, true)⟩) (v := undef) rfl (by kernel_rfl) (by kernel_rfl) (by kernel_rfl) (fun _ _ _ h => h) (Or.inr ⟨by rfl, rfl⟩) hSS ?_
                  try simp only [put, setIfInBounds_toArray, set_cons_zero, set_cons_succ]
                  refine wpAnyH_take (i := 9) (oi := ⟨some 93, .indexAddr 45 (.tmp 90) (.tmp 92), 0, _, _, some (2, true)⟩) (v := undef) rfl (by kernel_rfl) (by kernel_rfl) (by kernel_rfl) (fun _ _ _ h => h) (Or.inr ⟨by rfl, rfl⟩) hSS ?_
                  try simp only [put, setIfInBounds_toArray, set_cons_zero, set_cons_succ]
                  refine wpAnyH_take (i := 10) (oi := ⟨some 94, .fieldAddr 51 (.tmp 93) 2, 0, _, _, some (2, true)⟩) (v := undef) rfl (by kernel_rfl) (by kernel_rfl) (by kernel_rfl) (fun _ _ _ h => h) (Or.inr ⟨by rfl, rfl⟩) hSS ?_
                  try simp only [put, setIfInBounds_toArray, set_cons_zero, set_cons_succ]
                  refine wpAnyH_take (i := 11) (oi := ⟨some 95, .load 3 (.tmp 94), 3, _, _, some (2, true)⟩) (v := undef) rfl (by kernel_rfl) (by kernel_rfl) (by kernel_rfl) (fun _ _ _ h => h) (Or.inr ⟨by rfl, rfl⟩) hSS ?_
                  try simp only [put, setIfInBounds_toArray, set_cons_zero, set_cons_succ]
                  refine wpAnyH_take (i := 12) (oi := ⟨some 96, .binOp .lss 3 (.tmp 88) (.tmp 95) 3, 4, _, _, some (2, true)⟩) (v := undef) rfl (by kernel_rfl) (by kernel_rfl) (by kernel_rfl) (fun _ _ _ h => h) (Or.inr ⟨by rfl, rfl⟩) hSS ?_
                  try simp only [put, setIfInBounds_toArray, set_cons_zero, set_cons_succ]
                  refine wpAnyH_take (i := 13) (oi := ⟨some 97, .move (.tmp 96), 4, _, _, some (2, true)⟩) (v := undef) rfl (by kernel_rfl) (by kernel_rfl) (by kernel_rfl) (fun _ _ _ h => h) (Or.inr ⟨by rfl, rfl⟩) hSS ?_
                  try simp only [put, setIfInBounds_toArray, set_cons_zero, set_cons_succ]
                  refine wpAnyH_take (i := 14) (oi := ⟨some 98, .fieldAddr 51 (.tmp 4) 1, 0, _, _, some (13, false)⟩) (v := undef) rfl (by kernel_rfl) (by kernel_rfl) (by kernel_rfl) (fun _ _ _ h => h) (Or.inr ⟨by rfl, rfl⟩) hSS ?_
                  try simp only [put, setIfInBounds_toArray, set_cons_zero, set_cons_succ]
                  refine wpAnyH_take (i := 15) (oi := ⟨some 99, .load 3 (.tmp 98), 3, _, _, some (13, false)⟩) (v := undef) rfl (by kernel_rfl) (by kernel_rfl) (by kernel_rfl) (fun _ _ _ h => h) (Or.inr ⟨by rfl, rfl⟩) hSS ?_
                  try simp only [put, setIfInBounds_toArray, set_cons_zero, set_cons_succ]
                  refine wpAnyH_take (i := 16) (oi := ⟨some 100, .fieldAddr 47 (.tmp 1) 4, 0, _, _, some (13, false)⟩) (v := undef) rfl (by kernel_rfl) (by kernel_rfl) (by kernel_rfl) (fun _ _ _ h => h) (Or.inr ⟨by rfl, rfl⟩) hSS ?_
                  try simp only [put, setIfInBounds_toArray, set_cons_zero, set_cons_succ]
                  refine wpAnyH_take (i := 17) (oi := ⟨some 101, .load 45 (.tmp 100), 45, _, _, some (13, false)⟩) (v := undef) rfl (by kernel_rfl) (by kernel_rfl) (by kernel_rfl) (fun _ _ _ h => h) (Or.inr ⟨by rfl, rfl⟩) hSS ?_
                  try simp only [put, setIfInBounds_toArray, set_cons_zero, set_cons_succ]
                  refine wpAnyH_take (i := 18) (oi := ⟨some 102, .move (.tmp 3), 3, _, _, some (13, false)⟩) (v := undef) rfl (by kernel_rfl) (by kernel_rfl) (by kernel_rfl) (fun _ _ _ h => h) (Or.inr ⟨by rfl, rfl⟩) hSS ?_
                  try simp only [put, setIfInBounds_toArray, set_cons_zero, set_cons_succ]
                  refine wpAnyH_take (i := 19) (oi := ⟨some 103, .binOp .sub 3 (.tmp 102) (.const (.int .i64 1)) 3, 3, _, _, some (13, false)⟩) (v := undef) rfl (by kernel_rfl) (by kernel_rfl) (by kernel_rfl) (fun _ _ _ h => h) (Or.inr ⟨by rfl, rfl⟩) hSS ?_
                  try simp only [put, setIfInBounds_toArray, set_cons_zero, set_cons_succ]
                  refine wpAnyH_take (i := 20) (oi := ⟨some 104, .indexAddr 45 (.tmp 101) (.tmp 103), 0, _, _, some (13, false)⟩) (v := undef) rfl (by kernel_rfl) (by kernel_rfl) (by kernel_rfl) (fun _ _ _ h => h) (Or.inr ⟨by rfl, rfl⟩) hSS ?_
                  try simp only [put, setIfInBounds_toArray, set_cons_zero, set_cons_succ]
                  refine wpAnyH_take (i := 21) (oi := ⟨some 105, .fieldAddr 51 (.tmp 104) 2, 0, _, _, some (13, false)⟩) (v := undef) rfl (by kernel_rfl) (by kernel_rfl) (by kernel_rfl) (fun _ _ _ h => h) (Or.inr ⟨by rfl, rfl⟩) hSS ?_
                  try simp only [put, setIfInBounds_toArray, set_cons_zero, set_cons_succ]
                  refine wpAnyH_take (i := 22) (oi := ⟨some 106, .load 3 (.tmp 105), 3, _, _, some (13, false)⟩) (v := undef) rfl (by kernel_rfl) (by kernel_rfl) (by kernel_rfl) (fun _ _ _ h => h) (Or.inr ⟨by rfl, rfl⟩) hSS ?_
                  try simp only [put, setIfInBounds_toArray, set_cons_zero, set_cons_succ]
                  refine wpAnyH_take (i := 23) (oi := ⟨some 107, .binOp .eql 3 (.tmp 99) (.tmp 106) 3, 4, _, _, some (13, false)⟩) (v := undef) rfl (by kernel_rfl) (by kernel_rfl) (by kernel_rfl) (fun _ _ _ h => h) (Or.inr ⟨by rfl, rfl⟩) hSS ?_
                  try simp only [put, setIfInBounds_toArray, set_cons_zero, set_cons_succ]
                  refine wpAnyH_take (i := 24) (oi := ⟨some 108, .move (.tmp 107), 4, _, _, some (13, false)⟩) (v := undef) rfl (by kernel_rfl) (by kernel_rfl) (by kernel_rfl) (fun _ _ _ h => h) (Or.inr ⟨by rfl, rfl⟩) hSS ?_
                  try simp only [put, setIfInBounds_toArray, set_cons_zero, set_cons_succ]
                  refine wpAnyH_take (i := 25) (oi := ⟨some 109, .fieldAddr 51 (.tmp 4) 0, 0, _, _, some (24, true)⟩) (v := undef) rfl (by kernel_rfl) (by kernel_rfl) (by kernel_rfl) (fun _ _ _ h => h) (Or.inr ⟨by rfl, rfl⟩) hSS ?_
                  try simp only [put, setIfInBounds_toArray, set_cons_zero, set_cons_succ]
                  refine wpAnyH_take (i := 26) (oi := ⟨some 110, .load 3 (.tmp 109), 3, _, _, some (24, true)⟩) (v := undef) rfl (by kernel_rfl) (by kernel_rfl) (by kernel_rfl) (fun _ _ _ h => h) (Or.inr ⟨by rfl, rfl⟩) hSS ?_
                  try simp only [put, setIfInBounds_toArray, set_cons_zero, set_cons_succ]
                  refine wpAnyH_take (i := 27) (oi := ⟨some 111, .fieldAddr 47 (.tmp 1) 4, 0, _, _, some (24, true)⟩) (v := undef) rfl (by kernel_rfl) (by kernel_rfl) (by kernel_rfl) (fun _ _ _ h => h) (Or.inr ⟨by rfl, rfl⟩) hSS ?_
                  try simp only [put, setIfInBounds_toArray, set_cons_zero, set_cons_succ]
                  refine wpAnyH_take (i := 28) (oi := ⟨some 112, .load 45 (.tmp 111), 45, _, _, some (24, true)⟩) (v := undef) rfl (by kernel_rfl) (by kernel_rfl) (by kernel_rfl) (fun _ _ _ h => h) (Or.inr ⟨by rfl, rfl⟩) hSS ?_
                  try simp only [put, setIfInBounds_toArray, set_cons_zero, set_cons_succ]
                  refine wpAnyH_take (i := 29) (oi := ⟨some 113, .move (.tmp 3), 3, _, _, some (24, true)⟩) (v := undef) rfl (by kernel_rfl) (by kernel_rfl) (by kernel_rfl) (fun _ _ _ h => h) (Or.inr ⟨by rfl, rfl⟩) hSS ?_
                  try simp only [put, setIfInBounds_toArray, set_cons_zero, set_cons_succ]
                  refine wpAnyH_take (i := 30) (oi := ⟨some 114, .binOp .sub 3 (.tmp 113) (.const (.int .i64 1)) 3, 3, _, _, some (24, true)⟩) (v := undef) rfl (by kernel_rfl) (by kernel_rfl) (by kernel_rfl) (fun _ _ _ h => h) (Or.inr ⟨by rfl, rfl⟩) hSS ?_
                  try simp only [put, setIfInBounds_toArray, set_cons_zero, set_cons_succ]
                  refine wpAnyH_take (i := 31) (oi := ⟨some 115, .indexAddr 45 (.tmp 112) (.tmp 114), 0, _, _, some (24, true)⟩) (v := undef) rfl (by kernel_rfl) (by kernel_rfl) (by kernel_rfl) (fun _ _ _ h => h) (Or.inr ⟨by rfl, rfl⟩) hSS ?_
                  try simp only [put, setIfInBounds_toArray, set_cons_zero, set_cons_succ]
                  refine wpAnyH_take (i := 32) (oi := ⟨some 116, .fieldAddr 51 (.tmp 115) 0, 0, _, _, some (24, true)⟩) (v := undef) rfl (by kernel_rfl) (by kernel_rfl) (by kernel_rfl) (fun _ _ _ h => h) (Or.inr ⟨by rfl, rfl⟩) hSS ?_
                  try simp only [put, setIfInBounds_toArray, set_cons_zero, set_cons_succ]
                  refine wpAnyH_take (i := 33) (oi := ⟨some 117, .load 3 (.tmp 116), 3, _, _, some (24, true)⟩) (v := undef) rfl (by kernel_rfl) (by kernel_rfl) (by kernel_rfl) (fun _ _ _ h => h) (Or.inr ⟨by rfl, rfl⟩) hSS ?_
                  try simp only [put, setIfInBounds_toArray, set_cons_zero, set_cons_succ]
                  refine wpAnyH_take (i := 34) (oi := ⟨some 118, .binOp .eql 3 (.tmp 110) (.tmp 117) 3, 4, _, _, some (24, true)⟩) (v := undef) rfl (by kernel_rfl) (by kernel_rfl) (by kernel_rfl) (fun _ _ _ h => h) (Or.inr ⟨by rfl, rfl⟩) hSS ?_
                  try simp only [put, setIfInBounds_toArray, set_cons_zero, set_cons_succ]
                  refine wpAnyH_take (i := 35) (oi := ⟨some 119, .pick (.tmp 108) (.tmp 118) (.const (.bool false)), 4, _, _, some (13, false)⟩) (v := undef) rfl (by kernel_rfl) (by kernel_rfl) (by kernel_rfl) (fun _ _ _ h => h) (Or.inr ⟨by rfl, rfl⟩) hSS ?_
                  try simp only [put, setIfInBounds_toArray, set_cons_zero, set_cons_succ]
                  refine wpAnyH_take (i := 36) (oi := ⟨some 120, .pick (.tmp 97) (.const (.bool true)) (.tmp 119), 4, _, _, some (2, true)⟩) (v := undef) rfl (by kernel_rfl) (by kernel_rfl) (by kernel_rfl) (fun _ _ _ h => h) (Or.inr ⟨by rfl, rfl⟩) hSS ?_
                  try simp only [put, setIfInBounds_toArray, set_cons_zero, set_cons_succ]
                  refine wpAnyH_take (i := 37) (oi := ⟨some 121, .pick (.tmp 86) (.tmp 120) (.const (.bool false)), 4, _, _, none⟩) (v := ?_) rfl (by kernel_rfl) (by kernel_rfl) (by kernel_rfl) (fun _ _ _ h => h) (Or.inl ⟨by rfl, ?_⟩) hSS ?_; rotate_left
                  · intro w9 hSw; (try dsimp only at hSw); (try go_split_ands); first | (go_simp; done) | (go_simp; with_reducible rfl)
                  try simp only [put, setIfInBounds_toArray, set_cons_zero, set_cons_succ]
                  refine wpAnyH_done (by kernel_rfl) ?_ _
                  clear hSS kS
                  go_wp2
                  go_roundw
                  case rel => exact ⟨q + 1, by omega, by go_num, NX.out, BTd.out⟩
                  case measure => simp [intOf]; omega
                · obtain ⟨p, r', hqp, hrp, p2, p0⟩ := HPV.out (by omega)
                  have hgp : l.getD (q - 1) (0, 0, 0) = r' := by rw [hqp, Nat.add_sub_cancel, List.getD_eq_getElem?_getD, hrp]; rfl
                  have HCK2 : Hid (chkR sz true l q = ahead r'.1 r'.2.2 (1 : Int) f) := hid (by rw [HCK.out, HOK.out, hgp, show decide (q = 0) = false from by simp [q0]]; rfl)
                  have z1 : (0 : Int) < (q : Int) := by omega
                  have zq : (q : Int) - 1 = (p : Int) := by omega
                  have zp : (p : Int) < (n : Int) := by omega
                  have zw : IntKind.i64.wrap (p : Int) = (p : Int) := by rw [IntKind.wrap_i64]; omega
                  have kS := And.intro v0 (And.intro v1 (And.intro sb4' (And.intro p2 p0)))
                  clear HCK HOK HPV v0 v1 v2 u0 u1 u2 u3 sb1 sb2 sb4 sb4' HW2 HRB hgp hrp p2 p0
                  generalize r'.1 = pk at *
                  generalize r'.2.2 = pt at *
                  by_cases z2 : f < pt
                  · have FN := hid (HN1.out (by rw [HCK2.out]; exact ahead_no1 z2))
                    clear HIN HN1 HCK2
                    refine wp_region_held_drew (S := fun w' => (w'.cell? ⟨rb, 0, none⟩ = some (.int .i64 1) ∧ w'.cell? ⟨rb, 1, none⟩ = some (.int .i64 f) ∧ w'.cell? ⟨sb, 4, none⟩ = some (.slice (some ⟨g, 0, none⟩) n rc) ∧ w'.cell? ⟨g, p * 4 + 2, none⟩ = some (.int .i64 pt) ∧ w'.cell? ⟨g, p * 4, none⟩ = some (.int .i64 pk))) (by kernel_rfl) kS (fun hSS => ?_)
                    refine wpAnyH_take (i := 0) (oi := ⟨some 84, .move (.tmp 3), 3, _, _, none⟩) (v := ?_) rfl (by kernel_rfl) (by kernel_rfl) (by kernel_rfl) (fun _ _ _ h => h) (Or.inl ⟨by rfl, ?_⟩) hSS ?_; rotate_left
                    · intro w9 hSw; (try dsimp only at hSw); (try go_split_ands); first | (go_simp; done) | (go_simp; with_reducible rfl)
                    try simp only [put, setIfInBounds_toArray, set_cons_zero, set_cons_succ]
                    refine wpAnyH_take (i := 1) (oi := ⟨some 85, .binOp .gtr 3 (.tmp 84) (.const (.int .i64 0)) 3, 4, _, _, none⟩) (v := .bool true) rfl (by kernel_rfl) (by kernel_rfl) (by kernel_rfl) (fun _ _ _ h => h) (Or.inl ⟨by rfl, ?_⟩) hSS ?_
                    · intro w9 hSw; (try dsimp only at hSw); (try go_split_ands); first | (go_simp; done) | (go_simp; simp [z1]; done)
                    try simp only [put, setIfInBounds_toArray, set_cons_zero, set_cons_succ]
                    refine wpAnyH_take (i := 2) (oi := ⟨some 86, .move (.tmp 85), 4, _, _, none⟩) (v := ?_) rfl (by kernel_rfl) (by kernel_rfl) (by kernel_rfl) (fun _ _ _ h => h) (Or.inl ⟨by rfl, ?_⟩) hSS ?_; rotate_left
                    · intro w9 hSw; (try dsimp only at hSw); (try go_split_ands); first | (go_simp; done) | (go_simp; with_reducible rfl)
                    try simp only [put, setIfInBounds_toArray, set_cons_zero, set_cons_succ]
                    refine wpAnyH_take (i := 3) (oi := ⟨some 87, .fieldAddr 51 (.tmp 4) 1, 0, _, _, some (2, true)⟩) (v := ?_) rfl (by kernel_rfl) (by kernel_rfl) (by kernel_rfl) (fun _ _ _ h => h) (Or.inl ⟨by rfl, ?_⟩) hSS ?_; rotate_left
                    · intro w9 hSw; (try dsimp only at hSw); (try go_split_ands); first | (go_simp; done) | (go_simp; with_reducible rfl)
                    try simp only [put, setIfInBounds_toArray, set_cons_zero, set_cons_succ]
                    refine wpAnyH_take (i := 4) (oi := ⟨some 88, .load 3 (.tmp 87), 3, _, _, some (2, true)⟩) (v := ?_) rfl (by kernel_rfl) (by kernel_rfl) (by kernel_rfl) (fun _ _ _ h => h) (Or.inl ⟨by rfl, ?_⟩) hSS ?_; rotate_left
                    · intro w9 hSw; (try dsimp only at hSw); (try go_split_ands); first | (go_simp; done) | (go_simp; with_reducible rfl)
                    try simp only [put, setIfInBounds_toArray, set_cons_zero, set_cons_succ]
                    refine wpAnyH_take (i := 5) (oi := ⟨some 89, .fieldAddr 47 (.tmp 1) 4, 0, _, _, some (2, true)⟩) (v := ?_) rfl (by kernel_rfl) (by kernel_rfl) (by kernel_rfl) (fun _ _ _ h => h) (Or.inl ⟨by rfl, ?_⟩) hSS ?_; rotate_left
                    · intro w9 hSw; (try dsimp only at hSw); (try go_split_ands); first | (go_simp; done) | (go_simp; with_reducible rfl)
                    try simp only [put, setIfInBounds_toArray, set_cons_zero, set_cons_succ]
                    refine wpAnyH_take (i := 6) (oi := ⟨some 90, .load 45 (.tmp 89), 45, _, _, some (2, true)⟩) (v := ?_) rfl (by kernel_rfl) (by kernel_rfl) (by kernel_rfl) (fun _ _ _ h => h) (Or.inl ⟨by rfl, ?_⟩) hSS ?_; rotate_left
                    · intro w9 hSw; (try dsimp only at hSw); (try go_split_ands); first | (go_simp; done) | (go_simp; with_reducible rfl)
                    try simp only [put, setIfInBounds_toArray, set_cons_zero, set_cons_succ]
                    refine wpAnyH_take (i := 7) (oi := ⟨some 91, .move (.tmp 3), 3, _, _, some (2, true)⟩) (v := ?_) rfl (by kernel_rfl) (by kernel_rfl) (by kernel_rfl) (fun _ _ _ h => h) (Or.inl ⟨by rfl, ?_⟩) hSS ?_; rotate_left
                    · intro w9 hSw; (try dsimp only at hSw); (try go_split_ands); first | (go_simp; done) | (go_simp; with_reducible rfl)
                    try simp only [put, setIfInBounds_toArray, set_cons_zero, set_cons_succ]
                    refine wpAnyH_take (i := 8) (oi := ⟨some 92, .binOp .sub 3 (.tmp 91) (.const (.int .i64 1)) 3, 3, _, _, some (2, true)⟩) (v := ?_) rfl (by kernel_rfl) (by kernel_rfl) (by kernel_rfl) (fun _ _ _ h => h) (Or.inl ⟨by rfl, ?_⟩) hSS ?_; rotate_left
                    · intro w9 hSw; (try dsimp only at hSw); (try go_split_ands); first | (go_simp; done) | (go_simp; with_reducible rfl)
                    try simp only [put, setIfInBounds_toArray, set_cons_zero, set_cons_succ]
                    refine wpAnyH_take (i := 9) (oi := ⟨some 93, .indexAddr 45 (.tmp 90) (.tmp 92), 0, _, _, some (2, true)⟩) (v := ?_) rfl (by kernel_rfl) (by kernel_rfl) (by kernel_rfl) (fun _ _ _ h => h) (Or.inl ⟨by rfl, ?_⟩) hSS ?_; rotate_left
                    · intro w9 hSw; (try dsimp only at hSw); (try go_split_ands); first | (go_simp; done) | (go_simp; with_reducible rfl)
                    try simp only [put, setIfInBounds_toArray, set_cons_zero, set_cons_succ]
                    refine wpAnyH_take (i := 10) (oi := ⟨some 94, .fieldAddr 51 (.tmp 93) 2, 0, _, _, some (2, true)⟩) (v := ?_) rfl (by kernel_rfl) (by kernel_rfl) (by kernel_rfl) (fun _ _ _ h => h) (Or.inl ⟨by rfl, ?_⟩) hSS ?_; rotate_left
                    · intro w9 hSw; (try dsimp only at hSw); (try go_split_ands); first | (go_simp; done) | (go_simp; with_reducible rfl)
                    try simp only [put, setIfInBounds_toArray, set_cons_zero, set_cons_succ]
                    refine wpAnyH_take (i := 11) (oi := ⟨some 95, .load 3 (.tmp 94), 3, _, _, some (2, true)⟩) (v := ?_) rfl (by kernel_rfl) (by kernel_rfl) (by kernel_rfl) (fun _ _ _ h => h) (Or.inl ⟨by rfl, ?_⟩) hSS ?_; rotate_left
                    · intro w9 hSw; (try dsimp only at hSw); (try go_split_ands); first | (go_simp; done) | (go_simp; with_reducible rfl)
                    try simp only [put, setIfInBounds_toArray, set_cons_zero, set_cons_succ]
                    refine wpAnyH_take (i := 12) (oi := ⟨some 96, .binOp .lss 3 (.tmp 88) (.tmp 95) 3, 4, _, _, some (2, true)⟩) (v := .bool true) rfl (by kernel_rfl) (by kernel_rfl) (by kernel_rfl) (fun _ _ _ h => h) (Or.inl ⟨by rfl, ?_⟩) hSS ?_
                    · intro w9 hSw; (try dsimp only at hSw); (try go_split_ands); first | (go_simp; done) | (go_simp; simp [z2]; done)
                    try simp only [put, setIfInBounds_toArray, set_cons_zero, set_cons_succ]
                    refine wpAnyH_take (i := 13) (oi := ⟨some 97, .move (.tmp 96), 4, _, _, some (2, true)⟩) (v := ?_) rfl (by kernel_rfl) (by kernel_rfl) (by kernel_rfl) (fun _ _ _ h => h) (Or.inl ⟨by rfl, ?_⟩) hSS ?_; rotate_left
                    · intro w9 hSw; (try dsimp only at hSw); (try go_split_ands); first | (go_simp; done) | (go_simp; with_reducible rfl)
                    try simp only [put, setIfInBounds_toArray, set_cons_zero, set_cons_succ]
                    refine wpAnyH_take (i := 14) (oi := ⟨some 98, .fieldAddr 51 (.tmp 4) 1, 0, _, _, some (13, false)⟩) (v := undef) rfl (by kernel_rfl) (by kernel_rfl) (by kernel_rfl) (fun _ _ _ h => h) (Or.inr ⟨by rfl, rfl⟩) hSS ?_
                    try simp only [put, setIfInBounds_toArray, set_cons_zero, set_cons_succ]
                    refine wpAnyH_take (i := 15) (oi := ⟨some 99, .load 3 (.tmp 98), 3, _, _, some (13, false)⟩) (v := undef) rfl (by kernel_rfl) (by kernel_rfl) (by kernel_rfl) (fun _ _ _ h => h) (Or.inr ⟨by rfl, rfl⟩) hSS ?_
                    try simp only [put, setIfInBounds_toArray, set_cons_zero, set_cons_succ]
                    refine wpAnyH_take (i := 16) (oi := ⟨some 100, .fieldAddr 47 (.tmp 1) 4, 0, _, _, some (13, false)⟩) (v := undef) rfl (by kernel_rfl) (by kernel_rfl) (by kernel_rfl) (fun _ _ _ h => h) (Or.inr ⟨by rfl, rfl⟩) hSS ?_
                    try simp only [put, setIfInBounds_toArray, set_cons_zero, set_cons_succ]
                    refine wpAnyH_take (i := 17) (oi := ⟨some 101, .load 45 (.tmp 100), 45, _, _, some (13, false)⟩) (v := undef) rfl (by kernel_rfl) (by kernel_rfl) (by kernel_rfl) (fun _ _ _ h => h) (Or.inr ⟨by rfl, rfl⟩) hSS ?_
                    try simp only [put, setIfInBounds_toArray, set_cons_zero, set_cons_succ]
                    refine wpAnyH_take (i := 18) (oi := ⟨some 102, .move (.tmp 3), 3, _, _, some (13, false)⟩) (v := undef) rfl (by kernel_rfl) (by kernel_rfl) (by kernel_rfl) (fun _ _ _ h => h) (Or.inr ⟨by rfl, rfl⟩) hSS ?_
                    try simp only [put, setIfInBounds_toArray, set_cons_zero, set_cons_succ]
                    refine wpAnyH_take (i := 19) (oi := ⟨some 103, .binOp .sub 3 (.tmp 102) (.const (.int .i64 1)) 3, 3, _, _, some (13, false)⟩) (v := undef) rfl (by kernel_rfl) (by kernel_rfl) (by kernel_rfl) (fun _ _ _ h => h) (Or.inr ⟨by rfl, rfl⟩) hSS ?_
                    try simp only [put, setIfInBounds_toArray, set_cons_zero, set_cons_succ]
                    refine wpAnyH_take (i := 20) (oi := ⟨some 104, .indexAddr 45 (.tmp 101) (.tmp 103), 0, _, _, some (13, false)⟩) (v := undef) rfl (by kernel_rfl) (by kernel_rfl) (by kernel_rfl) (fun _ _ _ h => h) (Or.inr ⟨by rfl, rfl⟩) hSS ?_
                    try simp only [put, setIfInBounds_toArray, set_cons_zero, set_cons_succ]
                    refine wpAnyH_take (i := 21) (oi := ⟨some 105, .fieldAddr 51 (.tmp 104) 2, 0, _, _, some (13, false)⟩) (v := undef) rfl (by kernel_rfl) (by kernel_rfl) (by kernel_rfl) (fun _ _ _ h => h) (Or.inr ⟨by rfl, rfl⟩) hSS ?_
                    try simp only [put, setIfInBounds_toArray, set_cons_zero, set_cons_succ]
                    refine wpAnyH_take (i := 22) (oi := ⟨some 106, .load 3 (.tmp 105), 3, _, _, some (13, false)⟩) (v := undef) rfl (by kernel_rfl) (by kernel_rfl) (by kernel_rfl) (fun _ _ _ h => h) (Or.inr ⟨by rfl, rfl⟩) hSS ?_
                    try simp only [put, setIfInBounds_toArray, set_cons_zero, set_cons_succ]
                    refine wpAnyH_take (i := 23) (oi := ⟨some 107, .binOp .eql 3 (.tmp 99) (.tmp 106) 3, 4, _, _, some (13, false)⟩) (v := undef) rfl (by kernel_rfl) (by kernel_rfl) (by kernel_rfl) (fun _ _ _ h => h) (Or.inr ⟨by rfl, rfl⟩) hSS ?_
                    try simp only [put, setIfInBounds_toArray, set_cons_zero, set_cons_succ]
                    refine wpAnyH_take (i := 24) (oi := ⟨some 108, .move (.tmp 107), 4, _, _, some (13, false)⟩) (v := undef) rfl (by kernel_rfl) (by kernel_rfl) (by kernel_rfl) (fun _ _ _ h => h) (Or.inr ⟨by rfl, rfl⟩) hSS ?_
                    try simp only [put, setIfInBounds_toArray, set_cons_zero, set_cons_succ]
                    refine wpAnyH_take (i := 25) (oi := ⟨some 109, .fieldAddr 51 (.tmp 4) 0, 0, _, _, some (24, true)⟩) (v := undef) rfl (by kernel_rfl) (by kernel_rfl) (by kernel_rfl) (fun _ _ _ h => h) (Or.inr ⟨by rfl, rfl⟩) hSS ?_
                    try simp only [put, setIfInBounds_toArray, set_cons_zero, set_cons_succ]
                    refine wpAnyH_take (i := 26) (oi := ⟨some 110, .load 3 (.tmp 109), 3, _, _, some (24, true)⟩) (v := undef) rfl (by kernel_rfl) (by kernel_rfl) (by kernel_rfl) (fun _ _ _ h => h) (Or.inr ⟨by rfl, rfl⟩) hSS ?_
                    try simp only [put, setIfInBounds_toArray, set_cons_zero, set_cons_succ]
                    refine wpAnyH_take (i := 27) (oi := ⟨some 111, .fieldAddr 47 (.tmp 1) 4, 0, _, _, some (24, true)⟩) (v := undef) rfl (by kernel_rfl) (by kernel_rfl) (by kernel_rfl) (fun _ _ _ h => h) (Or.inr ⟨by rfl, rfl⟩) hSS ?_
                    try simp only [put, setIfInBounds_toArray, set_cons_zero, set_cons_succ]
                    refine wpAnyH_take (i := 28) (oi := ⟨some 112, .load 45 (.tmp 111), 45, _, _, some (24, true)⟩) (v := undef) rfl (by kernel_rfl) (by kernel_rfl) (by kernel_rfl) (fun _ _ _ h => h) (Or.inr ⟨by rfl, rfl⟩) hSS ?_
                    try simp only [put, setIfInBounds_toArray, set_cons_zero, set_cons_succ]
                    refine wpAnyH_take (i := 29) (oi := ⟨some 113, .move (.tmp 3), 3, _, _, some (24, true)⟩) (v := undef) rfl (by kernel_rfl) (by kernel_rfl) (by kernel_rfl) (fun _ _ _ h => h) (Or.inr ⟨by rfl, rfl⟩) hSS ?_
                    try simp only [put, setIfInBounds_toArray, set_cons_zero, set_cons_succ]
                    refine wpAnyH_take (i := 30) (oi := ⟨some 114, .binOp .sub 3 (.tmp 113) (.const (.int .i64 1)) 3, 3, _, _, some (24, true)⟩) (v := undef) rfl (by kernel_rfl) (by kernel_rfl) (by kernel_rfl) (fun _ _ _ h => h) (Or.inr ⟨by rfl, rfl⟩) hSS ?_
                    try simp only [put, setIfInBounds_toArray, set_cons_zero, set_cons_succ]
                    refine wpAnyH_take (i := 31) (oi := ⟨some 115, .indexAddr 45 (.tmp 112) (.tmp 114), 0, _, _, some (24, true)⟩) (v := undef) rfl (by kernel_rfl) (by kernel_rfl) (by kernel_rfl) (fun _ _ _ h => h) (Or.inr ⟨by rfl, rfl⟩) hSS ?_
                    try simp only [put, setIfInBounds_toArray, set_cons_zero, set_cons_succ]
                    refine wpAnyH_take (i := 32) (oi := ⟨some 116, .fieldAddr 51 (.tmp 115) 0, 0, _, _, some (24, true)⟩) (v := undef) rfl (by kernel_rfl) (by kernel_rfl) (by kernel_rfl) (fun _ _ _ h => h) (Or.inr ⟨by rfl, rfl⟩) hSS ?_
                    try simp only [put, setIfInBounds_toArray, set_cons_zero, set_cons_succ]
                    refine wpAnyH_take (i := 33) (oi := ⟨some 117, .load 3 (.tmp 116), 3, _, _, some (24, true)⟩) (v := undef) rfl (by kernel_rfl) (by kernel_rfl) (by kernel_rfl) (fun _ _ _ h => h) (Or.inr ⟨by rfl, rfl⟩) hSS ?_
                    try simp only [put, setIfInBounds_toArray, set_cons_zero, set_cons_succ]
                    refine wpAnyH_take (i := 34) (oi := ⟨some 118, .binOp .eql 3 (.tmp 110) (.tmp 117) 3, 4, _, _, some (24, true)⟩) (v := undef) rfl (by kernel_rfl) (by kernel_rfl) (by kernel_rfl) (fun _ _ _ h => h) (Or.inr ⟨by rfl, rfl⟩) hSS ?_
                    try simp only [put, setIfInBounds_toArray, set_cons_zero, set_cons_succ]
                    refine wpAnyH_take (i := 35) (oi := ⟨some 119, .pick (.tmp 108) (.tmp 118) (.const (.bool false)), 4, _, _, some (13, false)⟩) (v := undef) rfl (by kernel_rfl) (by kernel_rfl) (by kernel_rfl) (fun _ _ _ h => h) (Or.inr ⟨by rfl, rfl⟩) hSS ?_
                    try simp only [put, setIfInBounds_toArray, set_cons_zero, set_cons_succ]
                    refine wpAnyH_take (i := 36) (oi := ⟨some 120, .pick (.tmp 97) (.const (.bool true)) (.tmp 119), 4, _, _, some (2, true)⟩) (v := ?_) rfl (by kernel_rfl) (by kernel_rfl) (by kernel_rfl) (fun _ _ _ h => h) (Or.inl ⟨by rfl, ?_⟩) hSS ?_; rotate_left
                    · intro w9 hSw; (try dsimp only at hSw); (try go_split_ands); first | (go_simp; done) | (go_simp; with_reducible rfl)
                    try simp only [put, setIfInBounds_toArray, set_cons_zero, set_cons_succ]
                    refine wpAnyH_take (i := 37) (oi := ⟨some 121, .pick (.tmp 86) (.tmp 120) (.const (.bool false)), 4, _, _, none⟩) (v := ?_) rfl (by kernel_rfl) (by kernel_rfl) (by kernel_rfl) (fun _ _ _ h => h) (Or.inl ⟨by rfl, ?_⟩) hSS ?_; rotate_left
                    · intro w9 hSw; (try dsimp only at hSw); (try go_split_ands); first | (go_simp; done) | (go_simp; with_reducible rfl)
                    try simp only [put, setIfInBounds_toArray, set_cons_zero, set_cons_succ]
                    refine wpAnyH_done (by kernel_rfl) ?_ _
                    clear hSS kS
                    go_wp2
                    go_ret
                    exact ⟨by rw [FN.out]; rfl, HBW.out _ BTd.out⟩
                  · by_cases z3 : f = pt
                    · by_cases z4 : (1 : Int) = pk
                      · have FN := hid (HN1.out (by rw [HCK2.out]; exact ahead_no2 z3 z4))
                        clear HIN HN1 HCK2
                        subst z4
                        refine wp_region_held_drew (S := fun w' => (w'.cell? ⟨rb, 0, none⟩ = some (.int .i64 1) ∧ w'.cell? ⟨rb, 1, none⟩ = some (.int .i64 f) ∧ w'.cell? ⟨sb, 4, none⟩ = some (.slice (some ⟨g, 0, none⟩) n rc) ∧ w'.cell? ⟨g, p * 4 + 2, none⟩ = some (.int .i64 pt) ∧ w'.cell? ⟨g, p * 4, none⟩ = some (.int .i64 1))) (by kernel_rfl) kS (fun hSS => ?_)
                        refine wpAnyH_take (i := 0) (oi := ⟨some 84, .move (.tmp 3), 3, _, _, none⟩) (v := ?_) rfl (by kernel_rfl) (by kernel_rfl) (by kernel_rfl) (fun _ _ _ h => h) (Or.inl ⟨by rfl, ?_⟩) hSS ?_; rotate_left
                        · intro w9 hSw; (try dsimp only at hSw); (try go_split_ands); first | (go_simp; done) | (go_simp; with_reducible rfl)
                        try simp only [put, setIfInBounds_toArray, set_cons_zero, set_cons_succ]
                        refine wpAnyH_take (i := 1) (oi := ⟨some 85, .binOp .gtr 3 (.tmp 84) (.const (.int .i64 0)) 3, 4, _, _, none⟩) (v := .bool true) rfl (by kernel_rfl) (by kernel_rfl) (by kernel_rfl) (fun _ _ _ h => h) (Or.inl ⟨by rfl, ?_⟩) hSS ?_
                        · intro w9 hSw; (try dsimp only at hSw); (try go_split_ands); first | (go_simp; done) | (go_simp; simp [z1]; done)
                        try simp only [put, setIfInBounds_toArray, set_cons_zero, set_cons_succ]
                        refine wpAnyH_take (i := 2) (oi := ⟨some 86, .move (.tmp 85), 4, _, _, none⟩) (v := ?_) rfl (by kernel_rfl) (by kernel_rfl) (by kernel_rfl) (fun _ _ _ h => h) (Or.inl ⟨by rfl, ?_⟩) hSS ?_; rotate_left
                        · intro w9 hSw; (try dsimp only at hSw); (try go_split_ands); first | (go_simp; done) | (go_simp; with_reducible rfl)
                        try simp only [put, setIfInBounds_toArray, set_cons_zero, set_cons_succ]
                        refine wpAnyH_take (i := 3) (oi := ⟨some 87, .fieldAddr 51 (.tmp 4) 1, 0, _, _, some (2, true)⟩) (v := ?_) rfl (by kernel_rfl) (by kernel_rfl) (by kernel_rfl) (fun _ _ _ h => h) (Or.inl ⟨by rfl, ?_⟩) hSS ?_; rotate_left
                        · intro w9 hSw; (try dsimp only at hSw); (try go_split_ands); first | (go_simp; done) | (go_simp; with_reducible rfl)
                        try simp only [put, setIfInBounds_toArray, set_cons_zero, set_cons_succ]
                        refine wpAnyH_take (i := 4) (oi := ⟨some 88, .load 3 (.tmp 87), 3, _, _, some (2, true)⟩) (v := ?_) rfl (by kernel_rfl) (by kernel_rfl) (by kernel_rfl) (fun _ _ _ h => h) (Or.inl ⟨by rfl, ?_⟩) hSS ?_; rotate_left
                        · intro w9 hSw; (try dsimp only at hSw); (try go_split_ands); first | (go_simp; done) | (go_simp; with_reducible rfl)
                        try simp only [put, setIfInBounds_toArray, set_cons_zero, set_cons_succ]
                        refine wpAnyH_take (i := 5) (oi := ⟨some 89, .fieldAddr 47 (.tmp 1) 4, 0, _, _, some (2, true)⟩) (v := ?_) rfl (by kernel_rfl) (by kernel_rfl) (by kernel_rfl) (fun _ _ _ h => h) (Or.inl ⟨by rfl, ?_⟩) hSS ?_; rotate_left
                        · intro w9 hSw; (try dsimp only at hSw); (try go_split_ands); first | (go_simp; done) | (go_simp; with_reducible rfl)
                        try simp only [put, setIfInBounds_toArray, set_cons_zero, set_cons_succ]
                        refine wpAnyH_take (i := 6) (oi := ⟨some 90, .load 45 (.tmp 89), 45, _, _, some (2, true)⟩) (v := ?_) rfl (by kernel_rfl) (by kernel_rfl) (by kernel_rfl) (fun _ _ _ h => h) (Or.inl ⟨by rfl, ?_⟩) hSS ?_; rotate_left
                        · intro w9 hSw; (try dsimp only at hSw); (try go_split_ands); first | (go_simp; done) | (go_simp; with_reducible rfl)
                        try simp only [put, setIfInBounds_toArray, set_cons_zero, set_cons_succ]
                        refine wpAnyH_take (i := 7) (oi := ⟨some 91, .move (.tmp 3), 3, _, _, some (2, true)⟩) (v := ?_) rfl (by kernel_rfl) (by kernel_rfl) (by kernel_rfl) (fun _ _ _ h => h) (Or.inl ⟨by rfl, ?_⟩) hSS ?_; rotate_left
                        · intro w9 hSw; (try dsimp only at hSw); (try go_split_ands); first | (go_simp; done) | (go_simp; with_reducible rfl)
                        try simp only [put, setIfInBounds_toArray, set_cons_zero, set_cons_succ]
                        refine wpAnyH_take (i := 8) (oi := ⟨some 92, .binOp .sub 3 (.tmp 91) (.const (.int .i64 1)) 3, 3, _, _, some (2, true)⟩) (v := ?_) rfl (by kernel_rfl) (by kernel_rfl) (by kernel_rfl) (fun _ _ _ h => h) (Or.inl ⟨by rfl, ?_⟩) hSS ?_; rotate_left
                        · intro w9 hSw; (try dsimp only at hSw); (try go_split_ands); first | (go_simp; done) | (go_simp; with_reducible rfl)
                        try simp only [put, setIfInBounds_toArray, set_cons_zero, set_cons_succ]
                        refine wpAnyH_take (i := 9) (oi := ⟨some 93, .indexAddr 45 (.tmp 90) (.tmp 92), 0, _, _, some (2, true)⟩) (v := ?_) rfl (by kernel_rfl) (by kernel_rfl) (by kernel_rfl) (fun _ _ _ h => h) (Or.inl ⟨by rfl, ?_⟩) hSS ?_; rotate_left
                        · intro w9 hSw; (try dsimp only at hSw); (try go_split_ands); first | (go_simp; done) | (go_simp; with_reducible rfl)
                        try simp only [put, setIfInBounds_toArray, set_cons_zero, set_cons_succ]
                        refine wpAnyH_take (i := 10) (oi := ⟨some 94, .fieldAddr 51 (.tmp 93) 2, 0, _, _, some (2, true)⟩) (v := ?_) rfl (by kernel_rfl) (by kernel_rfl) (by kernel_rfl) (fun _ _ _ h => h) (Or.inl ⟨by rfl, ?_⟩) hSS ?_; rotate_left
                        · intro w9 hSw; (try dsimp only at hSw); (try go_split_ands); first | (go_simp; done) | (go_simp; with_reducible rfl)
                        try simp only [put, setIfInBounds_toArray, set_cons_zero, set_cons_succ]
                        refine wpAnyH_take (i := 11) (oi := ⟨some 95, .load 3 (.tmp 94), 3, _, _, some (2, true)⟩) (v := ?_) rfl (by kernel_rfl) (by kernel_rfl) (by kernel_rfl) (fun _ _ _ h => h) (Or.inl ⟨by rfl, ?_⟩) hSS ?_; rotate_left
                        · intro w9 hSw; (try dsimp only at hSw); (try go_split_ands); first | (go_simp; done) | (go_simp; with_reducible rfl)
                        try simp only [put, setIfInBounds_toArray, set_cons_zero, set_cons_succ]
                        refine wpAnyH_take (i := 12) (oi := ⟨some 96, .binOp .lss 3 (.tmp 88) (.tmp 95) 3, 4, _, _, some (2, true)⟩) (v := .bool false) rfl (by kernel_rfl) (by kernel_rfl) (by kernel_rfl) (fun _ _ _ h => h) (Or.inl ⟨by rfl, ?_⟩) hSS ?_
                        · intro w9 hSw; (try dsimp only at hSw); (try go_split_ands); first | (go_simp; done) | (go_simp; simp [z2]; done)
                        try simp only [put, setIfInBounds_toArray, set_cons_zero, set_cons_succ]
                        refine wpAnyH_take (i := 13) (oi := ⟨some 97, .move (.tmp 96), 4, _, _, some (2, true)⟩) (v := ?_) rfl (by kernel_rfl) (by kernel_rfl) (by kernel_rfl) (fun _ _ _ h => h) (Or.inl ⟨by rfl, ?_⟩) hSS ?_; rotate_left
                        · intro w9 hSw; (try dsimp only at hSw); (try go_split_ands); first | (go_simp; done) | (go_simp; with_reducible rfl)
                        try simp only [put, setIfInBounds_toArray, set_cons_zero, set_cons_succ]
                        refine wpAnyH_take (i := 14) (oi := ⟨some 98, .fieldAddr 51 (.tmp 4) 1, 0, _, _, some (13, false)⟩) (v := ?_) rfl (by kernel_rfl) (by kernel_rfl) (by kernel_rfl) (fun _ _ _ h => h) (Or.inl ⟨by rfl, ?_⟩) hSS ?_; rotate_left
                        · intro w9 hSw; (try dsimp only at hSw); (try go_split_ands); first | (go_simp; done) | (go_simp; with_reducible rfl)
                        try simp only [put, setIfInBounds_toArray, set_cons_zero, set_cons_succ]
                        refine wpAnyH_take (i := 15) (oi := ⟨some 99, .load 3 (.tmp 98), 3, _, _, some (13, false)⟩) (v := ?_) rfl (by kernel_rfl) (by kernel_rfl) (by kernel_rfl) (fun _ _ _ h => h) (Or.inl ⟨by rfl, ?_⟩) hSS ?_; rotate_left
                        · intro w9 hSw; (try dsimp only at hSw); (try go_split_ands); first | (go_simp; done) | (go_simp; with_reducible rfl)
                        try simp only [put, setIfInBounds_toArray, set_cons_zero, set_cons_succ]
                        refine wpAnyH_take (i := 16) (oi := ⟨some 100, .fieldAddr 47 (.tmp 1) 4, 0, _, _, some (13, false)⟩) (v := ?_) rfl (by kernel_rfl) (by kernel_rfl) (by kernel_rfl) (fun _ _ _ h => h) (Or.inl ⟨by rfl, ?_⟩) hSS ?_; rotate_left
                        · intro w9 hSw; (try dsimp only at hSw); (try go_split_ands); first | (go_simp; done) | (go_simp; with_reducible rfl)
                        try simp only [put, setIfInBounds_toArray, set_cons_zero, set_cons_succ]
                        refine wpAnyH_take (i := 17) (oi := ⟨some 101, .load 45 (.tmp 100), 45, _, _, some (13, false)⟩) (v := ?_) rfl (by kernel_rfl) (by kernel_rfl) (by kernel_rfl) (fun _ _ _ h => h) (Or.inl ⟨by rfl, ?_⟩) hSS ?_; rotate_left
                        · intro w9 hSw; (try dsimp only at hSw); (try go_split_ands); first | (go_simp; done) | (go_simp; with_reducible rfl)
                        try simp only [put, setIfInBounds_toArray, set_cons_zero, set_cons_succ]
                        refine wpAnyH_take (i := 18) (oi := ⟨some 102, .move (.tmp 3), 3, _, _, some (13, false)⟩) (v := ?_) rfl (by kernel_rfl) (by kernel_rfl) (by kernel_rfl) (fun _ _ _ h => h) (Or.inl ⟨by rfl, ?_⟩) hSS ?_; rotate_left
                        · intro w9 hSw; (try dsimp only at hSw); (try go_split_ands); first | (go_simp; done) | (go_simp; with_reducible rfl)
                        try simp only [put, setIfInBounds_toArray, set_cons_zero, set_cons_succ]
                        refine wpAnyH_take (i := 19) (oi := ⟨some 103, .binOp .sub 3 (.tmp 102) (.const (.int .i64 1)) 3, 3, _, _, some (13, false)⟩) (v := ?_) rfl (by kernel_rfl) (by kernel_rfl) (by kernel_rfl) (fun _ _ _ h => h) (Or.inl ⟨by rfl, ?_⟩) hSS ?_; rotate_left
                        · intro w9 hSw; (try dsimp only at hSw); (try go_split_ands); first | (go_simp; done) | (go_simp; with_reducible rfl)
                        try simp only [put, setIfInBounds_toArray, set_cons_zero, set_cons_succ]
                        refine wpAnyH_take (i := 20) (oi := ⟨some 104, .indexAddr 45 (.tmp 101) (.tmp 103), 0, _, _, some (13, false)⟩) (v := ?_) rfl (by kernel_rfl) (by kernel_rfl) (by kernel_rfl) (fun _ _ _ h => h) (Or.inl ⟨by rfl, ?_⟩) hSS ?_; rotate_left
                        · intro w9 hSw; (try dsimp only at hSw); (try go_split_ands); first | (go_simp; done) | (go_simp; with_reducible rfl)
                        try simp only [put, setIfInBounds_toArray, set_cons_zero, set_cons_succ]
                        refine wpAnyH_take (i := 21) (oi := ⟨some 105, .fieldAddr 51 (.tmp 104) 2, 0, _, _, some (13, false)⟩) (v := ?_) rfl (by kernel_rfl) (by kernel_rfl) (by kernel_rfl) (fun _ _ _ h => h) (Or.inl ⟨by rfl, ?_⟩) hSS ?_; rotate_left
                        · intro w9 hSw; (try dsimp only at hSw); (try go_split_ands); first | (go_simp; done) | (go_simp; with_reducible rfl)
                        try simp only [put, setIfInBounds_toArray, set_cons_zero, set_cons_succ]
                        refine wpAnyH_take (i := 22) (oi := ⟨some 106, .load 3 (.tmp 105), 3, _, _, some (13, false)⟩) (v := ?_) rfl (by kernel_rfl) (by kernel_rfl) (by kernel_rfl) (fun _ _ _ h => h) (Or.inl ⟨by rfl, ?_⟩) hSS ?_; rotate_left
                        · intro w9 hSw; (try dsimp only at hSw); (try go_split_ands); first | (go_simp; done) | (go_simp; with_reducible rfl)
                        try simp only [put, setIfInBounds_toArray, set_cons_zero, set_cons_succ]
                        refine wpAnyH_take (i := 23) (oi := ⟨some 107, .binOp .eql 3 (.tmp 99) (.tmp 106) 3, 4, _, _, some (13, false)⟩) (v := .bool true) rfl (by kernel_rfl) (by kernel_rfl) (by kernel_rfl) (fun _ _ _ h => h) (Or.inl ⟨by rfl, ?_⟩) hSS ?_
                        · intro w9 hSw; (try dsimp only at hSw); (try go_split_ands); first | (go_simp; done) | (go_simp; simp [z3]; done)
                        try simp only [put, setIfInBounds_toArray, set_cons_zero, set_cons_succ]
                        refine wpAnyH_take (i := 24) (oi := ⟨some 108, .move (.tmp 107), 4, _, _, some (13, false)⟩) (v := ?_) rfl (by kernel_rfl) (by kernel_rfl) (by kernel_rfl) (fun _ _ _ h => h) (Or.inl ⟨by rfl, ?_⟩) hSS ?_; rotate_left
                        · intro w9 hSw; (try dsimp only at hSw); (try go_split_ands); first | (go_simp; done) | (go_simp; with_reducible rfl)
                        try simp only [put, setIfInBounds_toArray, set_cons_zero, set_cons_succ]
                        refine wpAnyH_take (i := 25) (oi := ⟨some 109, .fieldAddr 51 (.tmp 4) 0, 0, _, _, some (24, true)⟩) (v := ?_) rfl (by kernel_rfl) (by kernel_rfl) (by kernel_rfl) (fun _ _ _ h => h) (Or.inl ⟨by rfl, ?_⟩) hSS ?_; rotate_left
                        · intro w9 hSw; (try dsimp only at hSw); (try go_split_ands); first | (go_simp; done) | (go_simp; with_reducible rfl)
                        try simp only [put, setIfInBounds_toArray, set_cons_zero, set_cons_succ]
                        refine wpAnyH_take (i := 26) (oi := ⟨some 110, .load 3 (.tmp 109), 3, _, _, some (24, true)⟩) (v := ?_) rfl (by kernel_rfl) (by kernel_rfl) (by kernel_rfl) (fun _ _ _ h => h) (Or.inl ⟨by rfl, ?_⟩) hSS ?_; rotate_left
                        · intro w9 hSw; (try dsimp only at hSw); (try go_split_ands); first | (go_simp; done) | (go_simp; with_reducible rfl)
                        try simp only [put, setIfInBounds_toArray, set_cons_zero, set_cons_succ]
                        refine wpAnyH_take (i := 27) (oi := ⟨some 111, .fieldAddr 47 (.tmp 1) 4, 0, _, _, some (24, true)⟩) (v := ?_) rfl (by kernel_rfl) (by kernel_rfl) (by kernel_rfl) (fun _ _ _ h => h) (Or.inl ⟨by rfl, ?_⟩) hSS ?_; rotate_left
                        · intro w9 hSw; (try dsimp only at hSw); (try go_split_ands); first | (go_simp; done) | (go_simp; with_reducible rfl)
                        try simp only [put, setIfInBounds_toArray, set_cons_zero, set_cons_succ]
                        refine wpAnyH_take (i := 28) (oi := ⟨some 112, .load 45 (.tmp 111), 45, _, _, some (24, true)⟩) (v := ?_) rfl (by kernel_rfl) (by kernel_rfl) (by kernel_rfl) (fun _ _ _ h => h) (Or.inl ⟨by rfl, ?_⟩) hSS ?_; rotate_left
                        · intro w9 hSw; (try dsimp only at hSw); (try go_split_ands); first | (go_simp; done) | (go_simp; with_reducible rfl)
                        try simp only [put, setIfInBounds_toArray, set_cons_zero, set_cons_succ]
                        refine wpAnyH_take (i := 29) (oi := ⟨some 113, .move (.tmp 3), 3, _, _, some (24, true)⟩) (v := ?_) rfl (by kernel_rfl) (by kernel_rfl) (by kernel_rfl) (fun _ _ _ h => h) (Or.inl ⟨by rfl, ?_⟩) hSS ?_; rotate_left
                        · intro w9 hSw; (try dsimp only at hSw); (try go_split_ands); first | (go_simp; done) | (go_simp; with_reducible rfl)
                        try simp only [put, setIfInBounds_toArray, set_cons_zero, set_cons_succ]
                        refine wpAnyH_take (i := 30) (oi := ⟨some 114, .binOp .sub 3 (.tmp 113) (.const (.int .i64 1)) 3, 3, _, _, some (24, true)⟩) (v := ?_) rfl (by kernel_rfl) (by kernel_rfl) (by kernel_rfl) (fun _ _ _ h => h) (Or.inl ⟨by rfl, ?_⟩) hSS ?_; rotate_left
                        · intro w9 hSw; (try dsimp only at hSw); (try go_split_ands); first | (go_simp; done) | (go_simp; with_reducible rfl)
                        try simp only [put, setIfInBounds_toArray, set_cons_zero, set_cons_succ]
                        refine wpAnyH_take (i := 31) (oi := ⟨some 115, .indexAddr 45 (.tmp 112) (.tmp 114), 0, _, _, some (24, true)⟩) (v := ?_) rfl (by kernel_rfl) (by kernel_rfl) (by kernel_rfl) (fun _ _ _ h => h) (Or.inl ⟨by rfl, ?_⟩) hSS ?_; rotate_left
                        · intro w9 hSw; (try dsimp only at hSw); (try go_split_ands); first | (go_simp; done) | (go_simp; with_reducible rfl)
                        try simp only [put, setIfInBounds_toArray, set_cons_zero, set_cons_succ]
                        refine wpAnyH_take (i := 32) (oi := ⟨some 116, .fieldAddr 51 (.tmp 115) 0, 0, _, _, some (24, true)⟩) (v := ?_) rfl (by kernel_rfl) (by kernel_rfl) (by kernel_rfl) (fun _ _ _ h => h) (Or.inl ⟨by rfl, ?_⟩) hSS ?_; rotate_left
                        · intro w9 hSw; (try dsimp only at hSw); (try go_split_ands); first | (go_simp; done) | (go_simp; with_reducible rfl)
                        try simp only [put, setIfInBounds_toArray, set_cons_zero, set_cons_succ]
                        refine wpAnyH_take (i := 33) (oi := ⟨some 117, .load 3 (.tmp 116), 3, _, _, some (24, true)⟩) (v := ?_) rfl (by kernel_rfl) (by kernel_rfl) (by kernel_rfl) (fun _ _ _ h => h) (Or.inl ⟨by rfl, ?_⟩) hSS ?_; rotate_left
                        · intro w9 hSw; (try dsimp only at hSw); (try go_split_ands); first | (go_simp; done) | (go_simp; with_reducible rfl)
                        try simp only [put, setIfInBounds_toArray, set_cons_zero, set_cons_succ]
                        refine wpAnyH_take (i := 34) (oi := ⟨some 118, .binOp .eql 3 (.tmp 110) (.tmp 117) 3, 4, _, _, some (24, true)⟩) (v := ?_) rfl (by kernel_rfl) (by kernel_rfl) (by kernel_rfl) (fun _ _ _ h => h) (Or.inl ⟨by rfl, ?_⟩) hSS ?_; rotate_left
                        · intro w9 hSw; (try dsimp only at hSw); (try go_split_ands); first | (go_simp; done) | (go_simp; with_reducible rfl)
                        try simp only [put, setIfInBounds_toArray, set_cons_zero, set_cons_succ]
                        refine wpAnyH_take (i := 35) (oi := ⟨some 119, .pick (.tmp 108) (.tmp 118) (.const (.bool false)), 4, _, _, some (13, false)⟩) (v := ?_) rfl (by kernel_rfl) (by kernel_rfl) (by kernel_rfl) (fun _ _ _ h => h) (Or.inl ⟨by rfl, ?_⟩) hSS ?_; rotate_left
                        · intro w9 hSw; (try dsimp only at hSw); (try go_split_ands); first | (go_simp; done) | (go_simp; with_reducible rfl)
                        try simp only [put, setIfInBounds_toArray, set_cons_zero, set_cons_succ]
                        refine wpAnyH_take (i := 36) (oi := ⟨some 120, .pick (.tmp 97) (.const (.bool true)) (.tmp 119), 4, _, _, some (2, true)⟩) (v := ?_) rfl (by kernel_rfl) (by kernel_rfl) (by kernel_rfl) (fun _ _ _ h => h) (Or.inl ⟨by rfl, ?_⟩) hSS ?_; rotate_left
                        · intro w9 hSw; (try dsimp only at hSw); (try go_split_ands); first | (go_simp; done) | (go_simp; with_reducible rfl)
                        try simp only [put, setIfInBounds_toArray, set_cons_zero, set_cons_succ]
                        refine wpAnyH_take (i := 37) (oi := ⟨some 121, .pick (.tmp 86) (.tmp 120) (.const (.bool false)), 4, _, _, none⟩) (v := ?_) rfl (by kernel_rfl) (by kernel_rfl) (by kernel_rfl) (fun _ _ _ h => h) (Or.inl ⟨by rfl, ?_⟩) hSS ?_; rotate_left
                        · intro w9 hSw; (try dsimp only at hSw); (try go_split_ands); first | (go_simp; done) | (go_simp; with_reducible rfl)
                        try simp only [put, setIfInBounds_toArray, set_cons_zero, set_cons_succ]
                        refine wpAnyH_done (by kernel_rfl) ?_ _
                        clear hSS kS
                        go_wp2
                        go_ret
                        exact ⟨by rw [FN.out]; rfl, HBW.out _ BTd.out⟩
                      · have NX := hid (HIN.out (by rw [HCK2.out]; exact ahead_yes1 z3 z4))
                        clear HIN HN1 HCK2
                        refine wp_region_held_drew (S := fun w' => (w'.cell? ⟨rb, 0, none⟩ = some (.int .i64 1) ∧ w'.cell? ⟨rb, 1, none⟩ = some (.int .i64 f) ∧ w'.cell? ⟨sb, 4, none⟩ = some (.slice (some ⟨g, 0, none⟩) n rc) ∧ w'.cell? ⟨g, p * 4 + 2, none⟩ = some (.int .i64 pt) ∧ w'.cell? ⟨g, p * 4, none⟩ = some (.int .i64 pk))) (by kernel_rfl) kS (fun hSS => ?_)
                        refine wpAnyH_take (i := 0) (oi := ⟨some 84, .move (.tmp 3), 3, _, _, none⟩) (v := ?_) rfl (by kernel_rfl) (by kernel_rfl) (by kernel_rfl) (fun _ _ _ h => h) (Or.inl ⟨by rfl, ?_⟩) hSS ?_; rotate_left
                        · intro w9 hSw; (try dsimp only at hSw); (try go_split_ands); first | (go_simp; done) | (go_simp; with_reducible rfl)
                        try simp only [put, setIfInBounds_toArray, set_cons_zero, set_cons_succ]
                        refine wpAnyH_take (i := 1) (oi := ⟨some 85, .binOp .gtr 3 (.tmp 84) (.const (.int .i64 0)) 3, 4, _, _, none⟩) (v := .bool true) rfl (by kernel_rfl) (by kernel_rfl) (by kernel_rfl) (fun _ _ _ h => h) (Or.inl ⟨by rfl, ?_⟩) hSS ?_
                        · intro w9 hSw; (try dsimp only at hSw); (try go_split_ands); first | (go_simp; done) | (go_simp; simp [z1]; done)
                        try simp only [put, setIfInBounds_toArray, set_cons_zero, set_cons_succ]
                        refine wpAnyH_take (i := 2) (oi := ⟨some 86, .move (.tmp 85), 4, _, _, none⟩) (v := ?_) rfl (by kernel_rfl) (by kernel_rfl) (by kernel_rfl) (fun _ _ _ h => h) (Or.inl ⟨by rfl, ?_⟩) hSS ?_; rotate_left
                        · intro w9 hSw; (try dsimp only at hSw); (try go_split_ands); first | (go_simp; done) | (go_simp; with_reducible rfl)
                        try simp only [put, setIfInBounds_toArray, set_cons_zero, set_cons_succ]
                        refine wpAnyH_take (i := 3) (oi := ⟨some 87, .fieldAddr 51 (.tmp 4) 1, 0, _, _, some (2, true)⟩) (v := ?_) rfl (by kernel_rfl) (by kernel_rfl) (by kernel_rfl) (fun _ _ _ h => h) (Or.inl ⟨by rfl, ?_⟩) hSS ?_; rotate_left
                        · intro w9 hSw; (try dsimp only at hSw); (try go_split_ands); first | (go_simp; done) | (go_simp; with_reducible rfl)
                        try simp only [put, setIfInBounds_toArray, set_cons_zero, set_cons_succ]
                        refine wpAnyH_take (i := 4) (oi := ⟨some 88, .load 3 (.tmp 87), 3, _, _, some (2, true)⟩) (v := ?_) rfl (by kernel_rfl) (by kernel_rfl) (by kernel_rfl) (fun _ _ _ h => h) (Or.inl ⟨by rfl, ?_⟩) hSS ?_; rotate_left
                        · intro w9 hSw; (try dsimp only at hSw); (try go_split_ands); first | (go_simp; done) | (go_simp; with_reducible rfl)
                        try simp only [put, setIfInBounds_toArray, set_cons_zero, set_cons_succ]
                        refine wpAnyH_take (i := 5) (oi := ⟨some 89, .fieldAddr 47 (.tmp 1) 4, 0, _, _, some (2, true)⟩) (v := ?_) rfl (by kernel_rfl) (by kernel_rfl) (by kernel_rfl) (fun _ _ _ h => h) (Or.inl ⟨by rfl, ?_⟩) hSS ?_; rotate_left
                        · intro w9 hSw; (try dsimp only at hSw); (try go_split_ands); first | (go_simp; done) | (go_simp; with_reducible rfl)
                        try simp only [put, setIfInBounds_toArray, set_cons_zero, set_cons_succ]
                        refine wpAnyH_take (i := 6) (oi := ⟨some 90, .load 45 (.tmp 89), 45, _, _, some (2, true)⟩) (v := ?_) rfl (by kernel_rfl) (by kernel_rfl) (by kernel_rfl) (fun _ _ _ h => h) (Or.inl ⟨by rfl, ?_⟩) hSS ?_; rotate_left
                        · intro w9 hSw; (try dsimp only at hSw); (try go_split_ands); first | (go_simp; done) | (go_simp; with_reducible rfl)
                        try simp only [put, setIfInBounds_toArray, set_cons_zero, set_cons_succ]
                        refine wpAnyH_take (i := 7) (oi := ⟨some 91, .move (.tmp 3), 3, _, _, some (2, true)⟩) (v := ?_) rfl (by kernel_rfl) (by kernel_rfl) (by kernel_rfl) (fun _ _ _ h => h) (Or.inl ⟨by rfl, ?_⟩) hSS ?_; rotate_left
                        · intro w9 hSw; (try dsimp only at hSw); (try go_split_ands); first | (go_simp; done) | (go_simp; with_reducible rfl)
                        try simp only [put, setIfInBounds_toArray, set_cons_zero, set_cons_succ]
                        refine wpAnyH_take (i := 8) (oi := ⟨some 92, .binOp .sub 3 (.tmp 91) (.const (.int .i64 1)) 3, 3, _, _, some (2, true)⟩) (v := ?_) rfl (by kernel_rfl) (by kernel_rfl) (by kernel_rfl) (fun _ _ _ h => h) (Or.inl ⟨by rfl, ?_⟩) hSS ?_; rotate_left
                        · intro w9 hSw; (try dsimp only at hSw); (try go_split_ands); first | (go_simp; done) | (go_simp; with_reducible rfl)
                        try simp only [put, setIfInBounds_toArray, set_cons_zero, set_cons_succ]
                        refine wpAnyH_take (i := 9) (oi := ⟨some 93, .indexAddr 45 (.tmp 90) (.tmp 92), 0, _, _, some (2, true)⟩) (v := ?_) rfl (by kernel_rfl) (by kernel_rfl) (by kernel_rfl) (fun _ _ _ h => h) (Or.inl ⟨by rfl, ?_⟩) hSS ?_; rotate_left
                        · intro w9 hSw; (try dsimp only at hSw); (try go_split_ands); first | (go_simp; done) | (go_simp; with_reducible rfl)
                        try simp only [put, setIfInBounds_toArray, set_cons_zero, set_cons_succ]
                        refine wpAnyH_take (i := 10) (oi := ⟨some 94, .fieldAddr 51 (.tmp 93) 2, 0, _, _, some (2, true)⟩) (v := ?_) rfl (by kernel_rfl) (by kernel_rfl) (by kernel_rfl) (fun _ _ _ h => h) (Or.inl ⟨by rfl, ?_⟩) hSS ?_; rotate_left
                        · intro w9 hSw; (try dsimp only at hSw); (try go_split_ands); first | (go_simp; done) | (go_simp; with_reducible rfl)
                        try simp only [put, setIfInBounds_toArray, set_cons_zero, set_cons_succ]
                        refine wpAnyH_take (i := 11) (oi := ⟨some 95, .load 3 (.tmp 94), 3, _, _, some (2, true)⟩) (v := ?_) rfl (by kernel_rfl) (by kernel_rfl) (by kernel_rfl) (fun _ _ _ h => h) (Or.inl ⟨by rfl, ?_⟩) hSS ?_; rotate_left
                        · intro w9 hSw; (try dsimp only at hSw); (try go_split_ands); first | (go_simp; done) | (go_simp; with_reducible rfl)
                        try simp only [put, setIfInBounds_toArray, set_cons_zero, set_cons_succ]
                        refine wpAnyH_take (i := 12) (oi := ⟨some 96, .binOp .lss 3 (.tmp 88) (.tmp 95) 3, 4, _, _, some (2, true)⟩) (v := .bool false) rfl (by kernel_rfl) (by kernel_rfl) (by kernel_rfl) (fun _ _ _ h => h) (Or.inl ⟨by rfl, ?_⟩) hSS ?_
                        · intro w9 hSw; (try dsimp only at hSw); (try go_split_ands); first | (go_simp; done) | (go_simp; simp [z2]; done)
                        try simp only [put, setIfInBounds_toArray, set_cons_zero, set_cons_succ]
                        refine wpAnyH_take (i := 13) (oi := ⟨some 97, .move (.tmp 96), 4, _, _, some (2, true)⟩) (v := ?_) rfl (by kernel_rfl) (by kernel_rfl) (by kernel_rfl) (fun _ _ _ h => h) (Or.inl ⟨by rfl, ?_⟩) hSS ?_; rotate_left
                        · intro w9 hSw; (try dsimp only at hSw); (try go_split_ands); first | (go_simp; done) | (go_simp; with_reducible rfl)
                        try simp only [put, setIfInBounds_toArray, set_cons_zero, set_cons_succ]
                        refine wpAnyH_take (i := 14) (oi := ⟨some 98, .fieldAddr 51 (.tmp 4) 1, 0, _, _, some (13, false)⟩) (v := ?_) rfl (by kernel_rfl) (by kernel_rfl) (by kernel_rfl) (fun _ _ _ h => h) (Or.inl ⟨by rfl, ?_⟩) hSS ?_; rotate_left
                        · intro w9 hSw; (try dsimp only at hSw); (try go_split_ands); first | (go_simp; done) | (go_simp; with_reducible rfl)
                        try simp only [put, setIfInBounds_toArray, set_cons_zero, set_cons_succ]
                        refine wpAnyH_take (i := 15) (oi := ⟨some 99, .load 3 (.tmp 98), 3, _, _, some (13, false)⟩) (v := ?_) rfl (by kernel_rfl) (by kernel_rfl) (by kernel_rfl) (fun _ _ _ h => h) (Or.inl ⟨by rfl, ?_⟩) hSS ?_; rotate_left
                        · intro w9 hSw; (try dsimp only at hSw); (try go_split_ands); first | (go_simp; done) | (go_simp; with_reducible rfl)
                        try simp only [put, setIfInBounds_toArray, set_cons_zero, set_cons_succ]
                        refine wpAnyH_take (i := 16) (oi := ⟨some 100, .fieldAddr 47 (.tmp 1) 4, 0, _, _, some (13, false)⟩) (v := ?_) rfl (by kernel_rfl) (by kernel_rfl) (by kernel_rfl) (fun _ _ _ h => h) (Or.inl ⟨by rfl, ?_⟩) hSS ?_; rotate_left
                        · intro w9 hSw; (try dsimp only at hSw); (try go_split_ands); first | (go_simp; done) | (go_simp; with_reducible rfl)
                        try simp only [put, setIfInBounds_toArray, set_cons_zero, set_cons_succ]
                        refine wpAnyH_take (i := 17) (oi := ⟨some 101, .load 45 (.tmp 100), 45, _, _, some (13, false)⟩) (v := ?_) rfl (by kernel_rfl) (by kernel_rfl) (by kernel_rfl) (fun _ _ _ h => h) (Or.inl ⟨by rfl, ?_⟩) hSS ?_; rotate_left
                        · intro w9 hSw; (try dsimp only at hSw); (try go_split_ands); first | (go_simp; done) | (go_simp; with_reducible rfl)
                        try simp only [put, setIfInBounds_toArray, set_cons_zero, set_cons_succ]
                        refine wpAnyH_take (i := 18) (oi := ⟨some 102, .move (.tmp 3), 3, _, _, some (13, false)⟩) (v := ?_) rfl (by kernel_rfl) (by kernel_rfl) (by kernel_rfl) (fun _ _ _ h => h) (Or.inl ⟨by rfl, ?_⟩) hSS ?_; rotate_left
                        · intro w9 hSw; (try dsimp only at hSw); (try go_split_ands); first | (go_simp; done) | (go_simp; with_reducible rfl)
                        try simp only [put, setIfInBounds_toArray, set_cons_zero, set_cons_succ]
                        refine wpAnyH_take (i := 19) (oi := ⟨some 103, .binOp .sub 3 (.tmp 102) (.const (.int .i64 1)) 3, 3, _, _, some (13, false)⟩) (v := ?_) rfl (by kernel_rfl) (by kernel_rfl) (by kernel_rfl) (fun _ _ _ h => h) (Or.inl ⟨by rfl, ?_⟩) hSS ?_; rotate_left
                        · intro w9 hSw; (try dsimp only at hSw); (try go_split_ands); first | (go_simp; done) | (go_simp; with_reducible rfl)
                        try simp only [put, setIfInBounds_toArray, set_cons_zero, set_cons_succ]
                        refine wpAnyH_take (i := 20) (oi := ⟨some 104, .indexAddr 45 (.tmp 101) (.tmp 103), 0, _, _, some (13, false)⟩) (v := ?_) rfl (by kernel_rfl) (by kernel_rfl) (by kernel_rfl) (fun _ _ _ h => h) (Or.inl ⟨by rfl, ?_⟩) hSS ?_; rotate_left
                        · intro w9 hSw; (try dsimp only at hSw); (try go_split_ands); first | (go_simp; done) | (go_simp; with_reducible rfl)
                        try simp only [put, setIfInBounds_toArray, set_cons_zero, set_cons_succ]
                        refine wpAnyH_take (i := 21) (oi := ⟨some 105, .fieldAddr 51 (.tmp 104) 2, 0, _, _, some (13, false)⟩) (v := ?_) rfl (by kernel_rfl) (by kernel_rfl) (by kernel_rfl) (fun _ _ _ h => h) (Or.inl ⟨by rfl, ?_⟩) hSS ?_; rotate_left
                        · intro w9 hSw; (try dsimp only at hSw); (try go_split_ands); first | (go_simp; done) | (go_simp; with_reducible rfl)
                        try simp only [put, setIfInBounds_toArray, set_cons_zero, set_cons_succ]
                        refine wpAnyH_take (i := 22) (oi := ⟨some 106, .load 3 (.tmp 105), 3, _, _, some (13, false)⟩) (v := ?_) rfl (by kernel_rfl) (by kernel_rfl) (by kernel_rfl) (fun _ _ _ h => h) (Or.inl ⟨by rfl, ?_⟩) hSS ?_; rotate_left
                        · intro w9 hSw; (try dsimp only at hSw); (try go_split_ands); first | (go_simp; done) | (go_simp; with_reducible rfl)
                        try simp only [put, setIfInBounds_toArray, set_cons_zero, set_cons_succ]
                        refine wpAnyH_take (i := 23) (oi := ⟨some 107, .binOp .eql 3 (.tmp 99) (.tmp 106) 3, 4, _, _, some (13, false)⟩) (v := .bool true) rfl (by kernel_rfl) (by kernel_rfl) (by kernel_rfl) (fun _ _ _ h => h) (Or.inl ⟨by rfl, ?_⟩) hSS ?_
                        · intro w9 hSw; (try dsimp only at hSw); (try go_split_ands); first | (go_simp; done) | (go_simp; simp [z3]; done)
                        try simp only [put, setIfInBounds_toArray, set_cons_zero, set_cons_succ]
                        refine wpAnyH_take (i := 24) (oi := ⟨some 108, .move (.tmp 107), 4, _, _, some (13, false)⟩) (v := ?_) rfl (by kernel_rfl) (by kernel_rfl) (by kernel_rfl) (fun _ _ _ h => h) (Or.inl ⟨by rfl, ?_⟩) hSS ?_; rotate_left
                        · intro w9 hSw; (try dsimp only at hSw); (try go_split_ands); first | (go_simp; done) | (go_simp; with_reducible rfl)
                        try simp only [put, setIfInBounds_toArray, set_cons_zero, set_cons_succ]
                        refine wpAnyH_take (i := 25) (oi := ⟨some 109, .fieldAddr 51 (.tmp 4) 0, 0, _, _, some (24, true)⟩) (v := ?_) rfl (by kernel_rfl) (by kernel_rfl) (by kernel_rfl) (fun _ _ _ h => h) (Or.inl ⟨by rfl, ?_⟩) hSS ?_; rotate_left
                        · intro w9 hSw; (try dsimp only at hSw); (try go_split_ands); first | (go_simp; done) | (go_simp; with_reducible rfl)
                        try simp only [put, setIfInBounds_toArray, set_cons_zero, set_cons_succ]
                        refine wpAnyH_take (i := 26) (oi := ⟨some 110, .load 3 (.tmp 109), 3, _, _, some (24, true)⟩) (v := ?_) rfl (by kernel_rfl) (by kernel_rfl) (by kernel_rfl) (fun _ _ _ h => h) (Or.inl ⟨by rfl, ?_⟩) hSS ?_; rotate_left
                        · intro w9 hSw; (try dsimp only at hSw); (try go_split_ands); first | (go_simp; done) | (go_simp; with_reducible rfl)
                        try simp only [put, setIfInBounds_toArray, set_cons_zero, set_cons_succ]
                        refine wpAnyH_take (i := 27) (oi := ⟨some 111, .fieldAddr 47 (.tmp 1) 4, 0, _, _, some (24, true)⟩) (v := ?_) rfl (by kernel_rfl) (by kernel_rfl) (by kernel_rfl) (fun _ _ _ h => h) (Or.inl ⟨by rfl, ?_⟩) hSS ?_; rotate_left
                        · intro w9 hSw; (try dsimp only at hSw); (try go_split_ands); first | (go_simp; done) | (go_simp; with_reducible rfl)
                        try simp only [put, setIfInBounds_toArray, set_cons_zero, set_cons_succ]
                        refine wpAnyH_take (i := 28) (oi := ⟨some 112, .load 45 (.tmp 111), 45, _, _, some (24, true)⟩) (v := ?_) rfl (by kernel_rfl) (by kernel_rfl) (by kernel_rfl) (fun _ _ _ h => h) (Or.inl ⟨by rfl, ?_⟩) hSS ?_; rotate_left
                        · intro w9 hSw; (try dsimp only at hSw); (try go_split_ands); first | (go_simp; done) | (go_simp; with_reducible rfl)
                        try simp only [put, setIfInBounds_toArray, set_cons_zero, set_cons_succ]
                        refine wpAnyH_take (i := 29) (oi := ⟨some 113, .move (.tmp 3), 3, _, _, some (24, true)⟩) (v := ?_) rfl (by kernel_rfl) (by kernel_rfl) (by kernel_rfl) (fun _ _ _ h => h) (Or.inl ⟨by rfl, ?_⟩) hSS ?_; rotate_left
                        · intro w9 hSw; (try dsimp only at hSw); (try go_split_ands); first | (go_simp; done) | (go_simp; with_reducible rfl)
                        try simp only [put, setIfInBounds_toArray, set_cons_zero, set_cons_succ]
                        refine wpAnyH_take (i := 30) (oi := ⟨some 114, .binOp .sub 3 (.tmp 113) (.const (.int .i64 1)) 3, 3, _, _, some (24, true)⟩) (v := ?_) rfl (by kernel_rfl) (by kernel_rfl) (by kernel_rfl) (fun _ _ _ h => h) (Or.inl ⟨by rfl, ?_⟩) hSS ?_; rotate_left
                        · intro w9 hSw; (try dsimp only at hSw); (try go_split_ands); first | (go_simp; done) | (go_simp; with_reducible rfl)
                        try simp only [put, setIfInBounds_toArray, set_cons_zero, set_cons_succ]
                        refine wpAnyH_take (i := 31) (oi := ⟨some 115, .indexAddr 45 (.tmp 112) (.tmp 114), 0, _, _, some (24, true)⟩) (v := ?_) rfl (by kernel_rfl) (by kernel_rfl) (by kernel_rfl) (fun _ _ _ h => h) (Or.inl ⟨by rfl, ?_⟩) hSS ?_; rotate_left
                        · intro w9 hSw; (try dsimp only at hSw); (try go_split_ands); first | (go_simp; done) | (go_simp; with_reducible rfl)
                        try simp only [put, setIfInBounds_toArray, set_cons_zero, set_cons_succ]
                        refine wpAnyH_take (i := 32) (oi := ⟨some 116, .fieldAddr 51 (.tmp 115) 0, 0, _, _, some (24, true)⟩) (v := ?_) rfl (by kernel_rfl) (by kernel_rfl) (by kernel_rfl) (fun _ _ _ h => h) (Or.inl ⟨by rfl, ?_⟩) hSS ?_; rotate_left
                        · intro w9 hSw; (try dsimp only at hSw); (try go_split_ands); first | (go_simp; done) | (go_simp; with_reducible rfl)
                        try simp only [put, setIfInBounds_toArray, set_cons_zero, set_cons_succ]
                        refine wpAnyH_take (i := 33) (oi := ⟨some 117, .load 3 (.tmp 116), 3, _, _, some (24, true)⟩) (v := ?_) rfl (by kernel_rfl) (by kernel_rfl) (by kernel_rfl) (fun _ _ _ h => h) (Or.inl ⟨by rfl, ?_⟩) hSS ?_; rotate_left
                        · intro w9 hSw; (try dsimp only at hSw); (try go_split_ands); first | (go_simp; done) | (go_simp; with_reducible rfl)
                        try simp only [put, setIfInBounds_toArray, set_cons_zero, set_cons_succ]
                        refine wpAnyH_take (i := 34) (oi := ⟨some 118, .binOp .eql 3 (.tmp 110) (.tmp 117) 3, 4, _, _, some (24, true)⟩) (v := .bool false) rfl (by kernel_rfl) (by kernel_rfl) (by kernel_rfl) (fun _ _ _ h => h) (Or.inl ⟨by rfl, ?_⟩) hSS ?_
                        · intro w9 hSw; (try dsimp only at hSw); (try go_split_ands); first | (go_simp; done) | (go_simp; simp [z4]; done)
                        try simp only [put, setIfInBounds_toArray, set_cons_zero, set_cons_succ]
                        refine wpAnyH_take (i := 35) (oi := ⟨some 119, .pick (.tmp 108) (.tmp 118) (.const (.bool false)), 4, _, _, some (13, false)⟩) (v := ?_) rfl (by kernel_rfl) (by kernel_rfl) (by kernel_rfl) (fun _ _ _ h => h) (Or.inl ⟨by rfl, ?_⟩) hSS ?_; rotate_left
                        · intro w9 hSw; (try dsimp only at hSw); (try go_split_ands); first | (go_simp; done) | (go_simp; with_reducible rfl)
                        try simp only [put, setIfInBounds_toArray, set_cons_zero, set_cons_succ]
                        refine wpAnyH_take (i := 36) (oi := ⟨some 120, .pick (.tmp 97) (.const (.bool true)) (.tmp 119), 4, _, _, some (2, true)⟩) (v := ?_) rfl (by kernel_rfl) (by kernel_rfl) (by kernel_rfl) (fun _ _ _ h => h) (Or.inl ⟨by rfl, ?_⟩) hSS ?_; rotate_left
                        · intro w9 hSw; (try dsimp only at hSw); (try go_split_ands); first | (go_simp; done) | (go_simp; with_reducible rfl)
                        try simp only [put, setIfInBounds_toArray, set_cons_zero, set_cons_succ]
                        refine wpAnyH_take (i := 37) (oi := ⟨some 121, .pick (.tmp 86) (.tmp 120) (.const (.bool false)), 4, _, _, none⟩) (v := ?_) rfl (by kernel_rfl) (by kernel_rfl) (by kernel_rfl) (fun _ _ _ h => h) (Or.inl ⟨by rfl, ?_⟩) hSS ?_; rotate_left
                        · intro w9 hSw; (try dsimp only at hSw); (try go_split_ands); first | (go_simp; done) | (go_simp; with_reducible rfl)
                        try simp only [put, setIfInBounds_toArray, set_cons_zero, set_cons_succ]
                        refine wpAnyH_done (by kernel_rfl) ?_ _
                        clear hSS kS
                        go_wp2
                        go_roundw
                        case rel => exact ⟨q + 1, by omega, by go_num, NX.out, BTd.out⟩
                        case measure => simp [intOf]; omega
                    · have NX := hid (HIN.out (by rw [HCK2.out]; exact ahead_yes2 z2 z3))
                      clear HIN HN1 HCK2
                      refine wp_region_held_drew (S := fun w' => (w'.cell? ⟨rb, 0, none⟩ = some (.int .i64 1) ∧ w'.cell? ⟨rb, 1, none⟩ = some (.int .i64 f) ∧ w'.cell? ⟨sb, 4, none⟩ = some (.slice (some ⟨g, 0, none⟩) n rc) ∧ w'.cell? ⟨g, p * 4 + 2, none⟩ = some (.int .i64 pt) ∧ w'.cell? ⟨g, p * 4, none⟩ = some (.int .i64 pk))) (by kernel_rfl) kS (fun hSS => ?_)
                      refine wpAnyH_take (i := 0) (oi := ⟨some 84, .move (.tmp 3), 3, _, _, none⟩) (v := ?_) rfl (by kernel_rfl) (by kernel_rfl) (by kernel_rfl) (fun _ _ _ h => h) (Or.inl ⟨by rfl, ?_⟩) hSS ?_; rotate_left
                      · intro w9 hSw; (try dsimp only at hSw); (try go_split_ands); first | (go_simp; done) | (go_simp; with_reducible rfl)
                      try simp only [put, setIfInBounds_toArray, set_cons_zero, set_cons_succ]
                      refine wpAnyH_take (i := 1) (oi := ⟨some 85, .binOp .gtr 3 (.tmp 84) (.const (.int .i64 0)) 3, 4, _, _, none⟩) (v := .bool true) rfl (by kernel_rfl) (by kernel_rfl) (by kernel_rfl) (fun _ _ _ h => h) (Or.inl ⟨by rfl, ?_⟩) hSS ?_
                      · intro w9 hSw; (try dsimp only at hSw); (try go_split_ands); first | (go_simp; done) | (go_simp; simp [z1]; done)
                      try simp only [put, setIfInBounds_toArray, set_cons_zero, set_cons_succ]
                      refine wpAnyH_take (i := 2) (oi := ⟨some 86, .move (.tmp 85), 4, _, _, none⟩) (v := ?_) rfl (by kernel_rfl) (by kernel_rfl) (by kernel_rfl) (fun _ _ _ h => h) (Or.inl ⟨by rfl, ?_⟩) hSS ?_; rotate_left
                      · intro w9 hSw; (try dsimp only at hSw); (try go_split_ands); first | (go_simp; done) | (go_simp; with_reducible rfl)
                      try simp only [put, setIfInBounds_toArray, set_cons_zero, set_cons_succ]
                      refine wpAnyH_take (i := 3) (oi := ⟨some 87, .fieldAddr 51 (.tmp 4) 1, 0, _, _, some (2, true)⟩) (v := ?_) rfl (by kernel_rfl) (by kernel_rfl) (by kernel_rfl) (fun _ _ _ h => h) (Or.inl ⟨by rfl, ?_⟩) hSS ?_; rotate_left
                      · intro w9 hSw; (try dsimp only at hSw); (try go_split_ands); first | (go_simp; done) | (go_simp; with_reducible rfl)
                      try simp only [put, setIfInBounds_toArray, set_cons_zero, set_cons_succ]
                      refine wpAnyH_take (i := 4) (oi := ⟨some 88, .load 3 (.tmp 87), 3, _, _, some (2, true)⟩) (v := ?_) rfl (by kernel_rfl) (by kernel_rfl) (by kernel_rfl) (fun _ _ _ h => h) (Or.inl ⟨by rfl, ?_⟩) hSS ?_; rotate_left
                      · intro w9 hSw; (try dsimp only at hSw); (try go_split_ands); first | (go_simp; done) | (go_simp; with_reducible rfl)
                      try simp only [put, setIfInBounds_toArray, set_cons_zero, set_cons_succ]
                      refine wpAnyH_take (i := 5) (oi := ⟨some 89, .fieldAddr 47 (.tmp 1) 4, 0, _, _, some (2, true)⟩) (v := ?_) rfl (by kernel_rfl) (by kernel_rfl) (by kernel_rfl) (fun _ _ _ h => h) (Or.inl ⟨by rfl, ?_⟩) hSS ?_; rotate_left
                      · intro w9 hSw; (try dsimp only at hSw); (try go_split_ands); first | (go_simp; done) | (go_simp; with_reducible rfl)
                      try simp only [put, setIfInBounds_toArray, set_cons_zero, set_cons_succ]
                      refine wpAnyH_take (i := 6) (oi := ⟨some 90, .load 45 (.tmp 89), 45, _, _, some (2, true)⟩) (v := ?_) rfl (by kernel_rfl) (by kernel_rfl) (by kernel_rfl) (fun _ _ _ h => h) (Or.inl ⟨by rfl, ?_⟩) hSS ?_; rotate_left
                      · intro w9 hSw; (try dsimp only at hSw); (try go_split_ands); first | (go_simp; done) | (go_simp; with_reducible rfl)
                      try simp only [put, setIfInBounds_toArray, set_cons_zero, set_cons_succ]
                      refine wpAnyH_take (i := 7) (oi := ⟨some 91, .move (.tmp 3), 3, _, _, some (2, true)⟩) (v := ?_) rfl (by kernel_rfl) (by kernel_rfl) (by kernel_rfl) (fun _ _ _ h => h) (Or.inl ⟨by rfl, ?_⟩) hSS ?_; rotate_left
                      · intro w9 hSw; (try dsimp only at hSw); (try go_split_ands); first | (go_simp; done) | (go_simp; with_reducible rfl)
                      try simp only [put, setIfInBounds_toArray, set_cons_zero, set_cons_succ]
                      refine wpAnyH_take (i := 8) (oi := ⟨some 92, .binOp .sub 3 (.tmp 91) (.const (.int .i64 1)) 3, 3, _, _, some (2, true)⟩) (v := ?_) rfl (by kernel_rfl) (by kernel_rfl) (by kernel_rfl) (fun _ _ _ h => h) (Or.inl ⟨by rfl, ?_⟩) hSS ?_; rotate_left
                      · intro w9 hSw; (try dsimp only at hSw); (try go_split_ands); first | (go_simp; done) | (go_simp; with_reducible rfl)
                      try simp only [put, setIfInBounds_toArray, set_cons_zero, set_cons_succ]
                      refine wpAnyH_take (i := 9) (oi := ⟨some 93, .indexAddr 45 (.tmp 90) (.tmp 92), 0, _, _, some (2, true)⟩) (v := ?_) rfl (by kernel_rfl) (by kernel_rfl) (by kernel_rfl) (fun _ _ _ h => h) (Or.inl ⟨by rfl, ?_⟩) hSS ?_; rotate_left
                      · intro w9 hSw; (try dsimp only at hSw); (try go_split_ands); first | (go_simp; done) | (go_simp; with_reducible rfl)
                      try simp only [put, setIfInBounds_toArray, set_cons_zero, set_cons_succ]
                      refine wpAnyH_take (i := 10) (oi := ⟨some 94, .fieldAddr 51 (.tmp 93) 2, 0, _, _, some (2, true)⟩) (v := ?_) rfl (by kernel_rfl) (by kernel_rfl) (by kernel_rfl) (fun _ _ _ h => h) (Or.inl ⟨by rfl, ?_⟩) hSS ?_; rotate_left
                      · intro w9 hSw; (try dsimp only at hSw); (try go_split_ands); first | (go_simp; done) | (go_simp; with_reducible rfl)
                      try simp only [put, setIfInBounds_toArray, set_cons_zero, set_cons_succ]
                      refine wpAnyH_take (i := 11) (oi := ⟨some 95, .load 3 (.tmp 94), 3, _, _, some (2, true)⟩) (v := ?_) rfl (by kernel_rfl) (by kernel_rfl) (by kernel_rfl) (fun _ _ _ h => h) (Or.inl ⟨by rfl, ?_⟩) hSS ?_; rotate_left
                      · intro w9 hSw; (try dsimp only at hSw); (try go_split_ands); first | (go_simp; done) | (go_simp; with_reducible rfl)
                      try simp only [put, setIfInBounds_toArray, set_cons_zero, set_cons_succ]
                      refine wpAnyH_take (i := 12) (oi := ⟨some 96, .binOp .lss 3 (.tmp 88) (.tmp 95) 3, 4, _, _, some (2, true)⟩) (v := .bool false) rfl (by kernel_rfl) (by kernel_rfl) (by kernel_rfl) (fun _ _ _ h => h) (Or.inl ⟨by rfl, ?_⟩) hSS ?_
                      · intro w9 hSw; (try dsimp only at hSw); (try go_split_ands); first | (go_simp; done) | (go_simp; simp [z2]; done)
                      try simp only [put, setIfInBounds_toArray, set_cons_zero, set_cons_succ]
                      refine wpAnyH_take (i := 13) (oi := ⟨some 97, .move (.tmp 96), 4, _, _, some (2, true)⟩) (v := ?_) rfl (by kernel_rfl) (by kernel_rfl) (by kernel_rfl) (fun _ _ _ h => h) (Or.inl ⟨by rfl, ?_⟩) hSS ?_; rotate_left
                      · intro w9 hSw; (try dsimp only at hSw); (try go_split_ands); first | (go_simp; done) | (go_simp; with_reducible rfl)
                      try simp only [put, setIfInBounds_toArray, set_cons_zero, set_cons_succ]
                      refine wpAnyH_take (i := 14) (oi := ⟨some 98, .fieldAddr 51 (.tmp 4) 1, 0, _, _, some (13, false)⟩) (v := ?_) rfl (by kernel_rfl) (by kernel_rfl) (by kernel_rfl) (fun _ _ _ h => h) (Or.inl ⟨by rfl, ?_⟩) hSS ?_; rotate_left
                      · intro w9 hSw; (try dsimp only at hSw); (try go_split_ands); first | (go_simp; done) | (go_simp; with_reducible rfl)
                      try simp only [put, setIfInBounds_toArray, set_cons_zero, set_cons_succ]
                      refine wpAnyH_take (i := 15) (oi := ⟨some 99, .load 3 (.tmp 98), 3, _, _, some (13, false)⟩) (v := ?_) rfl (by kernel_rfl) (by kernel_rfl) (by kernel_rfl) (fun _ _ _ h => h) (Or.inl ⟨by rfl, ?_⟩) hSS ?_; rotate_left
                      · intro w9 hSw; (try dsimp only at hSw); (try go_split_ands); first | (go_simp; done) | (go_simp; with_reducible rfl)
                      try simp only [put, setIfInBounds_toArray, set_cons_zero, set_cons_succ]
                      refine wpAnyH_take (i := 16) (oi := ⟨some 100, .fieldAddr 47 (.tmp 1) 4, 0, _, _, some (13, false)⟩) (v := ?_) rfl (by kernel_rfl) (by kernel_rfl) (by kernel_rfl) (fun _ _ _ h => h) (Or.inl ⟨by rfl, ?_⟩) hSS ?_; rotate_left
                      · intro w9 hSw; (try dsimp only at hSw); (try go_split_ands); first | (go_simp; done) | (go_simp; with_reducible rfl)
                      try simp only [put, setIfInBounds_toArray, set_cons_zero, set_cons_succ]
                      refine wpAnyH_take (i := 17) (oi := ⟨some 101, .load 45 (.tmp 100), 45, _, _, some (13, false)⟩) (v := ?_) rfl (by kernel_rfl) (by kernel_rfl) (by kernel_rfl) (fun _ _ _ h => h) (Or.inl ⟨by rfl, ?_⟩) hSS ?_; rotate_left
                      · intro w9 hSw; (try dsimp only at hSw); (try go_split_ands); first | (go_simp; done) | (go_simp; with_reducible rfl)
                      try simp only [put, setIfInBounds_toArray, set_cons_zero, set_cons_succ]
                      refine wpAnyH_take (i := 18) (oi := ⟨some 102, .move (.tmp 3), 3, _, _, some (13, false)⟩) (v := ?_) rfl (by kernel_rfl) (by kernel_rfl) (by kernel_rfl) (fun _ _ _ h => h) (Or.inl ⟨by rfl, ?_⟩) hSS ?_; rotate_left
                      · intro w9 hSw; (try dsimp only at hSw); (try go_split_ands); first | (go_simp; done) | (go_simp; with_reducible rfl)
                      try simp only [put, setIfInBounds_toArray, set_cons_zero, set_cons_succ]
                      refine wpAnyH_take (i := 19) (oi := ⟨some 103, .binOp .sub 3 (.tmp 102) (.const (.int .i64 1)) 3, 3, _, _, some (13, false)⟩) (v := ?_) rfl (by kernel_rfl) (by kernel_rfl) (by kernel_rfl) (fun _ _ _ h => h) (Or.inl ⟨by rfl, ?_⟩) hSS ?_; rotate_left
                      · intro w9 hSw; (try dsimp only at hSw); (try go_split_ands); first | (go_simp; done) | (go_simp; with_reducible rfl)
                      try simp only [put, setIfInBounds_toArray, set_cons_zero, set_cons_succ]
                      refine wpAnyH_take (i := 20) (oi := ⟨some 104, .indexAddr 45 (.tmp 101) (.tmp 103), 0, _, _, some (13, false)⟩) (v := ?_) rfl (by kernel_rfl) (by kernel_rfl) (by kernel_rfl) (fun _ _ _ h => h) (Or.inl ⟨by rfl, ?_⟩) hSS ?_; rotate_left
                      · intro w9 hSw; (try dsimp only at hSw); (try go_split_ands); first | (go_simp; done) | (go_simp; with_reducible rfl)
                      try simp only [put, setIfInBounds_toArray, set_cons_zero, set_cons_succ]
                      refine wpAnyH_take (i := 21) (oi := ⟨some 105, .fieldAddr 51 (.tmp 104) 2, 0, _, _, some (13, false)⟩) (v := ?_) rfl (by kernel_rfl) (by kernel_rfl) (by kernel_rfl) (fun _ _ _ h => h) (Or.inl ⟨by rfl, ?_⟩) hSS ?_; rotate_left
                      · intro w9 hSw; (try dsimp only at hSw); (try go_split_ands); first | (go_simp; done) | (go_simp; with_reducible rfl)
                      try simp only [put, setIfInBounds_toArray, set_cons_zero, set_cons_succ]
                      refine wpAnyH_take (i := 22) (oi := ⟨some 106, .load 3 (.tmp 105), 3, _, _, some (13, false)⟩) (v := ?_) rfl (by kernel_rfl) (by kernel_rfl) (by kernel_rfl) (fun _ _ _ h => h) (Or.inl ⟨by rfl, ?_⟩) hSS ?_; rotate_left
                      · intro w9 hSw; (try dsimp only at hSw); (try go_split_ands); first | (go_simp; done) | (go_simp; with_reducible rfl)
                      try simp only [put, setIfInBounds_toArray, set_cons_zero, set_cons_succ]
                      refine wpAnyH_take (i := 23) (oi := ⟨some 107, .binOp .eql 3 (.tmp 99) (.tmp 106) 3, 4, _, _, some (13, false)⟩) (v := .bool false) rfl (by kernel_rfl) (by kernel_rfl) (by kernel_rfl) (fun _ _ _ h => h) (Or.inl ⟨by rfl, ?_⟩) hSS ?_
                      · intro w9 hSw; (try dsimp only at hSw); (try go_split_ands); first | (go_simp; done) | (go_simp; simp [z3]; done)
                      try simp only [put, setIfInBounds_toArray, set_cons_zero, set_cons_succ]
                      refine wpAnyH_take (i := 24) (oi := ⟨some 108, .move (.tmp 107), 4, _, _, some (13, false)⟩) (v := ?_) rfl (by kernel_rfl) (by kernel_rfl) (by kernel_rfl) (fun _ _ _ h => h) (Or.inl ⟨by rfl, ?_⟩) hSS ?_; rotate_left
                      · intro w9 hSw; (try dsimp only at hSw); (try go_split_ands); first | (go_simp; done) | (go_simp; with_reducible rfl)
                      try simp only [put, setIfInBounds_toArray, set_cons_zero, set_cons_succ]
                      refine wpAnyH_take (i := 25) (oi := ⟨some 109, .fieldAddr 51 (.tmp 4) 0, 0, _, _, some (24, true)⟩) (v := undef) rfl (by kernel_rfl) (by kernel_rfl) (by kernel_rfl) (fun _ _ _ h => h) (Or.inr ⟨by rfl, rfl⟩) hSS ?_
                      try simp only [put, setIfInBounds_toArray, set_cons_zero, set_cons_succ]
                      refine wpAnyH_take (i := 26) (oi := ⟨some 110, .load 3 (.tmp 109), 3, _, _, some (24, true)⟩) (v := undef) rfl (by kernel_rfl) (by kernel_rfl) (by kernel_rfl) (fun _ _ _ h => h) (Or.inr ⟨by rfl, rfl⟩) hSS ?_
                      try simp only [put, setIfInBounds_toArray, set_cons_zero, set_cons_succ]
                      refine wpAnyH_take (i := 27) (oi := ⟨some 111, .fieldAddr 47 (.tmp 1) 4, 0, _, _, some (24, true)⟩) (v := undef) rfl (by kernel_rfl) (by kernel_rfl) (by kernel_rfl) (fun _ _ _ h => h) (Or.inr ⟨by rfl, rfl⟩) hSS ?_
                      try simp only [put, setIfInBounds_toArray, set_cons_zero, set_cons_succ]
                      refine wpAnyH_take (i := 28) (oi := ⟨some 112, .load 45 (.tmp 111), 45, _, _, some (24, true)⟩) (v := undef) rfl (by kernel_rfl) (by kernel_rfl) (by kernel_rfl) (fun _ _ _ h => h) (Or.inr ⟨by rfl, rfl⟩) hSS ?_
                      try simp only [put, setIfInBounds_toArray, set_cons_zero, set_cons_succ]
                      refine wpAnyH_take (i := 29) (oi := ⟨some 113, .move (.tmp 3), 3, _, _, some (24, true)⟩) (v := undef) rfl (by kernel_rfl) (by kernel_rfl) (by kernel_rfl) (fun _ _ _ h => h) (Or.inr ⟨by rfl, rfl⟩) hSS ?_
                      try simp only [put, setIfInBounds_toArray, set_cons_zero, set_cons_succ]
                      refine wpAnyH_take (i := 30) (oi := ⟨some 114, .binOp .sub 3 (.tmp 113) (.const (.int .i64 1)) 3, 3, _, _, some (24, true)⟩) (v := undef) rfl (by kernel_rfl) (by kernel_rfl) (by kernel_rfl) (fun _ _ _ h => h) (Or.inr ⟨by rfl, rfl⟩) hSS ?_
                      try simp only [put, setIfInBounds_toArray, set_cons_zero, set_cons_succ]
                      refine wpAnyH_take (i := 31) (oi := ⟨some 115, .indexAddr 45 (.tmp 112) (.tmp 114), 0, _, _, some (24, true)⟩) (v := undef) rfl (by kernel_rfl) (by kernel_rfl) (by kernel_rfl) (fun _ _ _ h => h) (Or.inr ⟨by rfl, rfl⟩) hSS ?_
                      try simp only [put, setIfInBounds_toArray, set_cons_zero, set_cons_succ]
                      refine wpAnyH_take (i := 32) (oi := ⟨some 116, .fieldAddr 51 (.tmp 115) 0, 0, _, _, some (24, true)⟩) (v := undef) rfl (by kernel_rfl) (by kernel_rfl) (by kernel_rfl) (fun _ _ _ h => h) (Or.inr ⟨by rfl, rfl⟩) hSS ?_
                      try simp only [put, setIfInBounds_toArray, set_cons_zero, set_cons_succ]
                      refine wpAnyH_take (i := 33) (oi := ⟨some 117, .load 3 (.tmp 116), 3, _, _, some (24, true)⟩) (v := undef) rfl (by kernel_rfl) (by kernel_rfl) (by kernel_rfl) (fun _ _ _ h => h) (Or.inr ⟨by rfl, rfl⟩) hSS ?_
                      try simp only [put, setIfInBounds_toArray, set_cons_zero, set_cons_succ]
                      refine wpAnyH_take (i := 34) (oi := ⟨some 118, .binOp .eql 3 (.tmp 110) (.tmp 117) 3, 4, _, _, some (24, true)⟩) (v := undef) rfl (by kernel_rfl) (by kernel_rfl) (by kernel_rfl) (fun _ _ _ h => h) (Or.inr ⟨by rfl, rfl⟩) hSS ?_
                      try simp only [put, setIfInBounds_toArray, set_cons_zero, set_cons_succ]
                      refine wpAnyH_take (i := 35) (oi := ⟨some 119, .pick (.tmp 108) (.tmp 118) (.const (.bool false)), 4, _, _, some (13, false)⟩) (v := ?_) rfl (by kernel_rfl) (by kernel_rfl) (by kernel_rfl) (fun _ _ _ h => h) (Or.inl ⟨by rfl, ?_⟩) hSS ?_; rotate_left
                      · intro w9 hSw; (try dsimp only at hSw); (try go_split_ands); first | (go_simp; done) | (go_simp; with_reducible rfl)
                      try simp only [put, setIfInBounds_toArray, set_cons_zero, set_cons_succ]
                      refine wpAnyH_take (i := 36) (oi := ⟨some 120, .pick (.tmp 97) (.const (.bool true)) (.tmp 119), 4, _, _, some (2, true)⟩) (v := ?_) rfl (by kernel_rfl) (by kernel_rfl) (by kernel_rfl) (fun _ _ _ h => h) (Or.inl ⟨by rfl, ?_⟩) hSS ?_; rotate_left
                      · intro w9 hSw; (try dsimp only at hSw); (try go_split_ands); first | (go_simp; done) | (go_simp; with_reducible rfl)
                      try simp only [put, setIfInBounds_toArray, set_cons_zero, set_cons_succ]
                      refine wpAnyH_take (i := 37) (oi := ⟨some 121, .pick (.tmp 86) (.tmp 120) (.const (.bool false)), 4, _, _, none⟩) (v := ?_) rfl (by kernel_rfl) (by kernel_rfl) (by kernel_rfl) (fun _ _ _ h => h) (Or.inl ⟨by rfl, ?_⟩) hSS ?_; rotate_left
                      · intro w9 hSw; (try dsimp only at hSw); (try go_split_ands); first | (go_simp; done) | (go_simp; with_reducible rfl)
                      try simp only [put, setIfInBounds_toArray, set_cons_zero, set_cons_succ]
                      refine wpAnyH_done (by kernel_rfl) ?_ _
                      clear hSS kS
                      go_wp2
                      go_roundw
                      case rel => exact ⟨q + 1, by omega, by go_num, NX.out, BTd.out⟩
                      case measure => simp [intOf]; omega
              · have o4 : sz < t := by omega
                have o3 : ¬ t ≤ f := by omega
                have FN := hid (HN1.out (by rw [HCK.out]; unfold okR; simp [o2]))
                clear HIN HN1 HCK HPV v0 v1 v2
                go_wp2
                all_goals go_ret
                all_goals exact ⟨by rw [FN.out]; rfl, HBW.out _ (by rw [← HW2.out]; exact BT.out)⟩
            · have o3 : t ≤ f := by omega
              have FN := hid (HN1.out (by rw [HCK.out]; unfold okR; simp [o1]))
              clear HIN HN1 HCK HPV v0 v1 v2
              go_wp2
              all_goals go_ret
              all_goals exact ⟨by rw [FN.out]; rfl, HBW.out _ (by rw [← HW2.out]; exact BT.out)⟩
          by_cases k2 : k = 2
          · subst k2
            by_cases o1 : f < t
            · by_cases o2 : t ≤ sz
              · have o3 : ¬ t ≤ f := by omega
                have o4 : ¬ sz < t := by omega
                go_wp2_with fail
                rw [← HW2.out, ← HRB.out]
                have HOK : Hid (okR sz true ((2 : Int), f, t) = true) := hid (by unfold okR; simp [o1, o2])
                by_cases q0 : q = 0
                · have NX := hid (HIN.out (by rw [HCK.out, HOK.out, show decide (q = 0) = true from by simp [q0]]; rfl))
                  have z0 : ¬ (0 : Int) < (q : Int) := by omega
                  have kS := v0
                  clear HIN HN1 HCK HOK HPV v0 v1 v2 u0 u1 u2 u3 sb1 sb2 sb4 HW2 HRB
                  refine wp_region_held_drew (S := fun w' => (w'.cell? ⟨rb, 0, none⟩ = some (.int .i64 2))) (by kernel_rfl) kS (fun hSS => ?_)
                  refine wpAnyH_take (i := 0) (oi := ⟨some 84, .move (.tmp 3), 3, _, _, none⟩) (v := ?_) rfl (by kernel_rfl) (by kernel_rfl) (by kernel_rfl) (fun _ _ _ h => h) (Or.inl ⟨by rfl, ?_⟩) hSS ?_; rotate_left
                  · intro w9 hSw; (try dsimp only at hSw); (try go_split_ands); first | (go_simp; done) | (go_simp; with_reducible rfl)
                  try simp only [put, setIfInBounds_toArray, set_cons_zero, set_cons_succ]
                  refine wpAnyH_take (i := 1) (oi := ⟨some 85, .binOp .gtr 3 (.tmp 84) (.const (.int .i64 0)) 3, 4, _, _, none⟩) (v := .bool false) rfl (by kernel_rfl) (by kernel_rfl) (by kernel_rfl) (fun _ _ _ h => h) (Or.inl ⟨by rfl, ?_⟩) hSS ?_
                  · intro w9 hSw; (try dsimp only at hSw); (try go_split_ands); first | (go_simp; done) | (go_simp; simp [z0]; done)
                  try simp only [put, setIfInBounds_toArray, set_cons_zero, set_cons_succ]
                  refine wpAnyH_take (i := 2) (oi := ⟨some 86, .move (.tmp 85), 4, _, _, none⟩) (v := ?_) rfl (by kernel_rfl) (by kernel_rfl) (by kernel_rfl) (fun _ _ _ h => h) (Or.inl ⟨by rfl, ?_⟩) hSS ?_; rotate_left
                  · intro w9 hSw; (try dsimp only at hSw); (try go_split_ands); first | (go_simp; done) | (go_simp; with_reducible rfl)
                  try simp only [put, setIfInBounds_toArray, set_cons_zero, set_cons_succ]
                  refine wpAnyH_take (i := 3) (oi := ⟨some 87, .fieldAddr 51 (.tmp 4) 1, 0, _, _, some (2, true)⟩) (v := undef) rfl (by kernel_rfl) (by kernel_rfl) (by kernel_rfl) (fun _ _ _ h => h) (Or.inr ⟨by rfl, rfl⟩) hSS ?_
                  try simp only [put, setIfInBounds_toArray, set_cons_zero, set_cons_succ]
                  refine wpAnyH_take (i := 4) (oi := ⟨some 88, .load 3 (.tmp 87), 3, _, _, some (2, true)⟩) (v := undef) rfl (by kernel_rfl) (by kernel_rfl) (by kernel_rfl) (fun _ _ _ h => h) (Or.inr ⟨by rfl, rfl⟩) hSS ?_
                  try simp only [put, setIfInBounds_toArray, set_cons_zero, set_cons_succ]
                  refine wpAnyH_take (i := 5) (oi := ⟨some 89, .fieldAddr 47 (.tmp 1) 4, 0, _, _, some (2, true)⟩) (v := undef) rfl (by kernel_rfl) (by kernel_rfl) (by kernel_rfl) (fun _ _ _ h => h) (Or.inr ⟨by rfl, rfl⟩) hSS ?_
                  try simp only [put, setIfInBounds_toArray, set_cons_zero, set_cons_succ]
                  refine wpAnyH_take (i := 6) (oi := ⟨some 90, .load 45 (.tmp 89), 45, _, _, some (2, true)⟩) (v := undef) rfl (by kernel_rfl) (by kernel_rfl) (by kernel_rfl) (fun _ _ _ h => h) (Or.inr ⟨by rfl, rfl⟩) hSS ?_
                  try simp only [put, setIfInBounds_toArray, set_cons_zero, set_cons_succ]
                  refine wpAnyH_take (i := 7) (oi := ⟨some 91, .move (.tmp 3), 3, _, _, some (2, true)⟩) (v := undef) rfl (by kernel_rfl) (by kernel_rfl) (by kernel_rfl) (fun _ _ _ h => h) (Or.inr ⟨by rfl, rfl⟩) hSS ?_
                  try simp only [put, setIfInBounds_toArray, set_cons_zero, set_cons_succ]
                  refine wpAnyH_take (i := 8) (oi := ⟨some 92, .binOp .sub 3 (.tmp 91) (.const (.int .i64 1)) 3, 3, _, _, some (2, true)⟩) (v := undef) rfl (by kernel_rfl) (by kernel_rfl) (by kernel_rfl) (fun _ _ _ h => h) (Or.inr ⟨by rfl, rfl⟩) hSS ?_
                  try simp only [put, setIfInBounds_toArray, set_cons_zero, set_cons_succ]
                  refine wpAnyH_take (i := 9) (oi := ⟨some 93, .indexAddr 45 (.tmp 90) (.tmp 92), 0, _, _, some (2, true)⟩) (v := undef) rfl (by kernel_rfl) (by kernel_rfl) (by kernel_rfl) (fun _ _ _ h => h) (Or.inr ⟨by rfl, rfl⟩) hSS ?_
                  try simp only [put, setIfInBounds_toArray, set_cons_zero, set_cons_succ]
                  refine wpAnyH_take (i := 10) (oi := ⟨some 94, .fieldAddr 51 (.tmp 93) 2, 0, _, _, some (2, true)⟩) (v := undef) rfl (by kernel_rfl) (by kernel_rfl) (by kernel_rfl) (fun _ _ _ h => h) (Or.inr ⟨by rfl, rfl⟩) hSS ?_
                  try simp only [put, setIfInBounds_toArray, set_cons_zero, set_cons_succ]
                  refine wpAnyH_take (i := 11) (oi := ⟨some 95, .load 3 (.tmp 94), 3, _, _, some (2, true)⟩) (v := undef) rfl (by kernel_rfl) (by kernel_rfl) (by kernel_rfl) (fun _ _ _ h => h) (Or.inr ⟨by rfl, rfl⟩) hSS ?_
                  try simp only [put, setIfInBounds_toArray, set_cons_zero, set_cons_succ]
                  refine wpAnyH_take (i := 12) (oi := ⟨some 96, .binOp .lss 3 (.tmp 88) (.tmp 95) 3, 4, _, _, some (2, true)⟩) (v := undef) rfl (by kernel_rfl) (by kernel_rfl) (by kernel_rfl) (fun _ _ _ h => h) (Or.inr ⟨by rfl, rfl⟩) hSS ?_
                  try simp only [put, setIfInBounds_toArray, set_cons_zero, set_cons_succ]
                  refine wpAnyH_take (i := 13) (oi := ⟨some 97, .move (.tmp 96), 4, _, _, some (2, true)⟩) (v := undef) rfl (by kernel_rfl) (by kernel_rfl) (by kernel_rfl) (fun _ _ _ h => h) (Or.inr ⟨by rfl, rfl⟩) hSS ?_
                  try simp only [put, setIfInBounds_toArray, set_cons_zero, set_cons_succ]
                  refine wpAnyH_take (i := 14) (oi := ⟨some 98, .fieldAddr 51 (.tmp 4) 1, 0, _, _, some (13, false)⟩) (v := undef) rfl (by kernel_rfl) (by kernel_rfl) (by kernel_rfl) (fun _ _ _ h => h) (Or.inr ⟨by rfl, rfl⟩) hSS ?_
                  try simp only [put, setIfInBounds_toArray, set_cons_zero, set_cons_succ]
                  refine wpAnyH_take (i := 15) (oi := ⟨some 99, .load 3 (.tmp 98), 3, _, _, some (13, false)⟩) (v := undef) rfl (by kernel_rfl) (by kernel_rfl) (by kernel_rfl) (fun _ _ _ h => h) (Or.inr ⟨by rfl, rfl⟩) hSS ?_
                  try simp only [put, setIfInBounds_toArray, set_cons_zero, set_cons_succ]
                  refine wpAnyH_take (i := 16) (oi := ⟨some 100, .fieldAddr 47 (.tmp 1) 4, 0, _, _, some (13, false)⟩) (v := undef) rfl (by kernel_rfl) (by kernel_rfl) (by kernel_rfl) (fun _ _ _ h => h) (Or.inr ⟨by rfl, rfl⟩) hSS ?_
                  try simp only [put, setIfInBounds_toArray, set_cons_zero, set_cons_succ]
                  refine wpAnyH_take (i := 17) (oi := ⟨some 101, .load 45 (.tmp 100), 45, _, _, some (13, false)⟩) (v := undef) rfl (by kernel_rfl) (by kernel_rfl) (by kernel_rfl) (fun _ _ _ h => h) (Or.inr ⟨by rfl, rfl⟩) hSS ?_
                  try simp only [put, setIfInBounds_toArray, set_cons_zero, set_cons_succ]
                  refine wpAnyH_take (i := 18) (oi := ⟨some 102, .move (.tmp 3), 3, _, _, some (13, false)⟩) (v := undef) rfl (by kernel_rfl) (by kernel_rfl) (by kernel_rfl) (fun _ _ _ h => h) (Or.inr ⟨by rfl, rfl⟩) hSS ?_
                  try simp only [put, setIfInBounds_toArray, set_cons_zero, set_cons_succ]
                  refine wpAnyH_take (i := 19) (oi := ⟨some 103, .binOp .sub 3 (.tmp 102) (.const (.int .i64 1)) 3, 3, _, _, some (13, false)⟩) (v := undef) rfl (by kernel_rfl) (by kernel_rfl) (by kernel_rfl) (fun _ _ _ h => h) (Or.inr ⟨by rfl, rfl⟩) hSS ?_
                  try simp only [put, setIfInBounds_toArray, set_cons_zero, set_cons_succ]
                  refine wpAnyH_take (i := 20) (oi := ⟨some 104, .indexAddr 45 (.tmp 101) (.tmp 103), 0, _, _, some (13, false)⟩) (v := undef) rfl (by kernel_rfl) (by kernel_rfl) (by kernel_rfl) (fun _ _ _ h => h) (Or.inr ⟨by rfl, rfl⟩) hSS ?_
                  try simp only [put, setIfInBounds_toArray, set_cons_zero, set_cons_succ]
                  refine wpAnyH_take (i := 21) (oi := ⟨some 105, .fieldAddr 51 (.tmp 104) 2, 0, _, _, some (13, false)⟩) (v := undef) rfl (by kernel_rfl) (by kernel_rfl) (by kernel_rfl) (fun _ _ _ h => h) (Or.inr ⟨by rfl, rfl⟩) hSS ?_
                  try simp only [put, setIfInBounds_toArray, set_cons_zero, set_cons_succ]
                  refine wpAnyH_take (i := 22) (oi := ⟨some 106, .load 3 (.tmp 105), 3, _, _, some (13, false)⟩) (v := undef) rfl (by kernel_rfl) (by kernel_rfl) (by kernel_rfl) (fun _ _ _ h => h) (Or.inr ⟨by rfl, rfl⟩) hSS ?_
                  try simp only [put, setIfInBounds_toArray, set_cons_zero, set_cons_succ]
                  refine wpAnyH_take (i := 23) (oi := ⟨some 107, .binOp .eql 3 (.tmp 99) (.tmp 106) 3, 4, _, _, some (13, false)⟩) (v := undef) rfl (by kernel_rfl) (by kernel_rfl) (by kernel_rfl) (fun _ _ _ h => h) (Or.inr ⟨by rfl, rfl⟩) hSS ?_
                  try simp only [put, setIfInBounds_toArray, set_cons_zero, set_cons_succ]
                  refine wpAnyH_take (i := 24) (oi := ⟨some 108, .move (.tmp 107), 4, _, _, some (13, false)⟩) (v := undef) rfl (by kernel_rfl) (by kernel_rfl) (by kernel_rfl) (fun _ _ _ h => h) (Or.inr ⟨by rfl, rfl⟩) hSS ?_
                  try simp only [put, setIfInBounds_toArray, set_cons_zero, set_cons_succ]
                  refine wpAnyH_take (i := 25) (oi := ⟨some 109, .fieldAddr 51 (.tmp 4) 0, 0, _, _, some (24, true)⟩) (v := undef) rfl (by kernel_rfl) (by kernel_rfl) (by kernel_rfl) (fun _ _ _ h => h) (Or.inr ⟨by rfl, rfl⟩) hSS ?_
                  try simp only [put, setIfInBounds_toArray, set_cons_zero, set_cons_succ]
                  refine wpAnyH_take (i := 26) (oi := ⟨some 110, .load 3 (.tmp 109), 3, _, _, some (24, true)⟩) (v := undef) rfl (by kernel_rfl) (by kernel_rfl) (by kernel_rfl) (fun _ _ _ h => h) (Or.inr ⟨by rfl, rfl⟩) hSS ?_
                  try simp only [put, setIfInBounds_toArray, set_cons_zero, set_cons_succ]
                  refine wpAnyH_take (i := 27) (oi := ⟨some 111, .fieldAddr 47 (.tmp 1) 4, 0, _, _, some (24, true)⟩) (v := undef) rfl (by kernel_rfl) (by kernel_rfl) (by kernel_rfl) (fun _ _ _ h => h) (Or.inr ⟨by rfl, rfl⟩) hSS ?_
                  try simp only [put, setIfInBounds_toArray, set_cons_zero, set_cons_succ]
                  refine wpAnyH_take (i := 28) (oi := ⟨some 112, .load 45 (.tmp 111), 45, _, _, some (24, true)⟩) (v := undef) rfl (by kernel_rfl) (by kernel_rfl) (by kernel_rfl) (fun _ _ _ h => h) (Or.inr ⟨by rfl, rfl⟩) hSS ?_
                  try simp only [put, setIfInBounds_toArray, set_cons_zero, set_cons_succ]
                  refine wpAnyH_take (i := 29) (oi := ⟨some 113, .move (.tmp 3), 3, _, _, some (24, true)⟩) (v := undef) rfl (by kernel_rfl) (by kernel_rfl) (by kernel_rfl) (fun _ _ _ h => h) (Or.inr ⟨by rfl, rfl⟩) hSS ?_
                  try simp only [put, setIfInBounds_toArray, set_cons_zero, set_cons_succ]
                  refine wpAnyH_take (i := 30) (oi := ⟨some 114, .binOp .sub 3 (.tmp 113) (.const (.int .i64 1)) 3, 3, _, _, some (24, true)⟩) (v := undef) rfl (by kernel_rfl) (by kernel_rfl) (by kernel_rfl) (fun _ _ _ h => h) (Or.inr ⟨by rfl, rfl⟩) hSS ?_
                  try simp only [put, setIfInBounds_toArray, set_cons_zero, set_cons_succ]
                  refine wpAnyH_take (i := 31) (oi := ⟨some 115, .indexAddr 45 (.tmp 112) (.tmp 114), 0, _, _, some (24, true)⟩) (v := undef) rfl (by kernel_rfl) (by kernel_rfl) (by kernel_rfl) (fun _ _ _ h => h) (Or.inr ⟨by rfl, rfl⟩) hSS ?_
                  try simp only [put, setIfInBounds_toArray, set_cons_zero, set_cons_succ]
                  refine wpAnyH_take (i := 32) (oi := ⟨some 116, .fieldAddr 51 (.tmp 115) 0, 0, _, _, some (24, true)⟩) (v := undef) rfl (by kernel_rfl) (by kernel_rfl) (by kernel_rfl) (fun _ _ _ h => h) (Or.inr ⟨by rfl, rfl⟩) hSS ?_
                  try simp only [put, setIfInBounds_toArray, set_cons_zero, set_cons_succ]
                  refine wpAnyH_take (i := 33) (oi := ⟨some 117, .load 3 (.tmp 116), 3, _, _, some (24, true)⟩) (v := undef) rfl (by kernel_rfl) (by kernel_rfl) (by kernel_rfl) (fun _ _ _ h => h) (Or.inr ⟨by rfl, rfl⟩) hSS ?_
                  try simp only [put, setIfInBounds_toArray, set_cons_zero, set_cons_succ]
                  refine wpAnyH_take (i := 34) (oi := ⟨some 118, .binOp .eql 3 (.tmp 110) (.tmp 117) 3, 4, _, _, some (24, true)⟩) (v := undef) rfl (by kernel_rfl) (by kernel_rfl) (by kernel_rfl) (fun _ _ _ h => h) (Or.inr ⟨by rfl, rfl⟩) hSS ?_
                  try simp only [put, setIfInBounds_toArray, set_cons_zero, set_cons_succ]
                  refine wpAnyH_take (i := 35) (oi := ⟨some 119, .pick (.tmp 108) (.tmp 118) (.const (.bool false)), 4, _, _, some (13, false)⟩) (v := undef) rfl (by kernel_rfl) (by kernel_rfl) (by kernel_rfl) (fun _ _ _ h => h) (Or.inr ⟨by rfl, rfl⟩) hSS ?_
                  try simp only [put, setIfInBounds_toArray, set_cons_zero, set_cons_succ]
                  refine wpAnyH_take (i := 36) (oi := ⟨some 120, .pick (.tmp 97) (.const (.bool true)) (.tmp 119), 4, _, _, some (2, true)⟩) (v := undef) rfl (by kernel_rfl) (by kernel_rfl) (by kernel_rfl) (fun _ _ _ h => h) (Or.inr ⟨by rfl, rfl⟩) hSS ?_
                  try simp only [put, setIfInBounds_toArray, set_cons_zero, set_cons_succ]
                  refine wpAnyH_take (i := 37) (oi := ⟨some 121, .pick (.tmp 86) (.tmp 120) (.const (.bool false)), 4, _, _, none⟩) (v := ?_) rfl (by kernel_rfl) (by kernel_rfl) (by kernel_rfl) (fun _ _ _ h => h) (Or.inl ⟨by rfl, ?_⟩) hSS ?_; rotate_left
                  · intro w9 hSw; (try dsimp only at hSw); (try go_split_ands); first | (go_simp; done) | (go_simp; with_reducible rfl)
                  try simp only [put, setIfInBounds_toArray, set_cons_zero, set_cons_succ]
                  refine wpAnyH_done (by kernel_rfl) ?_ _
                  clear hSS kS
                  go_wp2
                  go_roundw
                  case rel => exact ⟨q + 1, by omega, by go_num, NX.out, BTd.out⟩
                  case measure => simp [intOf]; omega
                · obtain ⟨p, r', hqp, hrp, p2, p0⟩ := HPV.out (by omega)
                  have hgp : l.getD (q - 1) (0, 0, 0) = r' := by rw [hqp, Nat.add_sub_cancel, List.getD_eq_getElem?_getD, hrp]; rfl
                  have HCK2 : Hid (chkR sz true l q = ahead r'.1 r'.2.2 (2 : Int) f) := hid (by rw [HCK.out, HOK.out, hgp, show decide (q = 0) = false from by simp [q0]]; rfl)
                  have z1 : (0 : Int) < (q : Int) := by omega
                  have zq : (q : Int) - 1 = (p : Int) := by omega
                  have zp : (p : Int) < (n : Int) := by omega
                  have zw : IntKind.i64.wrap (p : Int) = (p : Int) := by rw [IntKind.wrap_i64]; omega
                  have kS := And.intro v0 (And.intro v1 (And.intro sb4' (And.intro p2 p0)))
                  clear HCK HOK HPV v0 v1 v2 u0 u1 u2 u3 sb1 sb2 sb4 sb4' HW2 HRB hgp hrp p2 p0
                  generalize r'.1 = pk at *
                  generalize r'.2.2 = pt at *
                  by_cases z2 : f < pt
                  · have FN := hid (HN1.out (by rw [HCK2.out]; exact ahead_no1 z2))
                    clear HIN HN1 HCK2
                    refine wp_region_held_drew (S := fun w' => (w'.cell? ⟨rb, 0, none⟩ = some (.int .i64 2) ∧ w'.cell? ⟨rb, 1, none⟩ = some (.int .i64 f) ∧ w'.cell? ⟨sb, 4, none⟩ = some (.slice (some ⟨g, 0, none⟩) n rc) ∧ w'.cell? ⟨g, p * 4 + 2, none⟩ = some (.int .i64 pt) ∧ w'.cell? ⟨g, p * 4, none⟩ = some (.int .i64 pk))) (by kernel_rfl) kS (fun hSS => ?_)
                    refine wpAnyH_take (i := 0) (oi := ⟨some 84, .move (.tmp 3), 3, _, _, none⟩) (v := ?_) rfl (by kernel_rfl) (by kernel_rfl) (by kernel_rfl) (fun _ _ _ h => h) (Or.inl ⟨by rfl, ?_⟩) hSS ?_; rotate_left
                    · intro w9 hSw; (try dsimp only at hSw); (try go_split_ands); first | (go_simp; done) | (go_simp; with_reducible rfl)
                    try simp only [put, setIfInBounds_toArray, set_cons_zero, set_cons_succ]
                    refine wpAnyH_take (i := 1) (oi := ⟨some 85, .binOp .gtr 3 (.tmp 84) (.const (.int .i64 0)) 3, 4, _, _, none⟩) (v := .bool true) rfl (by kernel_rfl) (by kernel_rfl) (by kernel_rfl) (fun _ _ _ h => h) (Or.inl ⟨by rfl, ?_⟩) hSS ?_
                    · intro w9 hSw; (try dsimp only at hSw); (try go_split_ands); first | (go_simp; done) | (go_simp; simp [z1]; done)
                    try simp only [put, setIfInBounds_toArray, set_cons_zero, set_cons_succ]
                    refine wpAnyH_take (i := 2) (oi := ⟨some 86, .move (.tmp 85), 4, _, _, none⟩) (v := ?_) rfl (by kernel_rfl) (by kernel_rfl) (by kernel_rfl) (fun _ _ _ h => h) (Or.inl ⟨by rfl, ?_⟩) hSS ?_; rotate_left
                    · intro w9 hSw; (try dsimp only at hSw); (try go_split_ands); first | (go_simp; done) | (go_simp; with_reducible rfl)
                    try simp only [put, setIfInBounds_toArray, set_cons_zero, set_cons_succ]
                    refine wpAnyH_take (i := 3) (oi := ⟨some 87, .fieldAddr 51 (.tmp 4) 1, 0, _, _, some (2, true)⟩) (v := ?_) rfl (by kernel_rfl) (by kernel_rfl) (by kernel_rfl) (fun _ _ _ h => h) (Or.inl ⟨by rfl, ?_⟩) hSS ?_; rotate_left
                    · intro w9 hSw; (try dsimp only at hSw); (try go_split_ands); first | (go_simp; done) | (go_simp; with_reducible rfl)
                    try simp only [put, setIfInBounds_toArray, set_cons_zero, set_cons_succ]
                    refine wpAnyH_take (i := 4) (oi := ⟨some 88, .load 3 (.tmp 87), 3, _, _, some (2, true)⟩) (v := ?_) rfl (by kernel_rfl) (by kernel_rfl) (by kernel_rfl) (fun _ _ _ h => h) (Or.inl ⟨by rfl, ?_⟩) hSS ?_; rotate_left
                    · intro w9 hSw; (try dsimp only at hSw); (try go_split_ands); first | (go_simp; done) | (go_simp; with_reducible rfl)
                    try simp only [put, setIfInBounds_toArray, set_cons_zero, set_cons_succ]
                    refine wpAnyH_take (i := 5) (oi := ⟨some 89, .fieldAddr 47 (.tmp 1) 4, 0, _, _, some (2, true)⟩) (v := ?_) rfl (by kernel_rfl) (by kernel_rfl) (by kernel_rfl) (fun _ _ _ h => h) (Or.inl ⟨by rfl, ?_⟩) hSS ?_; rotate_left
                    · intro w9 hSw; (try dsimp only at hSw); (try go_split_ands); first | (go_simp; done) | (go_simp; with_reducible rfl)
                    try simp only [put, setIfInBounds_toArray, set_cons_zero, set_cons_succ]
                    refine wpAnyH_take (i := 6) (oi := ⟨some 90, .load 45 (.tmp 89), 45, _, _, some (2, true)⟩) (v := ?_) rfl (by kernel_rfl) (by kernel_rfl) (by kernel_rfl) (fun _ _ _ h => h) (Or.inl ⟨by rfl, ?_⟩) hSS ?_; rotate_left
                    · intro w9 hSw; (try dsimp only at hSw); (try go_split_ands); first | (go_simp; done) | (go_simp; with_reducible rfl)
                    try simp only [put, setIfInBounds_toArray, set_cons_zero, set_cons_succ]
                    refine wpAnyH_take (i := 7) (oi := ⟨some 91, .move (.tmp 3), 3, _, _, some (2, true)⟩) (v := ?_) rfl (by kernel_rfl) (by kernel_rfl) (by kernel_rfl) (fun _ _ _ h => h) (Or.inl ⟨by rfl, ?_⟩) hSS ?_; rotate_left
                    · intro w9 hSw; (try dsimp only at hSw); (try go_split_ands); first | (go_simp; done) | (go_simp; with_reducible rfl)
                    try simp only [put, setIfInBounds_toArray, set_cons_zero, set_cons_succ]
                    refine wpAnyH_take (i := 8) (oi := ⟨some 92, .binOp .sub 3 (.tmp 91) (.const (.int .i64 1)) 3, 3, _, _, some (2, true)⟩) (v := ?_) rfl (by kernel_rfl) (by kernel_rfl) (by kernel_rfl) (fun _ _ _ h => h) (Or.inl ⟨by rfl, ?_⟩) hSS ?_; rotate_left
                    · intro w9 hSw; (try dsimp only at hSw); (try go_split_ands); first | (go_simp; done) | (go_simp; with_reducible rfl)
                    try simp only [put, setIfInBounds_toArray, set_cons_zero, set_cons_succ]
                    refine wpAnyH_take (i := 9) (oi := ⟨some 93, .indexAddr 45 (.tmp 90) (.tmp 92), 0, _, _, some (2, true)⟩) (v := ?_) rfl (by kernel_rfl) (by kernel_rfl) (by kernel_rfl) (fun _ _ _ h => h) (Or.inl ⟨by rfl, ?_⟩) hSS ?_; rotate_left
                    · intro w9 hSw; (try dsimp only at hSw); (try go_split_ands); first | (go_simp; done) | (go_simp; with_reducible rfl)
                    try simp only [put, setIfInBounds_toArray, set_cons_zero, set_cons_succ]
                    refine wpAnyH_take (i := 10) (oi := ⟨some 94, .fieldAddr 51 (.tmp 93) 2, 0, _, _, some (2, true)⟩) (v := ?_) rfl (by kernel_rfl) (by kernel_rfl) (by kernel_rfl) (fun _ _ _ h => h) (Or.inl ⟨by rfl, ?_⟩) hSS ?_; rotate_left
                    · intro w9 hSw; (try dsimp only at hSw); (try go_split_ands); first | (go_simp; done) | (go_simp; with_reducible rfl)
                    try simp only [put, setIfInBounds_toArray, set_cons_zero, set_cons_succ]
                    refine wpAnyH_take (i := 11) (oi := ⟨some 95, .load 3 (.tmp 94), 3, _, _, some (2, true)⟩) (v := ?_) rfl (by kernel_rfl) (by kernel_rfl) (by kernel_rfl) (fun _ _ _ h => h) (Or.inl ⟨by rfl, ?_⟩) hSS ?_; rotate_left
                    · intro w9 hSw; (try dsimp only at hSw); (try go_split_ands); first | (go_simp; done) | (go_simp; with_reducible rfl)
                    try simp only [put, setIfInBounds_toArray, set_cons_zero, set_cons_succ]
                    refine wpAnyH_take (i := 12) (oi := ⟨some 96, .binOp .lss 3 (.tmp 88) (.tmp 95) 3, 4, _, _, some (2, true)⟩) (v := .bool true) rfl (by kernel_rfl) (by kernel_rfl) (by kernel_rfl) (fun _ _ _ h => h) (Or.inl ⟨by rfl, ?_⟩) hSS ?_
                    · intro w9 hSw; (try dsimp only at hSw); (try go_split_ands); first | (go_simp; done) | (go_simp; simp [z2]; done)
                    try simp only [put, setIfInBounds_toArray, set_cons_zero, set_cons_succ]
                    refine wpAnyH_take (i := 13) (oi := ⟨some 97, .move (.tmp 96), 4, _, _, some (2, true)⟩) (v := ?_) rfl (by kernel_rfl) (by kernel_rfl) (by kernel_rfl) (fun _ _ _ h => h) (Or.inl ⟨by rfl, ?_⟩) hSS ?_; rotate_left
                    · intro w9 hSw; (try dsimp only at hSw); (try go_split_ands); first | (go_simp; done) | (go_simp; with_reducible rfl)
                    try simp only [put, setIfInBounds_toArray, set_cons_zero, set_cons_succ]
                    refine wpAnyH_take (i := 14) (oi := ⟨some 98, .fieldAddr 51 (.tmp 4) 1, 0, _, _, some (13, false)⟩) (v := undef) rfl (by kernel_rfl) (by kernel_rfl) (by kernel_rfl) (fun _ _ _ h => h) (Or.inr ⟨by rfl, rfl⟩) hSS ?_
                    try simp only [put, setIfInBounds_toArray, set_cons_zero, set_cons_succ]
                    refine wpAnyH_take (i := 15) (oi := ⟨some 99, .load 3 (.tmp 98), 3, _, _, some (13, false)⟩) (v := undef) rfl (by kernel_rfl) (by kernel_rfl) (by kernel_rfl) (fun _ _ _ h => h) (Or.inr ⟨by rfl, rfl⟩) hSS ?_
                    try simp only [put, setIfInBounds_toArray, set_cons_zero, set_cons_succ]
                    refine wpAnyH_take (i := 16) (oi := ⟨some 100, .fieldAddr 47 (.tmp 1) 4, 0, _, _, some (13, false)⟩) (v := undef) rfl (by kernel_rfl) (by kernel_rfl) (by kernel_rfl) (fun _ _ _ h => h) (Or.inr ⟨by rfl, rfl⟩) hSS ?_
                    try simp only [put, setIfInBounds_toArray, set_cons_zero, set_cons_succ]
                    refine wpAnyH_take (i := 17) (oi := ⟨some 101, .load 45 (.tmp 100), 45, _, _, some (13, false)⟩) (v := undef) rfl (by kernel_rfl) (by kernel_rfl) (by kernel_rfl) (fun _ _ _ h => h) (Or.inr ⟨by rfl, rfl⟩) hSS ?_
                    try simp only [put, setIfInBounds_toArray, set_cons_zero, set_cons_succ]
                    refine wpAnyH_take (i := 18) (oi := ⟨some 102, .move (.tmp 3), 3, _, _, some (13, false)⟩) (v := undef) rfl (by kernel_rfl) (by kernel_rfl) (by kernel_rfl) (fun _ _ _ h => h) (Or.inr ⟨by rfl, rfl⟩) hSS ?_
                    try simp only [put, setIfInBounds_toArray, set_cons_zero, set_cons_succ]
                    refine wpAnyH_take (i := 19) (oi := ⟨some 103, .binOp .sub 3 (.tmp 102) (.const (.int .i64 1)) 3, 3, _, _, some (13, false)⟩) (v := undef) rfl (by kernel_rfl) (by kernel_rfl) (by kernel_rfl) (fun _ _ _ h => h) (Or.inr ⟨by rfl, rfl⟩) hSS ?_
                    try simp only [put, setIfInBounds_toArray, set_cons_zero, set_cons_succ]
                    refine wpAnyH_take (i := 20) (oi := ⟨some 104, .indexAddr 45 (.tmp 101) (.tmp 103), 0, _, _, some (13, false)⟩) (v := undef) rfl (by kernel_rfl) (by kernel_rfl) (by kernel_rfl) (fun _ _ _ h => h) (Or.inr ⟨by rfl, rfl⟩) hSS ?_
                    try simp only [put, setIfInBounds_toArray, set_cons_zero, set_cons_succ]
                    refine wpAnyH_take (i := 21) (oi := ⟨some 105, .fieldAddr 51 (.tmp 104) 2, 0, _, _, some (13, false)⟩) (v := undef) rfl (by kernel_rfl) (by kernel_rfl) (by kernel_rfl) (fun _ _ _ h => h) (Or.inr ⟨by rfl, rfl⟩) hSS ?_
                    try simp only [put, setIfInBounds_toArray, set_cons_zero, set_cons_succ]
                    refine wpAnyH_take (i := 22) (oi := ⟨some 106, .load 3 (.tmp 105), 3, _, _, some (13, false)⟩) (v := undef) rfl (by kernel_rfl) (by kernel_rfl) (by kernel_rfl) (fun _ _ _ h => h) (Or.inr ⟨by rfl, rfl⟩) hSS ?_
                    try simp only [put, setIfInBounds_toArray, set_cons_zero, set_cons_succ]
                    refine wpAnyH_take (i := 23) (oi := ⟨some 107, .binOp .eql 3 (.tmp 99) (.tmp 106) 3, 4, _, _, some (13, false)⟩) (v := undef) rfl (by kernel_rfl) (by kernel_rfl) (by kernel_rfl) (fun _ _ _ h => h) (Or.inr ⟨by rfl, rfl⟩) hSS ?_
                    try simp only [put, setIfInBounds_toArray, set_cons_zero, set_cons_succ]
                    refine wpAnyH_take (i := 24) (oi := ⟨some 108, .move (.tmp 107), 4, _, _, some (13, false)⟩) (v := undef) rfl (by kernel_rfl) (by kernel_rfl) (by kernel_rfl) (fun _ _ _ h => h) (Or.inr ⟨by rfl, rfl⟩) hSS ?_
                    try simp only [put, setIfInBounds_toArray, set_cons_zero, set_cons_succ]
                    refine wpAnyH_take (i := 25) (oi := ⟨some 109, .fieldAddr 51 (.tmp 4) 0, 0, _, _, some (24, true)⟩) (v := undef) rfl (by kernel_rfl) (by kernel_rfl) (by kernel_rfl) (fun _ _ _ h => h) (Or.inr ⟨by rfl, rfl⟩) hSS ?_
                    try simp only [put, setIfInBounds_toArray, set_cons_zero, set_cons_succ]
                    refine wpAnyH_take (i := 26) (oi := ⟨some 110, .load 3 (.tmp 109), 3, _, _, some (24, true)⟩) (v := undef) rfl (by kernel_rfl) (by kernel_rfl) (by kernel_rfl) (fun _ _ _ h => h) (Or.inr ⟨by rfl, rfl⟩) hSS ?_
                    try simp only [put, setIfInBounds_toArray, set_cons_zero, set_cons_succ]
                    refine wpAnyH_take (i := 27) (oi := ⟨some 111, .fieldAddr 47 (.tmp 1) 4, 0, _, _, some (24, true)⟩) (v := undef) rfl (by kernel_rfl) (by kernel_rfl) (by kernel_rfl) (fun _ _ _ h => h) (Or.inr ⟨by rfl, rfl⟩) hSS ?_
                    try simp only [put, setIfInBounds_toArray, set_cons_zero, set_cons_succ]
                    refine wpAnyH_take (i := 28) (oi := ⟨some 112, .load 45 (.tmp 111), 45, _, _, some (24, true)⟩) (v := undef) rfl (by kernel_rfl) (by kernel_rfl) (by kernel_rfl) (fun _ _ _ h => h) (Or.inr ⟨by rfl, rfl⟩) hSS ?_
                    try simp only [put, setIfInBounds_toArray, set_cons_zero, set_cons_succ]
                    refine wpAnyH_take (i := 29) (oi := ⟨some 113, .move (.tmp 3), 3, _, _, some (24, true)⟩) (v := undef) rfl (by kernel_rfl) (by kernel_rfl) (by kernel_rfl) (fun _ _ _ h => h) (Or.inr ⟨by rfl, rfl⟩) hSS ?_
                    try simp only [put, setIfInBounds_toArray, set_cons_zero, set_cons_succ]
                    refine wpAnyH_take (i := 30) (oi := ⟨some 114, .binOp .sub 3 (.tmp 113) (.const (.int .i64 1)) 3, 3, _, _, some (24, true)⟩) (v := undef) rfl (by kernel_rfl) (by kernel_rfl) (by kernel_rfl) (fun _ _ _ h => h) (Or.inr ⟨by rfl, rfl⟩) hSS ?_
                    try simp only [put, setIfInBounds_toArray, set_cons_zero, set_cons_succ]
                    refine wpAnyH_take (i := 31) (oi := ⟨some 115, .indexAddr 45 (.tmp 112) (.tmp 114), 0, _, _, some (24, true)⟩) (v := undef) rfl (by kernel_rfl) (by kernel_rfl) (by kernel_rfl) (fun _ _ _ h => h) (Or.inr ⟨by rfl, rfl⟩) hSS ?_
                    try simp only [put, setIfInBounds_toArray, set_cons_zero, set_cons_succ]
                    refine wpAnyH_take (i := 32) (oi := ⟨some 116, .fieldAddr 51 (.tmp 115) 0, 0, _, _, some (24, true)⟩) (v := undef) rfl (by kernel_rfl) (by kernel_rfl) (by kernel_rfl) (fun _ _ _ h => h) (Or.inr ⟨by rfl, rfl⟩) hSS ?_
                    try simp only [put, setIfInBounds_toArray, set_cons_zero, set_cons_succ]
                    refine wpAnyH_take (i := 33) (oi := ⟨some 117, .load 3 (.tmp 116), 3, _, _, some (24, true)⟩) (v := undef) rfl (by kernel_rfl) (by kernel_rfl) (by kernel_rfl) (fun _ _ _ h => h) (Or.inr ⟨by rfl, rfl⟩) hSS ?_
                    try simp only [put, setIfInBounds_toArray, set_cons_zero, set_cons_succ]
                    refine wpAnyH_take (i := 34) (oi := ⟨some 118, .binOp .eql 3 (.tmp 110) (.tmp 117) 3, 4, _, _, some (24, true)⟩) (v := undef) rfl (by kernel_rfl) (by kernel_rfl) (by kernel_rfl) (fun _ _ _ h => h) (Or.inr ⟨by rfl, rfl⟩) hSS ?_
                    try simp only [put, setIfInBounds_toArray, set_cons_zero, set_cons_succ]
                    refine wpAnyH_take (i := 35) (oi := ⟨some 119, .pick (.tmp 108) (.tmp 118) (.const (.bool false)), 4, _, _, some (13, false)⟩) (v := undef) rfl (by kernel_rfl) (by kernel_rfl) (by kernel_rfl) (fun _ _ _ h => h) (Or.inr ⟨by rfl, rfl⟩) hSS ?_
                    try simp only [put, setIfInBounds_toArray, set_cons_zero, set_cons_succ]
                    refine wpAnyH_take (i := 36) (oi := ⟨some 120, .pick (.tmp 97) (.const (.bool true)) (.tmp 119), 4, _, _, some (2, true)⟩) (v := ?_) rfl (by kernel_rfl) (by kernel_rfl) (by kernel_rfl) (fun _ _ _ h => h) (Or.inl ⟨by rfl, ?_⟩) hSS ?_; rotate_left
                    · intro w9 hSw; (try dsimp only at hSw); (try go_split_ands); first | (go_simp; done) | (go_simp; with_reducible rfl)
                    try simp only [put, setIfInBounds_toArray, set_cons_zero, set_cons_succ]
                    refine wpAnyH_take (i := 37) (oi := ⟨some 121, .pick (.tmp 86) (.tmp 120) (.const (.bool false)), 4, _, _, none⟩) (v := ?_) rfl (by kernel_rfl) (by kernel_rfl) (by kernel_rfl) (fun _ _ _ h => h) (Or.inl ⟨by rfl, ?_⟩) hSS ?_; rotate_left
                    · intro w9 hSw; (try dsimp only at hSw); (try go_split_ands); first | (go_simp; done) | (go_simp; with_reducible rfl)
                    try simp only [put, setIfInBounds_toArray, set_cons_zero, set_cons_succ]
                    refine wpAnyH_done (by kernel_rfl) ?_ _
                    clear hSS kS
                    go_wp2
                    go_ret
                    exact ⟨by rw [FN.out]; rfl, HBW.out _ BTd.out⟩
                  · by_cases z3 : f = pt
                    · by_cases z4 : (2 : Int) = pk
                      · have FN := hid (HN1.out (by rw [HCK2.out]; exact ahead_no2 z3 z4))
                        clear HIN HN1 HCK2
                        subst z4
                        refine wp_region_held_drew (S := fun w' => (w'.cell? ⟨rb, 0, none⟩ = some (.int .i64 2) ∧ w'.cell? ⟨rb, 1, none⟩ = some (.int .i64 f) ∧ w'.cell? ⟨sb, 4, none⟩ = some (.slice (some ⟨g, 0, none⟩) n rc) ∧ w'.cell? ⟨g, p * 4 + 2, none⟩ = some (.int .i64 pt) ∧ w'.cell? ⟨g, p * 4, none⟩ = some (.int .i64 2))) (by kernel_rfl) kS (fun hSS => ?_)
                        refine wpAnyH_take (i := 0) (oi := ⟨some 84, .move (.tmp 3), 3, _, _, none⟩) (v := ?_) rfl (by kernel_rfl) (by kernel_rfl) (by kernel_rfl) (fun _ _ _ h => h) (Or.inl ⟨by rfl, ?_⟩) hSS ?_; rotate_left
                        · intro w9 hSw; (try dsimp only at hSw); (try go_split_ands); first | (go_simp; done) | (go_simp; with_reducible rfl)
                        try simp only [put, setIfInBounds_toArray, set_cons_zero, set_cons_succ]
                        refine wpAnyH_take (i := 1) (oi := ⟨some 85, .binOp .gtr 3 (.tmp 84) (.const (.int .i64 0)) 3, 4, _, _, none⟩) (v := .bool true) rfl (by kernel_rfl) (by kernel_rfl) (by kernel_rfl) (fun _ _ _ h => h) (Or.inl ⟨by rfl, ?_⟩) hSS ?_
                        · intro w9 hSw; (try dsimp only at hSw); (try go_split_ands); first | (go_simp; done) | (go_simp; simp [z1]; done)
                        try simp only [put, setIfInBounds_toArray, set_cons_zero, set_cons_succ]
                        refine wpAnyH_take (i := 2) (oi := ⟨some 86, .move (.tmp 85), 4, _, _, none⟩) (v := ?_) rfl (by kernel_rfl) (by kernel_rfl) (by kernel_rfl) (fun _ _ _ h => h) (Or.inl ⟨by rfl, ?_⟩) hSS ?_; rotate_left
                        · intro w9 hSw; (try dsimp only at hSw); (try go_split_ands); first | (go_simp; done) | (go_simp; with_reducible rfl)
                        try simp only [put, setIfInBounds_toArray, set_cons_zero, set_cons_succ]
                        refine wpAnyH_take (i := 3) (oi := ⟨some 87, .fieldAddr 51 (.tmp 4) 1, 0, _, _, some (2, true)⟩) (v := ?_) rfl (by kernel_rfl) (by kernel_rfl) (by kernel_rfl) (fun _ _ _ h => h) (Or.inl ⟨by rfl, ?_⟩) hSS ?_; rotate_left
                        · intro w9 hSw; (try dsimp only at hSw); (try go_split_ands); first | (go_simp; done) | (go_simp; with_reducible rfl)
                        try simp only [put, setIfInBounds_toArray, set_cons_zero, set_cons_succ]
                        refine wpAnyH_take (i := 4) (oi := ⟨some 88, .load 3 (.tmp 87), 3, _, _, some (2, true)⟩) (v := ?_) rfl (by kernel_rfl) (by kernel_rfl) (by kernel_rfl) (fun _ _ _ h => h) (Or.inl ⟨by rfl, ?_⟩) hSS ?_; rotate_left
                        · intro w9 hSw; (try dsimp only at hSw); (try go_split_ands); first | (go_simp; done) | (go_simp; with_reducible rfl)
                        try simp only [put, setIfInBounds_toArray, set_cons_zero, set_cons_succ]
                        refine wpAnyH_take (i := 5) (oi := ⟨some 89, .fieldAddr 47 (.tmp 1) 4, 0, _, _, some (2, true)⟩) (v := ?_) rfl (by kernel_rfl) (by kernel_rfl) (by kernel_rfl) (fun _ _ _ h => h) (Or.inl ⟨by rfl, ?_⟩) hSS ?_; rotate_left
                        · intro w9 hSw; (try dsimp only at hSw); (try go_split_ands); first | (go_simp; done) | (go_simp; with_reducible rfl)
                        try simp only [put, setIfInBounds_toArray, set_cons_zero, set_cons_succ]
                        refine wpAnyH_take (i := 6) (oi := ⟨some 90, .load 45 (.tmp 89), 45, _, _, some (2, true)⟩) (v := ?_) rfl (by kernel_rfl) (by kernel_rfl) (by kernel_rfl) (fun _ _ _ h => h) (Or.inl ⟨by rfl, ?_⟩) hSS ?_; rotate_left
                        · intro w9 hSw; (try dsimp only at hSw); (try go_split_ands); first | (go_simp; done) | (go_simp; with_reducible rfl)
                        try simp only [put, setIfInBounds_toArray, set_cons_zero, set_cons_succ]
                        refine wpAnyH_take (i := 7) (oi := ⟨some 91, .move (.tmp 3), 3, _, _, some (2, true)⟩) (v := ?_) rfl (by kernel_rfl) (by kernel_rfl) (by kernel_rfl) (fun _ _ _ h => h) (Or.inl ⟨by rfl, ?_⟩) hSS ?_; rotate_left
                        · intro w9 hSw; (try dsimp only at hSw); (try go_split_ands); first | (go_simp; done) | (go_simp; with_reducible rfl)
                        try simp only [put, setIfInBounds_toArray, set_cons_zero, set_cons_succ]
                        refine wpAnyH_take (i := 8) (oi := ⟨some 92, .binOp .sub 3 (.tmp 91) (.const (.int .i64 1)) 3, 3, _, _, some (2, true)⟩) (v := ?_) rfl (by kernel_rfl) (by kernel_rfl) (by kernel_rfl) (fun _ _ _ h => h) (Or.inl ⟨by rfl, ?_⟩) hSS ?_; rotate_left
                        · intro w9 hSw; (try dsimp only at hSw); (try go_split_ands); first | (go_simp; done) | (go_simp; with_reducible rfl)
                        try simp only [put, setIfInBounds_toArray, set_cons_zero, set_cons_succ]
                        refine wpAnyH_take (i := 9) (oi := ⟨some 93, .indexAddr 45 (.tmp 90) (.tmp 92), 0, _, _, some (2, true)⟩) (v := ?_) rfl (by kernel_rfl) (by kernel_rfl) (by kernel_rfl) (fun _ _ _ h => h) (Or.inl ⟨by rfl, ?_⟩) hSS ?_; rotate_left
                        · intro w9 hSw; (try dsimp only at hSw); (try go_split_ands); first | (go_simp; done) | (go_simp; with_reducible rfl)
                        try simp only [put, setIfInBounds_toArray, set_cons_zero, set_cons_succ]
                        refine wpAnyH_take (i := 10) (oi := ⟨some 94, .fieldAddr 51 (.tmp 93) 2, 0, _, _, some (2, true)⟩) (v := ?_) rfl (by kernel_rfl) (by kernel_rfl) (by kernel_rfl) (fun _ _ _ h => h) (Or.inl ⟨by rfl, ?_⟩) hSS ?_; rotate_left
                        · intro w9 hSw; (try dsimp only at hSw); (try go_split_ands); first | (go_simp; done) | (go_simp; with_reducible rfl)
                        try simp only [put, setIfInBounds_toArray, set_cons_zero, set_cons_succ]
                        refine wpAnyH_take (i := 11) (oi := ⟨some 95, .load 3 (.tmp 94), 3, _, _, some (2, true)⟩) (v := ?_) rfl (by kernel_rfl) (by kernel_rfl) (by kernel_rfl) (fun _ _ _ h => h) (Or.inl ⟨by rfl, ?_⟩) hSS ?_; rotate_left
                        · intro w9 hSw; (try dsimp only at hSw); (try go_split_ands); first | (go_simp; done) | (go_simp; with_reducible rfl)
                        try simp only [put, setIfInBounds_toArray, set_cons_zero, set_cons_succ]
                        refine wpAnyH_take (i := 12) (oi := ⟨some 96, .binOp .lss 3 (.tmp 88) (.tmp 95) 3, 4, _, _, some (2, true)⟩) (v := .bool false) rfl (by kernel_rfl) (by kernel_rfl) (by kernel_rfl) (fun _ _ _ h => h) (Or.inl ⟨by rfl, ?_⟩) hSS ?_
                        · intro w9 hSw; (try dsimp only at hSw); (try go_split_ands); first | (go_simp; done) | (go_simp; simp [z2]; done)
                        try simp only [put, setIfInBounds_toArray, set_cons_zero, set_cons_succ]
                        refine wpAnyH_take (i := 13) (oi := ⟨some 97, .move (.tmp 96), 4, _, _, some (2, true)⟩) (v := ?_) rfl (by kernel_rfl) (by kernel_rfl) (by kernel_rfl) (fun _ _ _ h => h) (Or.inl ⟨by rfl, ?_⟩) hSS ?_; rotate_left
                        · intro w9 hSw; (try dsimp only at hSw); (try go_split_ands); first | (go_simp; done) | (go_simp; with_reducible rfl)
                        try simp only [put, setIfInBounds_toArray, set_cons_zero, set_cons_succ]
                        refine wpAnyH_take (i := 14) (oi := ⟨some 98, .fieldAddr 51 (.tmp 4) 1, 0, _, _, some (13, false)⟩) (v := ?_) rfl (by kernel_rfl) (by kernel_rfl) (by kernel_rfl) (fun _ _ _ h => h) (Or.inl ⟨by rfl, ?_⟩) hSS ?_; rotate_left
                        · intro w9 hSw; (try dsimp only at hSw); (try go_split_ands); first | (go_simp; done) | (go_simp; with_reducible rfl)
                        try simp only [put, setIfInBounds_toArray, set_cons_zero, set_cons_succ]
                        refine wpAnyH_take (i := 15) (oi := ⟨some 99, .load 3 (.tmp 98), 3, _, _, some (13, false)⟩) (v := ?_) rfl (by kernel_rfl) (by kernel_rfl) (by kernel_rfl) (fun _ _ _ h => h) (Or.inl ⟨by rfl, ?_⟩) hSS ?_; rotate_left
                        · intro w9 hSw; (try dsimp only at hSw); (try go_split_ands); first | (go_simp; done) | (go_simp; with_reducible rfl)
                        try simp only [put, setIfInBounds_toArray, set_cons_zero, set_cons_succ]
                        refine wpAnyH_take (i := 16) (oi := ⟨some 100, .fieldAddr 47 (.tmp 1) 4, 0, _, _, some (13, false)⟩) (v := ?_) rfl (by kernel_rfl) (by kernel_rfl) (by kernel_rfl) (fun _ _ _ h => h) (Or.inl ⟨by rfl, ?_⟩) hSS ?_; rotate_left
                        · intro w9 hSw; (try dsimp only at hSw); (try go_split_ands); first | (go_simp; done) | (go_simp; with_reducible rfl)
                        try simp only [put, setIfInBounds_toArray, set_cons_zero, set_cons_succ]
                        refine wpAnyH_take (i := 17) (oi := ⟨some 101, .load 45 (.tmp 100), 45, _, _, some (13, false)⟩) (v := ?_) rfl (by kernel_rfl) (by kernel_rfl) (by kernel_rfl) (fun _ _ _ h => h) (Or.inl ⟨by rfl, ?_⟩) hSS ?_; rotate_left
                        · intro w9 hSw; (try dsimp only at hSw); (try go_split_ands); first | (go_simp; done) | (go_simp; with_reducible rfl)
                        try simp only [put, setIfInBounds_toArray, set_cons_zero, set_cons_succ]
                        refine wpAnyH_take (i := 18) (oi := ⟨some 102, .move (.tmp 3), 3, _, _, some (13, false)⟩) (v := ?_) rfl (by kernel_rfl) (by kernel_rfl) (by kernel_rfl) (fun _ _ _ h => h) (Or.inl ⟨by rfl, ?_⟩) hSS ?_; rotate_left
                        · intro w9 hSw; (try dsimp only at hSw); (try go_split_ands); first | (go_simp; done) | (go_simp; with_reducible rfl)
                        try simp only [put, setIfInBounds_toArray, set_cons_zero, set_cons_succ]
                        refine wpAnyH_take (i := 19) (oi := ⟨some 103, .binOp .sub 3 (.tmp 102) (.const (.int .i64 1)) 3, 3, _, _, some (13, false)⟩) (v := ?_) rfl (by kernel_rfl) (by kernel_rfl) (by kernel_rfl) (fun _ _ _ h => h) (Or.inl ⟨by rfl, ?_⟩) hSS ?_; rotate_left
                        · intro w9 hSw; (try dsimp only at hSw); (try go_split_ands); first | (go_simp; done) | (go_simp; with_reducible rfl)
                        try simp only [put, setIfInBounds_toArray, set_cons_zero, set_cons_succ]
                        refine wpAnyH_take (i := 20) (oi := ⟨some 104, .indexAddr 45 (.tmp 101) (.tmp 103), 0, _, _, some (13, false)⟩) (v := ?_) rfl (by kernel_rfl) (by kernel_rfl) (by kernel_rfl) (fun _ _ _ h => h) (Or.inl ⟨by rfl, ?_⟩) hSS ?_; rotate_left
                        · intro w9 hSw; (try dsimp only at hSw); (try go_split_ands); first | (go_simp; done) | (go_simp; with_reducible rfl)
                        try simp only [put, setIfInBounds_toArray, set_cons_zero, set_cons_succ]
                        refine wpAnyH_take (i := 21) (oi := ⟨some 105, .fieldAddr 51 (.tmp 104) 2, 0, _, _, some (13, false)⟩) (v := ?_) rfl (by kernel_rfl) (by kernel_rfl) (by kernel_rfl) (fun _ _ _ h => h) (Or.inl ⟨by rfl, ?_⟩) hSS ?_; rotate_left
                        · intro w9 hSw; (try dsimp only at hSw); (try go_split_ands); first | (go_simp; done) | (go_simp; with_reducible rfl)
                        try simp only [put, setIfInBounds_toArray, set_cons_zero, set_cons_succ]
                        refine wpAnyH_take (i := 22) (oi := ⟨some 106, .load 3 (.tmp 105), 3, _, _, some (13, false)⟩) (v := ?_) rfl (by kernel_rfl) (by kernel_rfl) (by kernel_rfl) (fun _ _ _ h => h) (Or.inl ⟨by rfl, ?_⟩) hSS ?_; rotate_left
                        · intro w9 hSw; (try dsimp only at hSw); (try go_split_ands); first | (go_simp; done) | (go_simp; with_reducible rfl)
                        try simp only [put, setIfInBounds_toArray, set_cons_zero, set_cons_succ]
                        refine wpAnyH_take (i := 23) (oi := ⟨some 107, .binOp .eql 3 (.tmp 99) (.tmp 106) 3, 4, _, _, some (13, false)⟩) (v := .bool true) rfl (by kernel_rfl) (by kernel_rfl) (by kernel_rfl) (fun _ _ _ h => h) (Or.inl ⟨by rfl, ?_⟩) hSS ?_
                        · intro w9 hSw; (try dsimp only at hSw); (try go_split_ands); first | (go_simp; done) | (go_simp; simp [z3]; done)
                        try simp only [put, setIfInBounds_toArray, set_cons_zero, set_cons_succ]
                        refine wpAnyH_take (i := 24) (oi := ⟨some 108, .move (.tmp 107), 4, _, _, some (13, false)⟩) (v := ?_) rfl (by kernel_rfl) (by kernel_rfl) (by kernel_rfl) (fun _ _ _ h => h) (Or.inl ⟨by rfl, ?_⟩) hSS ?_; rotate_left
                        · intro w9 hSw; (try dsimp only at hSw); (try go_split_ands); first | (go_simp; done) | (go_simp; with_reducible rfl)
                        try simp only [put, setIfInBounds_toArray, set_cons_zero, set_cons_succ]
                        refine wpAnyH_take (i := 25) (oi := ⟨some 109, .fieldAddr 51 (.tmp 4) 0, 0, _, _, some (24, true)⟩) (v := ?_) rfl (by kernel_rfl) (by kernel_rfl) (by kernel_rfl) (fun _ _ _ h => h) (Or.inl ⟨by rfl, ?_⟩) hSS ?_; rotate_left
                        · intro w9 hSw; (try dsimp only at hSw); (try go_split_ands); first | (go_simp; done) | (go_simp; with_reducible rfl)
                        try simp only [put, setIfInBounds_toArray, set_cons_zero, set_cons_succ]
                        refine wpAnyH_take (i := 26) (oi := ⟨some 110, .load 3 (.tmp 109), 3, _, _, some (24, true)⟩) (v := ?_) rfl (by kernel_rfl) (by kernel_rfl) (by kernel_rfl) (fun _ _ _ h => h) (Or.inl ⟨by rfl, ?_⟩) hSS ?_; rotate_left
                        · intro w9 hSw; (try dsimp only at hSw); (try go_split_ands); first | (go_simp; done) | (go_simp; with_reducible rfl)
                        try simp only [put, setIfInBounds_toArray, set_cons_zero, set_cons_succ]
                        refine wpAnyH_take (i := 27) (oi := ⟨some 111, .fieldAddr 47 (.tmp 1) 4, 0, _, _, some (24, true)⟩) (v := ?_) rfl (by kernel_rfl) (by kernel_rfl) (by kernel_rfl) (fun _ _ _ h => h) (Or.inl ⟨by rfl, ?_⟩) hSS ?_; rotate_left
                        · intro w9 hSw; (try dsimp only at hSw); (try go_split_ands); first | (go_simp; done) | (go_simp; with_reducible rfl)
                        try simp only [put, setIfInBounds_toArray, set_cons_zero, set_cons_succ]
                        refine wpAnyH_take (i := 28) (oi := ⟨some 112, .load 45 (.tmp 111), 45, _, _, some (24, true)⟩) (v := ?_) rfl (by kernel_rfl) (by kernel_rfl) (by kernel_rfl) (fun _ _ _ h => h) (Or.inl ⟨by rfl, ?_⟩) hSS ?_; rotate_left
                        · intro w9 hSw; (try dsimp only at hSw); (try go_split_ands); first | (go_simp; done) | (go_simp; with_reducible rfl)
                        try simp only [put, setIfInBounds_toArray, set_cons_zero, set_cons_succ]
                        refine wpAnyH_take (i := 29) (oi := ⟨some 113, .move (.tmp 3), 3, _, _, some (24, true)⟩) (v := ?_) rfl (by kernel_rfl) (by kernel_rfl) (by kernel_rfl) (fun _ _ _ h => h) (Or.inl ⟨by rfl, ?_⟩) hSS ?_; rotate_left
                        · intro w9 hSw; (try dsimp only at hSw); (try go_split_ands); first | (go_simp; done) | (go_simp; with_reducible rfl)
                        try simp only [put, setIfInBounds_toArray, set_cons_zero, set_cons_succ]
                        refine wpAnyH_take (i := 30) (oi := ⟨some 114, .binOp .sub 3 (.tmp 113) (.const (.int .i64 1)) 3, 3, _, _, some (24, true)⟩) (v := ?_) rfl (by kernel_rfl) (by kernel_rfl) (by kernel_rfl) (fun _ _ _ h => h) (Or.inl ⟨by rfl, ?_⟩) hSS ?_; rotate_left
                        · intro w9 hSw; (try dsimp only at hSw); (try go_split_ands); first | (go_simp; done) | (go_simp; with_reducible rfl)
                        try simp only [put, setIfInBounds_toArray, set_cons_zero, set_cons_succ]
                        refine wpAnyH_take (i := 31) (oi := ⟨some 115, .indexAddr 45 (.tmp 112) (.tmp 114), 0, _, _, some (24, true)⟩) (v := ?_) rfl (by kernel_rfl) (by kernel_rfl) (by kernel_rfl) (fun _ _ _ h => h) (Or.inl ⟨by rfl, ?_⟩) hSS ?_; rotate_left
                        · intro w9 hSw; (try dsimp only at hSw); (try go_split_ands); first | (go_simp; done) | (go_simp; with_reducible rfl)
                        try simp only [put, setIfInBounds_toArray, set_cons_zero, set_cons_succ]
                        refine wpAnyH_take (i := 32) (oi := ⟨some 116, .fieldAddr 51 (.tmp 115) 0, 0, _, _, some (24, true)⟩) (v := ?_) rfl (by kernel_rfl) (by kernel_rfl) (by kernel_rfl) (fun _ _ _ h => h) (Or.inl ⟨by rfl, ?_⟩) hSS ?_; rotate_left
                        · intro w9 hSw; (try dsimp only at hSw); (try go_split_ands); first | (go_simp; done) | (go_simp; with_reducible rfl)
                        try simp only [put, setIfInBounds_toArray, set_cons_zero, set_cons_succ]
                        refine wpAnyH_take (i := 33) (oi := ⟨some 117, .load 3 (.tmp 116), 3, _, _, some (24, true)⟩) (v := ?_) rfl (by kernel_rfl) (by kernel_rfl) (by kernel_rfl) (fun _ _ _ h => h) (Or.inl ⟨by rfl, ?_⟩) hSS ?_; rotate_left
                        · intro w9 hSw; (try dsimp only at hSw); (try go_split_ands); first | (go_simp; done) | (go_simp; with_reducible rfl)
                        try simp only [put, setIfInBounds_toArray, set_cons_zero, set_cons_succ]
                        refine wpAnyH_take (i := 34) (oi := ⟨some 118, .binOp .eql 3 (.tmp 110) (.tmp 117) 3, 4, _, _, some (24, true)⟩) (v := ?_) rfl (by kernel_rfl) (by kernel_rfl) (by kernel_rfl) (fun _ _ _ h => h) (Or.inl ⟨by rfl, ?_⟩) hSS ?_; rotate_left
                        · intro w9 hSw; (try dsimp only at hSw); (try go_split_ands); first | (go_simp; done) | (go_simp; with_reducible rfl)
                        try simp only [put, setIfInBounds_toArray, set_cons_zero, set_cons_succ]
                        refine wpAnyH_take (i := 35) (oi := ⟨some 119, .pick (.tmp 108) (.tmp 118) (.const (.bool false)), 4, _, _, some (13, false)⟩) (v := ?_) rfl (by kernel_rfl) (by kernel_rfl) (by kernel_rfl) (fun _ _ _ h => h) (Or.inl ⟨by rfl, ?_⟩) hSS ?_; rotate_left
                        · intro w9 hSw; (try dsimp only at hSw); (try go_split_ands); first | (go_simp; done) | (go_simp; with_reducible rfl)
                        try simp only [put, setIfInBounds_toArray, set_cons_zero, set_cons_succ]
                        refine wpAnyH_take (i := 36) (oi := ⟨some 120, .pick (.tmp 97) (.const (.bool true)) (.tmp 119), 4, _, _, some (2, true)⟩) (v := ?_) rfl (by kernel_rfl) (by kernel_rfl) (by kernel_rfl) (fun _ _ _ h => h) (Or.inl ⟨by rfl, ?_⟩) hSS ?_; rotate_left
                        · intro w9 hSw; (try dsimp only at hSw); (try go_split_ands); first | (go_simp; done) | (go_simp; with_reducible rfl)
                        try simp only [put, setIfInBounds_toArray, set_cons_zero, set_cons_succ]
                        refine wpAnyH_take (i := 37) (oi := ⟨some 121, .pick (.tmp 86) (.tmp 120) (.const (.bool false)), 4, _, _, none⟩) (v := ?_) rfl (by kernel_rfl) (by kernel_rfl) (by kernel_rfl) (fun _ _ _ h => h) (Or.inl ⟨by rfl, ?_⟩) hSS ?_; rotate_left
                        · intro w9 hSw; (try dsimp only at hSw); (try go_split_ands); first | (go_simp; done) | (go_simp; with_reducible rfl)
                        try simp only [put, setIfInBounds_toArray, set_cons_zero, set_cons_succ]
                        refine wpAnyH_done (by kernel_rfl) ?_ _
                        clear hSS kS
                        go_wp2
                        go_ret
                        exact ⟨by rw [FN.out]; rfl, HBW.out _ BTd.out⟩
                      · have NX := hid (HIN.out (by rw [HCK2.out]; exact ahead_yes1 z3 z4))
                        clear HIN HN1 HCK2
                        refine wp_region_held_drew (S := fun w' => (w'.cell? ⟨rb, 0, none⟩ = some (.int .i64 2) ∧ w'.cell? ⟨rb, 1, none⟩ = some (.int .i64 f) ∧ w'.cell? ⟨sb, 4, none⟩ = some (.slice (some ⟨g, 0, none⟩) n rc) ∧ w'.cell? ⟨g, p * 4 + 2, none⟩ = some (.int .i64 pt) ∧ w'.cell? ⟨g, p * 4, none⟩ = some (.int .i64 pk))) (by kernel_rfl) kS (fun hSS => ?_)
                        refine wpAnyH_take (i := 0) (oi := ⟨some 84, .move (.tmp 3), 3, _, _, none⟩) (v := ?_) rfl (by kernel_rfl) (by kernel_rfl) (by kernel_rfl) (fun _ _ _ h => h) (Or.inl ⟨by rfl, ?_⟩) hSS ?_; rotate_left
                        · intro w9 hSw; (try dsimp only at hSw); (try go_split_ands); first | (go_simp; done) | (go_simp; with_reducible rfl)
                        try simp only [put, setIfInBounds_toArray, set_cons_zero, set_cons_succ]
                        refine wpAnyH_take (i := 1) (oi := ⟨some 85, .binOp .gtr 3 (.tmp 84) (.const (.int .i64 0)) 3, 4, _, _, none⟩) (v := .bool true) rfl (by kernel_rfl) (by kernel_rfl) (by kernel_rfl) (fun _ _ _ h => h) (Or.inl ⟨by rfl, ?_⟩) hSS ?_
                        · intro w9 hSw; (try dsimp only at hSw); (try go_split_ands); first | (go_simp; done) | (go_simp; simp [z1]; done)
                        try simp only [put, setIfInBounds_toArray, set_cons_zero, set_cons_succ]
                        refine wpAnyH_take (i := 2) (oi := ⟨some 86, .move (.tmp 85), 4, _, _, none⟩) (v := ?_) rfl (by kernel_rfl) (by kernel_rfl) (by kernel_rfl) (fun _ _ _ h => h) (Or.inl ⟨by rfl, ?_⟩) hSS ?_; rotate_left
                        · intro w9 hSw; (try dsimp only at hSw); (try go_split_ands); first | (go_simp; done) | (go_simp; with_reducible rfl)
                        try simp only [put, setIfInBounds_toArray, set_cons_zero, set_cons_succ]
                        refine wpAnyH_take (i := 3) (oi := ⟨some 87, .fieldAddr 51 (.tmp 4) 1, 0, _, _, some (2, true)⟩) (v := ?_) rfl (by kernel_rfl) (by kernel_rfl) (by kernel_rfl) (fun _ _ _ h => h) (Or.inl ⟨by rfl, ?_⟩) hSS ?_; rotate_left
                        · intro w9 hSw; (try dsimp only at hSw); (try go_split_ands); first | (go_simp; done) | (go_simp; with_reducible rfl)
                        try simp only [put, setIfInBounds_toArray, set_cons_zero, set_cons_succ]
                        refine wpAnyH_take (i := 4) (oi := ⟨some 88, .load 3 (.tmp 87), 3, _, _, some (2, true)⟩) (v := ?_) rfl (by kernel_rfl) (by kernel_rfl) (by kernel_rfl) (fun _ _ _ h => h) (Or.inl ⟨by rfl, ?_⟩) hSS ?_; rotate_left
                        · intro w9 hSw; (try dsimp only at hSw); (try go_split_ands); first | (go_simp; done) | (go_simp; with_reducible rfl)
                        try simp only [put, setIfInBounds_toArray, set_cons_zero, set_cons_succ]
                        refine wpAnyH_take (i := 5) (oi := ⟨some 89, .fieldAddr 47 (.tmp 1) 4, 0, _, _, some (2, true)⟩) (v := ?_) rfl (by kernel_rfl) (by kernel_rfl) (by kernel_rfl) (fun _ _ _ h => h) (Or.inl ⟨by rfl, ?_⟩) hSS ?_; rotate_left
                        · intro w9 hSw; (try dsimp only at hSw); (try go_split_ands); first | (go_simp; done) | (go_simp; with_reducible rfl)
                        try simp only [put, setIfInBounds_toArray, set_cons_zero, set_cons_succ]
                        refine wpAnyH_take (i := 6) (oi := ⟨some 90, .load 45 (.tmp 89), 45, _, _, some (2, true)⟩) (v := ?_) rfl (by kernel_rfl) (by kernel_rfl) (by kernel_rfl) (fun _ _ _ h => h) (Or.inl ⟨by rfl, ?_⟩) hSS ?_; rotate_left
                        · intro w9 hSw; (try dsimp only at hSw); (try go_split_ands); first | (go_simp; done) | (go_simp; with_reducible rfl)
                        try simp only [put, setIfInBounds_toArray, set_cons_zero, set_cons_succ]
                        refine wpAnyH_take (i := 7) (oi := ⟨some 91, .move (.tmp 3), 3, _, _, some (2, true)⟩) (v := ?_) rfl (by kernel_rfl) (by kernel_rfl) (by kernel_rfl) (fun _ _ _ h => h) (Or.inl ⟨by rfl, ?_⟩) hSS ?_; rotate_left
                        · intro w9 hSw; (try dsimp only at hSw); (try go_split_ands); first | (go_simp; done) | (go_simp; with_reducible rfl)
                        try simp only [put, setIfInBounds_toArray, set_cons_zero, set_cons_succ]
                        refine wpAnyH_take (i := 8) (oi := ⟨some 92, .binOp .sub 3 (.tmp 91) (.const (.int .i64 1)) 3, 3, _, _, some (2, true)⟩) (v := ?_) rfl (by kernel_rfl) (by kernel_rfl) (by kernel_rfl) (fun _ _ _ h => h) (Or.inl ⟨by rfl, ?_⟩) hSS ?_; rotate_left
                        · intro w9 hSw; (try dsimp only at hSw); (try go_split_ands); first | (go_simp; done) | (go_simp; with_reducible rfl)
                        try simp only [put, setIfInBounds_toArray, set_cons_zero, set_cons_succ]
                        refine wpAnyH_take (i := 9) (oi := ⟨some 93, .indexAddr 45 (.tmp 90) (.tmp 92), 0, _, _, some (2, true)⟩) (v := ?_) rfl (by kernel_rfl) (by kernel_rfl) (by kernel_rfl) (fun _ _ _ h => h) (Or.inl ⟨by rfl, ?_⟩) hSS ?_; rotate_left
                        · intro w9 hSw; (try dsimp only at hSw); (try go_split_ands); first | (go_simp; done) | (go_simp; with_reducible rfl)
                        try simp only [put, setIfInBounds_toArray, set_cons_zero, set_cons_succ]
                        refine wpAnyH_take (i := 10) (oi := ⟨some 94, .fieldAddr 51 (.tmp 93) 2, 0, _, _, some (2, true)⟩) (v := ?_) rfl (by kernel_rfl) (by kernel_rfl) (by kernel_rfl) (fun _ _ _ h => h) (Or.inl ⟨by rfl, ?_⟩) hSS ?_; rotate_left
                        · intro w9 hSw; (try dsimp only at hSw); (try go_split_ands); first | (go_simp; done) | (go_simp; with_reducible rfl)
                        try simp only [put, setIfInBounds_toArray, set_cons_zero, set_cons_succ]
                        refine wpAnyH_take (i := 11) (oi := ⟨some 95, .load 3 (.tmp 94), 3, _, _, some (2, true)⟩) (v := ?_) rfl (by kernel_rfl) (by kernel_rfl) (by kernel_rfl) (fun _ _ _ h => h) (Or.inl ⟨by rfl, ?_⟩) hSS ?_; rotate_left
                        · intro w9 hSw; (try dsimp only at hSw); (try go_split_ands); first | (go_simp; done) | (go_simp; with_reducible rfl)
                        try simp only [put, setIfInBounds_toArray, set_cons_zero, set_cons_succ]
                        refine wpAnyH_take (i := 12) (oi := ⟨some 96, .binOp .lss 3 (.tmp 88) (.tmp 95) 3, 4, _, _, some (2, true)⟩) (v := .bool false) rfl (by kernel_rfl) (by kernel_rfl) (by kernel_rfl) (fun _ _ _ h => h) (Or.inl ⟨by rfl, ?_⟩) hSS ?_
                        · intro w9 hSw; (try dsimp only at hSw); (try go_split_ands); first | (go_simp; done) | (go_simp; simp [z2]; done)
                        try simp only [put, setIfInBounds_toArray, set_cons_zero, set_cons_succ]
                        refine wpAnyH_take (i := 13) (oi := ⟨some 97, .move (.tmp 96), 4, _, _, some (2, true)⟩) (v := ?_) rfl (by kernel_rfl) (by kernel_rfl) (by kernel_rfl) (fun _ _ _ h => h) (Or.inl ⟨by rfl, ?_⟩) hSS ?_; rotate_left
                        · intro w9 hSw; (try dsimp only at hSw); (try go_split_ands); first | (go_simp; done) | (go_simp; with_reducible rfl)
                        try simp only [put, setIfInBounds_toArray, set_cons_zero, set_cons_succ]
                        refine wpAnyH_take (i := 14) (oi := ⟨some 98, .fieldAddr 51 (.tmp 4) 1, 0, _, _, some (13, false)⟩) (v := ?_) rfl (by kernel_rfl) (by kernel_rfl) (by kernel_rfl) (fun _ _ _ h => h) (Or.inl ⟨by rfl, ?_⟩) hSS ?_; rotate_left
                        · intro w9 hSw; (try dsimp only at hSw); (try go_split_ands); first | (go_simp; done) | (go_simp; with_reducible rfl)
                        try simp only [put, setIfInBounds_toArray, set_cons_zero, set_cons_succ]
                        refine wpAnyH_take (i := 15) (oi := ⟨some 99, .load 3 (.tmp 98), 3, _, _, some (13, false)⟩) (v := ?_) rfl (by kernel_rfl) (by kernel_rfl) (by kernel_rfl) (fun _ _ _ h => h) (Or.inl ⟨by rfl, ?_⟩) hSS ?_; rotate_left
                        · intro w9 hSw; (try dsimp only at hSw); (try go_split_ands); first | (go_simp; done) | (go_simp; with_reducible rfl)
                        try simp only [put, setIfInBounds_toArray, set_cons_zero, set_cons_succ]
                        refine wpAnyH_take (i := 16) (oi := ⟨some 100, .fieldAddr 47 (.tmp 1) 4, 0, _, _, some (13, false)⟩) (v := ?_) rfl (by kernel_rfl) (by kernel_rfl) (by kernel_rfl) (fun _ _ _ h => h) (Or.inl ⟨by rfl, ?_⟩) hSS ?_; rotate_left
                        · intro w9 hSw; (try dsimp only at hSw); (try go_split_ands); first | (go_simp; done) | (go_simp; with_reducible rfl)
                        try simp only [put, setIfInBounds_toArray, set_cons_zero, set_cons_succ]
                        refine wpAnyH_take (i := 17) (oi := ⟨some 101, .load 45 (.tmp 100), 45, _, _, some (13, false)⟩) (v := ?_) rfl (by kernel_rfl) (by kernel_rfl) (by kernel_rfl) (fun _ _ _ h => h) (Or.inl ⟨by rfl, ?_⟩) hSS ?_; rotate_left
                        · intro w9 hSw; (try dsimp only at hSw); (try go_split_ands); first | (go_simp; done) | (go_simp; with_reducible rfl)
                        try simp only [put, setIfInBounds_toArray, set_cons_zero, set_cons_succ]
                        refine wpAnyH_take (i := 18) (oi := ⟨some 102, .move (.tmp 3), 3, _, _, some (13, false)⟩) (v := ?_) rfl (by kernel_rfl) (by kernel_rfl) (by kernel_rfl) (fun _ _ _ h => h) (Or.inl ⟨by rfl, ?_⟩) hSS ?_; rotate_left
                        · intro w9 hSw; (try dsimp only at hSw); (try go_split_ands); first | (go_simp; done) | (go_simp; with_reducible rfl)
                        try simp only [put, setIfInBounds_toArray, set_cons_zero, set_cons_succ]
                        refine wpAnyH_take (i := 19) (oi := ⟨some 103, .binOp .sub 3 (.tmp 102) (.const (.int .i64 1)) 3, 3, _, _, some (13, false)⟩) (v := ?_) rfl (by kernel_rfl) (by kernel_rfl) (by kernel_rfl) (fun _ _ _ h => h) (Or.inl ⟨by rfl, ?_⟩) hSS ?_; rotate_left
                        · intro w9 hSw; (try dsimp only at hSw); (try go_split_ands); first | (go_simp; done) | (go_simp; with_reducible rfl)
                        try simp only [put, setIfInBounds_toArray, set_cons_zero, set_cons_succ]
                        refine wpAnyH_take (i := 20) (oi := ⟨some 104, .indexAddr 45 (.tmp 101) (.tmp 103), 0, _, _, some (13, false)⟩) (v := ?_) rfl (by kernel_rfl) (by kernel_rfl) (by kernel_rfl) (fun _ _ _ h => h) (Or.inl ⟨by rfl, ?_⟩) hSS ?_; rotate_left
                        · intro w9 hSw; (try dsimp only at hSw); (try go_split_ands); first | (go_simp; done) | (go_simp; with_reducible rfl)
                        try simp only [put, setIfInBounds_toArray, set_cons_zero, set_cons_succ]
                        refine wpAnyH_take (i := 21) (oi := ⟨some 105, .fieldAddr 51 (.tmp 104) 2, 0, _, _, some (13, false)⟩) (v := ?_) rfl (by kernel_rfl) (by kernel_rfl) (by kernel_rfl) (fun _ _ _ h => h) (Or.inl ⟨by rfl, ?_⟩) hSS ?_; rotate_left
                        · intro w9 hSw; (try dsimp only at hSw); (try go_split_ands); first | (go_simp; done) | (go_simp; with_reducible rfl)
                        try simp only [put, setIfInBounds_toArray, set_cons_zero, set_cons_succ]
                        refine wpAnyH_take (i := 22) (oi := ⟨some 106, .load 3 (.tmp 105), 3, _, _, some (13, false)⟩) (v := ?_) rfl (by kernel_rfl) (by kernel_rfl) (by kernel_rfl) (fun _ _ _ h => h) (Or.inl ⟨by rfl, ?_⟩) hSS ?_; rotate_left
                        · intro w9 hSw; (try dsimp only at hSw); (try go_split_ands); first | (go_simp; done) | (go_simp; with_reducible rfl)
                        try simp only [put, setIfInBounds_toArray, set_cons_zero, set_cons_succ]
                        refine wpAnyH_take (i := 23) (oi := ⟨some 107, .binOp .eql 3 (.tmp 99) (.tmp 106) 3, 4, _, _, some (13, false)⟩) (v := .bool true) rfl (by kernel_rfl) (by kernel_rfl) (by kernel_rfl) (fun _ _ _ h => h) (Or.inl ⟨by rfl, ?_⟩) hSS ?_
                        · intro w9 hSw; (try dsimp only at hSw); (try go_split_ands); first | (go_simp; done) | (go_simp; simp [z3]; done)
                        try simp only [put, setIfInBounds_toArray, set_cons_zero, set_cons_succ]
                        refine wpAnyH_take (i := 24) (oi := ⟨some 108, .move (.tmp 107), 4, _, _, some (13, false)⟩) (v := ?_) rfl (by kernel_rfl) (by kernel_rfl) (by kernel_rfl) (fun _ _ _ h => h) (Or.inl ⟨by rfl, ?_⟩) hSS ?_; rotate_left
                        · intro w9 hSw; (try dsimp only at hSw); (try go_split_ands); first | (go_simp; done) | (go_simp; with_reducible rfl)
                        try simp only [put, setIfInBounds_toArray, set_cons_zero, set_cons_succ]
                        refine wpAnyH_take (i := 25) (oi := ⟨some 109, .fieldAddr 51 (.tmp 4) 0, 0, _, _, some (24, true)⟩) (v := ?_) rfl (by kernel_rfl) (by kernel_rfl) (by kernel_rfl) (fun _ _ _ h => h) (Or.inl ⟨by rfl, ?_⟩) hSS ?_; rotate_left
                        · intro w9 hSw; (try dsimp only at hSw); (try go_split_ands); first | (go_simp; done) | (go_simp; with_reducible rfl)
                        try simp only [put, setIfInBounds_toArray, set_cons_zero, set_cons_succ]
                        refine wpAnyH_take (i := 26) (oi := ⟨some 110, .load 3 (.tmp 109), 3, _, _, some (24, true)⟩) (v := ?_) rfl (by kernel_rfl) (by kernel_rfl) (by kernel_rfl) (fun _ _ _ h => h) (Or.inl ⟨by rfl, ?_⟩) hSS ?_; rotate_left
                        · intro w9 hSw; (try dsimp only at hSw); (try go_split_ands); first | (go_simp; done) | (go_simp; with_reducible rfl)
                        try simp only [put, setIfInBounds_toArray, set_cons_zero, set_cons_succ]
                        refine wpAnyH_take (i := 27) (oi := ⟨some 111, .fieldAddr 47 (.tmp 1) 4, 0, _, _, some (24, true)⟩) (v := ?_) rfl (by kernel_rfl) (by kernel_rfl) (by kernel_rfl) (fun _ _ _ h => h) (Or.inl ⟨by rfl, ?_⟩) hSS ?_; rotate_left
                        · intro w9 hSw; (try dsimp only at hSw); (try go_split_ands); first | (go_simp; done) | (go_simp; with_reducible rfl)
                        try simp only [put, setIfInBounds_toArray, set_cons_zero, set_cons_succ]
                        refine wpAnyH_take (i := 28) (oi := ⟨some 112, .load 45 (.tmp 111), 45, _, _, some (24, true)⟩) (v := ?_) rfl (by kernel_rfl) (by kernel_rfl) (by kernel_rfl) (fun _ _ _ h => h) (Or.inl ⟨by rfl, ?_⟩) hSS ?_; rotate_left
                        · intro w9 hSw; (try dsimp only at hSw); (try go_split_ands); first | (go_simp; done) | (go_simp; with_reducible rfl)
                        try simp only [put, setIfInBounds_toArray, set_cons_zero, set_cons_succ]
                        refine wpAnyH_take (i := 29) (oi := ⟨some 113, .move (.tmp 3), 3, _, _, some (24, true)⟩) (v := ?_) rfl (by kernel_rfl) (by kernel_rfl) (by kernel_rfl) (fun _ _ _ h => h) (Or.inl ⟨by rfl, ?_⟩) hSS ?_; rotate_left
                        · intro w9 hSw; (try dsimp only at hSw); (try go_split_ands); first | (go_simp; done) | (go_simp; with_reducible rfl)
                        try simp only [put, setIfInBounds_toArray, set_cons_zero, set_cons_succ]
                        refine wpAnyH_take (i := 30) (oi := ⟨some 114, .binOp .sub 3 (.tmp 113) (.const (.int .i64 1)) 3, 3, _, _, some (24, true)⟩) (v := ?_) rfl (by kernel_rfl) (by kernel_rfl) (by kernel_rfl) (fun _ _ _ h => h) (Or.inl ⟨by rfl, ?_⟩) hSS ?_; rotate_left
                        · intro w9 hSw; (try dsimp only at hSw); (try go_split_ands); first | (go_simp; done) | (go_simp; with_reducible rfl)
                        try simp only [put, setIfInBounds_toArray, set_cons_zero, set_cons_succ]
                        refine wpAnyH_take (i := 31) (oi := ⟨some 115, .indexAddr 45 (.tmp 112) (.tmp 114), 0, _, _, some (24, true)⟩) (v := ?_) rfl (by kernel_rfl) (by kernel_rfl) (by kernel_rfl) (fun _ _ _ h => h) (Or.inl ⟨by rfl, ?_⟩) hSS ?_; rotate_left
                        · intro w9 hSw; (try dsimp only at hSw); (try go_split_ands); first | (go_simp; done) | (go_simp; with_reducible rfl)
                        try simp only [put, setIfInBounds_toArray, set_cons_zero, set_cons_succ]
                        refine wpAnyH_take (i := 32) (oi := ⟨some 116, .fieldAddr 51 (.tmp 115) 0, 0, _, _, some (24, true)⟩) (v := ?_) rfl (by kernel_rfl) (by kernel_rfl) (by kernel_rfl) (fun _ _ _ h => h) (Or.inl ⟨by rfl, ?_⟩) hSS ?_; rotate_left
                        · intro w9 hSw; (try dsimp only at hSw); (try go_split_ands); first | (go_simp; done) | (go_simp; with_reducible rfl)
                        try simp only [put, setIfInBounds_toArray, set_cons_zero, set_cons_succ]
                        refine wpAnyH_take (i := 33) (oi := ⟨some 117, .load 3 (.tmp 116), 3, _, _, some (24, true)⟩) (v := ?_) rfl (by kernel_rfl) (by kernel_rfl) (by kernel_rfl) (fun _ _ _ h => h) (Or.inl ⟨by rfl, ?_⟩) hSS ?_; rotate_left
                        · intro w9 hSw; (try dsimp only at hSw); (try go_split_ands); first | (go_simp; done) | (go_simp; with_reducible rfl)
                        try simp only [put, setIfInBounds_toArray, set_cons_zero, set_cons_succ]
                        refine wpAnyH_take (i := 34) (oi := ⟨some 118, .binOp .eql 3 (.tmp 110) (.tmp 117) 3, 4, _, _, some (24, true)⟩) (v := .bool false) rfl (by kernel_rfl) (by kernel_rfl) (by kernel_rfl) (fun _ _ _ h => h) (Or.inl ⟨by rfl, ?_⟩) hSS ?_
                        · intro w9 hSw; (try dsimp only at hSw); (try go_split_ands); first | (go_simp; done) | (go_simp; simp [z4]; done)
                        try simp only [put, setIfInBounds_toArray, set_cons_zero, set_cons_succ]
                        refine wpAnyH_take (i := 35) (oi := ⟨some 119, .pick (.tmp 108) (.tmp 118) (.const (.bool false)), 4, _, _, some (13, false)⟩) (v := ?_) rfl (by kernel_rfl) (by kernel_rfl) (by kernel_rfl) (fun _ _ _ h => h) (Or.inl ⟨by rfl, ?_⟩) hSS ?_; rotate_left
                        · intro w9 hSw; (try dsimp only at hSw); (try go_split_ands); first | (go_simp; done) | (go_simp; with_reducible rfl)
                        try simp only [put, setIfInBounds_toArray, set_cons_zero, set_cons_succ]
                        refine wpAnyH_take (i := 36) (oi := ⟨some 120, .pick (.tmp 97) (.const (.bool true)) (.tmp 119), 4, _, _, some (2, true)⟩) (v := ?_) rfl (by kernel_rfl) (by kernel_rfl) (by kernel_rfl) (fun _ _ _ h => h) (Or.inl ⟨by rfl, ?_⟩) hSS ?_; rotate_left
                        · intro w9 hSw; (try dsimp only at hSw); (try go_split_ands); first | (go_simp; done) | (go_simp; with_reducible rfl)
                        try simp only [put, setIfInBounds_toArray, set_cons_zero, set_cons_succ]
                        refine wpAnyH_take (i := 37) (oi := ⟨some 121, .pick (.tmp 86) (.tmp 120) (.const (.bool false)), 4, _, _, none⟩) (v := ?_) rfl (by kernel_rfl) (by kernel_rfl) (by kernel_rfl) (fun _ _ _ h => h) (Or.inl ⟨by rfl, ?_⟩) hSS ?_; rotate_left
                        · intro w9 hSw; (try dsimp only at hSw); (try go_split_ands); first | (go_simp; done) | (go_simp; with_reducible rfl)
                        try simp only [put, setIfInBounds_toArray, set_cons_zero, set_cons_succ]
                        refine wpAnyH_done (by kernel_rfl) ?_ _
                        clear hSS kS
                        go_wp2
                        go_roundw
                        case rel => exact ⟨q + 1, by omega, by go_num, NX.out, BTd.out⟩
                        case measure => simp [intOf]; omega
                    · have NX := hid (HIN.out (by rw [HCK2.out]; exact ahead_yes2 z2 z3))
                      clear HIN HN1 HCK2
                      refine wp_region_held_drew (S := fun w' => (w'.cell? ⟨rb, 0, none⟩ = some (.int .i64 2) ∧ w'.cell? ⟨rb, 1, none⟩ = some (.int .i64 f) ∧ w'.cell? ⟨sb, 4, none⟩ = some (.slice (some ⟨g, 0, none⟩) n rc) ∧ w'.cell? ⟨g, p * 4 + 2, none⟩ = some (.int .i64 pt) ∧ w'.cell? ⟨g, p * 4, none⟩ = some (.int .i64 pk))) (by kernel_rfl) kS (fun hSS => ?_)
                      refine wpAnyH_take (i := 0) (oi := ⟨some 84, .move (.tmp 3), 3, _, _, none⟩) (v := ?_) rfl (by kernel_rfl) (by kernel_rfl) (by kernel_rfl) (fun _ _ _ h => h) (Or.inl ⟨by rfl, ?_⟩) hSS ?_; rotate_left
                      · intro w9 hSw; (try dsimp only at hSw); (try go_split_ands); first | (go_simp; done) | (go_simp; with_reducible rfl)
                      try simp only [put, setIfInBounds_toArray, set_cons_zero, set_cons_succ]
                      refine wpAnyH_take (i := 1) (oi := ⟨some 85, .binOp .gtr 3 (.tmp 84) (.const (.int .i64 0)) 3, 4, _, _, none⟩) (v := .bool true) rfl (by kernel_rfl) (by kernel_rfl) (by kernel_rfl) (fun _ _ _ h => h) (Or.inl ⟨by rfl, ?_⟩) hSS ?_
                      · intro w9 hSw; (try dsimp only at hSw); (try go_split_ands); first | (go_simp; done) | (go_simp; simp [z1]; done)
                      try simp only [put, setIfInBounds_toArray, set_cons_zero, set_cons_succ]
                      refine wpAnyH_take (i := 2) (oi := ⟨some 86, .move (.tmp 85), 4, _, _, none⟩) (v := ?_) rfl (by kernel_rfl) (by kernel_rfl) (by kernel_rfl) (fun _ _ _ h => h) (Or.inl ⟨by rfl, ?_⟩) hSS ?_; rotate_left
                      · intro w9 hSw; (try dsimp only at hSw); (try go_split_ands); first | (go_simp; done) | (go_simp; with_reducible rfl)
                      try simp only [put, setIfInBounds_toArray, set_cons_zero, set_cons_succ]
                      refine wpAnyH_take (i := 3) (oi := ⟨some 87, .fieldAddr 51 (.tmp 4) 1, 0, _, _, some (2, true)⟩) (v := ?_) rfl (by kernel_rfl) (by kernel_rfl) (by kernel_rfl) (fun _ _ _ h => h) (Or.inl ⟨by rfl, ?_⟩) hSS ?_; rotate_left
                      · intro w9 hSw; (try dsimp only at hSw); (try go_split_ands); first | (go_simp; done) | (go_simp; with_reducible rfl)
                      try simp only [put, setIfInBounds_toArray, set_cons_zero, set_cons_succ]
                      refine wpAnyH_take (i := 4) (oi := ⟨some 88, .load 3 (.tmp 87), 3, _, _, some (2, true)⟩) (v := ?_) rfl (by kernel_rfl) (by kernel_rfl) (by kernel_rfl) (fun _ _ _ h => h) (Or.inl ⟨by rfl, ?_⟩) hSS ?_; rotate_left
                      · intro w9 hSw; (try dsimp only at hSw); (try go_split_ands); first | (go_simp; done) | (go_simp; with_reducible rfl)
                      try simp only [put, setIfInBounds_toArray, set_cons_zero, set_cons_succ]
                      refine wpAnyH_take (i := 5) (oi := ⟨some 89, .fieldAddr 47 (.tmp 1) 4, 0, _, _, some (2, true)⟩) (v := ?_) rfl (by kernel_rfl) (by kernel_rfl) (by kernel_rfl) (fun _ _ _ h => h) (Or.inl ⟨by rfl, ?_⟩) hSS ?_; rotate_left
                      · intro w9 hSw; (try dsimp only at hSw); (try go_split_ands); first | (go_simp; done) | (go_simp; with_reducible rfl)
                      try simp only [put, setIfInBounds_toArray, set_cons_zero, set_cons_succ]
                      refine wpAnyH_take (i := 6) (oi := ⟨some 90, .load 45 (.tmp 89), 45, _, _, some (2, true)⟩) (v := ?_) rfl (by kernel_rfl) (by kernel_rfl) (by kernel_rfl) (fun _ _ _ h => h) (Or.inl ⟨by rfl, ?_⟩) hSS ?_; rotate_left
                      · intro w9 hSw; (try dsimp only at hSw); (try go_split_ands); first | (go_simp; done) | (go_simp; with_reducible rfl)
                      try simp only [put, setIfInBounds_toArray, set_cons_zero, set_cons_succ]
                      refine wpAnyH_take (i := 7) (oi := ⟨some 91, .move (.tmp 3), 3, _, _, some (2, true)⟩) (v := ?_) rfl (by kernel_rfl) (by kernel_rfl) (by kernel_rfl) (fun _ _ _ h => h) (Or.inl ⟨by rfl, ?_⟩) hSS ?_; rotate_left
                      · intro w9 hSw; (try dsimp only at hSw); (try go_split_ands); first | (go_simp; done) | (go_simp; with_reducible rfl)
                      try simp only [put, setIfInBounds_toArray, set_cons_zero, set_cons_succ]
                      refine wpAnyH_take (i := 8) (oi := ⟨some 92, .binOp .sub 3 (.tmp 91) (.const (.int .i64 1)) 3, 3, _, _, some (2, true)⟩) (v := ?_) rfl (by kernel_rfl) (by kernel_rfl) (by kernel_rfl) (fun _ _ _ h => h) (Or.inl ⟨by rfl, ?_⟩) hSS ?_; rotate_left
                      · intro w9 hSw; (try dsimp only at hSw); (try go_split_ands); first | (go_simp; done) | (go_simp; with_reducible rfl)
                      try simp only [put, setIfInBounds_toArray, set_cons_zero, set_cons_succ]
                      refine wpAnyH_take (i := 9) (oi := ⟨some 93, .indexAddr 45 (.tmp 90) (.tmp 92), 0, _, _, some (2, true)⟩) (v := ?_) rfl (by kernel_rfl) (by kernel_rfl) (by kernel_rfl) (fun _ _ _ h => h) (Or.inl ⟨by rfl, ?_⟩) hSS ?_; rotate_left
                      · intro w9 hSw; (try dsimp only at hSw); (try go_split_ands); first | (go_simp; done) | (go_simp; with_reducible rfl)
                      try simp only [put, setIfInBounds_toArray, set_cons_zero, set_cons_succ]
                      refine wpAnyH_take (i := 10) (oi := ⟨some 94, .fieldAddr 51 (.tmp 93) 2, 0, _, _, some (2, true)⟩) (v := ?_) rfl (by kernel_rfl) (by kernel_rfl) (by kernel_rfl) (fun _ _ _ h => h) (Or.inl ⟨by rfl, ?_⟩) hSS ?_; rotate_left
                      · intro w9 hSw; (try dsimp only at hSw); (try go_split_ands); first | (go_simp; done) | (go_simp; with_reducible rfl)
                      try simp only [put, setIfInBounds_toArray, set_cons_zero, set_cons_succ]
                      refine wpAnyH_take (i := 11) (oi := ⟨some 95, .load 3 (.tmp 94), 3, _, _, some (2, true)⟩) (v := ?_) rfl (by kernel_rfl) (by kernel_rfl) (by kernel_rfl) (fun _ _ _ h => h) (Or.inl ⟨by rfl, ?_⟩) hSS ?_; rotate_left
                      · intro w9 hSw; (try dsimp only at hSw); (try go_split_ands); first | (go_simp; done) | (go_simp; with_reducible rfl)
                      try simp only [put, setIfInBounds_toArray, set_cons_zero, set_cons_succ]
                      refine wpAnyH_take (i := 12) (oi := ⟨some 96, .binOp .lss 3 (.tmp 88) (.tmp 95) 3, 4, _, _, some (2, true)⟩) (v := .bool false) rfl (by kernel_rfl) (by kernel_rfl) (by kernel_rfl) (fun _ _ _ h => h) (Or.inl ⟨by rfl, ?_⟩) hSS ?_
                      · intro w9 hSw; (try dsimp only at hSw); (try go_split_ands); first | (go_simp; done) | (go_simp; simp [z2]; done)
                      try simp only [put, setIfInBounds_toArray, set_cons_zero, set_cons_succ]
                      refine wpAnyH_take (i := 13) (oi := ⟨some 97, .move (.tmp 96), 4, _, _, some (2, true)⟩) (v := ?_) rfl (by kernel_rfl) (by kernel_rfl) (by kernel_rfl) (fun _ _ _ h => h) (Or.inl ⟨by rfl, ?_⟩) hSS ?_; rotate_left
                      · intro w9 hSw; (try dsimp only at hSw); (try go_split_ands); first | (go_simp; done) | (go_simp; with_reducible rfl)
                      try simp only [put, setIfInBounds_toArray, set_cons_zero, set_cons_succ]
                      refine wpAnyH_take (i := 14) (oi := ⟨some 98, .fieldAddr 51 (.tmp 4) 1, 0, _, _, some (13, false)⟩) (v := ?_) rfl (by kernel_rfl) (by kernel_rfl) (by kernel_rfl) (fun _ _ _ h => h) (Or.inl ⟨by rfl, ?_⟩) hSS ?_; rotate_left
                      · intro w9 hSw; (try dsimp only at hSw); (try go_split_ands); first | (go_simp; done) | (go_simp; with_reducible rfl)
                      try simp only [put, setIfInBounds_toArray, set_cons_zero, set_cons_succ]
                      refine wpAnyH_take (i := 15) (oi := ⟨some 99, .load 3 (.tmp 98), 3, _, _, some (13, false)⟩) (v := ?_) rfl (by kernel_rfl) (by kernel_rfl) (by kernel_rfl) (fun _ _ _ h => h) (Or.inl ⟨by rfl, ?_⟩) hSS ?_; rotate_left
                      · intro w9 hSw; (try dsimp only at hSw); (try go_split_ands); first | (go_simp; done) | (go_simp; with_reducible rfl)
                      try simp only [put, setIfInBounds_toArray, set_cons_zero, set_cons_succ]
                      refine wpAnyH_take (i := 16) (oi := ⟨some 100, .fieldAddr 47 (.tmp 1) 4, 0, _, _, some (13, false)⟩) (v := ?_) rfl (by kernel_rfl) (by kernel_rfl) (by kernel_rfl) (fun _ _ _ h => h) (Or.inl ⟨by rfl, ?_⟩) hSS ?_; rotate_left
                      · intro w9 hSw; (try dsimp only at hSw); (try go_split_ands); first | (go_simp; done) | (go_simp; with_reducible rfl)
                      try simp only [put, setIfInBounds_toArray, set_cons_zero, set_cons_succ]
                      refine wpAnyH_take (i := 17) (oi := ⟨some 101, .load 45 (.tmp 100), 45, _, _, some (13, false)⟩) (v := ?_) rfl (by kernel_rfl) (by kernel_rfl) (by kernel_rfl) (fun _ _ _ h => h) (Or.inl ⟨by rfl, ?_⟩) hSS ?_; rotate_left
                      · intro w9 hSw; (try dsimp only at hSw); (try go_split_ands); first | (go_simp; done) | (go_simp; with_reducible rfl)
                      try simp only [put, setIfInBounds_toArray, set_cons_zero, set_cons_succ]
                      refine wpAnyH_take (i := 18) (oi := ⟨some 102, .move (.tmp 3), 3, _, _, some (13, false)⟩) (v := ?_) rfl (by kernel_rfl) (by kernel_rfl) (by kernel_rfl) (fun _ _ _ h => h) (Or.inl ⟨by rfl, ?_⟩) hSS ?_; rotate_left
                      · intro w9 hSw; (try dsimp only at hSw); (try go_split_ands); first | (go_simp; done) | (go_simp; with_reducible rfl)
                      try simp only [put, setIfInBounds_toArray, set_cons_zero, set_cons_succ]
                      refine wpAnyH_take (i := 19) (oi := ⟨some 103, .binOp .sub 3 (.tmp 102) (.const (.int .i64 1)) 3, 3, _, _, some (13, false)⟩) (v := ?_) rfl (by kernel_rfl) (by kernel_rfl) (by kernel_rfl) (fun _ _ _ h => h) (Or.inl ⟨by rfl, ?_⟩) hSS ?_; rotate_left
                      · intro w9 hSw; (try dsimp only at hSw); (try go_split_ands); first | (go_simp; done) | (go_simp; with_reducible rfl)
                      try simp only [put, setIfInBounds_toArray, set_cons_zero, set_cons_succ]
                      refine wpAnyH_take (i := 20) (oi := ⟨some 104, .indexAddr 45 (.tmp 101) (.tmp 103), 0, _, _, some (13, false)⟩) (v := ?_) rfl (by kernel_rfl) (by kernel_rfl) (by kernel_rfl) (fun _ _ _ h => h) (Or.inl ⟨by rfl, ?_⟩) hSS ?_; rotate_left
                      · intro w9 hSw; (try dsimp only at hSw); (try go_split_ands); first | (go_simp; done) | (go_simp; with_reducible rfl)
                      try simp only [put, setIfInBounds_toArray, set_cons_zero, set_cons_succ]
                      refine wpAnyH_take (i := 21) (oi := ⟨some 105, .fieldAddr 51 (.tmp 104) 2, 0, _, _, some (13, false)⟩) (v := ?_) rfl (by kernel_rfl) (by kernel_rfl) (by kernel_rfl) (fun _ _ _ h => h) (Or.inl ⟨by rfl, ?_⟩) hSS ?_; rotate_left
                      · intro w9 hSw; (try dsimp only at hSw); (try go_split_ands); first | (go_simp; done) | (go_simp; with_reducible rfl)
                      try simp only [put, setIfInBounds_toArray, set_cons_zero, set_cons_succ]
                      refine wpAnyH_take (i := 22) (oi := ⟨some 106, .load 3 (.tmp 105), 3, _, _, some (13, false)⟩) (v := ?_) rfl (by kernel_rfl) (by kernel_rfl) (by kernel_rfl) (fun _ _ _ h => h) (Or.inl ⟨by rfl, ?_⟩) hSS ?_; rotate_left
                      · intro w9 hSw; (try dsimp only at hSw); (try go_split_ands); first | (go_simp; done) | (go_simp; with_reducible rfl)
                      try simp only [put, setIfInBounds_toArray, set_cons_zero, set_cons_succ]
                      refine wpAnyH_take (i := 23) (oi := ⟨some 107, .binOp .eql 3 (.tmp 99) (.tmp 106) 3, 4, _, _, some (13, false)⟩) (v := .bool false) rfl (by kernel_rfl) (by kernel_rfl) (by kernel_rfl) (fun _ _ _ h => h) (Or.inl ⟨by rfl, ?_⟩) hSS ?_
                      · intro w9 hSw; (try dsimp only at hSw); (try go_split_ands); first | (go_simp; done) | (go_simp; simp [z3]; done)
                      try simp only [put, setIfInBounds_toArray, set_cons_zero, set_cons_succ]
                      refine wpAnyH_take (i := 24) (oi := ⟨some 108, .move (.tmp 107), 4, _, _, some (13, false)⟩) (v := ?_) rfl (by kernel_rfl) (by kernel_rfl) (by kernel_rfl) (fun _ _ _ h => h) (Or.inl ⟨by rfl, ?_⟩) hSS ?_; rotate_left
                      · intro w9 hSw; (try dsimp only at hSw); (try go_split_ands); first | (go_simp; done) | (go_simp; with_reducible rfl)
                      try simp only [put, setIfInBounds_toArray, set_cons_zero, set_cons_succ]
                      refine wpAnyH_take (i := 25) (oi := ⟨some 109, .fieldAddr 51 (.tmp 4) 0, 0, _, _, some (24, true)⟩) (v := undef) rfl (by kernel_rfl) (by kernel_rfl) (by kernel_rfl) (fun _ _ _ h => h) (Or.inr ⟨by rfl, rfl⟩) hSS ?_
                      try simp only [put, setIfInBounds_toArray, set_cons_zero, set_cons_succ]
                      refine wpAnyH_take (i := 26) (oi := ⟨some 110, .load 3 (.tmp 109), 3, _, _, some (24, true)⟩) (v := undef) rfl (by kernel_rfl) (by kernel_rfl) (by kernel_rfl) (fun _ _ _ h => h) (Or.inr ⟨by rfl, rfl⟩) hSS ?_
                      try simp only [put, setIfInBounds_toArray, set_cons_zero, set_cons_succ]
                      refine wpAnyH_take (i := 27) (oi := ⟨some 111, .fieldAddr 47 (.tmp 1) 4, 0, _, _, some (24, true)⟩) (v := undef) rfl (by kernel_rfl) (by kernel_rfl) (by kernel_rfl) (fun _ _ _ h => h) (Or.inr ⟨by rfl, rfl⟩) hSS ?_
                      try simp only [put, setIfInBounds_toArray, set_cons_zero, set_cons_succ]
                      refine wpAnyH_take (i := 28) (oi := ⟨some 112, .load 45 (.tmp 111), 45, _, _, some (24, true)⟩) (v := undef) rfl (by kernel_rfl) (by kernel_rfl) (by kernel_rfl) (fun _ _ _ h => h) (Or.inr ⟨by rfl, rfl⟩) hSS ?_
                      try simp only [put, setIfInBounds_toArray, set_cons_zero, set_cons_succ]
                      refine wpAnyH_take (i := 29) (oi := ⟨some 113, .move (.tmp 3), 3, _, _, some (24, true)⟩) (v := undef) rfl (by kernel_rfl) (by kernel_rfl) (by kernel_rfl) (fun _ _ _ h => h) (Or.inr ⟨by rfl, rfl⟩) hSS ?_
                      try simp only [put, setIfInBounds_toArray, set_cons_zero, set_cons_succ]
                      refine wpAnyH_take (i := 30) (oi := ⟨some 114, .binOp .sub 3 (.tmp 113) (.const (.int .i64 1)) 3, 3, _, _, some (24, true)⟩) (v := undef) rfl (by kernel_rfl) (by kernel_rfl) (by kernel_rfl) (fun _ _ _ h => h) (Or.inr ⟨by rfl, rfl⟩) hSS ?_
                      try simp only [put, setIfInBounds_toArray, set_cons_zero, set_cons_succ]
                      refine wpAnyH_take (i := 31) (oi := ⟨some 115, .indexAddr 45 (.tmp 112) (.tmp 114), 0, _, _, some (24, true)⟩) (v := undef) rfl (by kernel_rfl) (by kernel_rfl) (by kernel_rfl) (fun _ _ _ h => h) (Or.inr ⟨by rfl, rfl⟩) hSS ?_
                      try simp only [put, setIfInBounds_toArray, set_cons_zero, set_cons_succ]
                      refine wpAnyH_take (i := 32) (oi := ⟨some 116, .fieldAddr 51 (.tmp 115) 0, 0, _, _, some (24, true)⟩) (v := undef) rfl (by kernel_rfl) (by kernel_rfl) (by kernel_rfl) (fun _ _ _ h => h) (Or.inr ⟨by rfl, rfl⟩) hSS ?_
                      try simp only [put, setIfInBounds_toArray, set_cons_zero, set_cons_succ]
                      refine wpAnyH_take (i := 33) (oi := ⟨some 117, .load 3 (.tmp 116), 3, _, _, some (24, true)⟩) (v := undef) rfl (by kernel_rfl) (by kernel_rfl) (by kernel_rfl) (fun _ _ _ h => h) (Or.inr ⟨by rfl, rfl⟩) hSS ?_
                      try simp only [put, setIfInBounds_toArray, set_cons_zero, set_cons_succ]
                      refine wpAnyH_take (i := 34) (oi := ⟨some 118, .binOp .eql 3 (.tmp 110) (.tmp 117) 3, 4, _, _, some (24, true)⟩) (v := undef) rfl (by kernel_rfl) (by kernel_rfl) (by kernel_rfl) (fun _ _ _ h => h) (Or.inr ⟨by rfl, rfl⟩) hSS ?_
                      try simp only [put, setIfInBounds_toArray, set_cons_zero, set_cons_succ]
                      refine wpAnyH_take (i := 35) (oi := ⟨some 119, .pick (.tmp 108) (.tmp 118) (.const (.bool false)), 4, _, _, some (13, false)⟩) (v := ?_) rfl (by kernel_rfl) (by kernel_rfl) (by kernel_rfl) (fun _ _ _ h => h) (Or.inl ⟨by rfl, ?_⟩) hSS ?_; rotate_left
                      · intro w9 hSw; (try dsimp only at hSw); (try go_split_ands); first | (go_simp; done) | (go_simp; with_reducible rfl)
                      try simp only [put, setIfInBounds_toArray, set_cons_zero, set_cons_succ]
                      refine wpAnyH_take (i := 36) (oi := ⟨some 120, .pick (.tmp 97) (.const (.bool true)) (.tmp 119), 4, _, _, some (2, true)⟩) (v := ?_) rfl (by kernel_rfl) (by kernel_rfl) (by kernel_rfl) (fun _ _ _ h => h) (Or.inl ⟨by rfl, ?_⟩) hSS ?_; rotate_left
                      · intro w9 hSw; (try dsimp only at hSw); (try go_split_ands); first | (go_simp; done) | (go_simp; with_reducible rfl)
                      try simp only [put, setIfInBounds_toArray, set_cons_zero, set_cons_succ]
                      refine wpAnyH_take (i := 37) (oi := ⟨some 121, .pick (.tmp 86) (.tmp 120) (.const (.bool false)), 4, _, _, none⟩) (v := ?_) rfl (by kernel_rfl) (by kernel_rfl) (by kernel_rfl) (fun _ _ _ h => h) (Or.inl ⟨by rfl, ?_⟩) hSS ?_; rotate_left
                      · intro w9 hSw; (try dsimp only at hSw); (try go_split_ands); first | (go_simp; done) | (go_simp; with_reducible rfl)
                      try simp only [put, setIfInBounds_toArray, set_cons_zero, set_cons_succ]
                      refine wpAnyH_done (by kernel_rfl) ?_ _
                      clear hSS kS
                      go_wp2
                      go_roundw
                      case rel => exact ⟨q + 1, by omega, by go_num, NX.out, BTd.out⟩
                      case measure => simp [intOf]; omega
              · have o4 : sz < t := by omega
                have o3 : ¬ t ≤ f := by omega
                have FN := hid (HN1.out (by rw [HCK.out]; unfold okR; simp [o2]))
                clear HIN HN1 HCK HPV v0 v1 v2
                go_wp2
                all_goals go_ret
                all_goals exact ⟨by rw [FN.out]; rfl, HBW.out _ (by rw [← HW2.out]; exact BT.out)⟩
            · have o3 : t ≤ f := by omega
              have FN := hid (HN1.out (by rw [HCK.out]; unfold okR; simp [o1]))
              clear HIN HN1 HCK HPV v0 v1 v2
              go_wp2
              all_goals go_ret
              all_goals exact ⟨by rw [FN.out]; rfl, HBW.out _ (by rw [← HW2.out]; exact BT.out)⟩
          · have b1 : (k != 1) = true := by simpa using k1
            have b2 : (k != 2) = true := by simpa using k2
            have FN := hid (HN1.out (by rw [HCK.out]; unfold okR; simp [k1, k2]))
            clear HIN HN1 HCK HPV v0 v1 v2
            go_wp2
            all_goals go_ret
            all_goals exact ⟨by rw [FN.out]; rfl, HBW.out _ (by rw [← HW2.out]; exact BT.out)⟩
        · have hqe : q = n := by omega
          have hqn' : ¬ (q : Int) < (n : Int) := by omega
          have FN := hid (HYP.out (by rw [← hqe]; exact hall))
          have BT := hid hbt
          obtain ⟨sb1, sb2, sb4⟩ := hC
          clear hall hbt
          go_wp2
          go_ret
          exact ⟨by rw [FN.out]; rfl, HBW.out _ BT.out⟩
  · by_cases m0 : sm = 0
    · have hi : inc = false := hinc
      subst hi
      subst m0
      have HNP : Hid (∀ q, q < n → chkR sz false l q = false → PR = false) := fun q a b => by rw [HPR.out, HNO.out q a b, Bool.and_false]
      have HYP : Hid ((∀ j, j < n → chkR sz false l j = true) → PR = true) := fun a => by rw [HPR.out, HYES.out a, e1.out, e2.out]; rfl
      clear HPR HNO HYES hinc
      go_wp2_with fail
      rw [← HW0.out, ← HSB.out]
      clear HW0 HSB
      go_loopw [3] (fun iv wt => ∃ q : Nat, q ≤ n ∧ iv = .int .i64 (q : Int) ∧ (∀ j, j < q → chkR sz false l j = true) ∧ Below w0.heap.size w0 wt) (fun iv _ => n - (intOf iv).toNat)
      case atStart => exact ⟨0, Nat.zero_le _, rfl, fun j hj => absurd hj (by omega), B0.out⟩
      case round =>
        clear B0
        obtain ⟨q, hq, rfl, hall, hbt⟩ := hrel
        have hC := HC.out wr hbt
        by_cases hqn : q < n
        · have hqn' : (q : Int) < (n : Int) := by omega
          obtain ⟨g, rfl, hlt, hcl⟩ := HG.out (by omega)
          obtain ⟨r, hrq⟩ : ∃ r, l[q]? = some r := ⟨l[q]'(by omega), List.getElem?_eq_getElem (by omega)⟩
          obtain ⟨u0, u1, u2, dx, dy, dz, u3⟩ := hcl wr hbt q r hrq
          obtain ⟨w2, hw2⟩ : ∃ w2, w2 = wr.alloc (.cells #[.int .i64 r.1, .int .i64 r.2.1, .int .i64 r.2.2, .slice dx dy dz] 51) := ⟨_, rfl⟩
          obtain ⟨rb, hrb⟩ : ∃ rb, rb = wr.heap.size := ⟨_, rfl⟩
          have hb2 : Below w0.heap.size w0 w2 := by rw [hw2]; exact hbt.alloc hbt.size _
          have hgd : l.getD q (0, 0, 0) = r := by rw [List.getD_eq_getElem?_getD, hrq]; rfl
          have BT := hid hb2
          have BTd := hid hb2.drew
          obtain ⟨sb1, sb2, sb4⟩ := HC.out w2 hb2
          have sb4' := sb4
          have sc4 := hC.2.2
          have v0 : w2.cell? ⟨rb, 0, none⟩ = some (.int .i64 r.1) := by rw [hrb]; exact cell_al hw2 0 _ rfl
          have v1 : w2.cell? ⟨rb, 1, none⟩ = some (.int .i64 r.2.1) := by rw [hrb]; exact cell_al hw2 1 _ rfl
          have v2 : w2.cell? ⟨rb, 2, none⟩ = some (.int .i64 r.2.2) := by rw [hrb]; exact cell_al hw2 2 _ rfl
          have HPV : Hid (0 < q → ∃ p r', q = p + 1 ∧ l[p]? = some r' ∧ w2.cell? ⟨g, p * 4 + 2, none⟩ = some (.int .i64 r'.2.2) ∧ w2.cell? ⟨g, p * 4, none⟩ = some (.int .i64 r'.1)) := fun h0 => by
            have hp : q - 1 < l.length := by omega
            obtain ⟨t0, _, t2, _⟩ := hcl w2 hb2 (q - 1) _ (List.getElem?_eq_getElem hp)
            exact ⟨q - 1, _, by omega, List.getElem?_eq_getElem hp, t2, t0⟩
          have HA := hid hall
          have HIN : Hid (chkR sz false l q = true → ∀ j, j < q + 1 → chkR sz false l j = true) := fun e j hj => by
            rcases Nat.lt_or_ge j q with a | a
            · exact HA.out j a
            · obtain rfl : j = q := by omega
              exact e
          have HN1 := hid (HNP.out q hqn)
          have HCK : Hid (chkR sz false l q = (okR sz false (r.1, r.2.1, r.2.2) && (decide (q = 0) || ahead (l.getD (q - 1) (0, 0, 0)).1 (l.getD (q - 1) (0, 0, 0)).2.2 r.1 r.2.1))) := hid (by unfold chkR; rw [hgd])
          rw [hw2] at sb1 sb2 sb4
          have HW2 := hid hw2
          have HRB := hid hrb
          clear hall hbt hb2 hcl hC hlt hgd hrq HA hw2 hrb
          generalize r.1 = k at *
          generalize r.2.1 = f at *
          generalize hr22 : r.2.2 = t at *
          clear hr22
          by_cases k1 : k = 1
          · subst k1
            by_cases o1 : f < t
            · by_cases o2 : t ≤ sz
              · have o3 : ¬ t ≤ f := by omega
                have o4 : ¬ sz < t := by omega
                go_wp2_with fail
                rw [← HW2.out, ← HRB.out]
                have HOK : Hid (okR sz false ((1 : Int), f, t) = true) := hid (by unfold okR; simp [o1, o2])
                by_cases q0 : q = 0
                · have NX := hid (HIN.out (by rw [HCK.out, HOK.out, show decide (q = 0) = true from by simp [q0]]; rfl))
                  have z0 : ¬ (0 : Int) < (q : Int) := by omega
                  have kS := v0
                  clear HIN HN1 HCK HOK HPV v0 v1 v2 u0 u1 u2 u3 sb1 sb2 sb4 HW2 HRB
                  refine wp_region_held_drew (S := fun w' => (w'.cell? ⟨rb, 0, none⟩ = some (.int .i64 1))) (by kernel_rfl) kS (fun hSS => ?_)
                  refine wpAnyH_take (i := 0) (oi := ⟨some 84, .move (.tmp 3), 3, _, _, none⟩) (v := ?_) rfl (by kernel_rfl) (by kernel_rfl) (by kernel_rfl) (fun _ _ _ h => h) (Or.inl ⟨by rfl, ?_⟩) hSS ?_; rotate_left
                  · intro w9 hSw; (try dsimp only at hSw); (try go_split_ands); first | (go_simp; done) | (go_simp; with_reducible rfl)
                  try simp only [put, setIfInBounds_toArray, set_cons_zero, set_cons_succ]
                  refine wpAnyH_take (i := 1) (oi := ⟨some 85, .binOp .gtr 3 (.tmp 84) (.const (.int .i64 0)) 3, 4, _, _, none⟩) (v := .bool false) rfl (by kernel_rfl) (by kernel_rfl) (by kernel_rfl) (fun _ _ _ h => h) (Or.inl ⟨by rfl, ?_⟩) hSS ?_
                  · intro w9 hSw; (try dsimp only at hSw); (try go_split_ands); first | (go_simp; done) | (go_simp; simp [z0]; done)
                  try simp only [put, setIfInBounds_toArray, set_cons_zero, set_cons_succ]
                  refine wpAnyH_take (i := 2) (oi := ⟨some 86, .move (.tmp 85), 4, _, _, none⟩) (v := ?_) rfl (by kernel_rfl) (by kernel_rfl) (by kernel_rfl) (fun _ _ _ h => h) (Or.inl ⟨by rfl, ?_⟩) hSS ?_; rotate_left
                  · intro w9 hSw; (try dsimp only at hSw); (try go_split_ands); first | (go_simp; done) | (go_simp; with_reducible rfl)
                  try simp only [put, setIfInBounds_toArray, set_cons_zero, set_cons_succ]
                  refine wpAnyH_take (i := 3) (oi := ⟨some 87, .fieldAddr 51 (.tmp 4) 1, 0, _, _, some (2, true)⟩) (v := undef) rfl (by kernel_rfl) (by kernel_rfl) (by kernel_rfl) (fun _ _ _ h => h) (Or.inr ⟨by rfl, rfl⟩) hSS ?_
                  try simp only [put, setIfInBounds_toArray, set_cons_zero, set_cons_succ]
                  refine wpAnyH_take (i := 4) (oi := ⟨some 88, .load 3 (.tmp 87), 3, _, _, some (2, true)⟩) (v := undef) rfl (by kernel_rfl) (by kernel_rfl) (by kernel_rfl) (fun _ _ _ h => h) (Or.inr ⟨by rfl, rfl⟩) hSS ?_
                  try simp only [put, setIfInBounds_toArray, set_cons_zero, set_cons_succ]
                  refine wpAnyH_take (i := 5) (oi := ⟨some 89, .fieldAddr 47 (.tmp 1) 4, 0, _, _, some (2, true)⟩) (v := undef) rfl (by kernel_rfl) (by kernel_rfl) (by kernel_rfl) (fun _ _ _ h => h) (Or.inr ⟨by rfl, rfl⟩) hSS ?_
                  try simp only [put, setIfInBounds_toArray, set_cons_zero, set_cons_succ]
                  refine wpAnyH_take (i := 6) (oi := ⟨some 90, .load 45 (.tmp 89), 45, _, _, some (2, true)⟩) (v := undef) rfl (by kernel_rfl) (by kernel_rfl) (by kernel_rfl) (fun _ _ _ h => h) (Or.inr ⟨by rfl, rfl⟩) hSS ?_
                  try simp only [put, setIfInBounds_toArray, set_cons_zero, set_cons_succ]
                  refine wpAnyH_take (i := 7) (oi := ⟨some 91, .move (.tmp 3), 3, _, _, some (2, true)⟩) (v := undef) rfl (by kernel_rfl) (by kernel_rfl) (by kernel_rfl) (fun _ _ _ h => h) (Or.inr ⟨by rfl, rfl⟩) hSS ?_
                  try simp only [put, setIfInBounds_toArray, set_cons_zero, set_cons_succ]
                  refine wpAnyH_take (i := 8) (oi := ⟨some 92, .binOp .sub 3 (.tmp 91) (.const (.int .i64 1)) 3, 3, _, _, some (2, true)⟩) (v := undef) rfl (by kernel_rfl) (by kernel_rfl) (by kernel_rfl) (fun _ _ _ h => h) (Or.inr ⟨by rfl, rfl⟩) hSS ?_
                  try simp only [put, setIfInBounds_toArray, set_cons_zero, set_cons_succ]
                  refine wpAnyH_take (i := 9) (oi := ⟨some 93, .indexAddr 45 (.tmp 90) (.tmp 92), 0, _, _, some (2, true)⟩) (v := undef) rfl (by kernel_rfl) (by kernel_rfl) (by kernel_rfl) (fun _ _ _ h => h) (Or.inr ⟨by rfl, rfl⟩) hSS ?_
                  try simp only [put, setIfInBounds_toArray, set_cons_zero, set_cons_succ]
                  refine wpAnyH_take (i := 10) (oi := ⟨some 94, .fieldAddr 51 (.tmp 93) 2, 0, _, _, some (2, true)⟩) (v := undef) rfl (by kernel_rfl) (by kernel_rfl) (by kernel_rfl) (fun _ _ _ h => h) (Or.inr ⟨by rfl, rfl⟩) hSS ?_
                  try simp only [put, setIfInBounds_toArray, set_cons_zero, set_cons_succ]
                  refine wpAnyH_take (i := 11) (oi := ⟨some 95, .load 3 (.tmp 94), 3, _, _, some (2, true)⟩) (v := undef) rfl (by kernel_rfl) (by kernel_rfl) (by kernel_rfl) (fun _ _ _ h => h) (Or.inr ⟨by rfl, rfl⟩) hSS ?_
                  try simp only [put, setIfInBounds_toArray, set_cons_zero, set_cons_succ]
                  refine wpAnyH_take (i := 12) (oi := ⟨some 96, .binOp .lss 3 (.tmp 88) (.tmp 95) 3, 4, _, _, some (2, true)⟩) (v := undef) rfl (by kernel_rfl) (by kernel_rfl) (by kernel_rfl) (fun _ _ _ h => h) (Or.inr ⟨by rfl, rfl⟩) hSS ?_
                  try simp only [put, setIfInBounds_toArray, set_cons_zero, set_cons_succ]
                  refine wpAnyH_take (i := 13) (oi := ⟨some 97, .move (.tmp 96), 4, _, _, some (2, true)⟩) (v := undef) rfl (by kernel_rfl) (by kernel_rfl) (by kernel_rfl) (fun _ _ _ h => h) (Or.inr ⟨by rfl, rfl⟩) hSS ?_
                  try simp only [put, setIfInBounds_toArray, set_cons_zero, set_cons_succ]
                  refine wpAnyH_take (i := 14) (oi := ⟨some 98, .fieldAddr 51 (.tmp 4) 1, 0, _, _, some (13, false)⟩) (v := undef) rfl (by kernel_rfl) (by kernel_rfl) (by kernel_rfl) (fun _ _ _ h => h) (Or.inr ⟨by rfl, rfl⟩) hSS ?_
                  try simp only [put, setIfInBounds_toArray, set_cons_zero, set_cons_succ]
                  refine wpAnyH_take (i := 15) (oi := ⟨some 99, .load 3 (.tmp 98), 3, _, _, some (13, false)⟩) (v := undef) rfl (by kernel_rfl) (by kernel_rfl) (by kernel_rfl) (fun _ _ _ h => h) (Or.inr ⟨by rfl, rfl⟩) hSS ?_
                  try simp only [put, setIfInBounds_toArray, set_cons_zero, set_cons_succ]
                  refine wpAnyH_take (i := 16) (oi := ⟨some 100, .fieldAddr 47 (.tmp 1) 4, 0, _, _, some (13, false)⟩) (v := undef) rfl (by kernel_rfl) (by kernel_rfl) (by kernel_rfl) (fun _ _ _ h => h) (Or.inr ⟨by rfl, rfl⟩) hSS ?_
                  try simp only [put, setIfInBounds_toArray, set_cons_zero, set_cons_succ]
                  refine wpAnyH_take (i := 17) (oi := ⟨some 101, .load 45 (.tmp 100), 45, _, _, some (13, false)⟩) (v := undef) rfl (by kernel_rfl) (by kernel_rfl) (by kernel_rfl) (fun _ _ _ h => h) (Or.inr ⟨by rfl, rfl⟩) hSS ?_
                  try simp only [put, setIfInBounds_toArray, set_cons_zero, set_cons_succ]
                  refine wpAnyH_take (i := 18) (oi := ⟨some 102, .move (.tmp 3), 3, _, _, some (13, false)⟩) (v := undef) rfl (by kernel_rfl) (by kernel_rfl) (by kernel_rfl) (fun _ _ _ h => h) (Or.inr ⟨by rfl, rfl⟩) hSS ?_
                  try simp only [put, setIfInBounds_toArray, set_cons_zero, set_cons_succ]
                  refine wpAnyH_take (i := 19) (oi := ⟨some 103, .binOp .sub 3 (.tmp 102) (.const (.int .i64 1)) 3, 3, _, _, some (13, false)⟩) (v := undef) rfl (by kernel_rfl) (by kernel_rfl) (by kernel_rfl) (fun _ _ _ h => h) (Or.inr ⟨by rfl, rfl⟩) hSS ?_
                  try simp only [put, setIfInBounds_toArray, set_cons_zero, set_cons_succ]
                  refine wpAnyH_take (i := 20) (oi := ⟨some 104, .indexAddr 45 (.tmp 101) (.tmp 103), 0, _, _, some (13, false)⟩) (v := undef) rfl (by kernel_rfl) (by kernel_rfl) (by kernel_rfl) (fun _ _ _ h => h) (Or.inr ⟨by rfl, rfl⟩) hSS ?_
                  try simp only [put, setIfInBounds_toArray, set_cons_zero, set_cons_succ]
                  refine wpAnyH_take (i := 21) (oi := ⟨some 105, .fieldAddr 51 (.tmp 104) 2, 0, _, _, some (13, false)⟩) (v := undef) rfl (by kernel_rfl) (by kernel_rfl) (by kernel_rfl) (fun _ _ _ h => h) (Or.inr ⟨by rfl, rfl⟩) hSS ?_
                  try simp only [put, setIfInBounds_toArray, set_cons_zero, set_cons_succ]
                  refine wpAnyH_take (i := 22) (oi := ⟨some 106, .load 3 (.tmp 105), 3, _, _, some (13, false)⟩) (v := undef) rfl (by kernel_rfl) (by kernel_rfl) (by kernel_rfl) (fun _ _ _ h => h) (Or.inr ⟨by rfl, rfl⟩) hSS ?_
                  try simp only [put, setIfInBounds_toArray, set_cons_zero, set_cons_succ]
                  refine wpAnyH_take (i := 23) (oi := ⟨some 107, .binOp .eql 3 (.tmp 99) (.tmp 106) 3, 4, _, _, some (13, false)⟩) (v := undef) rfl (by kernel_rfl) (by kernel_rfl) (by kernel_rfl) (fun _ _ _ h => h) (Or.inr ⟨by rfl, rfl⟩) hSS ?_
                  try simp only [put, setIfInBounds_toArray, set_cons_zero, set_cons_succ]
                  refine wpAnyH_take (i := 24) (oi := ⟨some 108, .move (.tmp 107), 4, _, _, some (13, false)⟩) (v := undef) rfl (by kernel_rfl) (by kernel_rfl) (by kernel_rfl) (fun _ _ _ h => h) (Or.inr ⟨by rfl, rfl⟩) hSS ?_
                  try simp only [put, setIfInBounds_toArray, set_cons_zero, set_cons_succ]
                  refine wpAnyH_take (i := 25) (oi := ⟨some 109, .fieldAddr 51 (.tmp 4) 0, 0, _, _, some (24, true)⟩) (v := undef) rfl (by kernel_rfl) (by kernel_rfl) (by kernel_rfl) (fun _ _ _ h => h) (Or.inr ⟨by rfl, rfl⟩) hSS ?_
                  try simp only [put, setIfInBounds_toArray, set_cons_zero, set_cons_succ]
                  refine wpAnyH_take (i := 26) (oi := ⟨some 110, .load 3 (.tmp 109), 3, _, _, some (24, true)⟩) (v := undef) rfl (by kernel_rfl) (by kernel_rfl) (by kernel_rfl) (fun _ _ _ h => h) (Or.inr ⟨by rfl, rfl⟩) hSS ?_
                  try simp only [put, setIfInBounds_toArray, set_cons_zero, set_cons_succ]
                  refine wpAnyH_take (i := 27) (oi := ⟨some 111, .fieldAddr 47 (.tmp 1) 4, 0, _, _, some (24, true)⟩) (v := undef) rfl (by kernel_rfl) (by kernel_rfl) (by kernel_rfl) (fun _ _ _ h => h) (Or.inr ⟨by rfl, rfl⟩) hSS ?_
                  try simp only [put, setIfInBounds_toArray, set_cons_zero, set_cons_succ]
                  refine wpAnyH_take (i := 28) (oi := ⟨some 112, .load 45 (.tmp 111), 45, _, _, some (24, true)⟩) (v := undef) rfl (by kernel_rfl) (by kernel_rfl) (by kernel_rfl) (fun _ _ _ h => h) (Or.inr ⟨by rfl, rfl⟩) hSS ?_
                  try simp only [put, setIfInBounds_toArray, set_cons_zero, set_cons_succ]
                  refine wpAnyH_take (i := 29) (oi := ⟨some 113, .move (.tmp 3), 3, _, _, some (24, true)⟩) (v := undef) rfl (by kernel_rfl) (by kernel_rfl) (by kernel_rfl) (fun _ _ _ h => h) (Or.inr ⟨by rfl, rfl⟩) hSS ?_
                  try simp only [put, setIfInBounds_toArray, set_cons_zero, set_cons_succ]
                  refine wpAnyH_take (i := 30) (oi := ⟨some 114, .binOp .sub 3 (.tmp 113) (.const (.int .i64 1)) 3, 3, _, _, some (24, true)⟩) (v := undef) rfl (by kernel_rfl) (by kernel_rfl) (by kernel_rfl) (fun _ _ _ h => h) (Or.inr ⟨by rfl, rfl⟩) hSS ?_
                  try simp only [put, setIfInBounds_toArray, set_cons_zero, set_cons_succ]
                  refine wpAnyH_take (i := 31) (oi := ⟨some 115, .indexAddr 45 (.tmp 112) (.tmp 114), 0, _, _, some (24, true)⟩) (v := undef) rfl (by kernel_rfl) (by kernel_rfl) (by kernel_rfl) (fun _ _ _ h => h) (Or.inr ⟨by rfl, rfl⟩) hSS ?_
                  try simp only [put, setIfInBounds_toArray, set_cons_zero, set_cons_succ]
                  refine wpAnyH_take (i := 32) (oi := ⟨some 116, .fieldAddr 51 (.tmp 115) 0, 0, _, _, some (24, true)⟩) (v := undef) rfl (by kernel_rfl) (by kernel_rfl) (by kernel_rfl) (fun _ _ _ h => h) (Or.inr ⟨by rfl, rfl⟩) hSS ?_
                  try simp only [put, setIfInBounds_toArray, set_cons_zero, set_cons_succ]
                  refine wpAnyH_take (i := 33) (oi := ⟨some 117, .load 3 (.tmp 116), 3, _, _, some (24, true)⟩) (v := undef) rfl (by kernel_rfl) (by kernel_rfl) (by kernel_rfl) (fun _ _ _ h => h) (Or.inr ⟨by rfl, rfl⟩) hSS ?_
                  try simp only [put, setIfInBounds_toArray, set_cons_zero, set_cons_succ]
                  refine wpAnyH_take (i := 34) (oi := ⟨some 118, .binOp .eql 3 (.tmp 110) (.tmp 117) 3, 4, _, _, some (24, true)⟩) (v := undef) rfl (by kernel_rfl) (by kernel_rfl) (by kernel_rfl) (fun _ _ _ h => h) (Or.inr ⟨by rfl, rfl⟩) hSS ?_
                  try simp only [put, setIfInBounds_toArray, set_cons_zero, set_cons_succ]
                  refine wpAnyH_take (i := 35) (oi := ⟨some 119, .pick (.tmp 108) (.tmp 118) (.const (.bool false)), 4, _, _, some (13, false)⟩) (v := undef) rfl (by kernel_rfl) (by kernel_rfl) (by kernel_rfl) (fun _ _ _ h => h) (Or.inr ⟨by rfl, rfl⟩) hSS ?_
                  try simp only [put, setIfInBounds_toArray, set_cons_zero, set_cons_succ]
                  refine wpAnyH_take (i := 36) (oi := ⟨some 120, .pick (.tmp 97) (.const (.bool true)) (.tmp 119), 4, _, _, some (2, true)⟩) (v := undef) rfl (by kernel_rfl) (by kernel_rfl) (by kernel_rfl) (fun _ _ _ h => h) (Or.inr ⟨by rfl, rfl⟩) hSS ?_
                  try simp only [put, setIfInBounds_toArray, set_cons_zero, set_cons_succ]
                  refine wpAnyH_take (i := 37) (oi := ⟨some 121, .pick (.tmp 86) (.tmp 120) (.const (.bool false)), 4, _, _, none⟩) (v := ?_) rfl (by kernel_rfl) (by kernel_rfl) (by kernel_rfl) (fun _ _ _ h => h) (Or.inl ⟨by rfl, ?_⟩) hSS ?_; rotate_left
                  · intro w9 hSw; (try dsimp only at hSw); (try go_split_ands); first | (go_simp; done) | (go_simp; with_reducible rfl)
                  try simp only [put, setIfInBounds_toArray, set_cons_zero, set_cons_succ]
                  refine wpAnyH_done (by kernel_rfl) ?_ _
                  clear hSS kS
                  go_wp2
                  go_roundw
                  case rel => exact ⟨q + 1, by omega, by go_num, NX.out, BTd.out⟩
                  case measure => simp [intOf]; omega
                · obtain ⟨p, r', hqp, hrp, p2, p0⟩ := HPV.out (by omega)
                  have hgp : l.getD (q - 1) (0, 0, 0) = r' := by rw [hqp, Nat.add_sub_cancel, List.getD_eq_getElem?_getD, hrp]; rfl
                  have HCK2 : Hid (chkR sz false l q = ahead r'.1 r'.2.2 (1 : Int) f) := hid (by rw [HCK.out, HOK.out, hgp, show decide (q = 0) = false from by simp [q0]]; rfl)
                  have z1 : (0 : Int) < (q : Int) := by omega
                  have zq : (q : Int) - 1 = (p : Int) := by omega
                  have zp : (p : Int) < (n : Int) := by omega
                  have zw : IntKind.i64.wrap (p : Int) = (p : Int) := by rw [IntKind.wrap_i64]; omega
                  have kS := And.intro v0 (And.intro v1 (And.intro sb4' (And.intro p2 p0)))
                  clear HCK HOK HPV v0 v1 v2 u0 u1 u2 u3 sb1 sb2 sb4 sb4' HW2 HRB hgp hrp p2 p0
                  generalize r'.1 = pk at *
                  generalize r'.2.2 = pt at *
                  by_cases z2 : f < pt
                  · have FN := hid (HN1.out (by rw [HCK2.out]; exact ahead_no1 z2))
                    clear HIN HN1 HCK2
                    refine wp_region_held_drew (S := fun w' => (w'.cell? ⟨rb, 0, none⟩ = some (.int .i64 1) ∧ w'.cell? ⟨rb, 1, none⟩ = some (.int .i64 f) ∧ w'.cell? ⟨sb, 4, none⟩ = some (.slice (some ⟨g, 0, none⟩) n rc) ∧ w'.cell? ⟨g, p * 4 + 2, none⟩ = some (.int .i64 pt) ∧ w'.cell? ⟨g, p * 4, none⟩ = some (.int .i64 pk))) (by kernel_rfl) kS (fun hSS => ?_)
                    refine wpAnyH_take (i := 0) (oi := ⟨some 84, .move (.tmp 3), 3, _, _, none⟩) (v := ?_) rfl (by kernel_rfl) (by kernel_rfl) (by kernel_rfl) (fun _ _ _ h => h) (Or.inl ⟨by rfl, ?_⟩) hSS ?_; rotate_left
                    · intro w9 hSw; (try dsimp only at hSw); (try go_split_ands); first | (go_simp; done) | (go_simp; with_reducible rfl)
                    try simp only [put, setIfInBounds_toArray, set_cons_zero, set_cons_succ]
                    refine wpAnyH_take (i := 1) (oi := ⟨some 85, .binOp .gtr 3 (.tmp 84) (.const (.int .i64 0)) 3, 4, _, _, none⟩) (v := .bool true) rfl (by kernel_rfl) (by kernel_rfl) (by kernel_rfl) (fun _ _ _ h => h) (Or.inl ⟨by rfl, ?_⟩) hSS ?_
                    · intro w9 hSw; (try dsimp only at hSw); (try go_split_ands); first | (go_simp; done) | (go_simp; simp [z1]; done)
                    try simp only [put, setIfInBounds_toArray, set_cons_zero, set_cons_succ]
                    refine wpAnyH_take (i := 2) (oi := ⟨some 86, .move (.tmp 85), 4, _, _, none⟩) (v := ?_) rfl (by kernel_rfl) (by kernel_rfl) (by kernel_rfl) (fun _ _ _ h => h) (Or.inl ⟨by rfl, ?_⟩) hSS ?_; rotate_left
                    · intro w9 hSw; (try dsimp only at hSw); (try go_split_ands); first | (go_simp; done) | (go_simp; with_reducible rfl)
                    try simp only [put, setIfInBounds_toArray, set_cons_zero, set_cons_succ]
                    refine wpAnyH_take (i := 3) (oi := ⟨some 87, .fieldAddr 51 (.tmp 4) 1, 0, _, _, some (2, true)⟩) (v := ?_) rfl (by kernel_rfl) (by kernel_rfl) (by kernel_rfl) (fun _ _ _ h => h) (Or.inl ⟨by rfl, ?_⟩) hSS ?_; rotate_left
                    · intro w9 hSw; (try dsimp only at hSw); (try go_split_ands); first | (go_simp; done) | (go_simp; with_reducible rfl)
                    try simp only [put, setIfInBounds_toArray, set_cons_zero, set_cons_succ]
                    refine wpAnyH_take (i := 4) (oi := ⟨some 88, .load 3 (.tmp 87), 3, _, _, some (2, true)⟩) (v := ?_) rfl (by kernel_rfl) (by kernel_rfl) (by kernel_rfl) (fun _ _ _ h => h) (Or.inl ⟨by rfl, ?_⟩) hSS ?_; rotate_left
                    · intro w9 hSw; (try dsimp only at hSw); (try go_split_ands); first | (go_simp; done) | (go_simp; with_reducible rfl)
                    try simp only [put, setIfInBounds_toArray, set_cons_zero, set_cons_succ]
                    refine wpAnyH_take (i := 5) (oi := ⟨some 89, .fieldAddr 47 (.tmp 1) 4, 0, _, _, some (2, true)⟩) (v := ?_) rfl (by kernel_rfl) (by kernel_rfl) (by kernel_rfl) (fun _ _ _ h => h) (Or.inl ⟨by rfl, ?_⟩) hSS ?_; rotate_left
                    · intro w9 hSw; (try dsimp only at hSw); (try go_split_ands); first | (go_simp; done) | (go_simp; with_reducible rfl)
                    try simp only [put, setIfInBounds_toArray, set_cons_zero, set_cons_succ]
                    refine wpAnyH_take (i := 6) (oi := ⟨some 90, .load 45 (.tmp 89), 45, _, _, some (2, true)⟩) (v := ?_) rfl (by kernel_rfl) (by kernel_rfl) (by kernel_rfl) (fun _ _ _ h => h) (Or.inl ⟨by rfl, ?_⟩) hSS ?_; rotate_left
                    · intro w9 hSw; (try dsimp only at hSw); (try go_split_ands); first | (go_simp; done) | (go_simp; with_reducible rfl)
                    try simp only [put, setIfInBounds_toArray, set_cons_zero, set_cons_succ]
                    refine wpAnyH_take (i := 7) (oi := ⟨some 91, .move (.tmp 3), 3, _, _, some (2, true)⟩) (v := ?_) rfl (by kernel_rfl) (by kernel_rfl) (by kernel_rfl) (fun _ _ _ h => h) (Or.inl ⟨by rfl, ?_⟩) hSS ?_; rotate_left
                    · intro w9 hSw; (try dsimp only at hSw); (try go_split_ands); first | (go_simp; done) | (go_simp; with_reducible rfl)
                    try simp only [put, setIfInBounds_toArray, set_cons_zero, set_cons_succ]
                    refine wpAnyH_take (i := 8) (oi := ⟨some 92, .binOp .sub 3 (.tmp 91) (.const (.int .i64 1)) 3, 3, _, _, some (2, true)⟩) (v := ?_) rfl (by kernel_rfl) (by kernel_rfl) (by kernel_rfl) (fun _ _ _ h => h) (Or.inl ⟨by rfl, ?_⟩) hSS ?_; rotate_left
                    · intro w9 hSw; (try dsimp only at hSw); (try go_split_ands); first | (go_simp; done) | (go_simp; with_reducible rfl)
                    try simp only [put, setIfInBounds_toArray, set_cons_zero, set_cons_succ]
                    refine wpAnyH_take (i := 9) (oi := ⟨some 93, .indexAddr 45 (.tmp 90) (.tmp 92), 0, _, _, some (2, true)⟩) (v := ?_) rfl (by kernel_rfl) (by kernel_rfl) (by kernel_rfl) (fun _ _ _ h => h) (Or.inl ⟨by rfl, ?_⟩) hSS ?_; rotate_left
                    · intro w9 hSw; (try dsimp only at hSw); (try go_split_ands); first | (go_simp; done) | (go_simp; with_reducible rfl)
                    try simp only [put, setIfInBounds_toArray, set_cons_zero, set_cons_succ]
                    refine wpAnyH_take (i := 10) (oi := ⟨some 94, .fieldAddr 51 (.tmp 93) 2, 0, _, _, some (2, true)⟩) (v := ?_) rfl (by kernel_rfl) (by kernel_rfl) (by kernel_rfl) (fun _ _ _ h => h) (Or.inl ⟨by rfl, ?_⟩) hSS ?_; rotate_left
                    · intro w9 hSw; (try dsimp only at hSw); (try go_split_ands); first | (go_simp; done) | (go_simp; with_reducible rfl)
                    try simp only [put, setIfInBounds_toArray, set_cons_zero, set_cons_succ]
                    refine wpAnyH_take (i := 11) (oi := ⟨some 95, .load 3 (.tmp 94), 3, _, _, some (2, true)⟩) (v := ?_) rfl (by kernel_rfl) (by kernel_rfl) (by kernel_rfl) (fun _ _ _ h => h) (Or.inl ⟨by rfl, ?_⟩) hSS ?_; rotate_left
                    · intro w9 hSw; (try dsimp only at hSw); (try go_split_ands); first | (go_simp; done) | (go_simp; with_reducible rfl)
                    try simp only [put, setIfInBounds_toArray, set_cons_zero, set_cons_succ]
                    refine wpAnyH_take (i := 12) (oi := ⟨some 96, .binOp .lss 3 (.tmp 88) (.tmp 95) 3, 4, _, _, some (2, true)⟩) (v := .bool true) rfl (by kernel_rfl) (by kernel_rfl) (by kernel_rfl) (fun _ _ _ h => h) (Or.inl ⟨by rfl, ?_⟩) hSS ?_
                    · intro w9 hSw; (try dsimp only at hSw); (try go_split_ands); first | (go_simp; done) | (go_simp; simp [z2]; done)
                    try simp only [put, setIfInBounds_toArray, set_cons_zero, set_cons_succ]
                    refine wpAnyH_take (i := 13) (oi := ⟨some 97, .move (.tmp 96), 4, _, _, some (2, true)⟩) (v := ?_) rfl (by kernel_rfl) (by kernel_rfl) (by kernel_rfl) (fun _ _ _ h => h) (Or.inl ⟨by rfl, ?_⟩) hSS ?_; rotate_left
                    · intro w9 hSw; (try dsimp only at hSw); (try go_split_ands); first | (go_simp; done) | (go_simp; with_reducible rfl)
                    try simp only [put, setIfInBounds_toArray, set_cons_zero, set_cons_succ]
                    refine wpAnyH_take (i := 14) (oi := ⟨some 98, .fieldAddr 51 (.tmp 4) 1, 0, _, _, some (13, false)⟩) (v := undef) rfl (by kernel_rfl) (by kernel_rfl) (by kernel_rfl) (fun _ _ _ h => h) (Or.inr ⟨by rfl, rfl⟩) hSS ?_
                    try simp only [put, setIfInBounds_toArray, set_cons_zero, set_cons_succ]
                    refine wpAnyH_take (i := 15) (oi := ⟨some 99, .load 3 (.tmp 98), 3, _, _, some (13, false)⟩) (v := undef) rfl (by kernel_rfl) (by kernel_rfl) (by kernel_rfl) (fun _ _ _ h => h) (Or.inr ⟨by rfl, rfl⟩) hSS ?_
                    try simp only [put, setIfInBounds_toArray, set_cons_zero, set_cons_succ]
                    refine wpAnyH_take (i := 16) (oi := ⟨some 100, .fieldAddr 47 (.tmp 1) 4, 0, _, _, some (13, false)⟩) (v := undef) rfl (by kernel_rfl) (by kernel_rfl) (by kernel_rfl) (fun _ _ _ h => h) (Or.inr ⟨by rfl, rfl⟩) hSS ?_
                    try simp only [put, setIfInBounds_toArray, set_cons_zero, set_cons_succ]
                    refine wpAnyH_take (i := 17) (oi := ⟨some 101, .load 45 (.tmp 100), 45, _, _, some (13, false)⟩) (v := undef) rfl (by kernel_rfl) (by kernel_rfl) (by kernel_rfl) (fun _ _ _ h => h) (Or.inr ⟨by rfl, rfl⟩) hSS ?_
                    try simp only [put, setIfInBounds_toArray, set_cons_zero, set_cons_succ]
                    refine wpAnyH_take (i := 18) (oi := ⟨some 102, .move (.tmp 3), 3, _, _, some (13, false)⟩) (v := undef) rfl (by kernel_rfl) (by kernel_rfl) (by kernel_rfl) (fun _ _ _ h => h) (Or.inr ⟨by rfl, rfl⟩) hSS ?_
                    try simp only [put, setIfInBounds_toArray, set_cons_zero, set_cons_succ]
                    refine wpAnyH_take (i := 19) (oi := ⟨some 103, .binOp .sub 3 (.tmp 102) (.const (.int .i64 1)) 3, 3, _, _, some (13, false)⟩) (v := undef) rfl (by kernel_rfl) (by kernel_rfl) (by kernel_rfl) (fun _ _ _ h => h) (Or.inr ⟨by rfl, rfl⟩) hSS ?_
                    try simp only [put, setIfInBounds_toArray, set_cons_zero, set_cons_succ]
                    refine wpAnyH_take (i := 20) (oi := ⟨some 104, .indexAddr 45 (.tmp 101) (.tmp 103), 0, _, _, some (13, false)⟩) (v := undef) rfl (by kernel_rfl) (by kernel_rfl) (by kernel_rfl) (fun _ _ _ h => h) (Or.inr ⟨by rfl, rfl⟩) hSS ?_
                    try simp only [put, setIfInBounds_toArray, set_cons_zero, set_cons_succ]
                    refine wpAnyH_take (i := 21) (oi := ⟨some 105, .fieldAddr 51 (.tmp 104) 2, 0, _, _, some (13, false)⟩) (v := undef) rfl (by kernel_rfl) (by kernel_rfl) (by kernel_rfl) (fun _ _ _ h => h) (Or.inr ⟨by rfl, rfl⟩) hSS ?_
                    try simp only [put, setIfInBounds_toArray, set_cons_zero, set_cons_succ]
                    refine wpAnyH_take (i := 22) (oi := ⟨some 106, .load 3 (.tmp 105), 3, _, _, some (13, false)⟩) (v := undef) rfl (by kernel_rfl) (by kernel_rfl) (by kernel_rfl) (fun _ _ _ h => h) (Or.inr ⟨by rfl, rfl⟩) hSS ?_
                    try simp only [put, setIfInBounds_toArray, set_cons_zero, set_cons_succ]
                    refine wpAnyH_take (i := 23) (oi := ⟨some 107, .binOp .eql 3 (.tmp 99) (.tmp 106) 3, 4, _, _, some (13, false)⟩) (v := undef) rfl (by kernel_rfl) (by kernel_rfl) (by kernel_rfl) (fun _ _ _ h => h) (Or.inr ⟨by rfl, rfl⟩) hSS ?_
                    try simp only [put, setIfInBounds_toArray, set_cons_zero, set_cons_succ]
                    refine wpAnyH_take (i := 24) (oi := ⟨some 108, .move (.tmp 107), 4, _, _, some (13, false)⟩) (v := undef) rfl (by kernel_rfl) (by kernel_rfl) (by kernel_rfl) (fun _ _ _ h => h) (Or.inr ⟨by rfl, rfl⟩) hSS ?_
                    try simp only [put, setIfInBounds_toArray, set_cons_zero, set_cons_succ]
                    refine wpAnyH_take (i := 25) (oi := ⟨some 109, .fieldAddr 51 (.tmp 4) 0, 0, _, _, some (24, true)⟩) (v := undef) rfl (by kernel_rfl) (by kernel_rfl) (by kernel_rfl) (fun _ _ _ h => h) (Or.inr ⟨by rfl, rfl⟩) hSS ?_
                    try simp only [put, setIfInBounds_toArray, set_cons_zero, set_cons_succ]
                    refine wpAnyH_take (i := 26) (oi := ⟨some 110, .load 3 (.tmp 109), 3, _, _, some (24, true)⟩) (v := undef) rfl (by kernel_rfl) (by kernel_rfl) (by kernel_rfl) (fun _ _ _ h => h) (Or.inr ⟨by rfl, rfl⟩) hSS ?_
                    try simp only [put, setIfInBounds_toArray, set_cons_zero, set_cons_succ]
                    refine wpAnyH_take (i := 27) (oi := ⟨some 111, .fieldAddr 47 (.tmp 1) 4, 0, _, _, some (24, true)⟩) (v := undef) rfl (by kernel_rfl) (by kernel_rfl) (by kernel_rfl) (fun _ _ _ h => h) (Or.inr ⟨by rfl, rfl⟩) hSS ?_
                    try simp only [put, setIfInBounds_toArray, set_cons_zero, set_cons_succ]
                    refine wpAnyH_take (i := 28) (oi := ⟨some 112, .load 45 (.tmp 111), 45, _, _, some (24, true)⟩) (v := undef) rfl (by kernel_rfl) (by kernel_rfl) (by kernel_rfl) (fun _ _ _ h => h) (Or.inr ⟨by rfl, rfl⟩) hSS ?_
                    try simp only [put, setIfInBounds_toArray, set_cons_zero, set_cons_succ]
                    refine wpAnyH_take (i := 29) (oi := ⟨some 113, .move (.tmp 3), 3, _, _, some (24, true)⟩) (v := undef) rfl (by kernel_rfl) (by kernel_rfl) (by kernel_rfl) (fun _ _ _ h => h) (Or.inr ⟨by rfl, rfl⟩) hSS ?_
                    try simp only [put, setIfInBounds_toArray, set_cons_zero, set_cons_succ]
                    refine wpAnyH_take (i := 30) (oi := ⟨some 114, .binOp .sub 3 (.tmp 113) (.const (.int .i64 1)) 3, 3, _, _, some (24, true)⟩) (v := undef) rfl (by kernel_rfl) (by kernel_rfl) (by kernel_rfl) (fun _ _ _ h => h) (Or.inr ⟨by rfl, rfl⟩) hSS ?_
                    try simp only [put, setIfInBounds_toArray, set_cons_zero, set_cons_succ]
                    refine wpAnyH_take (i := 31) (oi := ⟨some 115, .indexAddr 45 (.tmp 112) (.tmp 114), 0, _, _, some (24, true)⟩) (v := undef) rfl (by kernel_rfl) (by kernel_rfl) (by kernel_rfl) (fun _ _ _ h => h) (Or.inr ⟨by rfl, rfl⟩) hSS ?_
                    try simp only [put, setIfInBounds_toArray, set_cons_zero, set_cons_succ]
                    refine wpAnyH_take (i := 32) (oi := ⟨some 116, .fieldAddr 51 (.tmp 115) 0, 0, _, _, some (24, true)⟩) (v := undef) rfl (by kernel_rfl) (by kernel_rfl) (by kernel_rfl) (fun _ _ _ h => h) (Or.inr ⟨by rfl, rfl⟩) hSS ?_
                    try simp only [put, setIfInBounds_toArray, set_cons_zero, set_cons_succ]
                    refine wpAnyH_take (i := 33) (oi := ⟨some 117, .load 3 (.tmp 116), 3, _, _, some (24, true)⟩) (v := undef) rfl (by kernel_rfl) (by kernel_rfl) (by kernel_rfl) (fun _ _ _ h => h) (Or.inr ⟨by rfl, rfl⟩) hSS ?_
                    try simp only [put, setIfInBounds_toArray, set_cons_zero, set_cons_succ]
                    refine wpAnyH_take (i := 34) (oi := ⟨some 118, .binOp .eql 3 (.tmp 110) (.tmp 117) 3, 4, _, _, some (24, true)⟩) (v := undef) rfl (by kernel_rfl) (by kernel_rfl) (by kernel_rfl) (fun _ _ _ h => h) (Or.inr ⟨by rfl, rfl⟩) hSS ?_
                    try simp only [put, setIfInBounds_toArray, set_cons_zero, set_cons_succ]
                    refine wpAnyH_take (i := 35) (oi := ⟨some 119, .pick (.tmp 108) (.tmp 118) (.const (.bool false)), 4, _, _, some (13, false)⟩) (v := undef) rfl (by kernel_rfl) (by kernel_rfl) (by kernel_rfl) (fun _ _ _ h => h) (Or.inr ⟨by rfl, rfl⟩) hSS ?_
                    try simp only [put, setIfInBounds_toArray, set_cons_zero, set_cons_succ]
                    refine wpAnyH_take (i := 36) (oi := ⟨some 120, .pick (.tmp 97) (.const (.bool true)) (.tmp 119), 4, _, _, some (2, true)⟩) (v := ?_) rfl (by kernel_rfl) (by kernel_rfl) (by kernel_rfl) (fun _ _ _ h => h) (Or.inl ⟨by rfl, ?_⟩) hSS ?_; rotate_left
                    · intro w9 hSw; (try dsimp only at hSw); (try go_split_ands); first | (go_simp; done) | (go_simp; with_reducible rfl)
                    try simp only [put, setIfInBounds_toArray, set_cons_zero, set_cons_succ]
                    refine wpAnyH_take (i := 37) (oi := ⟨some 121, .pick (.tmp 86) (.tmp 120) (.const (.bool false)), 4, _, _, none⟩) (v := ?_) rfl (by kernel_rfl) (by kernel_rfl) (by kernel_rfl) (fun _ _ _ h => h) (Or.inl ⟨by rfl, ?_⟩) hSS ?_; rotate_left
                    · intro w9 hSw; (try dsimp only at hSw); (try go_split_ands); first | (go_simp; done) | (go_simp; with_reducible rfl)
                    try simp only [put, setIfInBounds_toArray, set_cons_zero, set_cons_succ]
                    refine wpAnyH_done (by kernel_rfl) ?_ _
                    clear hSS kS
                    go_wp2
                    go_ret
                    exact ⟨by rw [FN.out]; rfl, HBW.out _ BTd.out⟩
                  · by_cases z3 : f = pt
                    · by_cases z4 : (1 : Int) = pk
                      · have FN := hid (HN1.out (by rw [HCK2.out]; exact ahead_no2 z3 z4))
                        clear HIN HN1 HCK2
                        subst z4
                        refine wp_region_held_drew (S := fun w' => (w'.cell? ⟨rb, 0, none⟩ = some (.int .i64 1) ∧ w'.cell? ⟨rb, 1, none⟩ = some (.int .i64 f) ∧ w'.cell? ⟨sb, 4, none⟩ = some (.slice (some ⟨g, 0, none⟩) n rc) ∧ w'.cell? ⟨g, p * 4 + 2, none⟩ = some (.int .i64 pt) ∧ w'.cell? ⟨g, p * 4, none⟩ = some (.int .i64 1))) (by kernel_rfl) kS (fun hSS => ?_)
                        refine wpAnyH_take (i := 0) (oi := ⟨some 84, .move (.tmp 3), 3, _, _, none⟩) (v := ?_) rfl (by kernel_rfl) (by kernel_rfl) (by kernel_rfl) (fun _ _ _ h => h) (Or.inl ⟨by rfl, ?_⟩) hSS ?_; rotate_left
                        · intro w9 hSw; (try dsimp only at hSw); (try go_split_ands); first | (go_simp; done) | (go_simp; with_reducible rfl)
                        try simp only [put, setIfInBounds_toArray, set_cons_zero, set_cons_succ]
                        refine wpAnyH_take (i := 1) (oi := ⟨some 85, .binOp .gtr 3 (.tmp 84) (.const (.int .i64 0)) 3, 4, _, _, none⟩) (v := .bool true) rfl (by kernel_rfl) (by kernel_rfl) (by kernel_rfl) (fun _ _ _ h => h) (Or.inl ⟨by rfl, ?_⟩) hSS ?_
                        · intro w9 hSw; (try dsimp only at hSw); (try go_split_ands); first | (go_simp; done) | (go_simp; simp [z1]; done)
                        try simp only [put, setIfInBounds_toArray, set_cons_zero, set_cons_succ]
                        refine wpAnyH_take (i := 2) (oi := ⟨some 86, .move (.tmp 85), 4, _, _, none⟩) (v := ?_) rfl (by kernel_rfl) (by kernel_rfl) (by kernel_rfl) (fun _ _ _ h => h) (Or.inl ⟨by rfl, ?_⟩) hSS ?_; rotate_left
                        · intro w9 hSw; (try dsimp only at hSw); (try go_split_ands); first | (go_simp; done) | (go_simp; with_reducible rfl)
                        try simp only [put, setIfInBounds_toArray, set_cons_zero, set_cons_succ]
                        refine wpAnyH_take (i := 3) (oi := ⟨some 87, .fieldAddr 51 (.tmp 4) 1, 0, _, _, some (2, true)⟩) (v := ?_) rfl (by kernel_rfl) (by kernel_rfl) (by kernel_rfl) (fun _ _ _ h => h) (Or.inl ⟨by rfl, ?_⟩) hSS ?_; rotate_left
                        · intro w9 hSw; (try dsimp only at hSw); (try go_split_ands); first | (go_simp; done) | (go_simp; with_reducible rfl)
                        try simp only [put, setIfInBounds_toArray, set_cons_zero, set_cons_succ]
                        refine wpAnyH_take (i := 4) (oi := ⟨some 88, .load 3 (.tmp 87), 3, _, _, some (2, true)⟩) (v := ?_) rfl (by kernel_rfl) (by kernel_rfl) (by kernel_rfl) (fun _ _ _ h => h) (Or.inl ⟨by rfl, ?_⟩) hSS ?_; rotate_left
                        · intro w9 hSw; (try dsimp only at hSw); (try go_split_ands); first | (go_simp; done) | (go_simp; with_reducible rfl)
                        try simp only [put, setIfInBounds_toArray, set_cons_zero, set_cons_succ]
                        refine wpAnyH_take (i := 5) (oi := ⟨some 89, .fieldAddr 47 (.tmp 1) 4, 0, _, _, some (2, true)⟩) (v := ?_) rfl (by kernel_rfl) (by kernel_rfl) (by kernel_rfl) (fun _ _ _ h => h) (Or.inl ⟨by rfl, ?_⟩) hSS ?_; rotate_left
                        · intro w9 hSw; (try dsimp only at hSw); (try go_split_ands); first | (go_simp; done) | (go_simp; with_reducible rfl)
                        try simp only [put, setIfInBounds_toArray, set_cons_zero, set_cons_succ]
                        refine wpAnyH_take (i := 6) (oi := ⟨some 90, .load 45 (.tmp 89), 45, _, _, some (2, true)⟩) (v := ?_) rfl (by kernel_rfl) (by kernel_rfl) (by kernel_rfl) (fun _ _ _ h => h) (Or.inl ⟨by rfl, ?_⟩) hSS ?_; rotate_left
                        · intro w9 hSw; (try dsimp only at hSw); (try go_split_ands); first | (go_simp; done) | (go_simp; with_reducible rfl)
                        try simp only [put, setIfInBounds_toArray, set_cons_zero, set_cons_succ]
                        refine wpAnyH_take (i := 7) (oi := ⟨some 91, .move (.tmp 3), 3, _, _, some (2, true)⟩) (v := ?_) rfl (by kernel_rfl) (by kernel_rfl) (by kernel_rfl) (fun _ _ _ h => h) (Or.inl ⟨by rfl, ?_⟩) hSS ?_; rotate_left
                        · intro w9 hSw; (try dsimp only at hSw); (try go_split_ands); first | (go_simp; done) | (go_simp; with_reducible rfl)
                        try simp only [put, setIfInBounds_toArray, set_cons_zero, set_cons_succ]
                        refine wpAnyH_take (i := 8) (oi := ⟨some 92, .binOp .sub 3 (.tmp 91) (.const (.int .i64 1)) 3, 3, _, _, some (2, true)⟩) (v := ?_) rfl (by kernel_rfl) (by kernel_rfl) (by kernel_rfl) (fun _ _ _ h => h) (Or.inl ⟨by rfl, ?_⟩) hSS ?_; rotate_left
                        · intro w9 hSw; (try dsimp only at hSw); (try go_split_ands); first | (go_simp; done) | (go_simp; with_reducible rfl)
                        try simp only [put, setIfInBounds_toArray, set_cons_zero, set_cons_succ]
                        refine wpAnyH_take (i := 9) (oi := ⟨some 93, .indexAddr 45 (.tmp 90) (.tmp 92), 0, _, _, some (2, true)⟩) (v := ?_) rfl (by kernel_rfl) (by kernel_rfl) (by kernel_rfl) (fun _ _ _ h => h) (Or.inl ⟨by rfl, ?_⟩) hSS ?_; rotate_left
                        · intro w9 hSw; (try dsimp only at hSw); (try go_split_ands); first | (go_simp; done) | (go_simp; with_reducible rfl)
                        try simp only [put, setIfInBounds_toArray, set_cons_zero, set_cons_succ]
                        refine wpAnyH_take (i := 10) (oi := ⟨some 94, .fieldAddr 51 (.tmp 93) 2, 0, _, _, some (2, true)⟩) (v := ?_) rfl (by kernel_rfl) (by kernel_rfl) (by kernel_rfl) (fun _ _ _ h => h) (Or.inl ⟨by rfl, ?_⟩) hSS ?_; rotate_left
                        · intro w9 hSw; (try dsimp only at hSw); (try go_split_ands); first | (go_simp; done) | (go_simp; with_reducible rfl)
                        try simp only [put, setIfInBounds_toArray, set_cons_zero, set_cons_succ]
                        refine wpAnyH_take (i := 11) (oi := ⟨some 95, .load 3 (.tmp 94), 3, _, _, some (2, true)⟩) (v := ?_) rfl (by kernel_rfl) (by kernel_rfl) (by kernel_rfl) (fun _ _ _ h => h) (Or.inl ⟨by rfl, ?_⟩) hSS ?_; rotate_left
                        · intro w9 hSw; (try dsimp only at hSw); (try go_split_ands); first | (go_simp; done) | (go_simp; with_reducible rfl)
                        try simp only [put, setIfInBounds_toArray, set_cons_zero, set_cons_succ]
                        refine wpAnyH_take (i := 12) (oi := ⟨some 96, .binOp .lss 3 (.tmp 88) (.tmp 95) 3, 4, _, _, some (2, true)⟩) (v := .bool false) rfl (by kernel_rfl) (by kernel_rfl) (by kernel_rfl) (fun _ _ _ h => h) (Or.inl ⟨by rfl, ?_⟩) hSS ?_
                        · intro w9 hSw; (try dsimp only at hSw); (try go_split_ands); first | (go_simp; done) | (go_simp; simp [z2]; done)
                        try simp only [put, setIfInBounds_toArray, set_cons_zero, set_cons_succ]
                        refine wpAnyH_take (i := 13) (oi := ⟨some 97, .move (.tmp 96), 4, _, _, some (2, true)⟩) (v := ?_) rfl (by kernel_rfl) (by kernel_rfl) (by kernel_rfl) (fun _ _ _ h => h) (Or.inl ⟨by rfl, ?_⟩) hSS ?_; rotate_left
                        · intro w9 hSw; (try dsimp only at hSw); (try go_split_ands); first | (go_simp; done) | (go_simp; with_reducible rfl)
                        try simp only [put, setIfInBounds_toArray, set_cons_zero, set_cons_succ]
                        refine wpAnyH_take (i := 14) (oi := ⟨some 98, .fieldAddr 51 (.tmp 4) 1, 0, _, _, some (13, false)⟩) (v := ?_) rfl (by kernel_rfl) (by kernel_rfl) (by kernel_rfl) (fun _ _ _ h => h) (Or.inl ⟨by rfl, ?_⟩) hSS ?_; rotate_left
                        · intro w9 hSw; (try dsimp only at hSw); (try go_split_ands); first | (go_simp; done) | (go_simp; with_reducible rfl)
                        try simp only [put, setIfInBounds_toArray, set_cons_zero, set_cons_succ]
                        refine wpAnyH_take (i := 15) (oi := ⟨some 99, .load 3 (.tmp 98), 3, _, _, some (13, false)⟩) (v := ?_) rfl (by kernel_rfl) (by kernel_rfl) (by kernel_rfl) (fun _ _ _ h => h) (Or.inl ⟨by rfl, ?_⟩) hSS ?_; rotate_left
                        · intro w9 hSw; (try dsimp only at hSw); (try go_split_ands); first | (go_simp; done) | (go_simp; with_reducible rfl)
                        try simp only [put, setIfInBounds_toArray, set_cons_zero, set_cons_succ]
                        refine wpAnyH_take (i := 16) (oi := ⟨some 100, .fieldAddr 47 (.tmp 1) 4, 0, _, _, some (13, false)⟩) (v := ?_) rfl (by kernel_rfl) (by kernel_rfl) (by kernel_rfl) (fun _ _ _ h => h) (Or.inl ⟨by rfl, ?_⟩) hSS ?_; rotate_left
                        · intro w9 hSw; (try dsimp only at hSw); (try go_split_ands); first | (go_simp; done) | (go_simp; with_reducible rfl)
                        try simp only [put, setIfInBounds_toArray, set_cons_zero, set_cons_succ]
                        refine wpAnyH_take (i := 17) (oi := ⟨some 101, .load 45 (.tmp 100), 45, _, _, some (13, false)⟩) (v := ?_) rfl (by kernel_rfl) (by kernel_rfl) (by kernel_rfl) (fun _ _ _ h => h) (Or.inl ⟨by rfl, ?_⟩) hSS ?_; rotate_left
                        · intro w9 hSw; (try dsimp only at hSw); (try go_split_ands); first | (go_simp; done) | (go_simp; with_reducible rfl)
                        try simp only [put, setIfInBounds_toArray, set_cons_zero, set_cons_succ]
                        refine wpAnyH_take (i := 18) (oi := ⟨some 102, .move (.tmp 3), 3, _, _, some (13, false)⟩) (v := ?_) rfl (by kernel_rfl) (by kernel_rfl) (by kernel_rfl) (fun _ _ _ h => h) (Or.inl ⟨by rfl, ?_⟩) hSS ?_; rotate_left
                        · intro w9 hSw; (try dsimp only at hSw); (try go_split_ands); first | (go_simp; done) | (go_simp; with_reducible rfl)
                        try simp only [put, setIfInBounds_toArray, set_cons_zero, set_cons_succ]
                        refine wpAnyH_take (i := 19) (oi := ⟨some 103, .binOp .sub 3 (.tmp 102) (.const (.int .i64 1)) 3, 3, _, _, some (13, false)⟩) (v := ?_) rfl (by kernel_rfl) (by kernel_rfl) (by kernel_rfl) (fun _ _ _ h => h) (Or.inl ⟨by rfl, ?_⟩) hSS ?_; rotate_left
                        · intro w9 hSw; (try dsimp only at hSw); (try go_split_ands); first | (go_simp; done) | (go_simp; with_reducible rfl)
                        try simp only [put, setIfInBounds_toArray, set_cons_zero, set_cons_succ]
                        refine wpAnyH_take (i := 20) (oi := ⟨some 104, .indexAddr 45 (.tmp 101) (.tmp 103), 0, _, _, some (13, false)⟩) (v := ?_) rfl (by kernel_rfl) (by kernel_rfl) (by kernel_rfl) (fun _ _ _ h => h) (Or.inl ⟨by rfl, ?_⟩) hSS ?_; rotate_left
                        · intro w9 hSw; (try dsimp only at hSw); (try go_split_ands); first | (go_simp; done) | (go_simp; with_reducible rfl)
                        try simp only [put, setIfInBounds_toArray, set_cons_zero, set_cons_succ]
                        refine wpAnyH_take (i := 21) (oi := ⟨some 105, .fieldAddr 51 (.tmp 104) 2, 0, _, _, some (13, false)⟩) (v := ?_) rfl (by kernel_rfl) (by kernel_rfl) (by kernel_rfl) (fun _ _ _ h => h) (Or.inl ⟨by rfl, ?_⟩) hSS ?_; rotate_left
                        · intro w9 hSw; (try dsimp only at hSw); (try go_split_ands); first | (go_simp; done) | (go_simp; with_reducible rfl)
                        try simp only [put, setIfInBounds_toArray, set_cons_zero, set_cons_succ]
                        refine wpAnyH_take (i := 22) (oi := ⟨some 106, .load 3 (.tmp 105), 3, _, _, some (13, false)⟩) (v := ?_) rfl (by kernel_rfl) (by kernel_rfl) (by kernel_rfl) (fun _ _ _ h => h) (Or.inl ⟨by rfl, ?_⟩) hSS ?_; rotate_left
                        · intro w9 hSw; (try dsimp only at hSw); (try go_split_ands); first | (go_simp; done) | (go_simp; with_reducible rfl)
                        try simp only [put, setIfInBounds_toArray, set_cons_zero, set_cons_succ]
                        refine wpAnyH_take (i := 23) (oi := ⟨some 107, .binOp .eql 3 (.tmp 99) (.tmp 106) 3, 4, _, _, some (13, false)⟩) (v := .bool true) rfl (by kernel_rfl) (by kernel_rfl) (by kernel_rfl) (fun _ _ _ h => h) (Or.inl ⟨by rfl, ?_⟩) hSS ?_
                        · intro w9 hSw; (try dsimp only at hSw); (try go_split_ands); first | (go_simp; done) | (go_simp; simp [z3]; done)
                        try simp only [put, setIfInBounds_toArray, set_cons_zero, set_cons_succ]
                        refine wpAnyH_take (i := 24) (oi := ⟨some 108, .move (.tmp 107), 4, _, _, some (13, false)⟩) (v := ?_) rfl (by kernel_rfl) (by kernel_rfl) (by kernel_rfl) (fun _ _ _ h => h) (Or.inl ⟨by rfl, ?_⟩) hSS ?_; rotate_left
                        · intro w9 hSw; (try dsimp only at hSw); (try go_split_ands); first | (go_simp; done) | (go_simp; with_reducible rfl)
                        try simp only [put, setIfInBounds_toArray, set_cons_zero, set_cons_succ]
                        refine wpAnyH_take (i := 25) (oi := ⟨some 109, .fieldAddr 51 (.tmp 4) 0, 0, _, _, some (24, true)⟩) (v := ?_) rfl (by kernel_rfl) (by kernel_rfl) (by kernel_rfl) (fun _ _ _ h => h) (Or.inl ⟨by rfl, ?_⟩) hSS ?_; rotate_left
                        · intro w9 hSw; (try dsimp only at hSw); (try go_split_ands); first | (go_simp; done) | (go_simp; with_reducible rfl)
                        try simp only [put, setIfInBounds_toArray, set_cons_zero, set_cons_succ]
                        refine wpAnyH_take (i := 26) (oi := ⟨some 110, .load 3 (.tmp 109), 3, _, _, some (24, true)⟩) (v := ?_) rfl (by kernel_rfl) (by kernel_rfl) (by kernel_rfl) (fun _ _ _ h => h) (Or.inl ⟨by rfl, ?_⟩) hSS ?_; rotate_left
                        · intro w9 hSw; (try dsimp only at hSw); (try go_split_ands); first | (go_simp; done) | (go_simp; with_reducible rfl)
                        try simp only [put, setIfInBounds_toArray, set_cons_zero, set_cons_succ]
                        refine wpAnyH_take (i := 27) (oi := ⟨some 111, .fieldAddr 47 (.tmp 1) 4, 0, _, _, some (24, true)⟩) (v := ?_) rfl (by kernel_rfl) (by kernel_rfl) (by kernel_rfl) (fun _ _ _ h => h) (Or.inl ⟨by rfl, ?_⟩) hSS ?_; rotate_left
                        · intro w9 hSw; (try dsimp only at hSw); (try go_split_ands); first | (go_simp; done) | (go_simp; with_reducible rfl)
                        try simp only [put, setIfInBounds_toArray, set_cons_zero, set_cons_succ]
                        refine wpAnyH_take (i := 28) (oi := ⟨some 112, .load 45 (.tmp 111), 45, _, _, some (24, true)⟩) (v := ?_) rfl (by kernel_rfl) (by kernel_rfl) (by kernel_rfl) (fun _ _ _ h => h) (Or.inl ⟨by rfl, ?_⟩) hSS ?_; rotate_left
                        · intro w9 hSw; (try dsimp only at hSw); (try go_split_ands); first | (go_simp; done) | (go_simp; with_reducible rfl)
                        try simp only [put, setIfInBounds_toArray, set_cons_zero, set_cons_succ]
                        refine wpAnyH_take (i := 29) (oi := ⟨some 113, .move (.tmp 3), 3, _, _, some (24, true)⟩) (v := ?_) rfl (by kernel_rfl) (by kernel_rfl) (by kernel_rfl) (fun _ _ _ h => h) (Or.inl ⟨by rfl, ?_⟩) hSS ?_; rotate_left
                        · intro w9 hSw; (try dsimp only at hSw); (try go_split_ands); first | (go_simp; done) | (go_simp; with_reducible rfl)
                        try simp only [put, setIfInBounds_toArray, set_cons_zero, set_cons_succ]
                        refine wpAnyH_take (i := 30) (oi := ⟨some 114, .binOp .sub 3 (.tmp 113) (.const (.int .i64 1)) 3, 3, _, _, some (24, true)⟩) (v := ?_) rfl (by kernel_rfl) (by kernel_rfl) (by kernel_rfl) (fun _ _ _ h => h) (Or.inl ⟨by rfl, ?_⟩) hSS ?_; rotate_left
                        · intro w9 hSw; (try dsimp only at hSw); (try go_split_ands); first | (go_simp; done) | (go_simp; with_reducible rfl)
                        try simp only [put, setIfInBounds_toArray, set_cons_zero, set_cons_succ]
                        refine wpAnyH_take (i := 31) (oi := ⟨some 115, .indexAddr 45 (.tmp 112) (.tmp 114), 0, _, _, some (24, true)⟩) (v := ?_) rfl (by kernel_rfl) (by kernel_rfl) (by kernel_rfl) (fun _ _ _ h => h) (Or.inl ⟨by rfl, ?_⟩) hSS ?_; rotate_left
                        · intro w9 hSw; (try dsimp only at hSw); (try go_split_ands); first | (go_simp; done) | (go_simp; with_reducible rfl)
                        try simp only [put, setIfInBounds_toArray, set_cons_zero, set_cons_succ]
                        refine wpAnyH_take (i := 32) (oi := ⟨some 116, .fieldAddr 51 (.tmp 115) 0, 0, _, _, some (24, true)⟩) (v := ?_) rfl (by kernel_rfl) (by kernel_rfl) (by kernel_rfl) (fun _ _ _ h => h) (Or.inl ⟨by rfl, ?_⟩) hSS ?_; rotate_left
                        · intro w9 hSw; (try dsimp only at hSw); (try go_split_ands); first | (go_simp; done) | (go_simp; with_reducible rfl)
                        try simp only [put, setIfInBounds_toArray, set_cons_zero, set_cons_succ]
                        refine wpAnyH_take (i := 33) (oi := ⟨some 117, .load 3 (.tmp 116), 3, _, _, some (24, true)⟩) (v := ?_) rfl (by kernel_rfl) (by kernel_rfl) (by kernel_rfl) (fun _ _ _ h => h) (Or.inl ⟨by rfl, ?_⟩) hSS ?_; rotate_left
                        · intro w9 hSw; (try dsimp only at hSw); (try go_split_ands); first | (go_simp; done) | (go_simp; with_reducible rfl)
                        try simp only [put, setIfInBounds_toArray, set_cons_zero, set_cons_succ]
                        refine wpAnyH_take (i := 34) (oi := ⟨some 118, .binOp .eql 3 (.tmp 110) (.tmp 117) 3, 4, _, _, some (24, true)⟩) (v := ?_) rfl (by kernel_rfl) (by kernel_rfl) (by kernel_rfl) (fun _ _ _ h => h) (Or.inl ⟨by rfl, ?_⟩) hSS ?_; rotate_left
                        · intro w9 hSw; (try dsimp only at hSw); (try go_split_ands); first | (go_simp; done) | (go_simp; with_reducible rfl)
                        try simp only [put, setIfInBounds_toArray, set_cons_zero, set_cons_succ]
                        refine wpAnyH_take (i := 35) (oi := ⟨some 119, .pick (.tmp 108) (.tmp 118) (.const (.bool false)), 4, _, _, some (13, false)⟩) (v := ?_) rfl (by kernel_rfl) (by kernel_rfl) (by kernel_rfl) (fun _ _ _ h => h) (Or.inl ⟨by rfl, ?_⟩) hSS ?_; rotate_left
                        · intro w9 hSw; (try dsimp only at hSw); (try go_split_ands); first | (go_simp; done) | (go_simp; with_reducible rfl)
                        try simp only [put, setIfInBounds_toArray, set_cons_zero, set_cons_succ]
                        refine wpAnyH_take (i := 36) (oi := ⟨some 120, .pick (.tmp 97) (.const (.bool true)) (.tmp 119), 4, _, _, some (2, true)⟩) (v := ?_) rfl (by kernel_rfl) (by kernel_rfl) (by kernel_rfl) (fun _ _ _ h => h) (Or.inl ⟨by rfl, ?_⟩) hSS ?_; rotate_left
                        · intro w9 hSw; (try dsimp only at hSw); (try go_split_ands); first | (go_simp; done) | (go_simp; with_reducible rfl)
                        try simp only [put, setIfInBounds_toArray, set_cons_zero, set_cons_succ]
                        refine wpAnyH_take (i := 37) (oi := ⟨some 121, .pick (.tmp 86) (.tmp 120) (.const (.bool false)), 4, _, _, none⟩) (v := ?_) rfl (by kernel_rfl) (by kernel_rfl) (by kernel_rfl) (fun _ _ _ h => h) (Or.inl ⟨by rfl, ?_⟩) hSS ?_; rotate_left
                        · intro w9 hSw; (try dsimp only at hSw); (try go_split_ands); first | (go_simp; done) | (go_simp; with_reducible rfl)
                        try simp only [put, setIfInBounds_toArray, set_cons_zero, set_cons_succ]
                        refine wpAnyH_done (by kernel_rfl) ?_ _
                        clear hSS kS
                        go_wp2
                        go_ret
                        exact ⟨by rw [FN.out]; rfl, HBW.out _ BTd.out⟩
                      · have NX := hid (HIN.out (by rw [HCK2.out]; exact ahead_yes1 z3 z4))
                        clear HIN HN1 HCK2
                        refine wp_region_held_drew (S := fun w' => (w'.cell? ⟨rb, 0, none⟩ = some (.int .i64 1) ∧ w'.cell? ⟨rb, 1, none⟩ = some (.int .i64 f) ∧ w'.cell? ⟨sb, 4, none⟩ = some (.slice (some ⟨g, 0, none⟩) n rc) ∧ w'.cell? ⟨g, p * 4 + 2, none⟩ = some (.int .i64 pt) ∧ w'.cell? ⟨g, p * 4, none⟩ = some (.int .i64 pk))) (by kernel_rfl) kS (fun hSS => ?_)
                        refine wpAnyH_take (i := 0) (oi := ⟨some 84, .move (.tmp 3), 3, _, _, none⟩) (v := ?_) rfl (by kernel_rfl) (by kernel_rfl) (by kernel_rfl) (fun _ _ _ h => h) (Or.inl ⟨by rfl, ?_⟩) hSS ?_; rotate_left
                        · intro w9 hSw; (try dsimp only at hSw); (try go_split_ands); first | (go_simp; done) | (go_simp; with_reducible rfl)
                        try simp only [put, setIfInBounds_toArray, set_cons_zero, set_cons_succ]
                        refine wpAnyH_take (i := 1) (oi := ⟨some 85, .binOp .gtr 3 (.tmp 84) (.const (.int .i64 0)) 3, 4, _, _, none⟩) (v := .bool true) rfl (by kernel_rfl) (by kernel_rfl) (by kernel_rfl) (fun _ _ _ h => h) (Or.inl ⟨by rfl, ?_⟩) hSS ?_
                        · intro w9 hSw; (try dsimp only at hSw); (try go_split_ands); first | (go_simp; done) | (go_simp; simp [z1]; done)
                        try simp only [put, setIfInBounds_toArray, set_cons_zero, set_cons_succ]
                        refine wpAnyH_take (i := 2) (oi := ⟨some 86, .move (.tmp 85), 4, _, _, none⟩) (v := ?_) rfl (by kernel_rfl) (by kernel_rfl) (by kernel_rfl) (fun _ _ _ h => h) (Or.inl ⟨by rfl, ?_⟩) hSS ?_; rotate_left
                        · intro w9 hSw; (try dsimp only at hSw); (try go_split_ands); first | (go_simp; done) | (go_simp; with_reducible rfl)
                        try simp only [put, setIfInBounds_toArray, set_cons_zero, set_cons_succ]
                        refine wpAnyH_take (i := 3) (oi := ⟨some 87, .fieldAddr 51 (.tmp 4) 1, 0, _, _, some (2, true)⟩) (v := ?_) rfl (by kernel_rfl) (by kernel_rfl) (by kernel_rfl) (fun _ _ _ h => h) (Or.inl ⟨by rfl, ?_⟩) hSS ?_; rotate_left
                        · intro w9 hSw; (try dsimp only at hSw); (try go_split_ands); first | (go_simp; done) | (go_simp; with_reducible rfl)
                        try simp only [put, setIfInBounds_toArray, set_cons_zero, set_cons_succ]
                        refine wpAnyH_take (i := 4) (oi := ⟨some 88, .load 3 (.tmp 87), 3, _, _, some (2, true)⟩) (v := ?_) rfl (by kernel_rfl) (by kernel_rfl) (by kernel_rfl) (fun _ _ _ h => h) (Or.inl ⟨by rfl, ?_⟩) hSS ?_; rotate_left
                        · intro w9 hSw; (try dsimp only at hSw); (try go_split_ands); first | (go_simp; done) | (go_simp; with_reducible rfl)
                        try simp only [put, setIfInBounds_toArray, set_cons_zero, set_cons_succ]
                        refine wpAnyH_take (i := 5) (oi := ⟨some 89, .fieldAddr 47 (.tmp 1) 4, 0, _, _, some (2, true)⟩) (v := ?_) rfl (by kernel_rfl) (by kernel_rfl) (by kernel_rfl) (fun _ _ _ h => h) (Or.inl ⟨by rfl, ?_⟩) hSS ?_; rotate_left
                        · intro w9 hSw; (try dsimp only at hSw); (try go_split_ands); first | (go_simp; done) | (go_simp; with_reducible rfl)
                        try simp only [put, setIfInBounds_toArray, set_cons_zero, set_cons_succ]
                        refine wpAnyH_take (i := 6) (oi := ⟨some 90, .load 45 (.tmp 89), 45, _, _, some (2, true)⟩) (v := ?_) rfl (by kernel_rfl) (by kernel_rfl) (by kernel_rfl) (fun _ _ _ h => h) (Or.inl ⟨by rfl, ?_⟩) hSS ?_; rotate_left
                        · intro w9 hSw; (try dsimp only at hSw); (try go_split_ands); first | (go_simp; done) | (go_simp; with_reducible rfl)
                        try simp only [put, setIfInBounds_toArray, set_cons_zero, set_cons_succ]
                        refine wpAnyH_take (i := 7) (oi := ⟨some 91, .move (.tmp 3), 3, _, _, some (2, true)⟩) (v := ?_) rfl (by kernel_rfl) (by kernel_rfl) (by kernel_rfl) (fun _ _ _ h => h) (Or.inl ⟨by rfl, ?_⟩) hSS ?_; rotate_left
                        · intro w9 hSw; (try dsimp only at hSw); (try go_split_ands); first | (go_simp; done) | (go_simp; with_reducible rfl)
                        try simp only [put, setIfInBounds_toArray, set_cons_zero, set_cons_succ]
                        refine wpAnyH_take (i := 8) (oi := ⟨some 92, .binOp .sub 3 (.tmp 91) (.const (.int .i64 1)) 3, 3, _, _, some (2, true)⟩) (v := ?_) rfl (by kernel_rfl) (by kernel_rfl) (by kernel_rfl) (fun _ _ _ h => h) (Or.inl ⟨by rfl, ?_⟩) hSS ?_; rotate_left
                        · intro w9 hSw; (try dsimp only at hSw); (try go_split_ands); first | (go_simp; done) | (go_simp; with_reducible rfl)
                        try simp only [put, setIfInBounds_toArray, set_cons_zero, set_cons_succ]
                        refine wpAnyH_take (i := 9) (oi := ⟨some 93, .indexAddr 45 (.tmp 90) (.tmp 92), 0, _, _, some (2, true)⟩) (v := ?_) rfl (by kernel_rfl) (by kernel_rfl) (by kernel_rfl) (fun _ _ _ h => h) (Or.inl ⟨by rfl, ?_⟩) hSS ?_; rotate_left
                        · intro w9 hSw; (try dsimp only at hSw); (try go_split_ands); first | (go_simp; done) | (go_simp; with_reducible rfl)
                        try simp only [put, setIfInBounds_toArray, set_cons_zero, set_cons_succ]
                        refine wpAnyH_take (i := 10) (oi := ⟨some 94, .fieldAddr 51 (.tmp 93) 2, 0, _, _, some (2, true)⟩) (v := ?_) rfl (by kernel_rfl) (by kernel_rfl) (by kernel_rfl) (fun _ _ _ h => h) (Or.inl ⟨by rfl, ?_⟩) hSS ?_; rotate_left
                        · intro w9 hSw; (try dsimp only at hSw); (try go_split_ands); first | (go_simp; done) | (go_simp; with_reducible rfl)
                        try simp only [put, setIfInBounds_toArray, set_cons_zero, set_cons_succ]
                        refine wpAnyH_take (i := 11) (oi := ⟨some 95, .load 3 (.tmp 94), 3, _, _, some (2, true)⟩) (v := ?_) rfl (by kernel_rfl) (by kernel_rfl) (by kernel_rfl) (fun _ _ _ h => h) (Or.inl ⟨by rfl, ?_⟩) hSS ?_; rotate_left
                        · intro w9 hSw; (try dsimp only at hSw); (try go_split_ands); first | (go_simp; done) | (go_simp; with_reducible rfl)
                        try simp only [put, setIfInBounds_toArray, set_cons_zero, set_cons_succ]
                        refine wpAnyH_take (i := 12) (oi := ⟨some 96, .binOp .lss 3 (.tmp 88) (.tmp 95) 3, 4, _, _, some (2, true)⟩) (v := .bool false) rfl (by kernel_rfl) (by kernel_rfl) (by kernel_rfl) (fun _ _ _ h => h) (Or.inl ⟨by rfl, ?_⟩) hSS ?_
                        · intro w9 hSw; (try dsimp only at hSw); (try go_split_ands); first | (go_simp; done) | (go_simp; simp [z2]; done)
                        try simp only [put, setIfInBounds_toArray, set_cons_zero, set_cons_succ]
                        refine wpAnyH_take (i := 13) (oi := ⟨some 97, .move (.tmp 96), 4, _, _, some (2, true)⟩) (v := ?_) rfl (by kernel_rfl) (by kernel_rfl) (by kernel_rfl) (fun _ _ _ h => h) (Or.inl ⟨by rfl, ?_⟩) hSS ?_; rotate_left
                        · intro w9 hSw; (try dsimp only at hSw); (try go_split_ands); first | (go_simp; done) | (go_simp; with_reducible rfl)
                        try simp only [put, setIfInBounds_toArray, set_cons_zero, set_cons_succ]
                        refine wpAnyH_take (i := 14) (oi := ⟨some 98, .fieldAddr 51 (.tmp 4) 1, 0, _, _, some (13, false)⟩) (v := ?_) rfl (by kernel_rfl) (by kernel_rfl) (by kernel_rfl) (fun _ _ _ h => h) (Or.inl ⟨by rfl, ?_⟩) hSS ?_; rotate_left
                        · intro w9 hSw; (try dsimp only at hSw); (try go_split_ands); first | (go_simp; done) | (go_simp; with_reducible rfl)
                        try simp only [put, setIfInBounds_toArray, set_cons_zero, set_cons_succ]
                        refine wpAnyH_take (i := 15) (oi := ⟨some 99, .load 3 (.tmp 98), 3, _, _, some (13, false)⟩) (v := ?_) rfl (by kernel_rfl) (by kernel_rfl) (by kernel_rfl) (fun _ _ _ h => h) (Or.inl ⟨by rfl, ?_⟩) hSS ?_; rotate_left
                        · intro w9 hSw; (try dsimp only at hSw); (try go_split_ands); first | (go_simp; done) | (go_simp; with_reducible rfl)
                        try simp only [put, setIfInBounds_toArray, set_cons_zero, set_cons_succ]
                        refine wpAnyH_take (i := 16) (oi := ⟨some 100, .fieldAddr 47 (.tmp 1) 4, 0, _, _, some (13, false)⟩) (v := ?_) rfl (by kernel_rfl) (by kernel_rfl) (by kernel_rfl) (fun _ _ _ h => h) (Or.inl ⟨by rfl, ?_⟩) hSS ?_; rotate_left
                        · intro w9 hSw; (try dsimp only at hSw); (try go_split_ands); first | (go_simp; done) | (go_simp; with_reducible rfl)
                        try simp only [put, setIfInBounds_toArray, set_cons_zero, set_cons_succ]
                        refine wpAnyH_take (i := 17) (oi := ⟨some 101, .load 45 (.tmp 100), 45, _, _, some (13, false)⟩) (v := ?_) rfl (by kernel_rfl) (by kernel_rfl) (by kernel_rfl) (fun _ _ _ h => h) (Or.inl ⟨by rfl, ?_⟩) hSS ?_; rotate_left
                        · intro w9 hSw; (try dsimp only at hSw); (try go_split_ands); first | (go_simp; done) | (go_simp; with_reducible rfl)
                        try simp only [put, setIfInBounds_toArray, set_cons_zero, set_cons_succ]
                        refine wpAnyH_take (i := 18) (oi := ⟨some 102, .move (.tmp 3), 3, _, _, some (13, false)⟩) (v := ?_) rfl (by kernel_rfl) (by kernel_rfl) (by kernel_rfl) (fun _ _ _ h => h) (Or.inl ⟨by rfl, ?_⟩) hSS ?_; rotate_left
                        · intro w9 hSw; (try dsimp only at hSw); (try go_split_ands); first | (go_simp; done) | (go_simp; with_reducible rfl)
                        try simp only [put, setIfInBounds_toArray, set_cons_zero, set_cons_succ]
                        refine wpAnyH_take (i := 19) (oi := ⟨some 103, .binOp .sub 3 (.tmp 102) (.const (.int .i64 1)) 3, 3, _, _, some (13, false)⟩) (v := ?_) rfl (by kernel_rfl) (by kernel_rfl) (by kernel_rfl) (fun _ _ _ h => h) (Or.inl ⟨by rfl, ?_⟩) hSS ?_; rotate_left
                        · intro w9 hSw; (try dsimp only at hSw); (try go_split_ands); first | (go_simp; done) | (go_simp; with_reducible rfl)
                        try simp only [put, setIfInBounds_toArray, set_cons_zero, set_cons_succ]
                        refine wpAnyH_take (i := 20) (oi := ⟨some 104, .indexAddr 45 (.tmp 101) (.tmp 103), 0, _, _, some (13, false)⟩) (v := ?_) rfl (by kernel_rfl) (by kernel_rfl) (by kernel_rfl) (fun _ _ _ h => h) (Or.inl ⟨by rfl, ?_⟩) hSS ?_; rotate_left
                        · intro w9 hSw; (try dsimp only at hSw); (try go_split_ands); first | (go_simp; done) | (go_simp; with_reducible rfl)
                        try simp only [put, setIfInBounds_toArray, set_cons_zero, set_cons_succ]
                        refine wpAnyH_take (i := 21) (oi := ⟨some 105, .fieldAddr 51 (.tmp 104) 2, 0, _, _, some (13, false)⟩) (v := ?_) rfl (by kernel_rfl) (by kernel_rfl) (by kernel_rfl) (fun _ _ _ h => h) (Or.inl ⟨by rfl, ?_⟩) hSS ?_; rotate_left
                        · intro w9 hSw; (try dsimp only at hSw); (try go_split_ands); first | (go_simp; done) | (go_simp; with_reducible rfl)
                        try simp only [put, setIfInBounds_toArray, set_cons_zero, set_cons_succ]
                        refine wpAnyH_take (i := 22) (oi := ⟨some 106, .load 3 (.tmp 105), 3, _, _, some (13, false)⟩) (v := ?_) rfl (by kernel_rfl) (by kernel_rfl) (by kernel_rfl) (fun _ _ _ h => h) (Or.inl ⟨by rfl, ?_⟩) hSS ?_; rotate_left
                        · intro w9 hSw; (try dsimp only at hSw); (try go_split_ands); first | (go_simp; done) | (go_simp; with_reducible rfl)
                        try simp only [put, setIfInBounds_toArray, set_cons_zero, set_cons_succ]
                        refine wpAnyH_take (i := 23) (oi := ⟨some 107, .binOp .eql 3 (.tmp 99) (.tmp 106) 3, 4, _, _, some (13, false)⟩) (v := .bool true) rfl (by kernel_rfl) (by kernel_rfl) (by kernel_rfl) (fun _ _ _ h => h) (Or.inl ⟨by rfl, ?_⟩) hSS ?_
                        · intro w9 hSw; (try dsimp only at hSw); (try go_split_ands); first | (go_simp; done) | (go_simp; simp [z3]; done)
                        try simp only [put, setIfInBounds_toArray, set_cons_zero, set_cons_succ]
                        refine wpAnyH_take (i := 24) (oi := ⟨some 108, .move (.tmp 107), 4, _, _, some (13, false)⟩) (v := ?_) rfl (by kernel_rfl) (by kernel_rfl) (by kernel_rfl) (fun _ _ _ h => h) (Or.inl ⟨by rfl, ?_⟩) hSS ?_; rotate_left
                        · intro w9 hSw; (try dsimp only at hSw); (try go_split_ands); first | (go_simp; done) | (go_simp; with_reducible rfl)
                        try simp only [put, setIfInBounds_toArray, set_cons_zero, set_cons_succ]
                        refine wpAnyH_take (i := 25) (oi := ⟨some 109, .fieldAddr 51 (.tmp 4) 0, 0, _, _, some (24, true)⟩) (v := ?_) rfl (by kernel_rfl) (by kernel_rfl) (by kernel_rfl) (fun _ _ _ h => h) (Or.inl ⟨by rfl, ?_⟩) hSS ?_; rotate_left
                        · intro w9 hSw; (try dsimp only at hSw); (try go_split_ands); first | (go_simp; done) | (go_simp; with_reducible rfl)
                        try simp only [put, setIfInBounds_toArray, set_cons_zero, set_cons_succ]
                        refine wpAnyH_take (i := 26) (oi := ⟨some 110, .load 3 (.tmp 109), 3, _, _, some (24, true)⟩) (v := ?_) rfl (by kernel_rfl) (by kernel_rfl) (by kernel_rfl) (fun _ _ _ h => h) (Or.inl ⟨by rfl, ?_⟩) hSS ?_; rotate_left
                        · intro w9 hSw; (try dsimp only at hSw); (try go_split_ands); first | (go_simp; done) | (go_simp; with_reducible rfl)
                        try simp only [put, setIfInBounds_toArray, set_cons_zero, set_cons_succ]
                        refine wpAnyH_take (i := 27) (oi := ⟨some 111, .fieldAddr 47 (.tmp 1) 4, 0, _, _, some (24, true)⟩) (v := ?_) rfl (by kernel_rfl) (by kernel_rfl) (by kernel_rfl) (fun _ _ _ h => h) (Or.inl ⟨by rfl, ?_⟩) hSS ?_; rotate_left
                        · intro w9 hSw; (try dsimp only at hSw); (try go_split_ands); first | (go_simp; done) | (go_simp; with_reducible rfl)
                        try simp only [put, setIfInBounds_toArray, set_cons_zero, set_cons_succ]
                        refine wpAnyH_take (i := 28) (oi := ⟨some 112, .load 45 (.tmp 111), 45, _, _, some (24, true)⟩) (v := ?_) rfl (by kernel_rfl) (by kernel_rfl) (by kernel_rfl) (fun _ _ _ h => h) (Or.inl ⟨by rfl, ?_⟩) hSS ?_; rotate_left
                        · intro w9 hSw; (try dsimp only at hSw); (try go_split_ands); first | (go_simp; done) | (go_simp; with_reducible rfl)
                        try simp only [put, setIfInBounds_toArray, set_cons_zero, set_cons_succ]
                        refine wpAnyH_take (i := 29) (oi := ⟨some 113, .move (.tmp 3), 3, _, _, some (24, true)⟩) (v := ?_) rfl (by kernel_rfl) (by kernel_rfl) (by kernel_rfl) (fun _ _ _ h => h) (Or.inl ⟨by rfl, ?_⟩) hSS ?_; rotate_left
                        · intro w9 hSw; (try dsimp only at hSw); (try go_split_ands); first | (go_simp; done) | (go_simp; with_reducible rfl)
                        try simp only [put, setIfInBounds_toArray, set_cons_zero, set_cons_succ]
                        refine wpAnyH_take (i := 30) (oi := ⟨some 114, .binOp .sub 3 (.tmp 113) (.const (.int .i64 1)) 3, 3, _, _, some (24, true)⟩) (v := ?_) rfl (by kernel_rfl) (by kernel_rfl) (by kernel_rfl) (fun _ _ _ h => h) (Or.inl ⟨by rfl, ?_⟩) hSS ?_; rotate_left
                        · intro w9 hSw; (try dsimp only at hSw); (try go_split_ands); first | (go_simp; done) | (go_simp; with_reducible rfl)
                        try simp only [put, setIfInBounds_toArray, set_cons_zero, set_cons_succ]
                        refine wpAnyH_take (i := 31) (oi := ⟨some 115, .indexAddr 45 (.tmp 112) (.tmp 114), 0, _, _, some (24, true)⟩) (v := ?_) rfl (by kernel_rfl) (by kernel_rfl) (by kernel_rfl) (fun _ _ _ h => h) (Or.inl ⟨by rfl, ?_⟩) hSS ?_; rotate_left
                        · intro w9 hSw; (try dsimp only at hSw); (try go_split_ands); first | (go_simp; done) | (go_simp; with_reducible rfl)
                        try simp only [put, setIfInBounds_toArray, set_cons_zero, set_cons_succ]
                        refine wpAnyH_take (i := 32) (oi := ⟨some 116, .fieldAddr 51 (.tmp 115) 0, 0, _, _, some (24, true)⟩) (v := ?_) rfl (by kernel_rfl) (by kernel_rfl) (by kernel_rfl) (fun _ _ _ h => h) (Or.inl ⟨by rfl, ?_⟩) hSS ?_; rotate_left
                        · intro w9 hSw; (try dsimp only at hSw); (try go_split_ands); first | (go_simp; done) | (go_simp; with_reducible rfl)
                        try simp only [put, setIfInBounds_toArray, set_cons_zero, set_cons_succ]
                        refine wpAnyH_take (i := 33) (oi := ⟨some 117, .load 3 (.tmp 116), 3, _, _, some (24, true)⟩) (v := ?_) rfl (by kernel_rfl) (by kernel_rfl) (by kernel_rfl) (fun _ _ _ h => h) (Or.inl ⟨by rfl, ?_⟩) hSS ?_; rotate_left
                        · intro w9 hSw; (try dsimp only at hSw); (try go_split_ands); first | (go_simp; done) | (go_simp; with_reducible rfl)
                        try simp only [put, setIfInBounds_toArray, set_cons_zero, set_cons_succ]
                        refine wpAnyH_take (i := 34) (oi := ⟨some 118, .binOp .eql 3 (.tmp 110) (.tmp 117) 3, 4, _, _, some (24, true)⟩) (v := .bool false) rfl (by kernel_rfl) (by kernel_rfl) (by kernel_rfl) (fun _ _ _ h => h) (Or.inl ⟨by rfl, ?_⟩) hSS ?_
                        · intro w9 hSw; (try dsimp only at hSw); (try go_split_ands); first | (go_simp; done) | (go_simp; simp [z4]; done)
                        try simp only [put, setIfInBounds_toArray, set_cons_zero, set_cons_succ]
                        refine wpAnyH_take (i := 35) (oi := ⟨some 119, .pick (.tmp 108) (.tmp 118) (.const (.bool false)), 4, _, _, some (13, false)⟩) (v := ?_) rfl (by kernel_rfl) (by kernel_rfl) (by kernel_rfl) (fun _ _ _ h => h) (Or.inl ⟨by rfl, ?_⟩) hSS ?_; rotate_left
                        · intro w9 hSw; (try dsimp only at hSw); (try go_split_ands); first | (go_simp; done) | (go_simp; with_reducible rfl)
                        try simp only [put, setIfInBounds_toArray, set_cons_zero, set_cons_succ]
                        refine wpAnyH_take (i := 36) (oi := ⟨some 120, .pick (.tmp 97) (.const (.bool true)) (.tmp 119), 4, _, _, some (2, true)⟩) (v := ?_) rfl (by kernel_rfl) (by kernel_rfl) (by kernel_rfl) (fun _ _ _ h => h) (Or.inl ⟨by rfl, ?_⟩) hSS ?_; rotate_left
                        · intro w9 hSw; (try dsimp only at hSw); (try go_split_ands); first | (go_simp; done) | (go_simp; with_reducible rfl)
                        try simp only [put, setIfInBounds_toArray, set_cons_zero, set_cons_succ]
                        refine wpAnyH_take (i := 37) (oi := ⟨some 121, .pick (.tmp 86) (.tmp 120) (.const (.bool false)), 4, _, _, none⟩) (v := ?_) rfl (by kernel_rfl) (by kernel_rfl) (by kernel_rfl) (fun _ _ _ h => h) (Or.inl ⟨by rfl, ?_⟩) hSS ?_; rotate_left
                        · intro w9 hSw; (try dsimp only at hSw); (try go_split_ands); first | (go_simp; done) | (go_simp; with_reducible rfl)
                        try simp only [put, setIfInBounds_toArray, set_cons_zero, set_cons_succ]
                        refine wpAnyH_done (by kernel_rfl) ?_ _
                        clear hSS kS
                        go_wp2
                        go_roundw
                        case rel => exact ⟨q + 1, by omega, by go_num, NX.out, BTd.out⟩
                        case measure => simp [intOf]; omega
                    · have NX := hid (HIN.out (by rw [HCK2.out]; exact ahead_yes2 z2 z3))
                      clear HIN HN1 HCK2
                      refine wp_region_held_drew (S := fun w' => (w'.cell? ⟨rb, 0, none⟩ = some (.int .i64 1) ∧ w'.cell? ⟨rb, 1, none⟩ = some (.int .i64 f) ∧ w'.cell? ⟨sb, 4, none⟩ = some (.slice (some ⟨g, 0, none⟩) n rc) ∧ w'.cell? ⟨g, p * 4 + 2, none⟩ = some (.int .i64 pt) ∧ w'.cell? ⟨g, p * 4, none⟩ = some (.int .i64 pk))) (by kernel_rfl) kS (fun hSS => ?_)
                      refine wpAnyH_take (i := 0) (oi := ⟨some 84, .move (.tmp 3), 3, _, _, none⟩) (v := ?_) rfl (by kernel_rfl) (by kernel_rfl) (by kernel_rfl) (fun _ _ _ h => h) (Or.inl ⟨by rfl, ?_⟩) hSS ?_; rotate_left
                      · intro w9 hSw; (try dsimp only at hSw); (try go_split_ands); first | (go_simp; done) | (go_simp; with_reducible rfl)
                      try simp only [put, setIfInBounds_toArray, set_cons_zero, set_cons_succ]
                      refine wpAnyH_take (i := 1) (oi := ⟨some 85, .binOp .gtr 3 (.tmp 84) (.const (.int .i64 0)) 3, 4, _, _, none⟩) (v := .bool true) rfl (by kernel_rfl) (by kernel_rfl) (by kernel_rfl) (fun _ _ _ h => h) (Or.inl ⟨by rfl, ?_⟩) hSS ?_
                      · intro w9 hSw; (try dsimp only at hSw); (try go_split_ands); first | (go_simp; done) | (go_simp; simp [z1]; done)
                      try simp only [put, setIfInBounds_toArray, set_cons_zero, set_cons_succ]
                      refine wpAnyH_take (i := 2) (oi := ⟨some 86, .move (.tmp 85), 4, _, _, none⟩) (v := ?_) rfl (by kernel_rfl) (by kernel_rfl) (by kernel_rfl) (fun _ _ _ h => h) (Or.inl ⟨by rfl, ?_⟩) hSS ?_; rotate_left
                      · intro w9 hSw; (try dsimp only at hSw); (try go_split_ands); first | (go_simp; done) | (go_simp; with_reducible rfl)
                      try simp only [put, setIfInBounds_toArray, set_cons_zero, set_cons_succ]
                      refine wpAnyH_take (i := 3) (oi := ⟨some 87, .fieldAddr 51 (.tmp 4) 1, 0, _, _, some (2, true)⟩) (v := ?_) rfl (by kernel_rfl) (by kernel_rfl) (by kernel_rfl) (fun _ _ _ h => h) (Or.inl ⟨by rfl, ?_⟩) hSS ?_; rotate_left
                      · intro w9 hSw; (try dsimp only at hSw); (try go_split_ands); first | (go_simp; done) | (go_simp; with_reducible rfl)
                      try simp only [put, setIfInBounds_toArray, set_cons_zero, set_cons_succ]
                      refine wpAnyH_take (i := 4) (oi := ⟨some 88, .load 3 (.tmp 87), 3, _, _, some (2, true)⟩) (v := ?_) rfl (by kernel_rfl) (by kernel_rfl) (by kernel_rfl) (fun _ _ _ h => h) (Or.inl ⟨by rfl, ?_⟩) hSS ?_; rotate_left
                      · intro w9 hSw; (try dsimp only at hSw); (try go_split_ands); first | (go_simp; done) | (go_simp; with_reducible rfl)
                      try simp only [put, setIfInBounds_toArray, set_cons_zero, set_cons_succ]
                      refine wpAnyH_take (i := 5) (oi := ⟨some 89, .fieldAddr 47 (.tmp 1) 4, 0, _, _, some (2, true)⟩) (v := ?_) rfl (by kernel_rfl) (by kernel_rfl) (by kernel_rfl) (fun _ _ _ h => h) (Or.inl ⟨by rfl, ?_⟩) hSS ?_; rotate_left
                      · intro w9 hSw; (try dsimp only at hSw); (try go_split_ands); first | (go_simp; done) | (go_simp; with_reducible rfl)
                      try simp only [put, setIfInBounds_toArray, set_cons_zero, set_cons_succ]
                      refine wpAnyH_take (i := 6) (oi := ⟨some 90, .load 45 (.tmp 89), 45, _, _, some (2, true)⟩) (v := ?_) rfl (by kernel_rfl) (by kernel_rfl) (by kernel_rfl) (fun _ _ _ h => h) (Or.inl ⟨by rfl, ?_⟩) hSS ?_; rotate_left
                      · intro w9 hSw; (try dsimp only at hSw); (try go_split_ands); first | (go_simp; done) | (go_simp; with_reducible rfl)
                      try simp only [put, setIfInBounds_toArray, set_cons_zero, set_cons_succ]
                      refine wpAnyH_take (i := 7) (oi := ⟨some 91, .move (.tmp 3), 3, _, _, some (2, true)⟩) (v := ?_) rfl (by kernel_rfl) (by kernel_rfl) (by kernel_rfl) (fun _ _ _ h => h) (Or.inl ⟨by rfl, ?_⟩) hSS ?_; rotate_left
                      · intro w9 hSw; (try dsimp only at hSw); (try go_split_ands); first | (go_simp; done) | (go_simp; with_reducible rfl)
                      try simp only [put, setIfInBounds_toArray, set_cons_zero, set_cons_succ]
                      refine wpAnyH_take (i := 8) (oi := ⟨some 92, .binOp .sub 3 (.tmp 91) (.const (.int .i64 1)) 3, 3, _, _, some (2, true)⟩) (v := ?_) rfl (by kernel_rfl) (by kernel_rfl) (by kernel_rfl) (fun _ _ _ h => h) (Or.inl ⟨by rfl, ?_⟩) hSS ?_; rotate_left
                      · intro w9 hSw; (try dsimp only at hSw); (try go_split_ands); first | (go_simp; done) | (go_simp; with_reducible rfl)
                      try simp only [put, setIfInBounds_toArray, set_cons_zero, set_cons_succ]
                      refine wpAnyH_take (i := 9) (oi := ⟨some 93, .indexAddr 45 (.tmp 90) (.tmp 92), 0, _, _, some (2, true)⟩) (v := ?_) rfl (by kernel_rfl) (by kernel_rfl) (by kernel_rfl) (fun _ _ _ h => h) (Or.inl ⟨by rfl, ?_⟩) hSS ?_; rotate_left
                      · intro w9 hSw; (try dsimp only at hSw); (try go_split_ands); first | (go_simp; done) | (go_simp; with_reducible rfl)
                      try simp only [put, setIfInBounds_toArray, set_cons_zero, set_cons_succ]
                      refine wpAnyH_take (i := 10) (oi := ⟨some 94, .fieldAddr 51 (.tmp 93) 2, 0, _, _, some (2, true)⟩) (v := ?_) rfl (by kernel_rfl) (by kernel_rfl) (by kernel_rfl) (fun _ _ _ h => h) (Or.inl ⟨by rfl, ?_⟩) hSS ?_; rotate_left
                      · intro w9 hSw; (try dsimp only at hSw); (try go_split_ands); first | (go_simp; done) | (go_simp; with_reducible rfl)
                      try simp only [put, setIfInBounds_toArray, set_cons_zero, set_cons_succ]
                      refine wpAnyH_take (i := 11) (oi := ⟨some 95, .load 3 (.tmp 94), 3, _, _, some (2, true)⟩) (v := ?_) rfl (by kernel_rfl) (by kernel_rfl) (by kernel_rfl) (fun _ _ _ h => h) (Or.inl ⟨by rfl, ?_⟩) hSS ?_; rotate_left
                      · intro w9 hSw; (try dsimp only at hSw); (try go_split_ands); first | (go_simp; done) | (go_simp; with_reducible rfl)
                      try simp only [put, setIfInBounds_toArray, set_cons_zero, set_cons_succ]
                      refine wpAnyH_take (i := 12) (oi := ⟨some 96, .binOp .lss 3 (.tmp 88) (.tmp 95) 3, 4, _, _, some (2, true)⟩) (v := .bool false) rfl (by kernel_rfl) (by kernel_rfl) (by kernel_rfl) (fun _ _ _ h => h) (Or.inl ⟨by rfl, ?_⟩) hSS ?_
                      · intro w9 hSw; (try dsimp only at hSw); (try go_split_ands); first | (go_simp; done) | (go_simp; simp [z2]; done)
                      try simp only [put, setIfInBounds_toArray, set_cons_zero, set_cons_succ]
                      refine wpAnyH_take (i := 13) (oi := ⟨some 97, .move (.tmp 96), 4, _, _, some (2, true)⟩) (v := ?_) rfl (by kernel_rfl) (by kernel_rfl) (by kernel_rfl) (fun _ _ _ h => h) (Or.inl ⟨by rfl, ?_⟩) hSS ?_; rotate_left
                      · intro w9 hSw; (try dsimp only at hSw); (try go_split_ands); first | (go_simp; done) | (go_simp; with_reducible rfl)
                      try simp only [put, setIfInBounds_toArray, set_cons_zero, set_cons_succ]
                      refine wpAnyH_take (i := 14) (oi := ⟨some 98, .fieldAddr 51 (.tmp 4) 1, 0, _, _, some (13, false)⟩) (v := ?_) rfl (by kernel_rfl) (by kernel_rfl) (by kernel_rfl) (fun _ _ _ h => h) (Or.inl ⟨by rfl, ?_⟩) hSS ?_; rotate_left
                      · intro w9 hSw; (try dsimp only at hSw); (try go_split_ands); first | (go_simp; done) | (go_simp; with_reducible rfl)
                      try simp only [put, setIfInBounds_toArray, set_cons_zero, set_cons_succ]
                      refine wpAnyH_take (i := 15) (oi := ⟨some 99, .load 3 (.tmp 98), 3, _, _, some (13, false)⟩) (v := ?_) rfl (by kernel_rfl) (by kernel_rfl) (by kernel_rfl) (fun _ _ _ h => h) (Or.inl ⟨by rfl, ?_⟩) hSS ?_; rotate_left
                      · intro w9 hSw; (try dsimp only at hSw); (try go_split_ands); first | (go_simp; done) | (go_simp; with_reducible rfl)
                      try simp only [put, setIfInBounds_toArray, set_cons_zero, set_cons_succ]
                      refine wpAnyH_take (i := 16) (oi := ⟨some 100, .fieldAddr 47 (.tmp 1) 4, 0, _, _, some (13, false)⟩) (v := ?_) rfl (by kernel_rfl) (by kernel_rfl) (by kernel_rfl) (fun _ _ _ h => h) (Or.inl ⟨by rfl, ?_⟩) hSS ?_; rotate_left
                      · intro w9 hSw; (try dsimp only at hSw); (try go_split_ands); first | (go_simp; done) | (go_simp; with_reducible rfl)
                      try simp only [put, setIfInBounds_toArray, set_cons_zero, set_cons_succ]
                      refine wpAnyH_take (i := 17) (oi := ⟨some 101, .load 45 (.tmp 100), 45, _, _, some (13, false)⟩) (v := ?_) rfl (by kernel_rfl) (by kernel_rfl) (by kernel_rfl) (fun _ _ _ h => h) (Or.inl ⟨by rfl, ?_⟩) hSS ?_; rotate_left
                      · intro w9 hSw; (try dsimp only at hSw); (try go_split_ands); first | (go_simp; done) | (go_simp; with_reducible rfl)
                      try simp only [put, setIfInBounds_toArray, set_cons_zero, set_cons_succ]
                      refine wpAnyH_take (i := 18) (oi := ⟨some 102, .move (.tmp 3), 3, _, _, some (13, false)⟩) (v := ?_) rfl (by kernel_rfl) (by kernel_rfl) (by kernel_rfl) (fun _ _ _ h => h) (Or.inl ⟨by rfl, ?_⟩) hSS ?_; rotate_left
                      · intro w9 hSw; (try dsimp only at hSw); (try go_split_ands); first | (go_simp; done) | (go_simp; with_reducible rfl)
                      try simp only [put, setIfInBounds_toArray, set_cons_zero, set_cons_succ]
                      refine wpAnyH_take (i := 19) (oi := ⟨some 103, .binOp .sub 3 (.tmp 102) (.const (.int .i64 1)) 3, 3, _, _, some (13, false)⟩) (v := ?_) rfl (by kernel_rfl) (by kernel_rfl) (by kernel_rfl) (fun _ _ _ h => h) (Or.inl ⟨by rfl, ?_⟩) hSS ?_; rotate_left
                      · intro w9 hSw; (try dsimp only at hSw); (try go_split_ands); first | (go_simp; done) | (go_simp; with_reducible rfl)
                      try simp only [put, setIfInBounds_toArray, set_cons_zero, set_cons_succ]
                      refine wpAnyH_take (i := 20) (oi := ⟨some 104, .indexAddr 45 (.tmp 101) (.tmp 103), 0, _, _, some (13, false)⟩) (v := ?_) rfl (by kernel_rfl) (by kernel_rfl) (by kernel_rfl) (fun _ _ _ h => h) (Or.inl ⟨by rfl, ?_⟩) hSS ?_; rotate_left
                      · intro w9 hSw; (try dsimp only at hSw); (try go_split_ands); first | (go_simp; done) | (go_simp; with_reducible rfl)
                      try simp only [put, setIfInBounds_toArray, set_cons_zero, set_cons_succ]
                      refine wpAnyH_take (i := 21) (oi := ⟨some 105, .fieldAddr 51 (.tmp 104) 2, 0, _, _, some (13, false)⟩) (v := ?_) rfl (by kernel_rfl) (by kernel_rfl) (by kernel_rfl) (fun _ _ _ h => h) (Or.inl ⟨by rfl, ?_⟩) hSS ?_; rotate_left
                      · intro w9 hSw; (try dsimp only at hSw); (try go_split_ands); first | (go_simp; done) | (go_simp; with_reducible rfl)
                      try simp only [put, setIfInBounds_toArray, set_cons_zero, set_cons_succ]
                      refine wpAnyH_take (i := 22) (oi := ⟨some 106, .load 3 (.tmp 105), 3, _, _, some (13, false)⟩) (v := ?_) rfl (by kernel_rfl) (by kernel_rfl) (by kernel_rfl) (fun _ _ _ h => h) (Or.inl ⟨by rfl, ?_⟩) hSS ?_; rotate_left
                      · intro w9 hSw; (try dsimp only at hSw); (try go_split_ands); first | (go_simp; done) | (go_simp; with_reducible rfl)
                      try simp only [put, setIfInBounds_toArray, set_cons_zero, set_cons_succ]
                      refine wpAnyH_take (i := 23) (oi := ⟨some 107, .binOp .eql 3 (.tmp 99) (.tmp 106) 3, 4, _, _, some (13, false)⟩) (v := .bool false) rfl (by kernel_rfl) (by kernel_rfl) (by kernel_rfl) (fun _ _ _ h => h) (Or.inl ⟨by rfl, ?_⟩) hSS ?_
                      · intro w9 hSw; (try dsimp only at hSw); (try go_split_ands); first | (go_simp; done) | (go_simp; simp [z3]; done)
                      try simp only [put, setIfInBounds_toArray, set_cons_zero, set_cons_succ]
                      refine wpAnyH_take (i := 24) (oi := ⟨some 108, .move (.tmp 107), 4, _, _, some (13, false)⟩) (v := ?_) rfl (by kernel_rfl) (by kernel_rfl) (by kernel_rfl) (fun _ _ _ h => h) (Or.inl ⟨by rfl, ?_⟩) hSS ?_; rotate_left
                      · intro w9 hSw; (try dsimp only at hSw); (try go_split_ands); first | (go_simp; done) | (go_simp; with_reducible rfl)
                      try simp only [put, setIfInBounds_toArray, set_cons_zero, set_cons_succ]
                      refine wpAnyH_take (i := 25) (oi := ⟨some 109, .fieldAddr 51 (.tmp 4) 0, 0, _, _, some (24, true)⟩) (v := undef) rfl (by kernel_rfl) (by kernel_rfl) (by kernel_rfl) (fun _ _ _ h => h) (Or.inr ⟨by rfl, rfl⟩) hSS ?_
                      try simp only [put, setIfInBounds_toArray, set_cons_zero, set_cons_succ]
                      refine wpAnyH_take (i := 26) (oi := ⟨some 110, .load 3 (.tmp 109), 3, _, _, some (24, true)⟩) (v := undef) rfl (by kernel_rfl) (by kernel_rfl) (by kernel_rfl) (fun _ _ _ h => h) (Or.inr ⟨by rfl, rfl⟩) hSS ?_
                      try simp only [put, setIfInBounds_toArray, set_cons_zero, set_cons_succ]
                      refine wpAnyH_take (i := 27) (oi := ⟨some 111, .fieldAddr 47 (.tmp 1) 4, 0, _, _, some (24, true)⟩) (v := undef) rfl (by kernel_rfl) (by kernel_rfl) (by kernel_rfl) (fun _ _ _ h => h) (Or.inr ⟨by rfl, rfl⟩) hSS ?_
                      try simp only [put, setIfInBounds_toArray, set_cons_zero, set_cons_succ]
                      refine wpAnyH_take (i := 28) (oi := ⟨some 112, .load 45 (.tmp 111), 45, _, _, some (24, true)⟩) (v := undef) rfl (by kernel_rfl) (by kernel_rfl) (by kernel_rfl) (fun _ _ _ h => h) (Or.inr ⟨by rfl, rfl⟩) hSS ?_
                      try simp only [put, setIfInBounds_toArray, set_cons_zero, set_cons_succ]
                      refine wpAnyH_take (i := 29) (oi := ⟨some 113, .move (.tmp 3), 3, _, _, some (24, true)⟩) (v := undef) rfl (by kernel_rfl) (by kernel_rfl) (by kernel_rfl) (fun _ _ _ h => h) (Or.inr ⟨by rfl, rfl⟩) hSS ?_
                      try simp only [put, setIfInBounds_toArray, set_cons_zero, set_cons_succ]
                      refine wpAnyH_take (i := 30) (oi := ⟨some 114, .binOp .sub 3 (.tmp 113) (.const (.int .i64 1)) 3, 3, _, _, some (24, true)⟩) (v := undef) rfl (by kernel_rfl) (by kernel_rfl) (by kernel_rfl) (fun _ _ _ h => h) (Or.inr ⟨by rfl, rfl⟩) hSS ?_
                      try simp only [put, setIfInBounds_toArray, set_cons_zero, set_cons_succ]
                      refine wpAnyH_take (i := 31) (oi := ⟨some 115, .indexAddr 45 (.tmp 112) (.tmp 114), 0, _, _, some (24, true)⟩) (v := undef) rfl (by kernel_rfl) (by kernel_rfl) (by kernel_rfl) (fun _ _ _ h => h) (Or.inr ⟨by rfl, rfl⟩) hSS ?_
                      try simp only [put, setIfInBounds_toArray, set_cons_zero, set_cons_succ]
                      refine wpAnyH_take (i := 32) (oi := ⟨some 116, .fieldAddr 51 (.tmp 115) 0, 0, _, _, some (24, true)⟩) (v := undef) rfl (by kernel_rfl) (by kernel_rfl) (by kernel_rfl) (fun _ _ _ h => h) (Or.inr ⟨by rfl, rfl⟩) hSS ?_
                      try simp only [put, setIfInBounds_toArray, set_cons_zero, set_cons_succ]
                      refine wpAnyH_take (i := 33) (oi := ⟨some 117, .load 3 (.tmp 116), 3, _, _, some (24, true)⟩) (v := undef) rfl (by kernel_rfl) (by kernel_rfl) (by kernel_rfl) (fun _ _ _ h => h) (Or.inr ⟨by rfl, rfl⟩) hSS ?_
                      try simp only [put, setIfInBounds_toArray, set_cons_zero, set_cons_succ]
                      refine wpAnyH_take (i := 34) (oi := ⟨some 118, .binOp .eql 3 (.tmp 110) (.tmp 117) 3, 4, _, _, some (24, true)⟩) (v := undef) rfl (by kernel_rfl) (by kernel_rfl) (by kernel_rfl) (fun _ _ _ h => h) (Or.inr ⟨by rfl, rfl⟩) hSS ?_
                      try simp only [put, setIfInBounds_toArray, set_cons_zero, set_cons_succ]
                      refine wpAnyH_take (i := 35) (oi := ⟨some 119, .pick (.tmp 108) (.tmp 118) (.const (.bool false)), 4, _, _, some (13, false)⟩) (v := ?_) rfl (by kernel_rfl) (by kernel_rfl) (by kernel_rfl) (fun _ _ _ h => h) (Or.inl ⟨by rfl, ?_⟩) hSS ?_; rotate_left
                      · intro w9 hSw; (try dsimp only at hSw); (try go_split_ands); first | (go_simp; done) | (go_simp; with_reducible rfl)
                      try simp only [put, setIfInBounds_toArray, set_cons_zero, set_cons_succ]
                      refine wpAnyH_take (i := 36) (oi := ⟨some 120, .pick (.tmp 97) (.const (.bool true)) (.tmp 119), 4, _, _, some (2, true)⟩) (v := ?_) rfl (by kernel_rfl) (by kernel_rfl) (by kernel_rfl) (fun _ _ _ h => h) (Or.inl ⟨by rfl, ?_⟩) hSS ?_; rotate_left
                      · intro w9 hSw; (try dsimp only at hSw); (try go_split_ands); first | (go_simp; done) | (go_simp; with_reducible rfl)
                      try simp only [put, setIfInBounds_toArray, set_cons_zero, set_cons_succ]
                      refine wpAnyH_take (i := 37) (oi := ⟨some 121, .pick (.tmp 86) (.tmp 120) (.const (.bool false)), 4, _, _, none⟩) (v := ?_) rfl (by kernel_rfl) (by kernel_rfl) (by kernel_rfl) (fun _ _ _ h => h) (Or.inl ⟨by rfl, ?_⟩) hSS ?_; rotate_left
                      · intro w9 hSw; (try dsimp only at hSw); (try go_split_ands); first | (go_simp; done) | (go_simp; with_reducible rfl)
                      try simp only [put, setIfInBounds_toArray, set_cons_zero, set_cons_succ]
                      refine wpAnyH_done (by kernel_rfl) ?_ _
                      clear hSS kS
                      go_wp2
                      go_roundw
                      case rel => exact ⟨q + 1, by omega, by go_num, NX.out, BTd.out⟩
                      case measure => simp [intOf]; omega
              · have o4 : sz < t := by omega
                have o3 : ¬ t ≤ f := by omega
                have FN := hid (HN1.out (by rw [HCK.out]; unfold okR; simp [o2]))
                clear HIN HN1 HCK HPV v0 v1 v2
                go_wp2
                all_goals go_ret
                all_goals exact ⟨by rw [FN.out]; rfl, HBW.out _ (by rw [← HW2.out]; exact BT.out)⟩
            · have o3 : t ≤ f := by omega
              have FN := hid (HN1.out (by rw [HCK.out]; unfold okR; simp [o1]))
              clear HIN HN1 HCK HPV v0 v1 v2
              go_wp2
              all_goals go_ret
              all_goals exact ⟨by rw [FN.out]; rfl, HBW.out _ (by rw [← HW2.out]; exact BT.out)⟩
          by_cases k2 : k = 2
          · subst k2
            have FN := hid (HN1.out (by rw [HCK.out]; unfold okR; simp))
            clear HIN HN1 HCK HPV v0 v1 v2
            go_wp2
            all_goals go_ret
            all_goals exact ⟨by rw [FN.out]; rfl, HBW.out _ (by rw [← HW2.out]; exact BT.out)⟩
          · have b1 : (k != 1) = true := by simpa using k1
            have b2 : (k != 2) = true := by simpa using k2
            have FN := hid (HN1.out (by rw [HCK.out]; unfold okR; simp [k1, k2]))
            clear HIN HN1 HCK HPV v0 v1 v2
            go_wp2
            all_goals go_ret
            all_goals exact ⟨by rw [FN.out]; rfl, HBW.out _ (by rw [← HW2.out]; exact BT.out)⟩
        · have hqe : q = n := by omega
          have hqn' : ¬ (q : Int) < (n : Int) := by omega
          have FN := hid (HYP.out (by rw [← hqe]; exact hall))
          have BT := hid hbt
          obtain ⟨sb1, sb2, sb4⟩ := hC
          clear hall hbt
          go_wp2
          go_ret
          exact ⟨by rw [FN.out]; rfl, HBW.out _ BT.out⟩
    · have m1 : (sm != 0) = true := by simpa using m0
      have FN := hid (show PR = false by rw [HPR.out]; simp [m0])
      go_wp2
      go_ret
      exact ⟨by rw [FN.out]; rfl, by rw [← HW0.out]; exact HBW.out _ B0.out⟩

end Go.Proofs.Ytahaehjmnafhbaa
