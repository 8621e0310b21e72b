import Derived.Test.YtoifmiloaefanaaDoorZUr0
import Derived.Test.YtoifmiloaefanaaDoorZOt0
/-
  The document's: may.
-/
namespace Go.Proofs.YtoifmiloaefanaaDoor
open Go.RowKit

set_option maxRecDepth 100000 in
set_option maxHeartbeats 2000000 in
theorem rword_no (b off n c : Nat) (z : Int) (w : World) (h0 : 0 < n) (hlt : isLet z = false) (hc : w.cell? ⟨b, off, none⟩ = some (.int .u8 z)) :
    Calls Tryd.prog 34 #[.slice (some ⟨b, off, none⟩) n c, .int .i64 0] w fun e w' => e = .returned (.int .i64 0) ∧ w' = w := by
  have H26 := hid (rletter_any z w)
  rw [hlt] at H26
  have h0' : (0 : Int) < (n : Int) := by omega
  clear hlt
  go_enter Tryd.func34, Tryd.ntmps34
  go_wp2
  go_loop [5] (fun kv => kv = .int .i64 0) (fun _ => 0)
  case atStart => rfl
  case round =>
    obtain rfl := hrel
    go_wp2_with (go_at_call 45; refine Calls.mono H26.out ?_; rintro e w1 ⟨rfl, rfl⟩)
    go_ret
    exact ⟨rfl, rfl⟩

def MayQ (w : World) (r : Bool) (e : Ending) (w' : World) : Prop := e = .returned (.bool r) ∧ Below w.heap.size w w'
set_option maxRecDepth 100000 in
set_option maxHeartbeats 4000000 in
theorem rmay_any (t : Tk) (w : World) (hB : Pl.isB t.tx) (hl : t.tx.length ≤ 16777215) : Calls Tryd.prog 21 #[tokV t] w (MayQ w (mayT t)) := by
  obtain ⟨k, l, n, a⟩ := t
  simp only at hB hl
  obtain ⟨W1, hW1⟩ : ∃ W1, W1 = w.alloc (.cells (tcs k (strOfNums l) n a) 29) := ⟨_, rfl⟩
  have bl1 : Below w.heap.size w W1 := by rw [hW1]; exact below1 _ _
  have z1 : W1.heap.size = w.heap.size + 1 := by rw [hW1]; simp
  have r1 : TkB W1 w.heap.size k (strOfNums l) n a := by rw [hW1]; exact heap_new _ _
  obtain ⟨W2, c2, hcv, hcs, bl2, happ⟩ := conv_app l hB (by omega) W1
  have r2 : TkB W2 w.heap.size k (strOfNums l) n a := r1.keep (bl2.block _ (by omega))
  have HB1 := hid bl1
  have HB2 : Hid (Below w.heap.size w W2) := bl1.trans (bl2.mono (by omega))
  obtain ⟨b, hb⟩ : ∃ b, b = W1.heap.size := ⟨_, rfl⟩
  rw [← hb] at hcv hcs happ
  rw [hW1] at hcv
  have u0 := r2.cell 0 _ rfl
  have u1 := r2.cell 1 _ rfl
  have u2 := r2.cell 2 _ rfl
  obtain ⟨PQ, hPQ⟩ : ∃ PQ, PQ = MayQ w (mayT ⟨k, l, n, a⟩) := ⟨_, rfl⟩
  rw [← hPQ]
  have hsz := str_size l
  simp only [tokV]
  by_cases c1 : k ≠ 3 ∧ n ≠ 0
  · obtain ⟨q1, q2⟩ := c1
    have HP : Hid (PQ (.returned (.bool false)) (w.alloc (.cells (tcs k (strOfNums l) n a) 29))) := by
      show PQ _ _
      rw [hPQ, ← hW1]
      refine ⟨?_, HB1.out⟩
      unfold mayT
      rw [if_pos ⟨q1, q2⟩]
    clear hPQ hW1 bl1 z1 r1 hcs bl2 happ r2 HB1 HB2 hb u0 u1 u2 hcv
    have q1' : (k != 3) = true := by simpa using q1
    have q2' : (n != 0) = true := by simpa using q2
    generalize strOfNums l = S at *
    go_enter Tryd.func21, Tryd.ntmps21
    go_wp2
    exact HP.out
  have HP : Hid (∀ W, W = W2 → PQ (.returned (.bool (mayT ⟨k, l, n, a⟩))) W) := fun W hW => by
    rw [hPQ, hW]
    exact ⟨rfl, HB2.out⟩
  have HPz : Hid (∀ W, Below w.heap.size w W → PQ (.returned (.bool (mayT ⟨k, l, n, a⟩))) W) := fun W hW => by
    rw [hPQ]
    exact ⟨rfl, hW⟩
  by_cases k1 : k = 1
  · subst k1
    have n0 : n = 0 := by by_cases h : n = 0; exact h; exact absurd ⟨by decide, h⟩ c1
    subst n0
    have hm : mayT ⟨1, l, 0, a⟩ = (decide (0 < l.length) && (isLet (l.getD 0 0) && decide (pasA isWd l 0 = l.length))) := by unfold mayT; simp
    rw [hm] at HP
    by_cases h0 : 0 < l.length
    · have h0' : (0 : Int) < (l.length : Int) := by omega
      cases hlt : isLet (l.getD 0 0) with
      | true =>
        have HC := hid (rword_any b 0 l.length c2 l 0 W2 (by omega) rfl h0 hlt (fun j hj => by rw [Nat.zero_add]; exact hcs j hj))
        rw [hlt, decide_eq_true h0] at HP
        by_cases hp : pasA isWd l 0 = l.length
        · rw [decide_eq_true hp] at HP
          have hp' : ((pasA isWd l 0 : Int) == (l.length : Int)) = true := by rw [hp]; simp
          clear hPQ hW1 bl1 z1 r1 hcs bl2 happ r2 HB1 HB2 hb hm HPz hp hlt h0
          generalize strOfNums l = S at *
          generalize pasA isWd l 0 = p at *
          go_enter Tryd.func21, Tryd.ntmps21
          go_wp2_with fail
          refine Calls.mono HC.out ?_
          rintro e w' ⟨rfl, rfl⟩
          go_wp2_with fail
          exact HP.out _ rfl
        · rw [decide_eq_false hp] at HP
          have hp' : ((pasA isWd l 0 : Int) == (l.length : Int)) = false := by simp; omega
          clear hPQ hW1 bl1 z1 r1 hcs bl2 happ r2 HB1 HB2 hb hm HPz hp hlt h0
          generalize strOfNums l = S at *
          generalize pasA isWd l 0 = p at *
          go_enter Tryd.func21, Tryd.ntmps21
          go_wp2_with fail
          refine Calls.mono HC.out ?_
          rintro e w' ⟨rfl, rfl⟩
          go_wp2_with fail
          exact HP.out _ rfl
      | false =>
        have HC := hid (rword_no b 0 l.length c2 (l.getD 0 0) W2 h0 hlt (hcs 0 h0))
        rw [hlt, decide_eq_true h0] at HP
        have hp' : ((0 : Int) == (l.length : Int)) = false := by simp; omega
        clear hPQ hW1 bl1 z1 r1 hcs bl2 happ r2 HB1 HB2 hb hm HPz hlt h0
        generalize strOfNums l = S at *
        go_enter Tryd.func21, Tryd.ntmps21
        go_wp2_with fail
        refine Calls.mono HC.out ?_
        rintro e w' ⟨rfl, rfl⟩
        go_wp2_with fail
        exact HP.out _ rfl
    · have h0' : ¬ (0 : Int) < (l.length : Int) := by omega
      rw [decide_eq_false h0] at HP
      clear hPQ hW1 bl1 z1 r1 hcs bl2 happ r2 HB1 HB2 hb hm HPz h0
      generalize strOfNums l = S at *
      go_enter Tryd.func21, Tryd.ntmps21
      go_wp2_with fail
      exact HP.out _ rfl
  by_cases k2 : k = 2
  · subst k2
    have n0 : n = 0 := by by_cases h : n = 0; exact h; exact absurd ⟨by decide, h⟩ c1
    subst n0
    have hm : mayT ⟨2, l, 0, a⟩ = decide ((innA 0 (l ++ [34]) 0).2 ≠ 1 ∧ (innA 0 (l ++ [34]) 0).1 = l.length) := by unfold mayT; simp
    rw [hm] at HPz
    obtain ⟨g, c3, W3, hr, hcs3, bl3⟩ := happ 22
    have hin := rinner_any g 0 (l.length + 1) c3 (l ++ [34]) 0 W3 (by omega) (by simp) (Nat.zero_le _) (fun j hj => by rw [Nat.zero_add]; exact hcs3 j hj)
    have hwb : w.heap.size ≤ b := by omega
    have HP3 := hid (HPz.out W3 (bl1.trans (bl3.mono hwb)))
    obtain ⟨sv, hsv⟩ : ∃ sv, sv = Value.slice (some ⟨b, 0, none⟩) l.length c2 := ⟨_, rfl⟩
    rw [← hsv] at hcv hr
    have HSV := hid hsv
    clear hsv
    generalize innA 0 (l ++ [34]) 0 = r at *
    obtain ⟨r1', r2'⟩ := r
    simp only at HP3 hin
    by_cases q1 : r2' = 1
    · subst q1
      have hv : badV (r1', 1) = (r1' : Int) := rfl
      rw [hv] at hin
      have hd : decide ((1 : Nat) ≠ 1 ∧ r1' = l.length) = false := by simp
      rw [hd] at HP3
      have HC := hid hin
      have hlt : ¬ ((r1' : Int) < 0) := by omega
      clear hPQ hW1 bl1 z1 r1 hcs bl2 happ r2 HB1 HB2 hb hm HPz HP hcs3 bl3 hin hd
      generalize strOfNums l = S at *
      go_enter Tryd.func21, Tryd.ntmps21
      go_wp2_with (at_builtin; refine Lib.wpList_append_run _ rfl _ _ _ _ rfl _ _ rfl rfl _ _ hr ?_; rw [HSV.out])
      refine Calls.mono HC.out ?_
      rintro e w' ⟨rfl, rfl⟩
      go_wp2_with fail
      exact HP3.out
    · have hv : badV (r1', r2') = -1 := by unfold badV; rw [if_neg q1]
      rw [hv] at hin
      have HC := hid hin
      by_cases q2 : r1' = l.length
      · have hd : decide (r2' ≠ 1 ∧ r1' = l.length) = true := by simp [q1, q2]
        rw [hd] at HP3
        have hp' : ((r1' : Int) == (l.length : Int)) = true := by rw [q2]; simp
        clear hPQ hW1 bl1 z1 r1 hcs bl2 happ r2 HB1 HB2 hb hm HPz HP hcs3 bl3 hin hd q2 q1
        generalize strOfNums l = S at *
        go_enter Tryd.func21, Tryd.ntmps21
        go_wp2_with (at_builtin; refine Lib.wpList_append_run _ rfl _ _ _ _ rfl _ _ rfl rfl _ _ hr ?_; rw [HSV.out])
        refine Calls.mono HC.out ?_
        rintro e w' ⟨rfl, rfl⟩
        go_wp2_with fail
        exact HP3.out
      · have hd : decide (r2' ≠ 1 ∧ r1' = l.length) = false := by simp [q2]
        rw [hd] at HP3
        have hp' : ((r1' : Int) == (l.length : Int)) = false := by simp; omega
        clear hPQ hW1 bl1 z1 r1 hcs bl2 happ r2 HB1 HB2 hb hm HPz HP hcs3 bl3 hin hd q2 q1
        generalize strOfNums l = S at *
        go_enter Tryd.func21, Tryd.ntmps21
        go_wp2_with (at_builtin; refine Lib.wpList_append_run _ rfl _ _ _ _ rfl _ _ rfl rfl _ _ hr ?_; rw [HSV.out])
        refine Calls.mono HC.out ?_
        rintro e w' ⟨rfl, rfl⟩
        go_wp2_with fail
        exact HP3.out
  by_cases k3 : k = 3
  · subst k3
    have hm : mayT ⟨3, l, n, a⟩ = decide (l = [] ∧ 0 ≤ n ∧ n ≤ 1099511627776) := by unfold mayT; simp
    rw [hm] at HP
    by_cases hle : l = []
    · subst hle
      have e0 : strOfNums [] = (⟨#[]⟩ : ByteArray) := rfl
      rw [e0] at hcv u1 ⊢
      by_cases h1 : 0 ≤ n
      · by_cases h2 : n ≤ 1099511627776
        · have hd : decide (([] : List Int) = [] ∧ 0 ≤ n ∧ n ≤ 1099511627776) = true := by simp [h1, h2]
          rw [hd] at HP
          clear hPQ hW1 bl1 z1 r1 hcs bl2 happ r2 HB1 HB2 hb hm HPz hd e0
          go_enter Tryd.func21, Tryd.ntmps21
          go_wp2_with fail
          exact HP.out _ rfl
        · have hd : decide (([] : List Int) = [] ∧ 0 ≤ n ∧ n ≤ 1099511627776) = false := by simp [h2]
          rw [hd] at HP
          have h3 : decide (n ≤ 1099511627776) = false := by simpa using h2
          clear hPQ hW1 bl1 z1 r1 hcs bl2 happ r2 HB1 HB2 hb hm HPz hd e0
          go_enter Tryd.func21, Tryd.ntmps21
          go_wp2_with fail
          exact HP.out _ rfl
      · have hd : decide (([] : List Int) = [] ∧ 0 ≤ n ∧ n ≤ 1099511627776) = false := by simp [h1]
        rw [hd] at HP
        have h3 : decide (0 ≤ n) = false := by simpa using h1
        clear hPQ hW1 bl1 z1 r1 hcs bl2 happ r2 HB1 HB2 hb hm HPz hd e0
        go_enter Tryd.func21, Tryd.ntmps21
        go_wp2_with fail
        exact HP.out _ rfl
    · have hne := str_ne hle
      have hd : decide (l = [] ∧ 0 ≤ n ∧ n ≤ 1099511627776) = false := by simp [hle]
      rw [hd] at HP
      clear hPQ hW1 bl1 z1 r1 hcs bl2 happ r2 HB1 HB2 hb hm HPz hd hle
      generalize strOfNums l = S at *
      go_enter Tryd.func21, Tryd.ntmps21
      go_wp2_with fail
      exact HP.out _ rfl
  have n0 : n = 0 := by by_cases h : n = 0; exact h; exact absurd ⟨k3, h⟩ c1
  subst n0
  by_cases k4 : k = 4
  · subst k4
    have hm : mayT ⟨4, l, 0, a⟩ = (decide (l.length = 1) && isMk (l.getD 0 0)) := by unfold mayT; simp
    rw [hm] at HP
    by_cases h1 : l.length = 1
    · have h1' : ((l.length : Int) == 1) = true := by rw [h1]; rfl
      have hc0 := hcs 0 (by omega)
      have HC := hid (rhas_any [59, 123, 125, 40, 41, 44, 61, 60, 43, 45, 42, 47, 37] isB_mk (by decide) (l.getD 0 0) W2)
      rw [mk_eq, show strOfNums [59, 123, 125, 40, 41, 44, 61, 60, 43, 45, 42, 47, 37] = ⟨#[59, 123, 125, 40, 41, 44, 61, 60, 43, 45, 42, 47, 37]⟩ from rfl] at HC
      rw [decide_eq_true h1, Bool.true_and] at HP
      have hlt : (0 : Int) < (l.length : Int) := by omega
      clear hPQ hW1 bl1 z1 r1 hcs bl2 happ r2 HB1 HB2 hb hm HPz h1
      generalize strOfNums l = S at *
      generalize isMk (l.getD 0 0) = m at *
      generalize l.getD 0 0 = zz at *
      go_enter Tryd.func21, Tryd.ntmps21
      go_wp2_with fail
      refine Calls.mono HC.out ?_
      rintro e w' ⟨rfl, rfl⟩
      go_wp2_with fail
      exact HP.out _ rfl
    · have h1' : ((l.length : Int) == 1) = false := by simp; omega
      rw [decide_eq_false h1, Bool.false_and] at HP
      clear hPQ hW1 bl1 z1 r1 hcs bl2 happ r2 HB1 HB2 hb hm HPz h1
      generalize strOfNums l = S at *
      go_enter Tryd.func21, Tryd.ntmps21
      go_wp2_with fail
      exact HP.out _ rfl
  · have hm : mayT ⟨k, l, 0, a⟩ = false := by unfold mayT; simp [k1, k2, k3, k4]
    rw [hm] at HP
    clear hPQ hW1 bl1 z1 r1 hcs bl2 happ r2 HB1 HB2 hb hm HPz c1
    generalize strOfNums l = S at *
    go_enter Tryd.func21, Tryd.ntmps21
    go_wp2_with fail
    exact HP.out _ rfl

end Go.Proofs.YtoifmiloaefanaaDoor
