import Derived.Test.YtoifmiloaefanaaDoorZSc9
import Derived.Test.YtoifmiloaefanaaDoorZLp0
/-
  The document's: skip, word, has, plain.
-/
namespace Go.Proofs.YtoifmiloaefanaaDoor
open Go.RowKit

set_option maxRecDepth 100000 in
set_option maxHeartbeats 2000000 in
theorem rword_any (b off n c : Nat) (zs : List Int) (k : Nat) (w : World) (hn : n ≤ 16777216) (hz : zs.length = n) (hk : k < n) (hlt : isLet (zs.getD k 0) = true) (hc : ∀ j, j < n → w.cell? ⟨b, off + j, none⟩ = some (.int .u8 (zs.getD j 0))) :
    Calls Tryd.prog 34 #[.slice (some ⟨b, off, none⟩) n c, .int .i64 (k : Int)] w fun e w' => e = .returned (.int .i64 (pasA isWd zs k : Int)) ∧ w' = w := by
  have HC := hid hc
  have HLT := hid hlt
  clear hc hlt
  go_enter Tryd.func34, Tryd.ntmps34
  go_wp2
  go_loop [5] (fun kv => ∃ (j : Nat), kv = .int .i64 (j : Int) ∧ k ≤ j ∧ j ≤ n ∧ pasA isWd zs j = pasA isWd zs k) (fun kv => n - (intOf kv).toNat)
  case atStart => exact ⟨k, rfl, Nat.le_refl _, by omega, rfl⟩
  case round =>
    obtain ⟨j, rfl, hkj, hj, hs⟩ := hrel
    by_cases q : j < n
    · have hcj := HC.out j q
      have q' : (j : Int) < (n : Int) := by omega
      have hjl : j < zs.length := by omega
      obtain ⟨z, HZ⟩ : ∃ z, Hid (zs.getD j 0 = z) := ⟨_, rfl⟩
      rw [HZ.out] at hcj
      have H26 := hid (rletter_any z w)
      have H28 := hid (rdigit_any z w)
      cases hl1 : isLet z with
      | true =>
        have HN : Hid (pasA isWd zs (j + 1) = pasA isWd zs k) := by
          rw [pasA_step hjl (by rw [HZ.out]; unfold isWd; rw [hl1]; rfl)] at hs
          exact hs
        rw [hl1] at H26
        clear hs hl1
        go_wp2_with (go_at_call 45; refine Calls.mono H26.out ?_; rintro e w1 ⟨rfl, rfl⟩)
        exact ⟨⟨j + 1, by rw [Int.natCast_add]; rfl, by omega, by omega, HN.out⟩, by simp [intOf]; omega⟩
      | false =>
        have hkj' : k < j := by
          rcases Nat.lt_or_eq_of_le hkj with h | h
          · exact h
          · subst h; have := HLT.out; rw [HZ.out, hl1] at this; cases this
        have hkj2 : (k : Int) < (j : Int) := by omega
        rw [hl1] at H26
        cases hl2 : isDig z with
        | true =>
          have HN : Hid (pasA isWd zs (j + 1) = pasA isWd zs k) := by
            rw [pasA_step hjl (by rw [HZ.out]; unfold isWd; rw [hl2]; simp)] at hs
            exact hs
          rw [hl2] at H28
          clear hs hl1 hl2
          go_wp2_with (first | (go_at_call 45; with_reducible refine Calls.mono H26.out ?_; rintro e w1 ⟨rfl, rfl⟩) | (go_at_call 46; with_reducible refine Calls.mono H28.out ?_; rintro e w1 ⟨rfl, rfl⟩))
          exact ⟨⟨j + 1, by rw [Int.natCast_add]; rfl, by omega, by omega, HN.out⟩, by simp [intOf]; omega⟩
        | false =>
          have HN : Hid (j = pasA isWd zs k) := by
            rw [pasA_stop hjl (by rw [HZ.out]; unfold isWd; rw [hl1, hl2]; rfl)] at hs
            exact hs
          rw [hl2] at H28
          clear hs hl1 hl2
          go_wp2_with (first | (go_at_call 45; with_reducible refine Calls.mono H26.out ?_; rintro e w1 ⟨rfl, rfl⟩) | (go_at_call 46; with_reducible refine Calls.mono H28.out ?_; rintro e w1 ⟨rfl, rfl⟩))
          go_ret
          exact ⟨by rw [← HN.out]; rfl, rfl⟩
    · have q' : ¬ (j : Int) < (n : Int) := by omega
      have HN : Hid (j = pasA isWd zs k) := by
        rw [pasA_end (by omega)] at hs
        exact hs
      clear hs
      go_wp2
      go_ret
      exact ⟨by rw [← HN.out]; rfl, rfl⟩

end Go.Proofs.YtoifmiloaefanaaDoor
/-
  The document's: has, plain, number.
-/
namespace Go.Proofs.YtoifmiloaefanaaDoor
open Go.RowKit

def inL (l : List Int) (z : Int) : Bool := l.any (fun y => decide (y = z))
set_option maxRecDepth 100000 in
set_option maxHeartbeats 2000000 in
theorem rhas_any (l : List Int) (hb : Pl.isB l) (hl : l.length ≤ 1000) (z : Int) (w : World) : Calls Tryd.prog 36 #[.string (strOfNums l), .int .u8 z] w fun e w' => e = .returned (.bool (inL l z)) ∧ w' = w := by
  have hsz := str_size l
  have HG := hid (fun i hi h => str_get l hb i hi h)
  clear hb
  generalize strOfNums l = S at *
  go_enter Tryd.func36, Tryd.ntmps36
  go_wp2
  go_loop [5] (fun kv => ∃ (j : Nat), kv = .int .i64 (j : Int) ∧ j ≤ l.length ∧ inL l z = inL (l.drop j) z) (fun kv => l.length - (intOf kv).toNat)
  case atStart => exact ⟨0, rfl, by omega, rfl⟩
  case round =>
    obtain ⟨j, rfl, hj, hs⟩ := hrel
    by_cases q : j < l.length
    · have q' : (j : Int) < (l.length : Int) := by omega
      have hjS : j < S.size := by omega
      have hg := HG.out j q hjS
      obtain ⟨y, HY⟩ : ∃ y, Hid (l.getD j 0 = y) := ⟨_, rfl⟩
      rw [HY.out] at hg
      have hd : inL (l.drop j) z = (decide (y = z) || inL (l.drop (j + 1)) z) := by
        rw [drop_cons q, HY.out]
        rfl
      by_cases e : y = z
      · have HT : Hid (inL l z = true) := by
          show _ = _
          rw [hs, hd, decide_eq_true e]
          rfl
        have hbq : (y == z) = true := by simp [e]
        clear hs hd e
        go_wp2
        go_ret
        exact ⟨by rw [HT.out]; rfl, rfl⟩
      · have HT : Hid (inL l z = inL (l.drop (j + 1)) z) := by
          show _ = _
          rw [hs, hd, decide_eq_false e]
          rfl
        have hbq : (y == z) = false := by simpa using e
        clear hs hd e
        go_wp2
        exact ⟨⟨j + 1, by rw [Int.natCast_add]; rfl, by omega, HT.out⟩, by simp [intOf]; omega⟩
    · have q' : ¬ (j : Int) < (l.length : Int) := by omega
      have HT : Hid (inL l z = false) := by
        show _ = _
        rw [hs, List.drop_eq_nil_of_le (by omega)]
        rfl
      clear hs
      go_wp2
      go_ret
      exact ⟨by rw [HT.out]; rfl, rfl⟩

theorem qt_eq (z : Int) : inL [34, 36, 123, 125] z = isQt z := by
  unfold inL isQt
  simp only [List.any_cons, List.any_nil, Bool.or_false]
  rw [Bool.eq_iff_iff]
  simp
  omega
theorem mk_eq (z : Int) : inL [59, 123, 125, 40, 41, 44, 61, 60, 43, 45, 42, 47, 37] z = isMk z := by
  unfold inL isMk
  simp only [List.any_cons, List.any_nil, Bool.or_false]
  rw [Bool.eq_iff_iff]
  simp
  omega
theorem isB_qt : Pl.isB [34, 36, 123, 125] := by intro z hz; simp at hz; omega
theorem isB_mk : Pl.isB [59, 123, 125, 40, 41, 44, 61, 60, 43, 45, 42, 47, 37] := by intro z hz; simp at hz; omega

set_option maxRecDepth 100000 in
set_option maxHeartbeats 2000000 in
theorem rplain_any (z : Int) (w : World) : Calls Tryd.prog 47 #[.int .u8 z] w fun e w' => e = .returned (.bool (isPn z)) ∧ w' = w := by
  have H := hid (rhas_any [34, 36, 123, 125] isB_qt (by decide) z w)
  rw [qt_eq, show strOfNums [34, 36, 123, 125] = ⟨#[34, 36, 123, 125]⟩ from rfl] at H
  unfold isPn
  generalize isQt z = r at *
  by_cases h1 : 32 ≤ z <;> by_cases h2 : z ≤ 126 <;> cases r
  all_goals
    simp only [h1, h2, decide_true, decide_false]
    go_enter Tryd.func47, Tryd.ntmps47
    go_wp2_with (go_at_call 36; refine Calls.mono H.out ?_; rintro e w1 ⟨rfl, rfl⟩)
    go_ret
    exact ⟨rfl, rfl⟩

end Go.Proofs.YtoifmiloaefanaaDoor
/-
  The document's: inner.
-/
namespace Go.Proofs.YtoifmiloaefanaaDoor
open Go.RowKit

def badV (x : Nat × Nat) : Int := if x.2 = 1 then (x.1 : Int) else -1
set_option maxRecDepth 100000 in
set_option maxHeartbeats 4000000 in
theorem rinner_any (b off n c : Nat) (zs : List Int) (k : Nat) (w : World) (hn : n ≤ 16777216) (hz : zs.length = n) (hk : k ≤ n) (hc : ∀ j, j < n → w.cell? ⟨b, off + j, none⟩ = some (.int .u8 (zs.getD j 0))) :
    Calls Tryd.prog 35 #[.slice (some ⟨b, off, none⟩) n c, .int .i64 (k : Int)] w fun e w' => e = .returned (.tuple #[.int .i64 ((innA 0 zs k).1 : Int), .int .i64 (badV (innA 0 zs k))]) ∧ w' = w := by
  have HC := hid hc
  clear hc
  obtain ⟨r, hr⟩ : ∃ r, r = innA 0 zs k := ⟨_, rfl⟩
  rw [← hr]
  go_enter Tryd.func35, Tryd.ntmps35
  go_wp2
  go_loop [1, 6] (fun kv ov => ∃ (j : Nat) (o : Bool), kv = .int .i64 (j : Int) ∧ ov = .bool o ∧ j ≤ n ∧ innA (oN o) zs j = r) (fun kv _ => n - (intOf kv).toNat)
  case atStart => exact ⟨k, false, rfl, rfl, hk, hr.symm⟩
  case round =>
    clear hr
    obtain ⟨j, o, rfl, rfl, hj, hs⟩ := hrel
    by_cases q : j < n
    · have hcj := HC.out j q
      have q' : (j : Int) < (n : Int) := by omega
      have hjz : j < zs.length := by omega
      obtain ⟨z, HZ⟩ : ∃ z, Hid (zs.getD j 0 = z) := ⟨_, rfl⟩
      rw [HZ.out] at hcj
      have H37 := hid (rplain_any z w)
      have HBad : Hid (isPn z = false → ¬ (z = 34 ∧ o = false) → ¬ (z = 125 ∧ o = true) → ¬ (pfx zs j = true ∧ o = false) → r = (j, 1)) := fun h1 h2 h3 h4 => by
        rw [← hs]
        exact inn_bad o hjz (by rw [HZ.out]; exact h1) (by rw [HZ.out]; exact h2) (by rw [HZ.out]; exact h3) h4
      have HPl : Hid (isPn z = true → innA (oN o) zs (j + 1) = r) := fun h => (inn_plain o hjz (by rw [HZ.out]; exact h)).symm.trans hs
      cases o with
      | true =>
        by_cases z2 : z = 125
        · have HN : Hid (innA 0 zs (j + 1) = r) := (inn_back hjz (by rw [HZ.out]; exact z2)).symm.trans hs
          subst z2
          clear hs HBad HPl
          go_wp2_with (go_at_call 47; refine Calls.mono H37.out ?_; rintro e w1 ⟨rfl, rfl⟩)
          exact ⟨⟨j + 1, false, by rw [Int.natCast_add]; rfl, rfl, by omega, HN.out⟩, by simp [intOf]; omega⟩
        cases hpn : isPn z with
        | true =>
          have HN := hid (HPl.out hpn)
          rw [hpn] at H37
          clear hs HBad HPl
          go_wp2_with (go_at_call 47; refine Calls.mono H37.out ?_; rintro e w1 ⟨rfl, rfl⟩)
          exact ⟨⟨j + 1, true, by rw [Int.natCast_add]; rfl, rfl, by omega, HN.out⟩, by simp [intOf]; omega⟩
        | false =>
          rw [hpn] at H37
          have hR := HBad.out hpn (fun h => by cases h.2) (fun h => z2 h.1) (fun h => by cases h.2)
          clear hs HBad HPl
          subst hR
          go_wp2_with (go_at_call 47; refine Calls.mono H37.out ?_; rintro e w1 ⟨rfl, rfl⟩)
          go_ret2
          exact ⟨rfl, rfl⟩
      | false =>
        cases hpn : isPn z with
        | true =>
          have HN := hid (HPl.out hpn)
          rw [hpn] at H37
          clear hs HBad HPl
          go_wp2_with (go_at_call 47; refine Calls.mono H37.out ?_; rintro e w1 ⟨rfl, rfl⟩)
          exact ⟨⟨j + 1, false, by rw [Int.natCast_add]; rfl, rfl, by omega, HN.out⟩, by simp [intOf]; omega⟩
        | false =>
          rw [hpn] at H37
          by_cases z1 : z = 34
          · have hR : r = (j, 0) := by rw [← hs]; exact inn_close hjz (by rw [HZ.out]; exact z1)
            clear hs HBad HPl hpn
            subst hR
            subst z1
            go_wp2_with (go_at_call 47; refine Calls.mono H37.out ?_; rintro e w1 ⟨rfl, rfl⟩)
            go_ret2
            exact ⟨rfl, rfl⟩
          by_cases z3 : z = 36
          · by_cases q2 : j + 1 < n
            · have hcj2 := HC.out (j + 1) q2
              have q2' : (j : Int) + 1 < (n : Int) := by omega
              obtain ⟨y, HY⟩ : ∃ y, Hid (zs.getD (j + 1) 0 = y) := ⟨_, rfl⟩
              rw [HY.out] at hcj2
              have hcj3 : w.cell? ⟨b, off + (j + 1), none⟩ = some (.int .u8 y) := hcj2
              by_cases y1 : y = 123
              · have HN : Hid (innA 1 zs (j + 2) = r) := (inn_open hjz (by unfold pfx; rw [HZ.out, at_some (show j + 1 < zs.length by omega), HY.out, z3, y1]; rfl)).1.symm.trans hs
                subst z3
                subst y1
                clear hs HBad HPl
                go_wp2_with (go_at_call 47; refine Calls.mono H37.out ?_; rintro e w1 ⟨rfl, rfl⟩)
                exact ⟨⟨j + 2, true, by go_num, rfl, by omega, HN.out⟩, by simp [intOf]; omega⟩
              · have hpf : pfx zs j = false := by unfold pfx; rw [at_some (show j + 1 < zs.length by omega), HY.out]; simp [y1]
                have hR := HBad.out hpn (fun h => z1 h.1) (fun h => by cases h.2) (fun h => by rw [hpf] at h; cases h.1)
                clear hs HBad HPl
                subst hR
                subst z3
                clear hpf
                go_wp2_with (go_at_call 47; refine Calls.mono H37.out ?_; rintro e w1 ⟨rfl, rfl⟩)
                go_ret2
                exact ⟨rfl, rfl⟩
            · have q2' : ¬ (j : Int) + 1 < (n : Int) := by omega
              have hpf : pfx zs j = false := by unfold pfx; rw [List.getElem?_eq_none (by omega)]; simp
              have hR := HBad.out hpn (fun h => z1 h.1) (fun h => by cases h.2) (fun h => by rw [hpf] at h; cases h.1)
              clear hs HBad HPl
              subst hR
              subst z3
              clear hpf
              go_wp2_with (go_at_call 47; refine Calls.mono H37.out ?_; rintro e w1 ⟨rfl, rfl⟩)
              go_ret2
              exact ⟨rfl, rfl⟩
          · have hpf : pfx zs j = false := by unfold pfx; rw [HZ.out, decide_eq_false z3]; rfl
            have hR := HBad.out hpn (fun h => z1 h.1) (fun h => by cases h.2) (fun h => by rw [hpf] at h; cases h.1)
            clear hs HBad HPl
            subst hR
            clear hpf
            go_wp2_with (go_at_call 47; refine Calls.mono H37.out ?_; rintro e w1 ⟨rfl, rfl⟩)
            go_ret2
            exact ⟨rfl, rfl⟩
    · have q' : ¬ (j : Int) < (n : Int) := by omega
      have hR : r = (j, 2) := by rw [← hs, innA_end (by omega)]
      clear hs
      subst hR
      go_wp2
      go_ret2
      exact ⟨rfl, rfl⟩

end Go.Proofs.YtoifmiloaefanaaDoor
