/-
  The document's: has, plain, number.
-/
import Derived.Test.YtoifmiloaefanaaRe0
import Derived.Test.YtoifmiloaefanaaLp0
namespace Go.Proofs.Ytoifmiloaefanaa
open Go.RowKit

def inL (l : List Int) (z : Int) : Bool := l.any (fun y => decide (y = z))
set_option maxRecDepth 100000 in
set_option maxHeartbeats 2000000 in
theorem rhas_any (l : List Int) (hb : Pl.isB l) (hl : l.length ≤ 1000) (z : Int) (w : World) : Calls Try.prog 31 #[.string (strOfNums l), .int .u8 z] w fun e w' => e = .returned (.bool (inL l z)) ∧ w' = w := by
  have hsz := str_size l
  have HG := hid (fun i hi h => str_get l hb i hi h)
  clear hb
  generalize strOfNums l = S at *
  go_enter Try.func31, Try.ntmps31
  go_wp2
  go_loop [5] (fun kv => ∃ (j : Nat), kv = .int .i64 (j : Int) ∧ j ≤ l.length ∧ inL l z = inL (l.drop j) z) (fun kv => l.length - (intOf kv).toNat)
  case atStart => exact ⟨0, rfl, by omega, rfl⟩
  case round =>
    obtain ⟨j, rfl, hj, hs⟩ := hrel
    by_cases q : j < l.length
    · have q' : (j : Int) < (l.length : Int) := by omega
      have hjS : j < S.size := by omega
      have hg := HG.out j q hjS
      obtain ⟨y, HY⟩ : ∃ y, Hid (l.getD j 0 = y) := ⟨_, rfl⟩
      rw [HY.out] at hg
      have hd : inL (l.drop j) z = (decide (y = z) || inL (l.drop (j + 1)) z) := by
        rw [drop_cons q, HY.out]
        rfl
      by_cases e : y = z
      · have HT : Hid (inL l z = true) := by
          show _ = _
          rw [hs, hd, decide_eq_true e]
          rfl
        have hbq : (y == z) = true := by simp [e]
        clear hs hd e
        go_wp2
        go_ret
        exact ⟨by rw [HT.out]; rfl, rfl⟩
      · have HT : Hid (inL l z = inL (l.drop (j + 1)) z) := by
          show _ = _
          rw [hs, hd, decide_eq_false e]
          rfl
        have hbq : (y == z) = false := by simpa using e
        clear hs hd e
        go_wp2
        exact ⟨⟨j + 1, by rw [Int.natCast_add]; rfl, by omega, HT.out⟩, by simp [intOf]; omega⟩
    · have q' : ¬ (j : Int) < (l.length : Int) := by omega
      have HT : Hid (inL l z = false) := by
        show _ = _
        rw [hs, List.drop_eq_nil_of_le (by omega)]
        rfl
      clear hs
      go_wp2
      go_ret
      exact ⟨by rw [HT.out]; rfl, rfl⟩

theorem qt_eq (z : Int) : inL [34, 36, 123, 125] z = isQt z := by
  unfold inL isQt
  simp only [List.any_cons, List.any_nil, Bool.or_false]
  rw [Bool.eq_iff_iff]
  simp
  omega
theorem mk_eq (z : Int) : inL [59, 123, 125, 40, 41, 44, 61, 60, 43, 45, 42, 47, 37] z = isMk z := by
  unfold inL isMk
  simp only [List.any_cons, List.any_nil, Bool.or_false]
  rw [Bool.eq_iff_iff]
  simp
  omega
theorem isB_qt : Pl.isB [34, 36, 123, 125] := by intro z hz; simp at hz; omega
theorem isB_mk : Pl.isB [59, 123, 125, 40, 41, 44, 61, 60, 43, 45, 42, 47, 37] := by intro z hz; simp at hz; omega

set_option maxRecDepth 100000 in
set_option maxHeartbeats 2000000 in
theorem rplain_any (z : Int) (w : World) : Calls Try.prog 37 #[.int .u8 z] w fun e w' => e = .returned (.bool (isPn z)) ∧ w' = w := by
  have H := hid (rhas_any [34, 36, 123, 125] isB_qt (by decide) z w)
  rw [qt_eq, show strOfNums [34, 36, 123, 125] = ⟨#[34, 36, 123, 125]⟩ from rfl] at H
  unfold isPn
  generalize isQt z = r at *
  by_cases h1 : 32 ≤ z <;> by_cases h2 : z ≤ 126 <;> cases r
  all_goals
    simp only [h1, h2, decide_true, decide_false]
    go_enter Try.func37, Try.ntmps37
    go_wp2_with (go_at_call 31; refine Calls.mono H.out ?_; rintro e w1 ⟨rfl, rfl⟩)
    go_ret
    exact ⟨rfl, rfl⟩

def rnb (zs : List Int) (k : Nat) : Int := if 1099511627776 < nbT zs k then 1099511627777 else nbT zs k
theorem dig_at {zs : List Int} {k j : Nat} (h1 : k ≤ j) (h2 : j < dgE zs k) : 48 ≤ zs.getD j 0 ∧ zs.getD j 0 ≤ 57 := by
  have := pasA_all (p := isDig) zs k j h1 h2
  simpa [isDig] using this
theorem dig_end {zs : List Int} {k : Nat} (h : dgE zs k < zs.length) : isDig (zs.getD (dgE zs k) 0) = false := by
  have : ∀ k, pasA isDig zs k < zs.length → isDig (zs.getD (pasA isDig zs k) 0) = false := by
    refine down (zs := zs) ?_ ?_
    · intro k hk h; rw [pasA_end hk] at h; omega
    · intro k hk ih h
      cases q : isDig (zs.getD k 0) with
      | true => rw [pasA_step hk q] at h ⊢; exact ih h
      | false => rw [pasA_stop hk q]; exact q
  exact this k h
set_option maxRecDepth 100000 in
set_option maxHeartbeats 4000000 in
theorem rnumber_any (b off n c : Nat) (zs : List Int) (k : Nat) (w : World) (hn : n ≤ 16777216) (hz : zs.length = n) (hk : k < n) (hc : ∀ j, j < n → w.cell? ⟨b, off + j, none⟩ = some (.int .u8 (zs.getD j 0))) :
    Calls Try.prog 29 #[.slice (some ⟨b, off, none⟩) n c, .int .i64 (k : Int)] w fun e w' => e = .returned (.tuple #[.int .i64 (rnb zs k), .int .i64 (nbE zs k : Int)]) ∧ w' = w := by
  have HC := hid hc
  have hE1 : k ≤ dgE zs k := pasA_ge _ _ _
  have hE2 : dgE zs k ≤ n := by rw [← hz]; exact pasA_le (by omega)
  have hnv := nbV_bd (zs := zs) (a := k) (by omega)
  have HEnd : Hid (dgE zs k < n → isDig (zs.getD (dgE zs k) 0) = false) := fun h => dig_end (by omega)
  have HDg : Hid (∀ j, k ≤ j → j < dgE zs k → 48 ≤ zs.getD j 0 ∧ zs.getD j 0 ≤ 57) := fun j h1 h2 => dig_at h1 h2
  have HSub : Hid (∀ j, j < dgE zs k → subL zs j (dgE zs k) = zs.getD j 0 :: subL zs (j + 1) (dgE zs k)) := fun j h => sub_cons h (by omega)
  have HV0 : Hid (dgV 0 (subL zs k (dgE zs k)) = nbV zs k) := rfl
  have HNE : Hid (nbE zs k = unE zs (dgE zs k) ∧ rnb zs k = if 1099511627776 < nbV zs k * unU zs (dgE zs k) then 1099511627777 else nbV zs k * unU zs (dgE zs k)) := ⟨rfl, rfl⟩
  have HU : Hid (unU zs (dgE zs k) = (if zs[dgE zs k]? = some 75 then 1024 else if zs[dgE zs k]? = some 77 then 1048576 else 1) ∧ unE zs (dgE zs k) = (if zs[dgE zs k]? = some 75 ∨ zs[dgE zs k]? = some 77 then dgE zs k + 1 else dgE zs k)) := ⟨rfl, rfl⟩
  clear hc
  generalize dgE zs k = E at *
  generalize nbV zs k = x at *
  generalize nbE zs k = ne at *
  generalize rnb zs k = rn at *
  go_enter Try.func29, Try.ntmps29
  go_wp2
  go_loop [1, 6] (fun kv vv => ∃ (j : Nat) (v : Int), kv = .int .i64 (j : Int) ∧ vv = .int .i64 v ∧ k ≤ j ∧ j ≤ E ∧ 0 ≤ v ∧ v ≤ 1099511627777 ∧ dgV v (subL zs j E) = x) (fun kv _ => n - (intOf kv).toNat)
  case atStart => exact ⟨k, 0, rfl, rfl, Nat.le_refl _, hE1, by decide, by decide, HV0.out⟩
  case round =>
    obtain ⟨j, v, rfl, rfl, hkj, hjE, hv0, hv1, hs⟩ := hrel
    by_cases q : j < E
    · have hcj := HC.out j (by omega)
      have q' : (j : Int) < (n : Int) := by omega
      have hzb := HDg.out j hkj q
      rw [HSub.out j q] at hs
      obtain ⟨z, HZ⟩ : ∃ z, Hid (zs.getD j 0 = z) := ⟨_, rfl⟩
      rw [HZ.out] at hcj hzb hs
      have H28 := hid (rdigit_any z w)
      rw [show isDig z = true by unfold isDig; simp [hzb]] at H28
      have hbd := dgS_bd hv0 hv1 hzb
      have HN : Hid (0 ≤ dgS v z ∧ dgS v z ≤ 1099511627777 ∧ dgV (dgS v z) (subL zs (j + 1) E) = x) := ⟨hbd.1, hbd.2, hs⟩
      obtain ⟨z0, z1⟩ := hzb
      clear hs hbd
      go_wp2_with (go_at_call 28; refine Calls.mono H28.out ?_; rintro e w1 ⟨rfl, rfl⟩)
      refine ⟨⟨j + 1, dgS v z, by rw [Int.natCast_add]; rfl, ?_, by omega, by omega, HN.out⟩, by simp [intOf]; omega⟩
      unfold dgS
      congr 1
      split <;> omega
    · obtain rfl : j = E := by omega
      have hxv : v = x := by
        rw [← hs, show subL zs j j = [] by (unfold subL; simp)]
        rfl
      subst hxv
      clear hs hE1 HSub HDg HV0 hjE q
      have hu := HU.out
      clear HU
      by_cases q : j = n
      · have q' : ¬ (j : Int) < (n : Int) := by omega
        rw [List.getElem?_eq_none (by omega)] at hu
        simp only [reduceCtorEq, if_false, or_self] at hu
        by_cases qb : 1099511627776 < v
        · have hR : rn = 1099511627777 ∧ ne = j := by
              refine ⟨?_, by rw [HNE.out.1, hu.2]⟩
              rw [HNE.out.2, hu.1, Int.mul_one]
              exact if_pos (by omega)
          have HRR := hid hR
          have hxu : v * 1 ≤ 1152921504607895552 := by omega
          have hxu0 : 0 ≤ v * 1 := by omega
          clear hR hu q
          go_wp2
          go_ret2
          exact ⟨by rw [HRR.out.1, HRR.out.2]; rfl, rfl⟩
        · have hR : rn = v ∧ ne = j := by
              refine ⟨?_, by rw [HNE.out.1, hu.2]⟩
              rw [HNE.out.2, hu.1, Int.mul_one]
              exact if_neg (by omega)
          have HRR := hid hR
          have hxu : v * 1 ≤ 1152921504607895552 := by omega
          have hxu0 : 0 ≤ v * 1 := by omega
          clear hR hu q
          go_wp2
          go_ret2
          exact ⟨by rw [HRR.out.1, HRR.out.2]; rfl, rfl⟩
      · have hjn : j < n := by omega
        have q' : (j : Int) < (n : Int) := by omega
        have hcj := HC.out j hjn
        have hnd := HEnd.out hjn
        rw [at_some (show j < zs.length by omega)] at hu
        obtain ⟨z, HZ⟩ : ∃ z, Hid (zs.getD j 0 = z) := ⟨_, rfl⟩
        rw [HZ.out] at hcj hnd hu
        have H28 := hid (rdigit_any z w)
        rw [hnd] at H28
        clear hnd HEnd
        by_cases h75 : z = 75
        · subst h75
          rw [if_pos rfl, if_pos (.inl rfl)] at hu
          by_cases qb : 1073741824 < v
          · have hR : rn = 1099511627777 ∧ ne = j + 1 := by
                refine ⟨?_, by rw [HNE.out.1, hu.2]⟩
                rw [HNE.out.2, hu.1]
                exact if_pos (by omega)
            have HRR := hid hR
            have hxu : v * 1024 ≤ 1152921504607895552 := by omega
            have hxu0 : 0 ≤ v * 1024 := by omega
            clear hR hu
            go_wp2_with (go_at_call 28; refine Calls.mono H28.out ?_; rintro e w1 ⟨rfl, rfl⟩)
            go_ret2
            exact ⟨by rw [HRR.out.1, HRR.out.2]; rfl, rfl⟩
          · have hR : rn = v * 1024 ∧ ne = j + 1 := by
                refine ⟨?_, by rw [HNE.out.1, hu.2]⟩
                rw [HNE.out.2, hu.1]
                exact if_neg (by omega)
            have HRR := hid hR
            have hxu : v * 1024 ≤ 1152921504607895552 := by omega
            have hxu0 : 0 ≤ v * 1024 := by omega
            clear hR hu
            go_wp2_with (go_at_call 28; refine Calls.mono H28.out ?_; rintro e w1 ⟨rfl, rfl⟩)
            go_ret2
            exact ⟨by rw [HRR.out.1, HRR.out.2]; rfl, rfl⟩
        by_cases h77 : z = 77
        · subst h77
          rw [if_neg (by decide), if_pos rfl, if_pos (.inr rfl)] at hu
          by_cases qb : 1048576 < v
          · have hR : rn = 1099511627777 ∧ ne = j + 1 := by
                refine ⟨?_, by rw [HNE.out.1, hu.2]⟩
                rw [HNE.out.2, hu.1]
                exact if_pos (by omega)
            have HRR := hid hR
            have hxu : v * 1048576 ≤ 1152921504607895552 := by omega
            have hxu0 : 0 ≤ v * 1048576 := by omega
            clear hR hu
            go_wp2_with (go_at_call 28; refine Calls.mono H28.out ?_; rintro e w1 ⟨rfl, rfl⟩)
            go_ret2
            exact ⟨by rw [HRR.out.1, HRR.out.2]; rfl, rfl⟩
          · have hR : rn = v * 1048576 ∧ ne = j + 1 := by
                refine ⟨?_, by rw [HNE.out.1, hu.2]⟩
                rw [HNE.out.2, hu.1]
                exact if_neg (by omega)
            have HRR := hid hR
            have hxu : v * 1048576 ≤ 1152921504607895552 := by omega
            have hxu0 : 0 ≤ v * 1048576 := by omega
            clear hR hu
            go_wp2_with (go_at_call 28; refine Calls.mono H28.out ?_; rintro e w1 ⟨rfl, rfl⟩)
            go_ret2
            exact ⟨by rw [HRR.out.1, HRR.out.2]; rfl, rfl⟩
        · rw [if_neg (fun h => h75 (by simpa using h)), if_neg (fun h => h77 (by simpa using h)), if_neg (fun h => by rcases h with h | h; exact h75 (by simpa using h); exact h77 (by simpa using h))] at hu
          by_cases qb : 1099511627776 < v
          · have hR : rn = 1099511627777 ∧ ne = j := by
                refine ⟨?_, by rw [HNE.out.1, hu.2]⟩
                rw [HNE.out.2, hu.1, Int.mul_one]
                exact if_pos (by omega)
            have HRR := hid hR
            have hxu : v * 1 ≤ 1152921504607895552 := by omega
            have hxu0 : 0 ≤ v * 1 := by omega
            clear hR hu
            go_wp2_with (go_at_call 28; refine Calls.mono H28.out ?_; rintro e w1 ⟨rfl, rfl⟩)
            go_ret2
            exact ⟨by rw [HRR.out.1, HRR.out.2]; rfl, rfl⟩
          · have hR : rn = v ∧ ne = j := by
                refine ⟨?_, by rw [HNE.out.1, hu.2]⟩
                rw [HNE.out.2, hu.1, Int.mul_one]
                exact if_neg (by omega)
            have HRR := hid hR
            have hxu : v * 1 ≤ 1152921504607895552 := by omega
            have hxu0 : 0 ≤ v * 1 := by omega
            clear hR hu
            go_wp2_with (go_at_call 28; refine Calls.mono H28.out ?_; rintro e w1 ⟨rfl, rfl⟩)
            go_ret2
            exact ⟨by rw [HRR.out.1, HRR.out.2]; rfl, rfl⟩

end Go.Proofs.Ytoifmiloaefanaa
