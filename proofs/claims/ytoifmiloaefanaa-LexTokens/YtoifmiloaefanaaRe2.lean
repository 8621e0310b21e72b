/-
  The document's: inner.
-/
import Derived.Test.YtoifmiloaefanaaRe1
namespace Go.Proofs.Ytoifmiloaefanaa
open Go.RowKit

def badV (x : Nat × Nat) : Int := if x.2 = 1 then (x.1 : Int) else -1
set_option maxRecDepth 100000 in
set_option maxHeartbeats 4000000 in
theorem rinner_any (b off n c : Nat) (zs : List Int) (k : Nat) (w : World) (hn : n ≤ 16777216) (hz : zs.length = n) (hk : k ≤ n) (hc : ∀ j, j < n → w.cell? ⟨b, off + j, none⟩ = some (.int .u8 (zs.getD j 0))) :
    Calls Try.prog 30 #[.slice (some ⟨b, off, none⟩) n c, .int .i64 (k : Int)] w fun e w' => e = .returned (.tuple #[.int .i64 ((innA 0 zs k).1 : Int), .int .i64 (badV (innA 0 zs k))]) ∧ w' = w := by
  have HC := hid hc
  clear hc
  obtain ⟨r, hr⟩ : ∃ r, r = innA 0 zs k := ⟨_, rfl⟩
  rw [← hr]
  go_enter Try.func30, Try.ntmps30
  go_wp2
  go_loop [1, 6] (fun kv ov => ∃ (j : Nat) (o : Bool), kv = .int .i64 (j : Int) ∧ ov = .bool o ∧ j ≤ n ∧ innA (oN o) zs j = r) (fun kv _ => n - (intOf kv).toNat)
  case atStart => exact ⟨k, false, rfl, rfl, hk, hr.symm⟩
  case round =>
    clear hr
    obtain ⟨j, o, rfl, rfl, hj, hs⟩ := hrel
    by_cases q : j < n
    · have hcj := HC.out j q
      have q' : (j : Int) < (n : Int) := by omega
      have hjz : j < zs.length := by omega
      obtain ⟨z, HZ⟩ : ∃ z, Hid (zs.getD j 0 = z) := ⟨_, rfl⟩
      rw [HZ.out] at hcj
      have H37 := hid (rplain_any z w)
      have HBad : Hid (isPn z = false → ¬ (z = 34 ∧ o = false) → ¬ (z = 125 ∧ o = true) → ¬ (pfx zs j = true ∧ o = false) → r = (j, 1)) := fun h1 h2 h3 h4 => by
        rw [← hs]
        exact inn_bad o hjz (by rw [HZ.out]; exact h1) (by rw [HZ.out]; exact h2) (by rw [HZ.out]; exact h3) h4
      have HPl : Hid (isPn z = true → innA (oN o) zs (j + 1) = r) := fun h => (inn_plain o hjz (by rw [HZ.out]; exact h)).symm.trans hs
      cases o with
      | true =>
        by_cases z2 : z = 125
        · have HN : Hid (innA 0 zs (j + 1) = r) := (inn_back hjz (by rw [HZ.out]; exact z2)).symm.trans hs
          subst z2
          clear hs HBad HPl
          go_wp2_with (go_at_call 37; refine Calls.mono H37.out ?_; rintro e w1 ⟨rfl, rfl⟩)
          exact ⟨⟨j + 1, false, by rw [Int.natCast_add]; rfl, rfl, by omega, HN.out⟩, by simp [intOf]; omega⟩
        cases hpn : isPn z with
        | true =>
          have HN := hid (HPl.out hpn)
          rw [hpn] at H37
          clear hs HBad HPl
          go_wp2_with (go_at_call 37; refine Calls.mono H37.out ?_; rintro e w1 ⟨rfl, rfl⟩)
          exact ⟨⟨j + 1, true, by rw [Int.natCast_add]; rfl, rfl, by omega, HN.out⟩, by simp [intOf]; omega⟩
        | false =>
          rw [hpn] at H37
          have hR := HBad.out hpn (fun h => by cases h.2) (fun h => z2 h.1) (fun h => by cases h.2)
          clear hs HBad HPl
          subst hR
          go_wp2_with (go_at_call 37; refine Calls.mono H37.out ?_; rintro e w1 ⟨rfl, rfl⟩)
          go_ret2
          exact ⟨rfl, rfl⟩
      | false =>
        cases hpn : isPn z with
        | true =>
          have HN := hid (HPl.out hpn)
          rw [hpn] at H37
          clear hs HBad HPl
          go_wp2_with (go_at_call 37; refine Calls.mono H37.out ?_; rintro e w1 ⟨rfl, rfl⟩)
          exact ⟨⟨j + 1, false, by rw [Int.natCast_add]; rfl, rfl, by omega, HN.out⟩, by simp [intOf]; omega⟩
        | false =>
          rw [hpn] at H37
          by_cases z1 : z = 34
          · have hR : r = (j, 0) := by rw [← hs]; exact inn_close hjz (by rw [HZ.out]; exact z1)
            clear hs HBad HPl hpn
            subst hR
            subst z1
            go_wp2_with (go_at_call 37; refine Calls.mono H37.out ?_; rintro e w1 ⟨rfl, rfl⟩)
            go_ret2
            exact ⟨rfl, rfl⟩
          by_cases z3 : z = 36
          · by_cases q2 : j + 1 < n
            · have hcj2 := HC.out (j + 1) q2
              have q2' : (j : Int) + 1 < (n : Int) := by omega
              obtain ⟨y, HY⟩ : ∃ y, Hid (zs.getD (j + 1) 0 = y) := ⟨_, rfl⟩
              rw [HY.out] at hcj2
              have hcj3 : w.cell? ⟨b, off + (j + 1), none⟩ = some (.int .u8 y) := hcj2
              by_cases y1 : y = 123
              · have HN : Hid (innA 1 zs (j + 2) = r) := (inn_open hjz (by unfold pfx; rw [HZ.out, at_some (show j + 1 < zs.length by omega), HY.out, z3, y1]; rfl)).1.symm.trans hs
                subst z3
                subst y1
                clear hs HBad HPl
                go_wp2_with (go_at_call 37; refine Calls.mono H37.out ?_; rintro e w1 ⟨rfl, rfl⟩)
                exact ⟨⟨j + 2, true, by go_num, rfl, by omega, HN.out⟩, by simp [intOf]; omega⟩
              · have hpf : pfx zs j = false := by unfold pfx; rw [at_some (show j + 1 < zs.length by omega), HY.out]; simp [y1]
                have hR := HBad.out hpn (fun h => z1 h.1) (fun h => by cases h.2) (fun h => by rw [hpf] at h; cases h.1)
                clear hs HBad HPl
                subst hR
                subst z3
                clear hpf
                go_wp2_with (go_at_call 37; refine Calls.mono H37.out ?_; rintro e w1 ⟨rfl, rfl⟩)
                go_ret2
                exact ⟨rfl, rfl⟩
            · have q2' : ¬ (j : Int) + 1 < (n : Int) := by omega
              have hpf : pfx zs j = false := by unfold pfx; rw [List.getElem?_eq_none (by omega)]; simp
              have hR := HBad.out hpn (fun h => z1 h.1) (fun h => by cases h.2) (fun h => by rw [hpf] at h; cases h.1)
              clear hs HBad HPl
              subst hR
              subst z3
              clear hpf
              go_wp2_with (go_at_call 37; refine Calls.mono H37.out ?_; rintro e w1 ⟨rfl, rfl⟩)
              go_ret2
              exact ⟨rfl, rfl⟩
          · have hpf : pfx zs j = false := by unfold pfx; rw [HZ.out, decide_eq_false z3]; rfl
            have hR := HBad.out hpn (fun h => z1 h.1) (fun h => by cases h.2) (fun h => by rw [hpf] at h; cases h.1)
            clear hs HBad HPl
            subst hR
            clear hpf
            go_wp2_with (go_at_call 37; refine Calls.mono H37.out ?_; rintro e w1 ⟨rfl, rfl⟩)
            go_ret2
            exact ⟨rfl, rfl⟩
    · have q' : ¬ (j : Int) < (n : Int) := by omega
      have hR : r = (j, 2) := by rw [← hs, innA_end (by omega)]
      clear hs
      subst hR
      go_wp2
      go_ret2
      exact ⟨rfl, rfl⟩

end Go.Proofs.Ytoifmiloaefanaa
