/-
  FieldStamped: the law's walk: a long body.
-/
import Derived.Test.YteaebdonnicbkaaStd0
namespace Go.Proofs.Yteaebdonnicbkaa
open Go.RowKit

set_option maxRecDepth 100000 in
set_option maxHeartbeats 4000000 in
theorem stamped11 (x0 x1 : Int) (a : Option Addr) (n c : Nat) (zs : List Int) (a5 : Option Addr) (n5 c5 : Nat) (zs5 : List Int) (x4 : Int) (ch : Nat) (w : World) (hch : ch < 4294967296)
    (hn : n ≤ 140737488351232) (hnil : a = none → c = 0) (hcap : n ≤ c) (hR : Rd w.heap.size w a n zs) (hn5 : n5 ≤ 140737488351232) (hnil5 : a5 = none → c5 = 0) (hR5 : Rd w.heap.size w a5 n5 zs5)
    (hcut : 497 < n) (hok : okU zs5) :
    Calls Try.prog 3 #[.int .i64 x0, .int .i64 x1, .slice a n c, .slice a5 n5 c5, .int .i64 x4, .int .u32 (ch : Int)] w fun e w' => e = .returned (.bool true) ∧ Below w.heap.size w w' := by
  have HN5 := hid hn5
  have HOK := hid hok
  clear hn5 hok
  obtain ⟨b, off, rfl, hbb, hbc⟩ := hR.2.2.resolve_left (by omega)
  have hR0 : Rd w.heap.size w (some ⟨b, off, none⟩) 497 (zs.take 497) := ⟨by rw [List.length_take, hR.1]; omega, Pl.isB_take hR.2.1 _, .inr ⟨b, off, rfl, hbb, fun t ht => by rw [hbc t (by omega), List.getD_eq_getElem?_getD, List.getD_eq_getElem?_getD, List.getElem?_take_of_lt ht]⟩⟩
  have hnil0 : (some ⟨b, off, none⟩ : Option Addr) = none → c = 0 := fun h => by cases h
  clear hbc hbb hR hnil
  go_enter Try.func3, Try.ntmps3
  go_wp2_with fail
  refine (awake_any w).mono ?_
  rintro e w1 ⟨rfl, hb1⟩
  go_wp2_with fail
  refine (low_any x0 w1).mono ?_
  rintro e w1 ⟨y, rfl, y0, y1, rfl⟩
  go_wp2_with fail
  generalize hK : 1 + y % 255 = K at *
  have k1 : 1 ≤ K := by omega
  have k2 : K ≤ 255 := by omega
  clear hK y0 y1
  refine (low_any x1 w1).mono ?_
  rintro e w1 ⟨z, rfl, z0, z1, rfl⟩
  go_wp2_with fail
  generalize hS : z % 1099511627777 = S at *
  have s1 : 0 ≤ S := by omega
  have s2 : S ≤ 1099511627776 := by omega
  clear hS z0 z1
  refine (CopyBytes_any (some ⟨b, off, none⟩) 497 c (zs.take 497) w1 (by omega) hnil0 ((hR0.below hb1).mono hb1.size)).mono ?_
  rintro e w2 ⟨g1, cap1, rfl, hg1, hO1, hb2⟩
  have hb2' : Below w.heap.size w w2 := hb1.trans (hb2.mono hb1.size)
  have HS := hid (Stamp_ok K S _ 497 cap1 (zs.take 497) w2 k1 k2 s1 s2 (by omega) (hO1.rd hR0.2.1))
  clear hb1 hb2 hO1 hg1
  go_wp2_with fail
  refine Calls.mono HS.out ?_
  rintro e w3 ⟨rfl, hB3, hb3⟩
  have hb3' : Below w.heap.size w w3 := hb2'.trans (hb3.mono hb2'.size)
  have HB3 := hid hB3
  have Hfl := hid (stamp_facts K S (zs.take 497) k1 k2 s1 s2 (by rw [hR0.1]; omega) hR0.2.1).1
  have Hfi := hid (isB_stamp K S (zs.take 497) k1 k2 hR0.2.1)
  have Hgg := hid hb2'.size
  clear hb2' hb3 hB3 HS
  generalize w2.heap.size = g2 at *
  go_wp2_with fail
  refine (CopyBytes_any (some ⟨g2, 0, none⟩) 512 512 (stampZ K S (zs.take 497)) w3 (by decide) (by intro h; cases h) (Rd.of_blk' HB3.out Hfi.out Hfl.out)).mono ?_
  rintro e w4 ⟨g3, cap3, rfl, hg3, hO3, hb4⟩
  have HB4 := hid (HB3.out.below hb4 HB3.out.lt)
  have hb4' : Below w.heap.size w w4 := hb3'.trans (hb4.mono hb3'.size)
  have HU := hid (unst_stamp K S (zs.take 497) g3 cap3 497 w4 k1 k2 s1 s2 hR0.1 (by omega) hR0.2.1 hO3)
  clear hb3' hb4 HB3 hO3 hg3
  go_wp2_with fail
  refine Calls.mono HU.out ?_
  rintro e w5 ⟨g4, rfl, hB5, hb5⟩
  have HB5 := hid (HB4.out.below hb5 HB4.out.lt)
  have hb5' : Below w.heap.size w w5 := hb4'.trans (hb5.mono hb4'.size)
  have HSame := hid (SameBytes_eq w5.heap.size _ (some ⟨b, off, none⟩) 497 497 497 c (zs.take 497) w5 (Rd.of_blk' hB5 hR0.2.1 hR0.1) ((hR0.below hb5').mono hb5'.size))
  clear hb4' hb5 HB4 HU hB5
  go_wp2_with fail
  refine (num_any 0 w5).mono ?_
  rintro e w5 ⟨rfl, rfl⟩
  go_wp2_with fail
  refine (num_any 0 w5).mono ?_
  rintro e w5 ⟨rfl, rfl⟩
  go_wp2_with fail
  refine Calls.mono HSame.out ?_
  rintro e w5 ⟨rfl, rfl⟩
  clear HSame
  go_wp2_with fail
  refine (CopyBytes_any a5 n5 c5 zs5 w5 HN5.out hnil5 ((hR5.below hb5').mono hb5'.size)).mono ?_
  rintro e w6 ⟨g5, cap5, rfl, hg5, hO6, hb6⟩
  have HB6 := hid (HB5.out.below hb6 HB5.out.lt)
  have hb6' : Below w.heap.size w w6 := hb5'.trans (hb6.mono hb5'.size)
  clear hb5' hb6 HB5 hg5
  have hn512 : n5 = 512 := by rw [← hO6.len]; exact HOK.out.1
  subst hn512
  have HU := hid (Unstamp_good g5 0 cap5 zs5 w6 hO6.cap hR5.2.1 hO6.lt (fun t ht => by rw [Nat.zero_add]; exact hO6.cell t ht) HOK.out)
  clear hO6
  go_wp2_with fail
  refine Calls.mono HU.out ?_
  rintro e w7 ⟨g6, L6, K6, S6, body6, rfl, hg6, hB6, hb7, hst6, q1, q2, q3, q4, q5, q6, q7⟩
  have HB7 := hid (HB6.out.below hb7 HB6.out.lt)
  have hb7' : Below w.heap.size w w7 := hb6'.trans (hb7.mono hb6'.size)
  have HS6 := hid (Stamp_ok K6 S6 _ L6 L6 body6 w7 q1 q2 q3 q4 q5 (Rd.of_blk' hB6 q7 q6))
  have Hst6 := hid hst6
  clear hb6' hb7 HB6 HU hB6 hg6 hst6 q1 q2 q3 q4 q5 q6 q7
  go_wp2_with fail
  refine (num_any 0 w7).mono ?_
  rintro e w7 ⟨rfl, rfl⟩
  go_wp2_with fail
  refine Calls.mono HS6.out ?_
  rintro e w8 ⟨rfl, hB8, hb8⟩
  rw [Hst6.out] at hB8
  have hb8' : Below w.heap.size w w8 := hb7'.trans (hb8.mono hb7'.size)
  have HB8 := hid (HB7.out.below hb8 HB7.out.lt)
  have HSame := hid (SameBytes_eq w8.heap.size _ a5 512 512 512 c5 zs5 w8 (Rd.of_blk' hB8 hR5.2.1 HOK.out.1) ((hR5.below hb8').mono hb8'.size))
  clear hb7' hb8 HB7 hB8 HS6
  go_wp2_with fail
  refine (num_any 0 w8).mono ?_
  rintro e w8 ⟨rfl, rfl⟩
  go_wp2_with fail
  refine Calls.mono HSame.out ?_
  rintro e w8 ⟨rfl, rfl⟩
  clear HSame
  obtain ⟨w7, hw7⟩ : ∃ w7, w7 = w8 := ⟨_, rfl⟩
  subst hw7
  have HB7 := HB8
  have hb7' := hb8'
  clear HB8 hb8'
  have HOS := hid (okU_stamp K S (zs.take 497) k1 k2 s1 s2 (by rw [hR0.1]; omega) hR0.2.1)
  clear hR5 hnil5 HN5 HOK hnil0 hcut hcap hn
  go_wp2_with fail
  refine (low_any x4 _).mono ?_
  rintro e w7 ⟨q, rfl, q0, q1, rfl⟩
  clear k1 k2 s1 s2 hR0
  generalize stampZ K S (zs.take 497) = X at *
  obtain ⟨A, hA⟩ : ∃ A : Nat, q % 509 = (A : Int) := ⟨(q % 509).toNat, by omega⟩
  have hA1 : A ≤ 508 := by omega
  have HA := hid hA
  clear hA
  go_wp2
  rw [HA.out]
  clear HA q0 q1
  go_loop [25, 26] (fun s i => ∃ k q : Nat, k ≤ 4 ∧ i = .int .i64 (k : Int) ∧ s = .int .i64 (q : Int) ∧ Cnt (inS A) ch k q) (fun _ i => 4 - (intOf i).toNat)
  case atStart => exact ⟨0, 0, by decide, rfl, rfl, cnt_zero _ _⟩
  case round =>
    obtain ⟨k, q, hk, rfl, rfl, hcnt⟩ := hrel
    have hq : q ≤ 4 := Nat.le_trans hcnt.1 hk
    rcases (show k = 0 ∨ k = 1 ∨ k = 2 ∨ k = 3 ∨ k = 4 from by omega) with rfl | rfl | rfl | rfl | rfl
    · by_cases hc : chg ch 0 = 0
      · have hb : ((ch : Int) % 256 != 0) = false := by simp [chg] at hc; simp; omega
        have HM := hid (cnt_miss hcnt (fun _ => hc))
        clear hc hcnt
        rcases (show A + 0 < 11 ∨ (11 ≤ A + 0 ∧ A + 0 < 15) ∨ 15 ≤ A + 0 from by omega) with p | ⟨p, p2⟩ | p
        all_goals
          go_wp2
          go_round
          case rel => exact ⟨1, q, by decide, rfl, rfl, HM.out⟩
          case measure => simp [intOf]
      · have hb : ((ch : Int) % 256 != 0) = true := by simp [chg] at hc; simp; omega
        have HC := hid hcnt
        have HC2 := hid hc
        clear hc hcnt
        rcases (show A + 0 < 11 ∨ (11 ≤ A + 0 ∧ A + 0 < 15) ∨ 15 ≤ A + 0 from by omega) with p | ⟨p, p2⟩ | p
        · go_wp2
          go_round
          case rel => exact ⟨1, q, by decide, rfl, rfl, cnt_miss HC.out (fun h => by unfold inS at h; omega)⟩
          case measure => simp [intOf]
        · go_wp2
          go_round
          case rel => exact ⟨1, q + 1, by decide, rfl, by go_num, cnt_hit HC.out ⟨p, p2⟩ HC2.out⟩
          case measure => simp [intOf]
        · go_wp2
          go_round
          case rel => exact ⟨1, q, by decide, rfl, rfl, cnt_miss HC.out (fun h => by unfold inS at h; omega)⟩
          case measure => simp [intOf]
    · by_cases hc : chg ch 1 = 0
      · have hb : ((ch : Int) / 256 % 256 != 0) = false := by simp [chg] at hc; simp; omega
        have HM := hid (cnt_miss hcnt (fun _ => hc))
        clear hc hcnt
        rcases (show A + 1 < 11 ∨ (11 ≤ A + 1 ∧ A + 1 < 15) ∨ 15 ≤ A + 1 from by omega) with p | ⟨p, p2⟩ | p
        all_goals
          go_wp2
          go_round
          case rel => exact ⟨2, q, by decide, rfl, rfl, HM.out⟩
          case measure => simp [intOf]
      · have hb : ((ch : Int) / 256 % 256 != 0) = true := by simp [chg] at hc; simp; omega
        have HC := hid hcnt
        have HC2 := hid hc
        clear hc hcnt
        rcases (show A + 1 < 11 ∨ (11 ≤ A + 1 ∧ A + 1 < 15) ∨ 15 ≤ A + 1 from by omega) with p | ⟨p, p2⟩ | p
        · go_wp2
          go_round
          case rel => exact ⟨2, q, by decide, rfl, rfl, cnt_miss HC.out (fun h => by unfold inS at h; omega)⟩
          case measure => simp [intOf]
        · go_wp2
          go_round
          case rel => exact ⟨2, q + 1, by decide, rfl, by go_num, cnt_hit HC.out ⟨p, p2⟩ HC2.out⟩
          case measure => simp [intOf]
        · go_wp2
          go_round
          case rel => exact ⟨2, q, by decide, rfl, rfl, cnt_miss HC.out (fun h => by unfold inS at h; omega)⟩
          case measure => simp [intOf]
    · by_cases hc : chg ch 2 = 0
      · have hb : ((ch : Int) / 65536 % 256 != 0) = false := by simp [chg] at hc; simp; omega
        have HM := hid (cnt_miss hcnt (fun _ => hc))
        clear hc hcnt
        rcases (show A + 2 < 11 ∨ (11 ≤ A + 2 ∧ A + 2 < 15) ∨ 15 ≤ A + 2 from by omega) with p | ⟨p, p2⟩ | p
        all_goals
          go_wp2
          go_round
          case rel => exact ⟨3, q, by decide, rfl, rfl, HM.out⟩
          case measure => simp [intOf]
      · have hb : ((ch : Int) / 65536 % 256 != 0) = true := by simp [chg] at hc; simp; omega
        have HC := hid hcnt
        have HC2 := hid hc
        clear hc hcnt
        rcases (show A + 2 < 11 ∨ (11 ≤ A + 2 ∧ A + 2 < 15) ∨ 15 ≤ A + 2 from by omega) with p | ⟨p, p2⟩ | p
        · go_wp2
          go_round
          case rel => exact ⟨3, q, by decide, rfl, rfl, cnt_miss HC.out (fun h => by unfold inS at h; omega)⟩
          case measure => simp [intOf]
        · go_wp2
          go_round
          case rel => exact ⟨3, q + 1, by decide, rfl, by go_num, cnt_hit HC.out ⟨p, p2⟩ HC2.out⟩
          case measure => simp [intOf]
        · go_wp2
          go_round
          case rel => exact ⟨3, q, by decide, rfl, rfl, cnt_miss HC.out (fun h => by unfold inS at h; omega)⟩
          case measure => simp [intOf]
    · by_cases hc : chg ch 3 = 0
      · have hb : ((ch : Int) / 16777216 % 256 != 0) = false := by simp [chg] at hc; simp; omega
        have HM := hid (cnt_miss hcnt (fun _ => hc))
        clear hc hcnt
        rcases (show A + 3 < 11 ∨ (11 ≤ A + 3 ∧ A + 3 < 15) ∨ 15 ≤ A + 3 from by omega) with p | ⟨p, p2⟩ | p
        all_goals
          go_wp2
          go_round
          case rel => exact ⟨4, q, by decide, rfl, rfl, HM.out⟩
          case measure => simp [intOf]
      · have hb : ((ch : Int) / 16777216 % 256 != 0) = true := by simp [chg] at hc; simp; omega
        have HC := hid hcnt
        have HC2 := hid hc
        clear hc hcnt
        rcases (show A + 3 < 11 ∨ (11 ≤ A + 3 ∧ A + 3 < 15) ∨ 15 ≤ A + 3 from by omega) with p | ⟨p, p2⟩ | p
        · go_wp2
          go_round
          case rel => exact ⟨4, q, by decide, rfl, rfl, cnt_miss HC.out (fun h => by unfold inS at h; omega)⟩
          case measure => simp [intOf]
        · go_wp2
          go_round
          case rel => exact ⟨4, q + 1, by decide, rfl, by go_num, cnt_hit HC.out ⟨p, p2⟩ HC2.out⟩
          case measure => simp [intOf]
        · go_wp2
          go_round
          case rel => exact ⟨4, q, by decide, rfl, rfl, cnt_miss HC.out (fun h => by unfold inS at h; omega)⟩
          case measure => simp [intOf]
    · have HQ1 := hid hcnt
      clear hcnt hk
      go_wp2
      go_loopw [27, 28] (fun s i wt => ∃ k q2 : Nat, k ≤ 4 ∧ i = .int .i64 (k : Int) ∧ s = .int .i64 (q2 : Int) ∧ Cnt (fun i => ¬ inS A i) ch k q2 ∧ Blk .u8 5 wt g2 (mix X A ch k) ∧ Below w.heap.size w wt) (fun _ i _ => 4 - (intOf i).toNat)
      case atStart => exact ⟨0, 0, by decide, rfl, rfl, cnt_zero _ _, by rw [mix_zero]; exact HB7.out, hb7'⟩
      case round =>
      clear HB7 hb7'
      obtain ⟨k, q2, hk, rfl, rfl, hcnt, hB, hbt⟩ := hrel
      have hq2 : q2 ≤ 4 := Nat.le_trans hcnt.1 hk
      rcases (show k = 0 ∨ k = 1 ∨ k = 2 ∨ k = 3 ∨ k = 4 from by omega) with rfl | rfl | rfl | rfl | rfl
      · have hcell := hB.cell (A + 0) (by rw [length_mix, Hfl.out]; omega)
        rw [mix_at (by rw [Hfl.out]; omega)] at hcell
        have hfr := hB.frozen (A + 0)
        have hz := Pl.isB_getD Hfi.out (A + 0)
        rw [← List.getD_eq_getElem?_getD] at hz
        obtain ⟨z, hzz⟩ := Int.eq_ofNat_of_zero_le hz.1
        have exo : bits .xor .u8 (z : Int) ((ch : Int) % 256) = ((z ^^^ chg ch 0 : Nat) : Int) := by
          have h := u8_xor_nat z (chg ch 0) (by omega) (chg_lt _ _)
          rw [← h]
          congr 1
          simp [chg]
        have HB := hid (hB.set (A + 0) ((z ^^^ chg ch 0 : Nat) : Int))
        have hset := mix_set (zs := X) (at' := A) (ch := ch) (j := 0) (by rw [Hfl.out]; omega)
        rw [hzz, Int.toNat_natCast] at hset
        rw [hset] at HB
        have Hb := hid (hbt.setCell (p := ⟨g2, A + 0, none⟩) Hgg.out (.int .u8 ((z ^^^ chg ch 0 : Nat) : Int)))
        have ew : IntKind.i64.wrap (A : Int) = ((A + 0 : Nat) : Int) := by rw [IntKind.wrap_i64]; omega
        have hAl : ((A + 0 : Nat) : Int) < 512 := by omega
        rw [hzz] at hcell
        simp only [Nat.add_zero] at hcell hfr HB Hb ew hAl
        clear hB hz hzz hset hbt
        generalize z ^^^ chg ch 0 = v at *
        by_cases hc : chg ch 0 = 0
        · have hb : ((ch : Int) % 256 != 0) = false := by simp [chg] at hc; simp; omega
          have HM := hid (cnt_miss hcnt (fun _ => hc))
          clear hc hcnt
          rcases (show A + 0 < 11 ∨ (11 ≤ A + 0 ∧ A + 0 < 15) ∨ 15 ≤ A + 0 from by omega) with p | ⟨p, p2⟩ | p
          all_goals
            go_wp2_with fail
            go_region
            all_goals go_wp2
            all_goals
              go_roundw
              case rel => exact ⟨1, q2, by decide, rfl, rfl, HM.out, HB.out.drew, Hb.out.drew⟩
              case measure => simp [intOf]
        · have hb : ((ch : Int) % 256 != 0) = true := by simp [chg] at hc; simp; omega
          have HC := hid hcnt
          have HC2 := hid hc
          clear hc hcnt
          rcases (show A + 0 < 11 ∨ (11 ≤ A + 0 ∧ A + 0 < 15) ∨ 15 ≤ A + 0 from by omega) with p | ⟨p, p2⟩ | p
          · go_wp2_with fail
            go_region
            all_goals go_wp2
            all_goals
              go_roundw
              case rel => exact ⟨1, q2 + 1, by decide, rfl, by go_num, cnt_hit HC.out (by unfold inS; omega) HC2.out, HB.out.drew, Hb.out.drew⟩
              case measure => simp [intOf]
          · go_wp2_with fail
            go_region
            all_goals go_wp2
            all_goals
              go_roundw
              case rel => exact ⟨1, q2, by decide, rfl, rfl, cnt_miss HC.out (fun h => absurd ⟨p, p2⟩ h), HB.out.drew, Hb.out.drew⟩
              case measure => simp [intOf]
          · go_wp2_with fail
            go_region
            all_goals go_wp2
            all_goals
              go_roundw
              case rel => exact ⟨1, q2 + 1, by decide, rfl, by go_num, cnt_hit HC.out (by unfold inS; omega) HC2.out, HB.out.drew, Hb.out.drew⟩
              case measure => simp [intOf]
      · have hcell := hB.cell (A + 1) (by rw [length_mix, Hfl.out]; omega)
        rw [mix_at (by rw [Hfl.out]; omega)] at hcell
        have hfr := hB.frozen (A + 1)
        have hz := Pl.isB_getD Hfi.out (A + 1)
        rw [← List.getD_eq_getElem?_getD] at hz
        obtain ⟨z, hzz⟩ := Int.eq_ofNat_of_zero_le hz.1
        have exo : bits .xor .u8 (z : Int) ((ch : Int) / 256 % 256) = ((z ^^^ chg ch 1 : Nat) : Int) := by
          have h := u8_xor_nat z (chg ch 1) (by omega) (chg_lt _ _)
          rw [← h]
          congr 1
        have HB := hid (hB.set (A + 1) ((z ^^^ chg ch 1 : Nat) : Int))
        have hset := mix_set (zs := X) (at' := A) (ch := ch) (j := 1) (by rw [Hfl.out]; omega)
        rw [hzz, Int.toNat_natCast] at hset
        rw [hset] at HB
        have Hb := hid (hbt.setCell (p := ⟨g2, A + 1, none⟩) Hgg.out (.int .u8 ((z ^^^ chg ch 1 : Nat) : Int)))
        have ew : IntKind.i64.wrap ((A : Int) + 1) = ((A + 1 : Nat) : Int) := by rw [IntKind.wrap_i64]; omega
        have hAl : ((A + 1 : Nat) : Int) < 512 := by omega
        rw [hzz] at hcell
        clear hB hz hzz hset hbt
        generalize z ^^^ chg ch 1 = v at *
        by_cases hc : chg ch 1 = 0
        · have hb : ((ch : Int) / 256 % 256 != 0) = false := by simp [chg] at hc; simp; omega
          have HM := hid (cnt_miss hcnt (fun _ => hc))
          clear hc hcnt
          rcases (show A + 1 < 11 ∨ (11 ≤ A + 1 ∧ A + 1 < 15) ∨ 15 ≤ A + 1 from by omega) with p | ⟨p, p2⟩ | p
          all_goals
            go_wp2_with fail
            go_region
            all_goals go_wp2
            all_goals
              go_roundw
              case rel => exact ⟨2, q2, by decide, rfl, rfl, HM.out, HB.out.drew, Hb.out.drew⟩
              case measure => simp [intOf]
        · have hb : ((ch : Int) / 256 % 256 != 0) = true := by simp [chg] at hc; simp; omega
          have HC := hid hcnt
          have HC2 := hid hc
          clear hc hcnt
          rcases (show A + 1 < 11 ∨ (11 ≤ A + 1 ∧ A + 1 < 15) ∨ 15 ≤ A + 1 from by omega) with p | ⟨p, p2⟩ | p
          · go_wp2_with fail
            go_region
            all_goals go_wp2
            all_goals
              go_roundw
              case rel => exact ⟨2, q2 + 1, by decide, rfl, by go_num, cnt_hit HC.out (by unfold inS; omega) HC2.out, HB.out.drew, Hb.out.drew⟩
              case measure => simp [intOf]
          · go_wp2_with fail
            go_region
            all_goals go_wp2
            all_goals
              go_roundw
              case rel => exact ⟨2, q2, by decide, rfl, rfl, cnt_miss HC.out (fun h => absurd ⟨p, p2⟩ h), HB.out.drew, Hb.out.drew⟩
              case measure => simp [intOf]
          · go_wp2_with fail
            go_region
            all_goals go_wp2
            all_goals
              go_roundw
              case rel => exact ⟨2, q2 + 1, by decide, rfl, by go_num, cnt_hit HC.out (by unfold inS; omega) HC2.out, HB.out.drew, Hb.out.drew⟩
              case measure => simp [intOf]
      · have hcell := hB.cell (A + 2) (by rw [length_mix, Hfl.out]; omega)
        rw [mix_at (by rw [Hfl.out]; omega)] at hcell
        have hfr := hB.frozen (A + 2)
        have hz := Pl.isB_getD Hfi.out (A + 2)
        rw [← List.getD_eq_getElem?_getD] at hz
        obtain ⟨z, hzz⟩ := Int.eq_ofNat_of_zero_le hz.1
        have exo : bits .xor .u8 (z : Int) ((ch : Int) / 65536 % 256) = ((z ^^^ chg ch 2 : Nat) : Int) := by
          have h := u8_xor_nat z (chg ch 2) (by omega) (chg_lt _ _)
          rw [← h]
          congr 1
        have HB := hid (hB.set (A + 2) ((z ^^^ chg ch 2 : Nat) : Int))
        have hset := mix_set (zs := X) (at' := A) (ch := ch) (j := 2) (by rw [Hfl.out]; omega)
        rw [hzz, Int.toNat_natCast] at hset
        rw [hset] at HB
        have Hb := hid (hbt.setCell (p := ⟨g2, A + 2, none⟩) Hgg.out (.int .u8 ((z ^^^ chg ch 2 : Nat) : Int)))
        have ew : IntKind.i64.wrap ((A : Int) + 2) = ((A + 2 : Nat) : Int) := by rw [IntKind.wrap_i64]; omega
        have hAl : ((A + 2 : Nat) : Int) < 512 := by omega
        rw [hzz] at hcell
        clear hB hz hzz hset hbt
        generalize z ^^^ chg ch 2 = v at *
        by_cases hc : chg ch 2 = 0
        · have hb : ((ch : Int) / 65536 % 256 != 0) = false := by simp [chg] at hc; simp; omega
          have HM := hid (cnt_miss hcnt (fun _ => hc))
          clear hc hcnt
          rcases (show A + 2 < 11 ∨ (11 ≤ A + 2 ∧ A + 2 < 15) ∨ 15 ≤ A + 2 from by omega) with p | ⟨p, p2⟩ | p
          all_goals
            go_wp2_with fail
            go_region
            all_goals go_wp2
            all_goals
              go_roundw
              case rel => exact ⟨3, q2, by decide, rfl, rfl, HM.out, HB.out.drew, Hb.out.drew⟩
              case measure => simp [intOf]
        · have hb : ((ch : Int) / 65536 % 256 != 0) = true := by simp [chg] at hc; simp; omega
          have HC := hid hcnt
          have HC2 := hid hc
          clear hc hcnt
          rcases (show A + 2 < 11 ∨ (11 ≤ A + 2 ∧ A + 2 < 15) ∨ 15 ≤ A + 2 from by omega) with p | ⟨p, p2⟩ | p
          · go_wp2_with fail
            go_region
            all_goals go_wp2
            all_goals
              go_roundw
              case rel => exact ⟨3, q2 + 1, by decide, rfl, by go_num, cnt_hit HC.out (by unfold inS; omega) HC2.out, HB.out.drew, Hb.out.drew⟩
              case measure => simp [intOf]
          · go_wp2_with fail
            go_region
            all_goals go_wp2
            all_goals
              go_roundw
              case rel => exact ⟨3, q2, by decide, rfl, rfl, cnt_miss HC.out (fun h => absurd ⟨p, p2⟩ h), HB.out.drew, Hb.out.drew⟩
              case measure => simp [intOf]
          · go_wp2_with fail
            go_region
            all_goals go_wp2
            all_goals
              go_roundw
              case rel => exact ⟨3, q2 + 1, by decide, rfl, by go_num, cnt_hit HC.out (by unfold inS; omega) HC2.out, HB.out.drew, Hb.out.drew⟩
              case measure => simp [intOf]
      · have hcell := hB.cell (A + 3) (by rw [length_mix, Hfl.out]; omega)
        rw [mix_at (by rw [Hfl.out]; omega)] at hcell
        have hfr := hB.frozen (A + 3)
        have hz := Pl.isB_getD Hfi.out (A + 3)
        rw [← List.getD_eq_getElem?_getD] at hz
        obtain ⟨z, hzz⟩ := Int.eq_ofNat_of_zero_le hz.1
        have exo : bits .xor .u8 (z : Int) ((ch : Int) / 16777216) = ((z ^^^ chg ch 3 : Nat) : Int) := by
          have h := u8_xor_nat z (chg ch 3) (by omega) (chg_lt _ _)
          rw [← h]
          congr 1
          simp only [chg]
          omega
        have HB := hid (hB.set (A + 3) ((z ^^^ chg ch 3 : Nat) : Int))
        have hset := mix_set (zs := X) (at' := A) (ch := ch) (j := 3) (by rw [Hfl.out]; omega)
        rw [hzz, Int.toNat_natCast] at hset
        rw [hset] at HB
        have Hb := hid (hbt.setCell (p := ⟨g2, A + 3, none⟩) Hgg.out (.int .u8 ((z ^^^ chg ch 3 : Nat) : Int)))
        have ew : IntKind.i64.wrap ((A : Int) + 3) = ((A + 3 : Nat) : Int) := by rw [IntKind.wrap_i64]; omega
        have hAl : ((A + 3 : Nat) : Int) < 512 := by omega
        rw [hzz] at hcell
        clear hB hz hzz hset hbt
        generalize z ^^^ chg ch 3 = v at *
        by_cases hc : chg ch 3 = 0
        · have hb : ((ch : Int) / 16777216 != 0) = false := by simp [chg] at hc; simp; omega
          have HM := hid (cnt_miss hcnt (fun _ => hc))
          clear hc hcnt
          rcases (show A + 3 < 11 ∨ (11 ≤ A + 3 ∧ A + 3 < 15) ∨ 15 ≤ A + 3 from by omega) with p | ⟨p, p2⟩ | p
          all_goals
            go_wp2_with fail
            go_region
            all_goals go_wp2
            all_goals
              go_roundw
              case rel => exact ⟨4, q2, by decide, rfl, rfl, HM.out, HB.out.drew, Hb.out.drew⟩
              case measure => simp [intOf]
        · have hb : ((ch : Int) / 16777216 != 0) = true := by simp [chg] at hc; simp; omega
          have HC := hid hcnt
          have HC2 := hid hc
          clear hc hcnt
          rcases (show A + 3 < 11 ∨ (11 ≤ A + 3 ∧ A + 3 < 15) ∨ 15 ≤ A + 3 from by omega) with p | ⟨p, p2⟩ | p
          · go_wp2_with fail
            go_region
            all_goals go_wp2
            all_goals
              go_roundw
              case rel => exact ⟨4, q2 + 1, by decide, rfl, by go_num, cnt_hit HC.out (by unfold inS; omega) HC2.out, HB.out.drew, Hb.out.drew⟩
              case measure => simp [intOf]
          · go_wp2_with fail
            go_region
            all_goals go_wp2
            all_goals
              go_roundw
              case rel => exact ⟨4, q2, by decide, rfl, rfl, cnt_miss HC.out (fun h => absurd ⟨p, p2⟩ h), HB.out.drew, Hb.out.drew⟩
              case measure => simp [intOf]
          · go_wp2_with fail
            go_region
            all_goals go_wp2
            all_goals
              go_roundw
              case rel => exact ⟨4, q2 + 1, by decide, rfl, by go_num, cnt_hit HC.out (by unfold inS; omega) HC2.out, HB.out.drew, Hb.out.drew⟩
              case measure => simp [intOf]
      · have hmb := isB_mix Hfi.out A ch 4
        have hml : (mix X A ch 4).length = 512 := by rw [length_mix, Hfl.out]
        have HQ2 := hid hcnt
        have hBL := hB.lt
        by_cases h0 : ch = 0
        · subst h0
          clear hmb hml hcnt hB
          go_wp2
          go_ret
          exact ⟨rfl, hbt⟩
        · have h0' : ((ch : Int) == 0) = false := by simp; omega
          by_cases hboth : 0 < q ∧ 0 < q2
          · obtain ⟨r1, r2⟩ := hboth
            have r1' : (0 : Int) < (q : Int) := by omega
            have r2' : (0 : Int) < (q2 : Int) := by omega
            clear hmb hml hcnt hB
            go_wp2
            go_ret
            exact ⟨rfl, hbt⟩
          · have hno : ¬ okU (mix X A ch 4) := by
              refine changed Hfi.out HOS.out A ch hA1 ?_
              by_cases hz : q = 0
              · exact .inl ⟨HQ1.out.2.1 hz, some_chg hch h0⟩
              · exact .inr ⟨HQ2.out.2.1 (by omega), some_chg hch h0⟩
            have HU := hid (Unstamp_bad g2 0 512 512 (mix X A ch 4) wr (Nat.le_refl _) hml hmb hBL (fun t ht => by rw [Nat.zero_add]; exact hB.cell t (by rw [hml]; exact ht)) hno)
            clear hmb hml hcnt hB hno HOS
            have fin : ∀ wz E, (E = 12 ∧ (512 : Nat) ≠ 512 ∨ E = 16 ∨ E = 17) → Below wr.heap.size wr wz → (E = (16 : Int) ∨ E = 17) ∧ Below w.heap.size w wz := fun wz E hE hz => ⟨by omega, hbt.trans (hz.mono hbt.size)⟩
            have FIN := hid fin
            clear fin hbt
            rcases (show q = 0 ∨ (0 < q ∧ q2 = 0) from by omega) with r1 | ⟨r1, r2⟩
            · subst r1
              clear hboth
              go_wp2_with fail
              refine Calls.mono HU.out ?_
              rintro e w9 ⟨E, hE, rfl, hb9⟩
              obtain ⟨hE2, hb9'⟩ := FIN.out w9 E hE hb9
              unfold uerr
              clear hE hb9
              rcases hE2 with rfl | rfl
              · go_wp2_with fail
                refine (num_any 16 w9).mono ?_
                rintro e w9 ⟨rfl, rfl⟩
                go_wp2
                go_ret
                exact ⟨rfl, hb9'⟩
              · go_wp2_with fail
                refine (num_any 17 w9).mono ?_
                rintro e w9 ⟨rfl, rfl⟩
                go_wp2_with fail
                refine (num_any 17 w9).mono ?_
                rintro e w9 ⟨rfl, rfl⟩
                go_wp2
                go_ret
                exact ⟨rfl, hb9'⟩
            · subst r2
              have r1' : (0 : Int) < (q : Int) := by omega
              clear hboth
              go_wp2_with fail
              refine Calls.mono HU.out ?_
              rintro e w9 ⟨E, hE, rfl, hb9⟩
              obtain ⟨hE2, hb9'⟩ := FIN.out w9 E hE hb9
              unfold uerr
              clear hE hb9
              rcases hE2 with rfl | rfl
              · go_wp2_with fail
                refine (num_any 16 w9).mono ?_
                rintro e w9 ⟨rfl, rfl⟩
                go_wp2
                go_ret
                exact ⟨rfl, hb9'⟩
              · go_wp2_with fail
                refine (num_any 17 w9).mono ?_
                rintro e w9 ⟨rfl, rfl⟩
                go_wp2_with fail
                refine (num_any 17 w9).mono ?_
                rintro e w9 ⟨rfl, rfl⟩
                go_wp2
                go_ret
                exact ⟨rfl, hb9'⟩

end Go.Proofs.Yteaebdonnicbkaa
