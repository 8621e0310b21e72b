/-
  low; Unstamp of whatever bytes.
-/
import Derived.Test.YteaebdonnicbkaaBurst
import Derived.Test.YteaebdonnicbkaaCopy
namespace Go.Proofs.Yteaebdonnicbkaa
open Go.RowKit

theorem low_eq (x : Int) : bits .and .i64 x 9223372036854775807 = x % 9223372036854775808 := by
  show IntKind.i64.wrap ((BitVec.ofInt 64 x &&& BitVec.ofInt 64 9223372036854775807).toNat : Int) = _
  rw [BitVec.toNat_and, show (BitVec.ofInt 64 9223372036854775807).toNat = 2 ^ 63 - 1 from by decide, Nat.and_two_pow_sub_one_eq_mod, BitVec.toNat_ofInt, IntKind.wrap_i64]
  omega
set_option maxHeartbeats 400000 in
theorem low_any (x : Int) (w : World) : Calls Try.prog 10 #[.int .i64 x] w fun e w' => ∃ y : Int, e = .returned (.int .i64 y) ∧ 0 ≤ y ∧ y ≤ 9223372036854775807 ∧ w' = w := by
  have h := low_eq x
  have h0 : 0 ≤ x % 9223372036854775808 := by omega
  have h1 : x % 9223372036854775808 ≤ 9223372036854775807 := by omega
  generalize x % 9223372036854775808 = y at *
  go_enter Try.func10, Try.ntmps10
  go_wp2
  go_ret
  exact ⟨y, rfl, h0, h1, rfl⟩

theorem Unstamp_bad (b off n cap : Nat) (zs : List Int) (w : World) (hcap : n ≤ cap) (hz : zs.length = n) (hzb : Pl.isB zs) (hb : b < w.heap.size)
    (hc : ∀ t, t < n → w.cell? ⟨b, off + t, none⟩ = some (.int .u8 (zs.getD t 0))) (h : ¬ okU zs) :
    Calls Try.prog 13 #[.slice (some ⟨b, off, none⟩) n cap] w fun e w' => ∃ E : Int, (E = 12 ∧ n ≠ 512 ∨ E = 16 ∨ E = 17) ∧ e = .returned (uerr E) ∧ Below w.heap.size w w' := by
  by_cases hn : n = 512
  · subst hn
    by_cases hh : zs.getD 0 0 = 0 ∨ 497 < Pl.num ((zs.drop 1).take 2) ∨ 1099511627776 < Pl.num ((zs.drop 3).take 8)
    · refine (Unstamp_head b off cap zs w hz hzb hcap hc hh).mono ?_
      rintro e w' ⟨he, rfl⟩
      exact ⟨16, .inr (.inl rfl), he, Below.refl _ _⟩
    · have k0 := Pl.isB_getD hzb 0
      rw [← List.getD_eq_getElem?_getD] at k0
      obtain ⟨L, hL⟩ := Int.eq_ofNat_of_zero_le (Pl.num_nonneg (Pl.isB_take (Pl.isB_drop hzb 1) 2))
      refine (Unstamp_rest b off cap zs _ _ L w hz hzb hb hcap hc rfl (by omega) hL (by omega) rfl (by omega) ?_).mono ?_
      · refine Classical.byContradiction fun hno => h ?_
        simp only [not_or, Bool.not_eq_false, ne_eq, Classical.not_not] at hno
        refine ⟨hz, by omega, by omega, by omega, ?_, hno.2⟩
        rw [hL, Int.toNat_natCast]
        exact hno.1
      · rintro e w' ⟨he, hb'⟩
        refine ⟨_, ?_, he, hb'⟩
        split
        · exact .inr (.inl rfl)
        · exact .inr (.inr rfl)
  · refine (Unstamp_size (some ⟨b, off, none⟩) n cap w hn).mono ?_
    rintro e w' ⟨he, rfl⟩
    exact ⟨12, .inl ⟨rfl, hn⟩, he, Below.refl _ _⟩

theorem Unstamp_good (b off cap : Nat) (zs : List Int) (w : World) (hcap : 512 ≤ cap) (hzb : Pl.isB zs) (hb : b < w.heap.size)
    (hc : ∀ t, t < 512 → w.cell? ⟨b, off + t, none⟩ = some (.int .u8 (zs.getD t 0))) (h : okU zs) :
    Calls Try.prog 13 #[.slice (some ⟨b, off, none⟩) 512 cap] w fun e w' => ∃ (g L : Nat) (K S : Int) (body : List Int), e = .returned (.tuple #[.int .i64 K, .int .i64 S, .slice (some ⟨g, 0, none⟩) L L, .int .i64 0]) ∧ w.heap.size ≤ g ∧ Blk .u8 5 w' g body ∧ Below w.heap.size w w' ∧
      stampZ K S body = zs ∧ 1 ≤ K ∧ K ≤ 255 ∧ 0 ≤ S ∧ S ≤ 1099511627776 ∧ L ≤ 497 ∧ body.length = L ∧ Pl.isB body := by
  have hback := unstamp_back hzb h
  obtain ⟨hz, h1, h2, h3, h4, h5⟩ := h
  have k0 := Pl.isB_getD hzb 0
  rw [← List.getD_eq_getElem?_getD] at k0
  have s0 := Pl.num_nonneg (Pl.isB_take (Pl.isB_drop hzb 3) 8)
  obtain ⟨L, hL⟩ := Int.eq_ofNat_of_zero_le (Pl.num_nonneg (Pl.isB_take (Pl.isB_drop hzb 1) 2))
  rw [hL, Int.toNat_natCast] at h4 hback
  refine (Unstamp_ok b off cap zs _ _ L w hz hzb hb hcap hc rfl h1 hL (by omega) rfl h3 h4 h5).mono ?_
  rintro e w' ⟨g, he, hg, hB, hb'⟩
  exact ⟨g, L, _, _, _, he, hg, hB, hb', hback, h1, by omega, s0, h3, by omega, by simp; omega, Pl.isB_take (Pl.isB_drop hzb _) _⟩

theorem okU_stamp (kind seq : Int) (body : List Int) (k1 : 1 ≤ kind) (k2 : kind ≤ 255) (s1 : 0 ≤ seq) (s2 : seq ≤ 1099511627776) (hl : body.length ≤ 497) (hb : Pl.isB body) : okU (stampZ kind seq body) := by
  obtain ⟨f1, f2, f3, f4, f5, f6, f7⟩ := stamp_facts kind seq body k1 k2 s1 s2 hl hb
  exact ⟨f1, by rw [f2]; exact k1, by rw [f3]; omega, by rw [f4]; exact s2, by rw [f3, Int.toNat_natCast]; exact f5, f6⟩

/-! ### the changed block -/
def chg (ch i : Nat) : Nat := ch / 256 ^ i % 256
def mix (zs : List Int) (at' ch j : Nat) : List Int := (List.range zs.length).map fun t => if at' ≤ t ∧ t < at' + j then (((zs.getD t 0).toNat ^^^ chg ch (t - at') : Nat) : Int) else zs.getD t 0
theorem length_mix (zs : List Int) (at' ch j : Nat) : (mix zs at' ch j).length = zs.length := by simp [mix]
theorem mix_getD {zs : List Int} {at' ch j t : Nat} (ht : t < zs.length) : (mix zs at' ch j).getD t 0 = if at' ≤ t ∧ t < at' + j then (((zs.getD t 0).toNat ^^^ chg ch (t - at') : Nat) : Int) else zs.getD t 0 := by
  simp [mix, ht]
theorem ext_getD {a b : List Int} (hl : a.length = b.length) (h : ∀ t, t < a.length → a.getD t 0 = b.getD t 0) : a = b := by
  apply List.ext_getElem hl
  intro t h1 h2
  have := h t h1
  simpa [h1, h2] using this
theorem mix_zero (zs : List Int) (at' ch : Nat) : mix zs at' ch 0 = zs := by
  refine ext_getD (length_mix _ _ _ _) fun t ht => ?_
  rw [length_mix] at ht
  rw [mix_getD ht, if_neg (by omega)]
theorem mix_set {zs : List Int} {at' ch j : Nat} (h : at' + j < zs.length) : (mix zs at' ch j).set (at' + j) (((zs.getD (at' + j) 0).toNat ^^^ chg ch j : Nat) : Int) = mix zs at' ch (j + 1) := by
  refine ext_getD (by simp [length_mix]) fun t ht => ?_
  simp only [List.length_set, length_mix] at ht
  rw [mix_getD ht, List.getD_eq_getElem?_getD, List.getElem?_set, length_mix]
  by_cases e : at' + j = t
  · subst e
    rw [if_pos rfl, if_pos h, if_pos (by omega), show at' + j - at' = j by omega]
    rfl
  · rw [if_neg e, ← List.getD_eq_getElem?_getD, mix_getD ht]
    by_cases h2 : at' ≤ t ∧ t < at' + j
    · rw [if_pos h2, if_pos (by omega)]
    · rw [if_neg h2, if_neg (by omega)]
theorem chg_lt (ch i : Nat) : chg ch i < 256 := Nat.mod_lt _ (by decide)
theorem isB_of_getD {l : List Int} (h : ∀ t, t < l.length → 0 ≤ l.getD t 0 ∧ l.getD t 0 < 256) : Pl.isB l := by
  intro z hz
  obtain ⟨t, ht, rfl⟩ := List.mem_iff_getElem.1 hz
  have := h t ht
  simpa [ht] using this
theorem isB_mix {zs : List Int} (h : Pl.isB zs) (at' ch j : Nat) : Pl.isB (mix zs at' ch j) := by
  refine isB_of_getD fun t ht => ?_
  rw [length_mix] at ht
  rw [mix_getD ht]
  have hz := Pl.isB_getD h t
  rw [← List.getD_eq_getElem?_getD] at hz
  split
  · have : (zs.getD t 0).toNat ^^^ chg ch (t - at') < 2 ^ 8 := Nat.xor_lt_two_pow (by omega) (chg_lt _ _)
    omega
  · exact hz
theorem splice_getD {l : List Int} (hl : 15 ≤ l.length) (t : Nat) : (splice l 11 [0, 0, 0, 0]).getD t 0 = if 11 ≤ t ∧ t < 15 then 0 else l.getD t 0 := by
  unfold splice
  rw [List.getD_eq_getElem?_getD]
  by_cases h1 : t < 11
  · rw [List.getElem?_append_left (by simp; omega), if_neg (by omega), List.getElem?_take_of_lt h1]; rfl
  · rw [List.getElem?_append_right (by simp; omega)]
    rw [show (List.take 11 l).length = 11 from by simp; omega]
    by_cases h2 : t < 15
    · rw [if_pos (by omega)]
      rcases (show t = 11 ∨ t = 12 ∨ t = 13 ∨ t = 14 from by omega) with rfl | rfl | rfl | rfl <;> simp
    · rw [if_neg (by omega), List.getElem?_append_right (by simp; omega)]
      simp
      congr 2
      omega
theorem part_getD {l : List Int} (i n t : Nat) (h : t < n) : ((l.drop i).take n).getD t 0 = l.getD (i + t) 0 := by
  simp [List.getElem?_take_of_lt h]

/-- A CHANGED BLOCK IS REFUSED -/
theorem changed {zs : List Int} (hb : Pl.isB zs) (h : okU zs) (at' ch : Nat) (hat : at' ≤ 508)
    (hcase : ((∀ i, i < 4 → 11 ≤ at' + i ∧ at' + i < 15 → chg ch i = 0) ∧ ∃ i, i < 4 ∧ chg ch i ≠ 0) ∨
      ((∀ i, i < 4 → ¬ (11 ≤ at' + i ∧ at' + i < 15) → chg ch i = 0) ∧ ∃ i, i < 4 ∧ chg ch i ≠ 0)) : ¬ okU (mix zs at' ch 4) := by
  intro hm
  obtain ⟨hl, _, _, _, _, h5⟩ := h
  obtain ⟨ml, _, _, _, _, m5⟩ := hm
  rcases hcase with ⟨hin, i0, hi0, hne⟩ | ⟨hout, i0, hi0, hne⟩
  · have e4 : (zs.drop 11).take 4 = ((mix zs at' ch 4).drop 11).take 4 := by
      refine ext_getD (by simp [length_mix]) fun t ht => ?_
      have ht4 : t < 4 := by simp at ht; omega
      rw [part_getD _ _ _ ht4, part_getD _ _ _ ht4, mix_getD (by omega)]
      by_cases hw : at' ≤ 11 + t ∧ 11 + t < at' + 4
      · rw [if_pos hw, hin (11 + t - at') (by omega) (by omega), Nat.xor_zero]
        have := Pl.isB_getD hb (11 + t)
        rw [← List.getD_eq_getElem?_getD] at this
        omega
      · rw [if_neg hw]
    rw [← e4, h5] at m5
    have hreg : reg (splice zs 11 [0, 0, 0, 0]) = reg (splice (mix zs at' ch 4) 11 [0, 0, 0, 0]) := by
      unfold crc at m5
      have m6 : 4294967295 ^^^ reg (splice zs 11 [0, 0, 0, 0]) = 4294967295 ^^^ reg (splice (mix zs at' ch 4) 11 [0, 0, 0, 0]) := by omega
      have m7 := congrArg (fun x => 4294967295 ^^^ x) m6
      simp only [← Nat.xor_assoc, Nat.xor_self, Nat.zero_xor] at m7
      exact m7
    have hlist : (splice (mix zs at' ch 4) 11 [0, 0, 0, 0]).map Int.toNat = List.zipWith (· ^^^ ·) ((splice zs 11 [0, 0, 0, 0]).map Int.toNat) (List.replicate at' 0 ++ ([chg ch 0, chg ch 1, chg ch 2, chg ch 3] ++ List.replicate (508 - at') 0)) := by
      have len1 : (splice (mix zs at' ch 4) 11 [0, 0, 0, 0]).length = 512 := by rw [length_splice _ _ _ (by rw [ml]; decide), ml]
      have len2 : (splice zs 11 [0, 0, 0, 0]).length = 512 := by rw [length_splice _ _ _ (by rw [hl]; decide), hl]
      apply List.ext_getElem
      · simp [len1, len2]; omega
      · intro t h1 h2
        have ht : t < 512 := by simpa [len1] using h1
        have g1 := splice_getD (l := mix zs at' ch 4) (by omega) t
        have g2 := splice_getD (l := zs) (by omega) t
        rw [mix_getD (by omega)] at g1
        have hz := Pl.isB_getD hb t
        rw [← List.getD_eq_getElem?_getD] at hz
        simp only [List.getElem_map, List.getElem_zipWith]
        have x1 : (splice (mix zs at' ch 4) 11 [0, 0, 0, 0])[t]'(by omega) = (splice (mix zs at' ch 4) 11 [0, 0, 0, 0]).getD t 0 := by simp [len1, ht]
        have x2 : (splice zs 11 [0, 0, 0, 0])[t]'(by omega) = (splice zs 11 [0, 0, 0, 0]).getD t 0 := by simp [len2, ht]
        rw [x1, x2, g1, g2]
        by_cases hs : 11 ≤ t ∧ t < 15
        · rw [if_pos hs, if_pos hs]
          have : ∀ i, t = at' + i → i < 4 → chg ch i = 0 := fun i e hi => hin i hi (by omega)
          by_cases hw : at' ≤ t ∧ t < at' + 4
          · obtain ⟨i, rfl⟩ : ∃ i, t = at' + i := ⟨t - at', by omega⟩
            have hz2 := this i rfl (by omega)
            rcases (show i = 0 ∨ i = 1 ∨ i = 2 ∨ i = 3 from by omega) with rfl | rfl | rfl | rfl <;> simp [hz2]
          · by_cases hlo : t < at'
            · simp [hlo]
            · have h4 : ¬ t - at' < 4 := by omega
              rw [List.getElem_append_right (by simp; omega), List.getElem_append_right (by simp; omega)]
              simp
        · rw [if_neg hs, if_neg hs]
          by_cases hw : at' ≤ t ∧ t < at' + 4
          · rw [if_pos hw]
            obtain ⟨i, rfl⟩ : ∃ i, t = at' + i := ⟨t - at', by omega⟩
            rw [show at' + i - at' = i by omega, Int.toNat_natCast]
            rcases (show i = 0 ∨ i = 1 ∨ i = 2 ∨ i = 3 from by omega) with rfl | rfl | rfl | rfl <;> simp
          · rw [if_neg hw]
            by_cases hlo : t < at'
            · simp [hlo]
            · rw [List.getElem_append_right (by simp; omega), List.getElem_append_right (by simp; omega)]
              simp
    unfold reg at hreg
    rw [hlist] at hreg
    have len2 : (splice zs 11 [0, 0, 0, 0]).length = 512 := by rw [length_splice _ _ _ (by rw [hl]; decide), hl]
    have hbst := burst ((splice zs 11 [0, 0, 0, 0]).map Int.toNat) at' (508 - at') _ _ _ _ (by rw [List.length_map, len2]; omega) (chg_lt ch 0) (chg_lt ch 1) (chg_lt ch 2) (chg_lt ch 3) hreg.symm
    rcases (show i0 = 0 ∨ i0 = 1 ∨ i0 = 2 ∨ i0 = 3 from by omega) with rfl | rfl | rfl | rfl
    · exact hne hbst.1
    · exact hne hbst.2.1
    · exact hne hbst.2.2.1
    · exact hne hbst.2.2.2
  · have hmb := isB_mix hb at' ch 4
    have es : splice (mix zs at' ch 4) 11 [0, 0, 0, 0] = splice zs 11 [0, 0, 0, 0] := by
      refine ext_getD (by rw [length_splice _ _ _ (by rw [ml]; decide), length_splice _ _ _ (by rw [hl]; decide), ml, hl]) fun t ht => ?_
      rw [length_splice _ _ _ (by rw [ml]; decide), ml] at ht
      rw [splice_getD (by omega), splice_getD (by omega)]
      by_cases hs : 11 ≤ t ∧ t < 15
      · rw [if_pos hs, if_pos hs]
      · rw [if_neg hs, if_neg hs, mix_getD (by omega)]
        by_cases hw : at' ≤ t ∧ t < at' + 4
        · rw [if_pos hw, hout (t - at') (by omega) (by omega), Nat.xor_zero]
          have := Pl.isB_getD hb t
          rw [← List.getD_eq_getElem?_getD] at this
          omega
        · rw [if_neg hw]
    rw [es, ← h5] at m5
    have d1 := Pl.dig_num (Pl.isB_take (Pl.isB_drop hmb 11) 4)
    have d2 := Pl.dig_num (Pl.isB_take (Pl.isB_drop hb 11) 4)
    rw [m5, show (((mix zs at' ch 4).drop 11).take 4).length = ((zs.drop 11).take 4).length from by simp [length_mix], d2] at d1
    have hin : 11 ≤ at' + i0 ∧ at' + i0 < 15 := Classical.byContradiction fun hno => hne (hout i0 hi0 hno)
    have g : ((zs.drop 11).take 4).getD (at' + i0 - 11) 0 = (((mix zs at' ch 4).drop 11).take 4).getD (at' + i0 - 11) 0 := by rw [d1]
    rw [part_getD _ _ _ (by omega), part_getD _ _ _ (by omega), show 11 + (at' + i0 - 11) = at' + i0 by omega, mix_getD (by omega), if_pos (by omega), show at' + i0 - at' = i0 by omega] at g
    have hz := Pl.isB_getD hb (at' + i0)
    rw [← List.getD_eq_getElem?_getD] at hz
    have g2 : (zs.getD (at' + i0) 0).toNat = (zs.getD (at' + i0) 0).toNat ^^^ chg ch i0 := by omega
    have g3 := congrArg (fun x => (zs.getD (at' + i0) 0).toNat ^^^ x) g2
    simp only [← Nat.xor_assoc, Nat.xor_self, Nat.zero_xor] at g3
    exact hne g3.symm

end Go.Proofs.Yteaebdonnicbkaa
