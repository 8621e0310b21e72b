/-
  Unstamp: what is refused.
-/
import Derived.Test.YteaebdonnicbkaaPack
namespace Go.Proofs.Yteaebdonnicbkaa
open Go.RowKit

/-- what an Unstamp that is refused answers -/
def uerr (E : Int) : Value := .tuple #[.int .i64 0, .int .i64 0, .slice none 0 0, .int .i64 E]

set_option maxRecDepth 100000 in
set_option maxHeartbeats 1000000 in
theorem Unstamp_head (b off cap : Nat) (zs : List Int) (w : World) (hz : zs.length = 512) (hzb : Pl.isB zs) (hcap : 512 ≤ cap)
    (hc : ∀ t, t < 512 → w.cell? ⟨b, off + t, none⟩ = some (.int .u8 (zs.getD t 0)))
    (h : zs.getD 0 0 = 0 ∨ 497 < Pl.num ((zs.drop 1).take 2) ∨ 1099511627776 < Pl.num ((zs.drop 3).take 8)) :
    Calls Try.prog 13 #[.slice (some ⟨b, off, none⟩) 512 cap] w fun e w' => e = .returned (uerr 16) ∧ w' = w := by
  have g1 := getNumber_any b (off + 1) 2 (cap - 1) ((zs.drop 1).take 2) w (by decide) (by simp; omega) (Pl.isB_take (Pl.isB_drop hzb _) _) (part_cells hc 1 2 (by decide))
  have g3 := getNumber_any b (off + 3) 8 (cap - 3) ((zs.drop 3).take 8) w (by decide) (by simp; omega) (Pl.isB_take (Pl.isB_drop hzb _) _) (part_cells hc 3 8 (by decide))
  have c0 : w.cell? ⟨b, off, none⟩ = some (.int .u8 (zs.getD 0 0)) := hc 0 (by decide)
  have k1 := Pl.isB_getD hzb 0
  rw [← List.getD_eq_getElem?_getD] at k1
  have l0 := Pl.num_nonneg (Pl.isB_take (Pl.isB_drop hzb 1) 2)
  have l1 := Pl.num_lt (Pl.isB_take (Pl.isB_drop hzb 1) 2)
  rw [show ((zs.drop 1).take 2).length = 2 from by simp; omega] at l1
  have s0 := Pl.num_nonneg (Pl.isB_take (Pl.isB_drop hzb 3) 8)
  have l2 : Pl.num ((zs.drop 1).take 2) < 65536 := by omega
  generalize Pl.num ((zs.drop 1).take 2) = L at *
  generalize Pl.num ((zs.drop 3).take 8) = S at *
  generalize zs.getD 0 0 = K at *
  obtain ⟨k2, k3⟩ := k1
  have G1 := hid g1
  have G3 := hid g3
  clear g1 g3 hc hzb hz l1
  have fin : ∀ (Q : Prop), Q → Q := fun _ h => h
  rcases (show K = 0 ∨ (1 ≤ K ∧ 497 < L) ∨ (1 ≤ K ∧ L ≤ 497 ∧ 1099511627776 < S) from by omega) with h1 | ⟨h1, h2⟩ | ⟨h1, h2, h3⟩
  · subst h1
    clear h
    go_enter Try.func13, Try.ntmps13
    go_wp2_with fail
    refine Calls.mono G1.out ?_
    rintro e w1 ⟨rfl, rfl⟩
    go_wp2_with fail
    refine Calls.mono G3.out ?_
    rintro e w1 ⟨rfl, rfl⟩
    go_wp2_with fail
    exact bodyPost_ret (v := uerr 16) (by simp [uerr, results, Try.results13, go_sem]) rfl ⟨rfl, rfl⟩
  · have hK3 : (K == 0) = false := by simp; omega
    clear h
    go_enter Try.func13, Try.ntmps13
    go_wp2_with fail
    refine Calls.mono G1.out ?_
    rintro e w1 ⟨rfl, rfl⟩
    go_wp2_with fail
    refine Calls.mono G3.out ?_
    rintro e w1 ⟨rfl, rfl⟩
    go_wp2_with fail
    exact bodyPost_ret (v := uerr 16) (by simp [uerr, results, Try.results13, go_sem]) rfl ⟨rfl, rfl⟩
  · have hK3 : (K == 0) = false := by simp; omega
    clear h
    go_enter Try.func13, Try.ntmps13
    go_wp2_with fail
    refine Calls.mono G1.out ?_
    rintro e w1 ⟨rfl, rfl⟩
    go_wp2_with fail
    refine Calls.mono G3.out ?_
    rintro e w1 ⟨rfl, rfl⟩
    go_wp2_with fail
    exact bodyPost_ret (v := uerr 16) (by simp [uerr, results, Try.results13, go_sem]) rfl ⟨rfl, rfl⟩

set_option maxRecDepth 100000 in
set_option maxHeartbeats 1000000 in
theorem Unstamp_rest (b off cap : Nat) (zs : List Int) (K S : Int) (L : Nat) (w : World) (hz : zs.length = 512) (hzb : Pl.isB zs) (hb : b < w.heap.size) (hcap : 512 ≤ cap)
    (hc : ∀ t, t < 512 → w.cell? ⟨b, off + t, none⟩ = some (.int .u8 (zs.getD t 0)))
    (hK : zs.getD 0 0 = K) (hK1 : 1 ≤ K) (hL : Pl.num ((zs.drop 1).take 2) = (L : Int)) (hL1 : L ≤ 497) (hS : Pl.num ((zs.drop 3).take 8) = S) (hS1 : S ≤ 1099511627776)
    (hbad : zeroB (zs.drop (15 + L)) = false ∨ Pl.num ((zs.drop 11).take 4) ≠ crc (splice zs 11 [0, 0, 0, 0])) :
    Calls Try.prog 13 #[.slice (some ⟨b, off, none⟩) 512 cap] w fun e w' => e = .returned (uerr (if zeroB (zs.drop (15 + L)) = false then 16 else 17)) ∧ Below w.heap.size w w' := by
  have hS0 : 0 ≤ S := by rw [← hS]; exact Pl.num_nonneg (Pl.isB_take (Pl.isB_drop hzb _) _)
  have hK2 : K < 256 := by rw [← hK, List.getD_eq_getElem?_getD]; exact (Pl.isB_getD hzb 0).2
  have c0 : w.cell? ⟨b, off, none⟩ = some (.int .u8 K) := by rw [← hK]; exact hc 0 (by decide)
  have g1 := getNumber_any b (off + 1) 2 (cap - 1) ((zs.drop 1).take 2) w (by decide) (by simp; omega) (Pl.isB_take (Pl.isB_drop hzb _) _) (part_cells hc 1 2 (by decide))
  have g3 := getNumber_any b (off + 3) 8 (cap - 3) ((zs.drop 3).take 8) w (by decide) (by simp; omega) (Pl.isB_take (Pl.isB_drop hzb _) _) (part_cells hc 3 8 (by decide))
  have g11 := getNumber_any b (off + 11) 4 (cap - 11) ((zs.drop 11).take 4) w (by decide) (by simp; omega) (Pl.isB_take (Pl.isB_drop hzb _) _) (part_cells hc 11 4 (by decide))
  rw [hL] at g1
  rw [hS] at g3
  have hst := stampSum_any b off cap zs w hz hzb hb hcap hc
  obtain ⟨q1, q2⟩ := crc_bd (isB_splice hzb isB_four 11)
  have m0 := Pl.num_nonneg (Pl.isB_take (Pl.isB_drop hzb 11) 4)
  generalize crc (splice zs 11 [0, 0, 0, 0]) = C at *
  generalize Pl.num ((zs.drop 11).take 4) = M at *
  have G1 := hid g1
  have G3 := hid g3
  have G11 := hid g11
  have HST := hid hst
  have HA1 : cap = 15 + L → Calls Try.prog 36 #[.slice (some ⟨b, off, none⟩) (512 - (15 + L)) 0] w fun e w' => e = .returned (.bool (zeroB (zs.drop (15 + L)))) ∧ w' = w := fun h => by
    have hL2 : L = 497 := by omega
    subst hL2
    exact allZero_any w.heap.size _ 0 0 _ w (by decide) ⟨by simp; omega, Pl.isB_drop hzb _, .inl rfl⟩
  have HA2 : Calls Try.prog 36 #[.slice (some ⟨b, off + (15 + L), none⟩) (512 - (15 + L)) (cap - (15 + L))] w fun e w' => e = .returned (.bool (zeroB (zs.drop (15 + L)))) ∧ w' = w :=
    allZero_any w.heap.size _ _ _ _ w (by omega) ⟨by simp; omega, Pl.isB_drop hzb _, .inr ⟨b, off + (15 + L), rfl, hb, fun t ht => by rw [show off + (15 + L) + t = off + (15 + L + t) by omega, hc _ (by omega)]; simp⟩⟩
  have A1 := hid HA1
  have A2 := hid HA2
  generalize zeroB (zs.drop (15 + L)) = Zb at *
  clear HA1 HA2
  have hK3 : (K == 0) = false := by simp; omega
  have e64 : IntKind.u64.wrap C = C := by rw [IntKind.wrap_u64]; omega
  clear g1 g3 g11 hst hc hL hS hK
  cases Zb with
  | false =>
    rw [if_pos rfl]
    go_enter Try.func13, Try.ntmps13
    go_wp2_with fail
    refine Calls.mono G1.out ?_
    rintro e w1 ⟨rfl, rfl⟩
    go_wp2_with fail
    refine Calls.mono G3.out ?_
    rintro e w1 ⟨rfl, rfl⟩
    go_wp2_with fail
    · have hcl : cap = 15 + L := by assumption
      subst hcl
      refine Calls.mono (A1.out rfl) ?_
      rintro e w1 ⟨rfl, rfl⟩
      go_wp2_with fail
      exact bodyPost_ret (v := uerr 16) (by simp [uerr, results, Try.results13, go_sem]) rfl ⟨rfl, Below.refl _ _⟩
    · refine Calls.mono A2.out ?_
      rintro e w1 ⟨rfl, rfl⟩
      go_wp2_with fail
      exact bodyPost_ret (v := uerr 16) (by simp [uerr, results, Try.results13, go_sem]) rfl ⟨rfl, Below.refl _ _⟩
  | true =>
    rw [if_neg (by decide)]
    have hne : (M != C) = true := by rcases hbad with h | h; cases h; simpa using h
    clear hbad
    go_enter Try.func13, Try.ntmps13
    go_wp2_with fail
    refine Calls.mono G1.out ?_
    rintro e w1 ⟨rfl, rfl⟩
    go_wp2_with fail
    refine Calls.mono G3.out ?_
    rintro e w1 ⟨rfl, rfl⟩
    go_wp2_with fail
    · have hcl : cap = 15 + L := by assumption
      subst hcl
      refine Calls.mono (A1.out rfl) ?_
      rintro e w1 ⟨rfl, rfl⟩
      go_wp2_with fail
      refine Calls.mono G11.out ?_
      rintro e w1 ⟨rfl, rfl⟩
      go_wp2_with fail
      refine Calls.mono HST.out ?_
      rintro e w2 ⟨rfl, hb2⟩
      go_wp2_with fail
      exact bodyPost_ret (v := uerr 17) (by simp [uerr, results, Try.results13, go_sem]) rfl ⟨rfl, hb2⟩
    · refine Calls.mono A2.out ?_
      rintro e w1 ⟨rfl, rfl⟩
      go_wp2_with fail
      refine Calls.mono G11.out ?_
      rintro e w1 ⟨rfl, rfl⟩
      go_wp2_with fail
      refine Calls.mono HST.out ?_
      rintro e w2 ⟨rfl, hb2⟩
      go_wp2_with fail
      exact bodyPost_ret (v := uerr 17) (by simp [uerr, results, Try.results13, go_sem]) rfl ⟨rfl, hb2⟩

end Go.Proofs.Yteaebdonnicbkaa
