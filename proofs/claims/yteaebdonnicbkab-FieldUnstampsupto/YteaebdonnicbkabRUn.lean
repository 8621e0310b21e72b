/-
  The document's Unstamp (function 16).
-/
import Derived.Test.YteaebdonnicbkabNmb
import Derived.Test.YteaebdonnicbkabRSt
namespace Go.Proofs.Yteaebdonnicbkab
open Go.RowKit

/-- what an Unstamp answers: kind and number, the body, the number of its error -/
def unstR (zs : List Int) : (Int × Int) × List Int × Int :=
  if zs.length ≠ 512 then ((0, 0), [], 12)
  else if zs.getD 0 0 = 0 ∨ 497 < Pl.num ((zs.drop 1).take 2) ∨ 1099511627776 < Pl.num ((zs.drop 3).take 8) then ((0, 0), [], 16)
  else if zeroB (zs.drop (15 + (Pl.num ((zs.drop 1).take 2)).toNat)) = false then ((0, 0), [], 16)
  else if Pl.num ((zs.drop 11).take 4) ≠ crc (splice zs 11 [0, 0, 0, 0]) then ((0, 0), [], 17)
  else ((zs.getD 0 0, Pl.num ((zs.drop 3).take 8)), (zs.drop 15).take (Pl.num ((zs.drop 1).take 2)).toNat, 0)
/-- the answer's value -/
def unstV (R : (Int × Int) × List Int × Int) (a : Option Addr) (n c : Nat) : Value := .tuple #[.int .i64 R.1.1, .int .i64 R.1.2, .slice a n c, .int .i64 R.2.2]

theorem str_inj {a b : List Int} (ha : Pl.isB a) (hb : Pl.isB b) (h : strOfNums a = strOfNums b) : a = b := by
  have e : a.map (fun n => UInt8.ofNat n.toNat) = b.map (fun n => UInt8.ofNat n.toNat) := by rw [← strOfNums_data a, ← strOfNums_data b, h]
  have hl : a.length = b.length := by have := congrArg List.length e; simpa using this
  refine List.ext_getElem hl fun i h1 h2 => ?_
  have e2 := congrArg (fun l => l[i]?) e
  simp [h1, h2] at e2
  have p := ha _ (List.getElem_mem h1)
  have q := hb _ (List.getElem_mem h2)
  have e3 := congrArg UInt8.toNat e2
  simp only [UInt8.toNat_ofNat'] at e3
  omega
theorem high_num {zs : List Int} (hb : Pl.isB zs) (hz : zs.length = 512) (h : 127 < zs.getD 10 0) : 1099511627776 < Pl.num ((zs.drop 3).take 8) := by
  have hbb := Pl.isB_take (Pl.isB_drop hb 3) 8
  have hl : ((zs.drop 3).take 8).length = 8 := by simp; omega
  have e : ((zs.drop 3).take 8).getD 7 0 = zs.getD 10 0 := by
    rw [List.getD_eq_getElem?_getD, List.getD_eq_getElem?_getD, List.getElem?_take_of_lt (by decide), List.getElem?_drop]
  generalize (zs.drop 3).take 8 = l at *
  have e0 := num_drop_step (zs := l) (j := 0) (by omega)
  have e1 := num_drop_step (zs := l) (j := 1) (by omega)
  have e2 := num_drop_step (zs := l) (j := 2) (by omega)
  have e3 := num_drop_step (zs := l) (j := 3) (by omega)
  have e4 := num_drop_step (zs := l) (j := 4) (by omega)
  have e5 := num_drop_step (zs := l) (j := 5) (by omega)
  have e6 := num_drop_step (zs := l) (j := 6) (by omega)
  have e7 := num_drop_step (zs := l) (j := 7) (by omega)
  have e8 : l.drop 8 = [] := List.drop_of_length_le (by omega)
  have bd : ∀ t, 0 ≤ l.getD t 0 ∧ l.getD t 0 < 256 := fun t => by
    have := Pl.isB_getD hbb t
    rw [← List.getD_eq_getElem?_getD] at this
    exact this
  have b0 := bd 0
  have b1 := bd 1
  have b2 := bd 2
  have b3 := bd 3
  have b4 := bd 4
  have b5 := bd 5
  have b6 := bd 6
  simp only [Nat.zero_add, Nat.reduceAdd, List.drop_zero] at e0 e1 e2 e3 e4 e5 e6 e7
  rw [e8, Pl.num] at e7
  omega

set_option maxRecDepth 100000 in
set_option maxHeartbeats 1000000 in
theorem refU_size (a : Option Addr) (n c : Nat) (w : World) (h : n ≠ 512) :
    Calls Try.prog 16 #[.slice a n c] w fun e w' => e = .returned (unstV ((0, 0), [], 12) none 0 0) ∧ w' = w := by
  have h' : ((n : Int) == 512) = false := by simp; omega
  go_enter Try.func16, Try.ntmps16
  go_wp2_with fail
  exact bodyPost_ret (v := unstV ((0, 0), [], 12) none 0 0) (by simp [unstV, results, Try.results16, go_sem]) rfl ⟨rfl, rfl⟩

set_option maxRecDepth 100000 in
set_option maxHeartbeats 2000000 in
theorem refU_head (b off cap : Nat) (zs : List Int) (w : World) (hz : zs.length = 512) (hzb : Pl.isB zs) (hcap : 512 ≤ cap)
    (hc : ∀ t, t < 512 → w.cell? ⟨b, off + t, none⟩ = some (.int .u8 (zs.getD t 0)))
    (h : zs.getD 0 0 = 0 ∨ 497 < Pl.num ((zs.drop 1).take 2) ∨ 1099511627776 < Pl.num ((zs.drop 3).take 8)) :
    Calls Try.prog 16 #[.slice (some ⟨b, off, none⟩) 512 cap] w fun e w' => e = .returned (unstV ((0, 0), [], 16) none 0 0) ∧ w' = w := by
  have g1 := number_ok b (off + 1) 2 (cap - 1) ((zs.drop 1).take 2) w (by decide) (by simp; omega) (Pl.isB_take (Pl.isB_drop hzb _) _) (part_cells hc 1 2 (by decide)) (fun h => by omega)
  have c0 : w.cell? ⟨b, off, none⟩ = some (.int .u8 (zs.getD 0 0)) := hc 0 (by decide)
  have k1 := Pl.isB_getD hzb 0
  rw [← List.getD_eq_getElem?_getD] at k1
  have l0 := Pl.num_nonneg (Pl.isB_take (Pl.isB_drop hzb 1) 2)
  have l1 := Pl.num_lt (Pl.isB_take (Pl.isB_drop hzb 1) 2)
  rw [show ((zs.drop 1).take 2).length = 2 from by simp; omega] at l1
  have l2 : Pl.num ((zs.drop 1).take 2) < 65536 := by omega
  have e7 : ((zs.drop 3).take 8).getD 7 0 = zs.getD 10 0 := by
    rw [List.getD_eq_getElem?_getD, List.getD_eq_getElem?_getD, List.getElem?_take_of_lt (by decide), List.getElem?_drop]
  have hcn : ((512 : Int) == 512) = true := rfl
  by_cases hh : 127 < zs.getD 10 0
  · have g3 := number_high b (off + 3) (cap - 3) ((zs.drop 3).take 8) w (by rw [e7]; exact hc 10 (by decide)) (by rw [e7]; exact hh)
    have G1 := hid g1
    have G3 := hid g3
    clear g1 g3 hc hzb hz l1 h e7
    generalize Pl.num ((zs.drop 1).take 2) = L at *
    generalize zs.getD 0 0 = K at *
    by_cases hK : K = 0
    · subst hK
      go_enter Try.func16, Try.ntmps16
      go_wp2_with fail
      refine Calls.mono G1.out ?_
      rintro e w1 ⟨rfl, rfl⟩
      go_wp2_with fail
      refine Calls.mono G3.out ?_
      rintro e w1 ⟨rfl, rfl⟩
      go_wp2_with fail
      exact bodyPost_ret (v := unstV ((0, 0), [], 16) none 0 0) (by simp [unstV, results, Try.results16, go_sem]) rfl ⟨rfl, rfl⟩
    · have hK3 : (K == 0) = false := by simp; omega
      by_cases hL : 497 < L
      · go_enter Try.func16, Try.ntmps16
        go_wp2_with fail
        refine Calls.mono G1.out ?_
        rintro e w1 ⟨rfl, rfl⟩
        go_wp2_with fail
        refine Calls.mono G3.out ?_
        rintro e w1 ⟨rfl, rfl⟩
        go_wp2_with fail
        exact bodyPost_ret (v := unstV ((0, 0), [], 16) none 0 0) (by simp [unstV, results, Try.results16, go_sem]) rfl ⟨rfl, rfl⟩
      · have hL' : L ≤ 497 := by omega
        go_enter Try.func16, Try.ntmps16
        go_wp2_with fail
        refine Calls.mono G1.out ?_
        rintro e w1 ⟨rfl, rfl⟩
        go_wp2_with fail
        refine Calls.mono G3.out ?_
        rintro e w1 ⟨rfl, rfl⟩
        go_wp2_with fail
        exact bodyPost_ret (v := unstV ((0, 0), [], 16) none 0 0) (by simp [unstV, results, Try.results16, go_sem]) rfl ⟨rfl, rfl⟩
  · have g3 := number_ok b (off + 3) 8 (cap - 3) ((zs.drop 3).take 8) w (by decide) (by simp; omega) (Pl.isB_take (Pl.isB_drop hzb _) _) (part_cells hc 3 8 (by decide)) (fun _ => by rw [e7]; omega)
    have G1 := hid g1
    have G3 := hid g3
    clear g1 g3 hc hzb hz l1 e7
    generalize Pl.num ((zs.drop 1).take 2) = L at *
    generalize Pl.num ((zs.drop 3).take 8) = S at *
    generalize zs.getD 0 0 = K at *
    rcases (show K = 0 ∨ (1 ≤ K ∧ 497 < L) ∨ (1 ≤ K ∧ L ≤ 497 ∧ 1099511627776 < S) from by omega) with h1 | ⟨h1, h2⟩ | ⟨h1, h2, h3⟩
    · subst h1
      clear h
      go_enter Try.func16, Try.ntmps16
      go_wp2_with fail
      refine Calls.mono G1.out ?_
      rintro e w1 ⟨rfl, rfl⟩
      go_wp2_with fail
      refine Calls.mono G3.out ?_
      rintro e w1 ⟨rfl, rfl⟩
      go_wp2_with fail
      exact bodyPost_ret (v := unstV ((0, 0), [], 16) none 0 0) (by simp [unstV, results, Try.results16, go_sem]) rfl ⟨rfl, rfl⟩
    · have hK3 : (K == 0) = false := by simp; omega
      clear h
      go_enter Try.func16, Try.ntmps16
      go_wp2_with fail
      refine Calls.mono G1.out ?_
      rintro e w1 ⟨rfl, rfl⟩
      go_wp2_with fail
      refine Calls.mono G3.out ?_
      rintro e w1 ⟨rfl, rfl⟩
      go_wp2_with fail
      exact bodyPost_ret (v := unstV ((0, 0), [], 16) none 0 0) (by simp [unstV, results, Try.results16, go_sem]) rfl ⟨rfl, rfl⟩
    · have hK3 : (K == 0) = false := by simp; omega
      clear h
      go_enter Try.func16, Try.ntmps16
      go_wp2_with fail
      refine Calls.mono G1.out ?_
      rintro e w1 ⟨rfl, rfl⟩
      go_wp2_with fail
      refine Calls.mono G3.out ?_
      rintro e w1 ⟨rfl, rfl⟩
      go_wp2_with fail
      exact bodyPost_ret (v := unstV ((0, 0), [], 16) none 0 0) (by simp [unstV, results, Try.results16, go_sem]) rfl ⟨rfl, rfl⟩

end Go.Proofs.Yteaebdonnicbkab
