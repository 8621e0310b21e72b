/-
  syntax: isRun, textMayBe.
-/
import Derived.Test.YtbllaacbeagljaaGreatDoorSy5
namespace Go.Proofs.YtbllaacbeagljaaGreatDoor
open Go.RowKit

theorem all_take {tx : List Int} {j : Nat} (h : j < tx.length) : (tx.take (j + 1)).all runZ = ((tx.take j).all runZ && runZ (tx.getD j 0)) := by
  rw [List.take_succ_eq_append_getElem h, List.all_append]
  simp [h]
theorem all_no {tx : List Int} {j : Nat} (h : j < tx.length) (hz : runZ (tx.getD j 0) = false) : tx.all runZ = false := by
  rw [List.all_eq_false]
  refine ⟨tx[j], List.getElem_mem h, ?_⟩
  have : tx.getD j 0 = tx[j] := by simp [h]
  rw [this] at hz
  simp [hz]
set_option maxRecDepth 100000 in
set_option maxHeartbeats 4000000 in
theorem isRun_any (tx : List Int) (w : World) (hB : Pl.isB tx) (hl : tx.length ≤ 16777216) : Calls Tryz.prog 123 #[.string (strOfNums tx)] w fun e w' => e = .returned (.bool (runB tx)) ∧ Below w.heap.size w w' := by
  obtain ⟨W, c, hcv, hcell, hbl⟩ := conv_bytes tx hB w
  have hne : ((strOfNums tx).toList == ([] : List UInt8)) = tx.isEmpty := by
    rw [Lib.strOfNums_toList]; cases tx <;> rfl
  obtain ⟨r, hr⟩ : ∃ r, r = runB tx := ⟨_, rfl⟩
  rw [← hr]
  have HR := hid hr
  have HC := hid hcell
  have HB := hid hbl
  generalize strOfNums tx = S at *
  clear hB hr hcell hbl
  go_enter Tryz.func123, Tryz.ntmps123
  go_wp2_with fail
  go_loopw [8] (fun iv wr => ∃ j : Nat, iv = .int .i64 (j : Int) ∧ j ≤ tx.length ∧ (tx.take j).all runZ = true ∧ wr = W) (fun iv _ => tx.length - (intOf iv).toNat)
  case atStart => exact ⟨0, rfl, Nat.zero_le _, by simp, rfl⟩
  case round =>
    obtain ⟨j, rfl, hj, hall, rfl⟩ := hrel
    have HA := hid hall
    clear hall
    by_cases hjn : j < tx.length
    · have hc := HC.out j hjn
      have hjn' : (j : Int) < (tx.length : Int) := by omega
      have HZ := hid (all_take (tx := tx) (j := j) hjn)
      have HNo := hid (all_no (tx := tx) (j := j) hjn)
      generalize tx.getD j 0 = z at *
      clear HC
      cases hz : runZ z with
      | false =>
        have hz' : (decide (z < 32) || decide (126 < z) || z == 34 || z == 36 || z == 123 || z == 125) = true := by revert hz; unfold runZ; cases (decide (z < 32) || decide (126 < z) || z == 34 || z == 36 || z == 123 || z == 125) <;> simp
        have HF : Hid (tx.all runZ = false) := HNo.out hz
        clear HNo hz HZ
        go_wp2_with fail
        all_goals
          go_ret
          exact ⟨ret_bool (by rw [HR.out]; unfold runB; rw [HF.out]; rfl), HB.out⟩
      | true =>
        have hz' : ¬ z < 32 ∧ ¬ 126 < z ∧ z ≠ 34 ∧ z ≠ 36 ∧ z ≠ 123 ∧ z ≠ 125 := by
          unfold runZ at hz
          simp at hz
          omega
        obtain ⟨y1, y2, y3, y4, y5, y6⟩ := hz'
        have z1 : decide (z < 32) = false := by simpa using y1
        have z2 : decide (126 < z) = false := by simpa using y2
        have z3 : (z == 34) = false := by simpa using y3
        have z4 : (z == 36) = false := by simpa using y4
        have z5 : (z == 123) = false := by simpa using y5
        have z6 : (z == 125) = false := by simpa using y6
        clear y3 y4 y5 y6
        rw [hz] at HZ
        clear HNo hz
        go_wp2_with fail
        exact ⟨⟨j + 1, by go_num, by omega, by rw [HZ.out, HA.out]; rfl, trivial⟩, by simp [intOf]; omega⟩
    · have hjn' : ¬ (j : Int) < (tx.length : Int) := by omega
      have HE : Hid (r = !tx.isEmpty) := by
        have h1 := HA.out
        rw [show j = tx.length by omega, List.take_length] at h1
        exact HR.out.trans (by unfold runB; rw [h1]; simp)
      clear HC
      go_wp2_with fail
      go_ret
      exact ⟨ret_bool HE.out.symm, HB.out⟩

/-- how a text of a node may be -/
def textB (k : Int) (tx : List Int) : Bool := if k = 2 ∨ k = 9 ∨ k = 21 then wordB tx else if k = 13 then runB tx else tx.isEmpty
set_option maxRecDepth 100000 in
set_option maxHeartbeats 2000000 in
theorem textMayBe_any (k n at_ : Int) (tx : List Int) (a : Option Addr) (l c : Nat) (w : World) (hB : Pl.isB tx) (hl : tx.length ≤ 16777216) :
    Calls Tryz.prog 103 #[.agg (ncs k (strOfNums tx) n at_ a l c)] w fun e w' => e = .returned (.bool (textB k tx)) ∧ Below w.heap.size w w' := by
  have HI := fun u => hid (isWord_any tx u hB hl)
  have HU := fun u => hid (isRun_any tx u hB hl)
  have HB := hid (below1 w (.cells (ncs k (strOfNums tx) n at_ a l c) 25))
  have hne : ((strOfNums tx).toList == ([] : List UInt8)) = tx.isEmpty := by
    rw [Lib.strOfNums_toList]; cases tx <;> rfl
  clear hB hl
  unfold textB
  generalize wordB tx = wd at *
  generalize runB tx = rd at *
  generalize strOfNums tx = S at *
  by_cases h1 : k = 2 ∨ k = 9 ∨ k = 21
  · rw [if_pos h1]
    rcases h1 with rfl | rfl | rfl <;>
    · go_enter Tryz.func103, Tryz.ntmps103
      go_wp2_with (go_at_call 122; refine (HI _).out.mono ?_; rintro e w2 ⟨rfl, hb2⟩; have HB2 := hid hb2; clear hb2)
      go_ret
      exact ⟨rfl, HB.out.trans (HB2.out.mono HB.out.size)⟩
  rw [if_neg h1]
  have q2 : (k == 2) = false := by simp; omega
  have q9 : (k == 9) = false := by simp; omega
  have q21 : (k == 21) = false := by simp; omega
  by_cases h13 : k = 13
  · subst h13
    rw [if_pos rfl]
    clear q2 q9 q21
    go_enter Tryz.func103, Tryz.ntmps103
    go_wp2_with (go_at_call 123; refine (HU _).out.mono ?_; rintro e w2 ⟨rfl, hb2⟩; have HB2 := hid hb2; clear hb2)
    go_ret
    exact ⟨rfl, HB.out.trans (HB2.out.mono HB.out.size)⟩
  rw [if_neg h13]
  have q13 : (k == 13) = false := by simpa using h13
  go_enter Tryz.func103, Tryz.ntmps103
  go_wp2_with fail
  go_ret
  exact ⟨ret_bool rfl, HB.out⟩

end Go.Proofs.YtbllaacbeagljaaGreatDoor
