/-
  syntax: operatorOf.
-/
import Derived.Test.YtbllaacbeagljaaGreatDoorSy0
namespace Go.Proofs.YtbllaacbeagljaaGreatDoor
open Go.RowKit

theorem under232 : Tryz.prog.underlying 232 = some (.array 9 220) := by kernel_rfl
def opR (j : Nat) : Int := if j = 0 then 0 else if j = 1 then 1 else if j ≤ 3 then 3 else if j ≤ 5 then 4 else 5
def opS (j : Nat) : ByteArray := ([⟨#[111, 114]⟩, ⟨#[97, 110, 100]⟩, ⟨#[60]⟩, ⟨#[61]⟩, ⟨#[43]⟩, ⟨#[45]⟩, ⟨#[42]⟩, ⟨#[47]⟩, ⟨#[37]⟩] : List ByteArray).getD j ⟨#[]⟩
set_option maxRecDepth 100000 in
theorem idx232 (j : Nat) (hj : j < 9) (W : World) : (Instr.index 232 (.agg opsA) (.int .i64 (j : Int))).run Tryz.prog W = .ok (.agg #[.int .i64 (opR j), .string (opS j), .int .i64 (okZ j)]) W := by
  have hj' : j = 0 ∨ j = 1 ∨ j = 2 ∨ j = 3 ∨ j = 4 ∨ j = 5 ∨ j = 6 ∨ j = 7 ∨ j = 8 := by omega
  rcases hj' with rfl | rfl | rfl | rfl | rfl | rfl | rfl | rfl | rfl <;> (simp only [Instr.index, run_underlying under232, asIntOf, Sem.run_bind, Result.andThen_ok, opR, opS, okZ]; rfl)
theorem op_found (j : Nat) (hj : j < 9) : opZ (okZ j) = some (opR j) := by
  have hj' : j = 0 ∨ j = 1 ∨ j = 2 ∨ j = 3 ∨ j = 4 ∨ j = 5 ∨ j = 6 ∨ j = 7 ∨ j = 8 := by omega
  rcases hj' with rfl | rfl | rfl | rfl | rfl | rfl | rfl | rfl | rfl <;> rfl
theorem op_none (k : Int) (h : ∀ j, j < 9 → okZ j ≠ k) : opZ k = none := by
  have h0 := h 0 (by omega)
  have h1 := h 1 (by omega)
  have h2 := h 2 (by omega)
  have h3 := h 3 (by omega)
  have h4 := h 4 (by omega)
  have h5 := h 5 (by omega)
  have h6 := h 6 (by omega)
  have h7 := h 7 (by omega)
  have h8 := h 8 (by omega)
  simp [okZ] at h0 h1 h2 h3 h4 h5 h6 h7 h8
  unfold opZ
  (repeat' split) <;> first | rfl | (exfalso; omega)
set_option maxRecDepth 100000 in
set_option maxHeartbeats 4000000 in
theorem operatorOf_any (k : Int) (w : World) (hG : GA w) : Calls Tryz.prog 131 #[.int .i64 k] w (OpQ k w) := by
  obtain ⟨PO, hPO⟩ : ∃ PO, PO = OpQ k w := ⟨_, rfl⟩
  rw [← hPO]
  have HPO := hid hPO
  clear hPO
  obtain ⟨W, hW⟩ : ∃ W, W = w.alloc (.cells #[.int .i64 0, .string ⟨#[]⟩, .int .i64 0] 220) := ⟨_, rfl⟩
  have hbl : Below w.heap.size w W := by rw [hW]; exact below1 _ _
  have hc : Cs W w.heap.size 220 #[.int .i64 0, .string ⟨#[]⟩, .int .i64 0] := by rw [hW]; exact Cs.new _ _ _
  obtain ⟨tt, fr, hg1⟩ := hG.next hbl
  have HW := hid hW
  have HB := hid hbl
  have HC := hid hc
  have hix := fun (u : World) (j : Nat) (hj : j < 9) => idx232 j hj u
  have HG1 := hid hg1
  clear hc hbl hG hW hg1
  go_enter Tryz.func131, Tryz.ntmps131
  go_wp2_with (refine wpList_load_row rfl 232 _ rfl 0 rfl tt _ fr _ (by have := HG1.out; rw [HW.out] at this; exact this) under232 rfl (by kernel_rfl) ?_)
  rw [← HW.out]
  go_loopw [7] (fun iv wr => ∃ j : Nat, iv = .int .i64 (j : Int) ∧ j ≤ 9 ∧ (∀ i, i < j → okZ i ≠ k) ∧ Below w.heap.size w wr ∧ Cs wr w.heap.size 220 #[.int .i64 0, .string ⟨#[]⟩, .int .i64 0]) (fun iv _ => 9 - (intOf iv).toNat)
  case atStart => exact ⟨0, rfl, Nat.zero_le _, fun i hi => by omega, HB.out, HC.out⟩
  case round =>
    obtain ⟨j, rfl, hj, hno, hBe, hCs⟩ := hrel
    clear HW HB HC HG1
    by_cases hj9 : j < 9
    · have hix' := hix wr j hj9
      have hjn' : (j : Int) < 9 := by omega
      have HN := hid hno
      have HBe := hid hBe
      have HCs := hid hCs
      have hlt := hCs.lt
      obtain ⟨W1, hW1⟩ : ∃ W1, W1 = wr.alloc (.cells #[.int .i64 (opR j), .string (opS j), .int .i64 (okZ j)] 220) := ⟨_, rfl⟩
      have hc1 : Cs W1 w.heap.size 220 #[.int .i64 0, .string ⟨#[]⟩, .int .i64 0] := by rw [hW1]; exact hCs.next (below1 _ _)
      have hb1 : Below w.heap.size w W1 := by rw [hW1]; exact hBe.trans ((below1 _ _).mono hBe.size)
      by_cases hk : okZ j = k
      · have hcS := ((hCs.set 0 (.int .i64 (opR j)) rfl).set 1 (.string (opS j)) rfl).set 2 (.int .i64 k) rfl
        have hbS : Below w.heap.size w (((wr.setCell ⟨w.heap.size, 0, none⟩ (.int .i64 (opR j))).setCell ⟨w.heap.size, 1, none⟩ (.string (opS j))).setCell ⟨w.heap.size, 2, none⟩ (.int .i64 k)) := ((hBe.setCell (by simp) _).setCell (by simp) _).setCell (by simp) _
        obtain ⟨W2, hW2⟩ : ∃ W2, W2 = (((wr.setCell ⟨w.heap.size, 0, none⟩ (.int .i64 (opR j))).setCell ⟨w.heap.size, 1, none⟩ (.string (opS j))).setCell ⟨w.heap.size, 2, none⟩ (.int .i64 k)).alloc (.cells #[.int .i64 (opR j), .string (opS j), .int .i64 k] 220) := ⟨_, rfl⟩
        have HC2 : Hid (Cs W2 w.heap.size 220 #[.int .i64 (opR j), .string (opS j), .int .i64 k]) := by rw [hW2]; exact Cs.next hcS (below1 _ _)
        have HK : Hid (OpQ k w (.returned (.tuple #[.agg #[.int .i64 (opR j), .string (opS j), .int .i64 k], .bool true])) W2) := by
          refine ⟨⟨opR j, opS j, .inl ⟨by rw [← hk]; exact op_found j hj9, rfl⟩⟩, ?_⟩
          rw [hW2]
          exact hbS.trans ((below1 _ _).mono hbS.size)
        have c0 := hCs.cell 0 _ rfl
        have c1 := hCs.cell 1 _ rfl
        have c2 := hCs.cell 2 _ rfl
        have f0 := hCs.fz 0
        have f1 := hCs.fz 1
        have f2 := hCs.fz 2
        rw [hk] at hix' hW1
        have HW2 := hid hW2
        clear hc1 hb1 hno hBe hCs hix hk hW1 hcS hbS hW2
        generalize opR j = oR at *
        generalize opS j = oS at *
        go_wp2_with fail
        rw [← HW2.out]
        exact bodyPost_ret (results_row_tmp rfl _ _ w.heap.size 220 _ (0, 0) _ _ rfl rfl HC2.out Tryz.underlying220 rfl (by kernel_rfl)) rfl (by rw [HPO.out]; exact HK.out)
      · have hkb : (okZ j == k) = false := by simpa using hk
        have HE : Hid (∀ i, i < j + 1 → okZ i ≠ k) := fun i hi => by
          by_cases q : i = j
          · rw [q]; exact hk
          · exact hno i (by omega)
        have HC1 := hid hc1
        have HB1 := hid hb1
        have HW1 := hid hW1
        clear hc1 hb1 hno hBe hCs hix hk hW1
        generalize okZ j = oK at *
        generalize opR j = oR at *
        generalize opS j = oS at *
        go_wp2_with fail
        rw [← HW1.out]
        exact ⟨⟨j + 1, by go_num, by omega, HE.out, HB1.out, HC1.out⟩, by simp [intOf]; omega⟩
    · have hjn' : ¬ (j : Int) < 9 := by omega
      have HK : Hid (OpQ k w (.returned (.tuple #[.agg #[.int .i64 0, .string ⟨#[]⟩, .int .i64 0], .bool false])) wr) := ⟨⟨0, ⟨#[]⟩, .inr ⟨op_none k (fun i hi => hno i (by omega)), rfl⟩⟩, hBe⟩
      have c0 := hCs.cell 0 _ rfl
      have c1 := hCs.cell 1 _ rfl
      have c2 := hCs.cell 2 _ rfl
      have f0 := hCs.fz 0
      have f1 := hCs.fz 1
      have f2 := hCs.fz 2
      have HC := hid (((hCs.set 0 (.int .i64 0) rfl).set 1 (.string ⟨#[]⟩) rfl).set 2 (.int .i64 0) rfl)
      have HK2 : Hid (OpQ k w (.returned (.tuple #[.agg #[.int .i64 0, .string ⟨#[]⟩, .int .i64 0], .bool false])) (((wr.setCell ⟨w.heap.size, 0, none⟩ (.int .i64 0)).setCell ⟨w.heap.size, 1, none⟩ (.string ⟨#[]⟩)).setCell ⟨w.heap.size, 2, none⟩ (.int .i64 0))) :=
        ⟨HK.out.1, ((hBe.setCell (by simp) _).setCell (by simp) _).setCell (by simp) _⟩
      clear hno hBe hCs hix
      go_wp2_with fail
      exact bodyPost_ret (results_row_tmp rfl _ _ w.heap.size 220 _ (0, 0) _ _ rfl rfl HC.out Tryz.underlying220 rfl (by kernel_rfl)) rfl (by rw [HPO.out]; exact HK2.out)

end Go.Proofs.YtbllaacbeagljaaGreatDoor
