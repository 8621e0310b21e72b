/-
  stream: a stream that is taken: the walk.
-/
import Derived.Test.YtahaehjmnafhbaaCt0
import Derived.Test.YtahaehjmnafhbaaEq0
namespace Go.Proofs.Ytahaehjmnafhbaa
open Go.RowKit

set_option maxRecDepth 100000 in
set_option maxHeartbeats 4000000 in
theorem taken_walk (b off n c : Nat) (C : Int) (pf eq : Bool) (w : World) (PO : Ending → World → Prop) (hnc : n < c) (hn : n ≤ 16777216) (hC : IntKind.i64.wrap C = C)
    (HN : Hid (∃ wA wM r0, wA = w.alloc (.cells #[.string ⟨#[]⟩, .int .i64 0, .string ⟨#[]⟩, .int .u32 0, .slice none 0 0] 39) ∧ wM = wA.alloc (.cells #[.int .u8 67, .int .u8 83, .int .u8 84, .int .u8 49] 5 (4, 5)) ∧ r0 = w.heap.size ∧ Calls Try.prog 14 #[.slice (some ⟨b, off, none⟩) n c, .slice (some ⟨w.heap.size + 1, 0, none⟩) 4 4] wM fun e w1 => e = .returned (.bool pf) ∧ w1.heap[r0]? = some (.cells #[.string ⟨#[]⟩, .int .i64 0, .string ⟨#[]⟩, .int .u32 0, .slice none 0 0] 39 (0, 0)) ∧ (pf = false → PO (.returned (.tuple #[.agg #[.string ⟨#[]⟩, .int .i64 0, .string ⟨#[]⟩, .int .u32 0, .slice none 0 0], .int .i64 150])) (set5 w1 r0 (.string ⟨#[]⟩) (.int .i64 0) (.string ⟨#[]⟩) (.int .u32 0) (.slice none 0 0))) ∧ (pf = true → ∃ m, n = m + 4 ∧ (m < 4 → PO (.returned (.tuple #[.agg #[.string ⟨#[]⟩, .int .i64 0, .string ⟨#[]⟩, .int .u32 0, .slice none 0 0], .int .i64 151])) (set5 w1 r0 (.string ⟨#[]⟩) (.int .i64 0) (.string ⟨#[]⟩) (.int .u32 0) (.slice none 0 0)).drew) ∧ (4 ≤ m → Calls Try.prog 17 #[.slice (some ⟨b, off, none⟩) m c] w1.drew fun e w2 => e = .returned (.int .u32 C) ∧ Calls Try.prog 16 #[.int .i64 C, .int .i64 4] w2 fun e w3 => ∃ g, e = .returned (.slice (some ⟨g, 0, none⟩) 4 4) ∧ Calls Try.prog 15 #[.slice (some ⟨b, off + m, none⟩) 4 (c - m), .slice (some ⟨g, 0, none⟩) 4 4] w3 fun e w4 => e = .returned (.bool eq) ∧ w4.heap[r0]? = some (.cells #[.string ⟨#[]⟩, .int .i64 0, .string ⟨#[]⟩, .int .u32 0, .slice none 0 0] 39 (0, 0)) ∧ (eq = false → PO (.returned (.tuple #[.agg #[.string ⟨#[]⟩, .int .i64 0, .string ⟨#[]⟩, .int .u32 0, .slice none 0 0], .int .i64 151])) (set5 w4 r0 (.string ⟨#[]⟩) (.int .i64 0) (.string ⟨#[]⟩) (.int .u32 0) (.slice none 0 0))) ∧ (eq = true → Calls Try.prog 18 #[.slice (some ⟨b, off + 4, none⟩) (m - 4) (c - 4)] w4 fun e w5 => ∃ S1 sz S2 sm ra q rc ok, e = .returned (.tuple #[.agg #[.string S1, .int .i64 sz, .string S2, .int .u32 sm, .slice ra q rc], .bool ok]) ∧ ∃ w6 cb, w6 = w5.alloc (.cells #[.string S1, .int .i64 sz, .string S2, .int .u32 sm, .slice ra q rc] 39) ∧ cb = w5.heap.size ∧ w6.heap[r0]? = some (.cells #[.string ⟨#[]⟩, .int .i64 0, .string ⟨#[]⟩, .int .u32 0, .slice none 0 0] 39 (0, 0)) ∧ (ok = false → PO (.returned (.tuple #[.agg #[.string ⟨#[]⟩, .int .i64 0, .string ⟨#[]⟩, .int .u32 0, .slice none 0 0], .int .i64 150])) (set5 w6 r0 (.string ⟨#[]⟩) (.int .i64 0) (.string ⟨#[]⟩) (.int .u32 0) (.slice none 0 0))) ∧ (ok = true → (w6.cell? ⟨cb, 0, none⟩ = some (.string S1) ∧ w6.cell? ⟨cb, 1, none⟩ = some (.int .i64 sz) ∧ w6.cell? ⟨cb, 2, none⟩ = some (.string S2) ∧ w6.cell? ⟨cb, 3, none⟩ = some (.int .u32 sm) ∧ w6.cell? ⟨cb, 4, none⟩ = some (.slice ra q rc)) ∧ PO (.returned (.tuple #[.agg #[.string S1, .int .i64 sz, .string S2, .int .u32 sm, .slice ra q rc], .int .i64 0])) (set5 w6 r0 (.string S1) (.int .i64 sz) (.string S2) (.int .u32 sm) (.slice ra q rc)))))))) :
    Calls Try.prog 10 #[.slice (some ⟨b, off, none⟩) n c] w PO := by
  obtain ⟨wA, wM, r0, hwA, hwM, hr0, h14⟩ := HN
  have HA := hid hwA
  have HM := hid hwM
  have HR := hid hr0
  have H14 := hid h14
  clear hwA hwM hr0 h14
  have e1 : (w.alloc (.cells #[.string ⟨#[]⟩, .int .i64 0, .string ⟨#[]⟩, .int .u32 0, .slice none 0 0] 39)).heap.size = w.heap.size + 1 := by simp
  have hcv := Lib.run_convert_bytes_const (P := Try.prog) (w.alloc (.cells #[.string ⟨#[]⟩, .int .i64 0, .string ⟨#[]⟩, .int .u32 0, .slice none 0 0] 39)) 22 5 #[.int .u8 67, .int .u8 83, .int .u8 84, .int .u8 49] 4 4 Try.underlying22 Try.underlying5
  rw [e1] at hcv
  go_enter Try.func10, Try.ntmps10
  go_wp2_with fail
  rw [← HA.out, ← HM.out]
  refine Calls.mono H14.out ?_
  rw [← HR.out]
  clear HA HM HR e1 hcv
  rintro e w1 ⟨rfl, hz, hf, ht⟩
  have HZ := hid hz
  have HF := hid hf
  have HT := hid ht
  clear hz hf ht H14
  cases pf
  case false =>
    have FN := hid (HF.out rfl)
    have FH := hid (set5_heap HZ.out (.string ⟨#[]⟩) (.int .i64 0) (.string ⟨#[]⟩) (.int .u32 0) (.slice none 0 0))
    have y0 := (Zb.of HZ.out).c0
    have y1 := (Zb.of HZ.out).c1
    have y2 := (Zb.of HZ.out).c2
    have y3 := (Zb.of HZ.out).c3
    have y4 := (Zb.of HZ.out).c4
    have yf := (Zb.of HZ.out).fz
    clear HF HT
    go_wp2_with fail
    exact bodyPost_ret (results_row_tmp rfl _ _ r0 39 #[.string ⟨#[]⟩, .int .i64 0, .string ⟨#[]⟩, .int .u32 0, .slice none 0 0] (0, 0) _ (.int .i64 150) rfl rfl FH.out Try.underlying39 rfl (by kernel_rfl)) rfl FN.out
  case true =>
  obtain ⟨m, rfl, h1, h2⟩ := HT.out rfl
  have H1 := hid h1
  have H2 := hid h2
  clear h1 h2 HF HT
  by_cases hm4 : m < 4
  · have FN := hid (H1.out hm4)
    have FH := hid (show (set5 w1 r0 (.string ⟨#[]⟩) (.int .i64 0) (.string ⟨#[]⟩) (.int .u32 0) (.slice none 0 0)).drew.heap[r0]? = some (.cells #[.string ⟨#[]⟩, .int .i64 0, .string ⟨#[]⟩, .int .u32 0, .slice none 0 0] 39 (0, 0)) from set5_heap HZ.out (.string ⟨#[]⟩) (.int .i64 0) (.string ⟨#[]⟩) (.int .u32 0) (.slice none 0 0))
    have hm5 : (m : Int) < 4 := by omega
    clear H1 H2
    go_wp2_with fail
    refine wp_region_held_drew (S := fun _ => True) (by kernel_rfl) trivial (fun hSS => ?_)
    refine wpAnyH_take (i := 0) (oi := ({ dst := some 16, op := Op.move (Operand.tmp 4), type := 3, pos := _, after := _, guard := none } : Oper)) (v := ?_) rfl (by kernel_rfl) (by kernel_rfl) (by kernel_rfl) (fun _ _ _ h => h) (Or.inl ⟨by rfl, ?_⟩) hSS ?_
    rotate_left
    · intro w9 hSw
      (try dsimp only at hSw)
      (try go_split_ands)
      first | (go_simp; done) | (go_simp; with_reducible rfl)
    try simp only [Act.put, List.setIfInBounds_toArray, List.set_cons_zero, List.set_cons_succ]
    refine wpAnyH_take (i := 1) (oi := ({ dst := some 17, op := Op.binOp BinOp.lss 3 (Operand.tmp 16) (Operand.const (Value.int IntKind.i64 4)) 3, type := 4, pos := _, after := _, guard := none } : Oper)) (v := .bool true) rfl (by kernel_rfl) (by kernel_rfl) (by kernel_rfl) (fun _ _ _ h => h) (Or.inl ⟨by rfl, ?_⟩) hSS ?_
    · intro w9 hSw
      (try dsimp only at hSw)
      (try go_split_ands)
      first | (go_simp; done) | (go_simp; simp [hm5]; done)
    try simp only [Act.put, List.setIfInBounds_toArray, List.set_cons_zero, List.set_cons_succ]
    refine wpAnyH_take (i := 2) (oi := ({ dst := some 18, op := Op.move (Operand.tmp 17), type := 4, pos := _, after := _, guard := none } : Oper)) (v := ?_) rfl (by kernel_rfl) (by kernel_rfl) (by kernel_rfl) (fun _ _ _ h => h) (Or.inl ⟨by rfl, ?_⟩) hSS ?_
    rotate_left
    · intro w9 hSw
      (try dsimp only at hSw)
      (try go_split_ands)
      first | (go_simp; done) | (go_simp; with_reducible rfl)
    try simp only [Act.put, List.setIfInBounds_toArray, List.set_cons_zero, List.set_cons_succ]
    refine wpAnyH_take (i := 3) (oi := ({ dst := some 19, op := Op.move (Operand.tmp 0), type := 22, pos := _, after := _, guard := some (2, false) } : Oper)) (v := undef) rfl (by kernel_rfl) (by kernel_rfl) (by kernel_rfl) (fun _ _ _ h => h) (Or.inr ⟨by rfl, rfl⟩) hSS ?_
    try simp only [Act.put, List.setIfInBounds_toArray, List.set_cons_zero, List.set_cons_succ]
    refine wpAnyH_take (i := 4) (oi := ({ dst := some 20, op := Op.move (Operand.tmp 4), type := 3, pos := _, after := _, guard := some (2, false) } : Oper)) (v := undef) rfl (by kernel_rfl) (by kernel_rfl) (by kernel_rfl) (fun _ _ _ h => h) (Or.inr ⟨by rfl, rfl⟩) hSS ?_
    try simp only [Act.put, List.setIfInBounds_toArray, List.set_cons_zero, List.set_cons_succ]
    refine wpAnyH_take (i := 5) (oi := ({ dst := some 21, op := Op.slice 22 (Operand.tmp 19) (some (Operand.tmp 20)) none none, type := 22, pos := _, after := _, guard := some (2, false) } : Oper)) (v := undef) rfl (by kernel_rfl) (by kernel_rfl) (by kernel_rfl) (fun _ _ _ h => h) (Or.inr ⟨by rfl, rfl⟩) hSS ?_
    try simp only [Act.put, List.setIfInBounds_toArray, List.set_cons_zero, List.set_cons_succ]
    refine wpAnyH_take (i := 6) (oi := ({ dst := some 22, op := Op.move (Operand.tmp 0), type := 22, pos := _, after := _, guard := some (2, false) } : Oper)) (v := undef) rfl (by kernel_rfl) (by kernel_rfl) (by kernel_rfl) (fun _ _ _ h => h) (Or.inr ⟨by rfl, rfl⟩) hSS ?_
    try simp only [Act.put, List.setIfInBounds_toArray, List.set_cons_zero, List.set_cons_succ]
    refine wpAnyH_take (i := 7) (oi := ({ dst := some 23, op := Op.move (Operand.tmp 4), type := 3, pos := _, after := _, guard := some (2, false) } : Oper)) (v := undef) rfl (by kernel_rfl) (by kernel_rfl) (by kernel_rfl) (fun _ _ _ h => h) (Or.inr ⟨by rfl, rfl⟩) hSS ?_
    try simp only [Act.put, List.setIfInBounds_toArray, List.set_cons_zero, List.set_cons_succ]
    refine wpAnyH_take (i := 8) (oi := ({ dst := some 24, op := Op.slice 22 (Operand.tmp 22) none (some (Operand.tmp 23)) none, type := 22, pos := _, after := _, guard := some (2, false) } : Oper)) (v := undef) rfl (by kernel_rfl) (by kernel_rfl) (by kernel_rfl) (fun _ _ _ h => h) (Or.inr ⟨by rfl, rfl⟩) hSS ?_
    try simp only [Act.put, List.setIfInBounds_toArray, List.set_cons_zero, List.set_cons_succ]
    refine wpAnyH_take (i := 9) (oi := ({ dst := some 25, op := Op.call { callee := Callee.value (Operand.func 17), args := #[Operand.tmp 24], argTypes := #[22] }, type := 36, pos := _, after := _, guard := some (2, false) } : Oper)) (v := undef) rfl (by kernel_rfl) (by kernel_rfl) (by kernel_rfl) (fun _ _ _ h => h) (Or.inr ⟨by rfl, rfl⟩) hSS ?_
    try simp only [Act.put, List.setIfInBounds_toArray, List.set_cons_zero, List.set_cons_succ]
    refine wpAnyH_take (i := 10) (oi := ({ dst := some 26, op := Op.convert 36 3 (Operand.tmp 25), type := 3, pos := _, after := _, guard := some (2, false) } : Oper)) (v := undef) rfl (by kernel_rfl) (by kernel_rfl) (by kernel_rfl) (fun _ _ _ h => h) (Or.inr ⟨by rfl, rfl⟩) hSS ?_
    try simp only [Act.put, List.setIfInBounds_toArray, List.set_cons_zero, List.set_cons_succ]
    refine wpAnyH_take (i := 11) (oi := ({ dst := some 27, op := Op.call { callee := Callee.value (Operand.func 16), args := #[Operand.tmp 26, Operand.const (Value.int IntKind.i64 4)], argTypes := #[3, 3] }, type := 22, pos := _, after := _, guard := some (2, false) } : Oper)) (v := undef) rfl (by kernel_rfl) (by kernel_rfl) (by kernel_rfl) (fun _ _ _ h => h) (Or.inr ⟨by rfl, rfl⟩) hSS ?_
    try simp only [Act.put, List.setIfInBounds_toArray, List.set_cons_zero, List.set_cons_succ]
    refine wpAnyH_take (i := 12) (oi := ({ dst := some 28, op := Op.call { callee := Callee.value (Operand.func 15), args := #[Operand.tmp 21, Operand.tmp 27], argTypes := #[22, 22] }, type := 4, pos := _, after := _, guard := some (2, false) } : Oper)) (v := undef) rfl (by kernel_rfl) (by kernel_rfl) (by kernel_rfl) (fun _ _ _ h => h) (Or.inr ⟨by rfl, rfl⟩) hSS ?_
    try simp only [Act.put, List.setIfInBounds_toArray, List.set_cons_zero, List.set_cons_succ]
    refine wpAnyH_take (i := 13) (oi := ({ dst := some 29, op := Op.unOp UnOp.not 4 (Operand.tmp 28), type := 4, pos := _, after := _, guard := some (2, false) } : Oper)) (v := undef) rfl (by kernel_rfl) (by kernel_rfl) (by kernel_rfl) (fun _ _ _ h => h) (Or.inr ⟨by rfl, rfl⟩) hSS ?_
    try simp only [Act.put, List.setIfInBounds_toArray, List.set_cons_zero, List.set_cons_succ]
    refine wpAnyH_take (i := 14) (oi := ({ dst := some 30, op := Op.pick (Operand.tmp 18) (Operand.const (Value.bool true)) (Operand.tmp 29), type := 4, pos := _, after := _, guard := none } : Oper)) (v := ?_) rfl (by kernel_rfl) (by kernel_rfl) (by kernel_rfl) (fun _ _ _ h => h) (Or.inl ⟨by rfl, ?_⟩) hSS ?_
    rotate_left
    · intro w9 hSw
      (try dsimp only at hSw)
      (try go_split_ands)
      first | (go_simp; done) | (go_simp; with_reducible rfl)
    try simp only [Act.put, List.setIfInBounds_toArray, List.set_cons_zero, List.set_cons_succ]
    refine wpAnyH_done (by kernel_rfl) ?_ _
    clear hSS
    have y0 := (Zb.of HZ.out).c0
    have y1 := (Zb.of HZ.out).c1
    have y2 := (Zb.of HZ.out).c2
    have y3 := (Zb.of HZ.out).c3
    have y4 := (Zb.of HZ.out).c4
    have yf := (Zb.of HZ.out).fz
    go_wp2_with fail
    exact bodyPost_ret (results_row_tmp rfl _ _ r0 39 #[.string ⟨#[]⟩, .int .i64 0, .string ⟨#[]⟩, .int .u32 0, .slice none 0 0] (0, 0) _ (.int .i64 151) rfl rfl FH.out Try.underlying39 rfl (by kernel_rfl)) rfl FN.out
  · have H17 := hid (H2.out (by omega))
    have hm5 : ¬ (m : Int) < 4 := by omega
    have x1 : (m : Int) ≤ (m : Int) + 4 := by omega
    have x2 : (m : Int) ≤ (c : Int) := by omega
    have x3 : (m : Int) + 4 ≤ (c : Int) := by omega
    have x4 : ¬ c = m := by omega
    have x5 : m + 4 - m = 4 := by omega
    have x6 : ¬ c = 4 := by omega
    have x7 : (4 : Int) ≤ (m : Int) := by omega
    clear H1 H2 HZ
    go_wp2_with fail
    refine wp_region_held_drew (S := fun _ => True) (by kernel_rfl) trivial (fun hSS => ?_)
    refine wpAnyH_take (i := 0) (oi := ({ dst := some 16, op := Op.move (Operand.tmp 4), type := 3, pos := _, after := _, guard := none } : Oper)) (v := ?_) rfl (by kernel_rfl) (by kernel_rfl) (by kernel_rfl) (fun _ _ _ h => h) (Or.inl ⟨by rfl, ?_⟩) hSS ?_
    rotate_left
    · intro w9 hSw
      (try dsimp only at hSw)
      (try go_split_ands)
      first | (go_simp; done) | (go_simp; with_reducible rfl)
    try simp only [Act.put, List.setIfInBounds_toArray, List.set_cons_zero, List.set_cons_succ]
    refine wpAnyH_take (i := 1) (oi := ({ dst := some 17, op := Op.binOp BinOp.lss 3 (Operand.tmp 16) (Operand.const (Value.int IntKind.i64 4)) 3, type := 4, pos := _, after := _, guard := none } : Oper)) (v := .bool false) rfl (by kernel_rfl) (by kernel_rfl) (by kernel_rfl) (fun _ _ _ h => h) (Or.inl ⟨by rfl, ?_⟩) hSS ?_
    · intro w9 hSw
      (try dsimp only at hSw)
      (try go_split_ands)
      first | (go_simp; done) | (go_simp; simp [hm5]; done)
    try simp only [Act.put, List.setIfInBounds_toArray, List.set_cons_zero, List.set_cons_succ]
    refine wpAnyH_take (i := 2) (oi := ({ dst := some 18, op := Op.move (Operand.tmp 17), type := 4, pos := _, after := _, guard := none } : Oper)) (v := ?_) rfl (by kernel_rfl) (by kernel_rfl) (by kernel_rfl) (fun _ _ _ h => h) (Or.inl ⟨by rfl, ?_⟩) hSS ?_
    rotate_left
    · intro w9 hSw
      (try dsimp only at hSw)
      (try go_split_ands)
      first | (go_simp; done) | (go_simp; with_reducible rfl)
    try simp only [Act.put, List.setIfInBounds_toArray, List.set_cons_zero, List.set_cons_succ]
    refine wpAnyH_take (i := 3) (oi := ({ dst := some 19, op := Op.move (Operand.tmp 0), type := 22, pos := _, after := _, guard := some (2, false) } : Oper)) (v := ?_) rfl (by kernel_rfl) (by kernel_rfl) (by kernel_rfl) (fun _ _ _ h => h) (Or.inl ⟨by rfl, ?_⟩) hSS ?_
    rotate_left
    · intro w9 hSw
      (try dsimp only at hSw)
      (try go_split_ands)
      first | (go_simp; done) | (go_simp; with_reducible rfl)
    try simp only [Act.put, List.setIfInBounds_toArray, List.set_cons_zero, List.set_cons_succ]
    refine wpAnyH_take (i := 4) (oi := ({ dst := some 20, op := Op.move (Operand.tmp 4), type := 3, pos := _, after := _, guard := some (2, false) } : Oper)) (v := ?_) rfl (by kernel_rfl) (by kernel_rfl) (by kernel_rfl) (fun _ _ _ h => h) (Or.inl ⟨by rfl, ?_⟩) hSS ?_
    rotate_left
    · intro w9 hSw
      (try dsimp only at hSw)
      (try go_split_ands)
      first | (go_simp; done) | (go_simp; with_reducible rfl)
    try simp only [Act.put, List.setIfInBounds_toArray, List.set_cons_zero, List.set_cons_succ]
    refine wpAnyH_take (i := 5) (oi := ({ dst := some 21, op := Op.slice 22 (Operand.tmp 19) (some (Operand.tmp 20)) none none, type := 22, pos := _, after := _, guard := some (2, false) } : Oper)) (v := .slice (some ⟨b, off + m, none⟩) 4 (c - m)) rfl (by kernel_rfl) (by kernel_rfl) (by kernel_rfl) (fun _ _ _ h => h) (Or.inl ⟨by rfl, ?_⟩) hSS ?_
    · intro w9 hSw
      (try dsimp only at hSw)
      (try go_split_ands)
      first | (go_simp; done) | (go_simp; simp [x1, x2, x3, x5]; done)
    try simp only [Act.put, List.setIfInBounds_toArray, List.set_cons_zero, List.set_cons_succ]
    refine wpAnyH_take (i := 6) (oi := ({ dst := some 22, op := Op.move (Operand.tmp 0), type := 22, pos := _, after := _, guard := some (2, false) } : Oper)) (v := ?_) rfl (by kernel_rfl) (by kernel_rfl) (by kernel_rfl) (fun _ _ _ h => h) (Or.inl ⟨by rfl, ?_⟩) hSS ?_
    rotate_left
    · intro w9 hSw
      (try dsimp only at hSw)
      (try go_split_ands)
      first | (go_simp; done) | (go_simp; with_reducible rfl)
    try simp only [Act.put, List.setIfInBounds_toArray, List.set_cons_zero, List.set_cons_succ]
    refine wpAnyH_take (i := 7) (oi := ({ dst := some 23, op := Op.move (Operand.tmp 4), type := 3, pos := _, after := _, guard := some (2, false) } : Oper)) (v := ?_) rfl (by kernel_rfl) (by kernel_rfl) (by kernel_rfl) (fun _ _ _ h => h) (Or.inl ⟨by rfl, ?_⟩) hSS ?_
    rotate_left
    · intro w9 hSw
      (try dsimp only at hSw)
      (try go_split_ands)
      first | (go_simp; done) | (go_simp; with_reducible rfl)
    try simp only [Act.put, List.setIfInBounds_toArray, List.set_cons_zero, List.set_cons_succ]
    refine wpAnyH_take (i := 8) (oi := ({ dst := some 24, op := Op.slice 22 (Operand.tmp 22) none (some (Operand.tmp 23)) none, type := 22, pos := _, after := _, guard := some (2, false) } : Oper)) (v := .slice (some ⟨b, off, none⟩) m c) rfl (by kernel_rfl) (by kernel_rfl) (by kernel_rfl) (fun _ _ _ h => h) (Or.inl ⟨by rfl, ?_⟩) hSS ?_
    · intro w9 hSw
      (try dsimp only at hSw)
      (try go_split_ands)
      first | (go_simp; done) | (go_simp; simp [x1, x2, x3]; done)
    try simp only [Act.put, List.setIfInBounds_toArray, List.set_cons_zero, List.set_cons_succ]
    refine wpAnyH_ready (rs := [9]) (by kernel_rfl) (by simp) (AllReadyH.cons (o := ({ dst := some 25, op := Op.call { callee := Callee.value (Operand.func 17), args := #[Operand.tmp 24], argTypes := #[22] }, type := 36, pos := _, after := _, guard := some (2, false) } : Oper)) rfl (fun K9 hK9 => ?_) AllReadyH.nil)
    go_simp
    go_at_call 17
    refine Calls.mono H17.out ?_
    rintro e w2 ⟨rfl, h16⟩
    have H16 := hid h16
    clear h16 H17
    refine hK9.out _ _ trivial (fun hSS => ?_)
    clear hK9 K9
    try simp only [Act.put, List.setIfInBounds_toArray, List.set_cons_zero, List.set_cons_succ]
    refine wpAnyH_take (i := 10) (oi := ({ dst := some 26, op := Op.convert 36 3 (Operand.tmp 25), type := 3, pos := _, after := _, guard := some (2, false) } : Oper)) (v := .int .i64 C) rfl (by kernel_rfl) (by kernel_rfl) (by kernel_rfl) (fun _ _ _ h => h) (Or.inl ⟨by rfl, ?_⟩) hSS ?_
    · intro w9 hSw
      (try dsimp only at hSw)
      (try go_split_ands)
      first | (go_simp; done) | (go_simp; simp [hC]; done)
    try simp only [Act.put, List.setIfInBounds_toArray, List.set_cons_zero, List.set_cons_succ]
    refine wpAnyH_ready (rs := [11]) (by kernel_rfl) (by simp) (AllReadyH.cons (o := ({ dst := some 27, op := Op.call { callee := Callee.value (Operand.func 16), args := #[Operand.tmp 26, Operand.const (Value.int IntKind.i64 4)], argTypes := #[3, 3] }, type := 22, pos := _, after := _, guard := some (2, false) } : Oper)) rfl (fun K9 hK9 => ?_) AllReadyH.nil)
    go_simp
    go_at_call 16
    refine Calls.mono H16.out ?_
    rintro e w3 ⟨g, rfl, h15⟩
    have H15 := hid h15
    clear h15 H16
    refine hK9.out _ _ trivial (fun hSS => ?_)
    clear hK9 K9
    try simp only [Act.put, List.setIfInBounds_toArray, List.set_cons_zero, List.set_cons_succ]
    refine wpAnyH_ready (rs := [12]) (by kernel_rfl) (by simp) (AllReadyH.cons (o := ({ dst := some 28, op := Op.call { callee := Callee.value (Operand.func 15), args := #[Operand.tmp 21, Operand.tmp 27], argTypes := #[22, 22] }, type := 4, pos := _, after := _, guard := some (2, false) } : Oper)) rfl (fun K9 hK9 => ?_) AllReadyH.nil)
    go_simp
    go_at_call 15
    refine Calls.mono H15.out ?_
    rintro e w4 ⟨rfl, hz4, hno4, hyes4⟩
    have HZ4 := hid hz4
    have HNO4 := hid hno4
    have HYES4 := hid hyes4
    clear hz4 hno4 hyes4 H15
    refine hK9.out _ _ trivial (fun hSS => ?_)
    clear hK9 K9
    try simp only [Act.put, List.setIfInBounds_toArray, List.set_cons_zero, List.set_cons_succ]
    refine wpAnyH_take (i := 13) (oi := ({ dst := some 29, op := Op.unOp UnOp.not 4 (Operand.tmp 28), type := 4, pos := _, after := _, guard := some (2, false) } : Oper)) (v := ?_) rfl (by kernel_rfl) (by kernel_rfl) (by kernel_rfl) (fun _ _ _ h => h) (Or.inl ⟨by rfl, ?_⟩) hSS ?_
    rotate_left
    · intro w9 hSw
      (try dsimp only at hSw)
      (try go_split_ands)
      first | (go_simp; done) | (go_simp; with_reducible rfl)
    try simp only [Act.put, List.setIfInBounds_toArray, List.set_cons_zero, List.set_cons_succ]
    refine wpAnyH_take (i := 14) (oi := ({ dst := some 30, op := Op.pick (Operand.tmp 18) (Operand.const (Value.bool true)) (Operand.tmp 29), type := 4, pos := _, after := _, guard := none } : Oper)) (v := ?_) rfl (by kernel_rfl) (by kernel_rfl) (by kernel_rfl) (fun _ _ _ h => h) (Or.inl ⟨by rfl, ?_⟩) hSS ?_
    rotate_left
    · intro w9 hSw
      (try dsimp only at hSw)
      (try go_split_ands)
      first | (go_simp; done) | (go_simp; with_reducible rfl)
    try simp only [Act.put, List.setIfInBounds_toArray, List.set_cons_zero, List.set_cons_succ]
    refine wpAnyH_done (by kernel_rfl) ?_ _
    clear hSS
    cases eq
    case false =>
      have FN := hid (HNO4.out rfl)
      have FH := hid (set5_heap HZ4.out (.string ⟨#[]⟩) (.int .i64 0) (.string ⟨#[]⟩) (.int .u32 0) (.slice none 0 0))
      have y0 := (Zb.of HZ4.out).c0
      have y1 := (Zb.of HZ4.out).c1
      have y2 := (Zb.of HZ4.out).c2
      have y3 := (Zb.of HZ4.out).c3
      have y4 := (Zb.of HZ4.out).c4
      have yf := (Zb.of HZ4.out).fz
      clear HNO4 HYES4
      go_wp2_with fail
      exact bodyPost_ret (results_row_tmp rfl _ _ r0 39 #[.string ⟨#[]⟩, .int .i64 0, .string ⟨#[]⟩, .int .u32 0, .slice none 0 0] (0, 0) _ (.int .i64 151) rfl rfl FH.out Try.underlying39 rfl (by kernel_rfl)) rfl FN.out
    case true =>
    have H18 := hid (HYES4.out rfl)
    clear HNO4 HYES4 HZ4
    go_wp2_with fail
    refine Calls.mono H18.out ?_
    rintro e w5 ⟨S1, sz, S2, sm, ra, q, rc, ok, rfl, w6, cb, hw6, hcb, hz6, hno6, hyes6⟩
    have HW6 := hid hw6
    have HCB := hid hcb
    have HZ6 := hid hz6
    have HNO6 := hid hno6
    have HYES6 := hid hyes6
    clear hw6 hcb hz6 hno6 hyes6 H18
    cases ok
    case false =>
      have FN := hid (HNO6.out rfl)
      have FH := hid (set5_heap HZ6.out (.string ⟨#[]⟩) (.int .i64 0) (.string ⟨#[]⟩) (.int .u32 0) (.slice none 0 0))
      have y0 := (Zb.of HZ6.out).c0
      have y1 := (Zb.of HZ6.out).c1
      have y2 := (Zb.of HZ6.out).c2
      have y3 := (Zb.of HZ6.out).c3
      have y4 := (Zb.of HZ6.out).c4
      have yf := (Zb.of HZ6.out).fz
      rw [HW6.out] at y0 y1 y2 y3 y4 yf
      clear HNO6 HYES6
      go_wp2_with fail
      rw [← HW6.out]
      exact bodyPost_ret (results_row_tmp rfl _ _ r0 39 #[.string ⟨#[]⟩, .int .i64 0, .string ⟨#[]⟩, .int .u32 0, .slice none 0 0] (0, 0) _ (.int .i64 150) rfl rfl FH.out Try.underlying39 rfl (by kernel_rfl)) rfl FN.out
    case true =>
      obtain ⟨⟨c0, c1, c2, c3, c4⟩, hP⟩ := HYES6.out rfl
      have FN := hid hP
      have FH := hid (set5_heap HZ6.out (.string S1) (.int .i64 sz) (.string S2) (.int .u32 sm) (.slice ra q rc))
      have y0 := (Zb.of HZ6.out).c0
      have y1 := (Zb.of HZ6.out).c1
      have y2 := (Zb.of HZ6.out).c2
      have y3 := (Zb.of HZ6.out).c3
      have y4 := (Zb.of HZ6.out).c4
      have yf := (Zb.of HZ6.out).fz
      rw [HW6.out] at y0 y1 y2 y3 y4 yf c0 c1 c2 c3 c4
      rw [HCB.out] at c0 c1 c2 c3 c4
      clear HNO6 HYES6 hP
      go_wp2_with fail
      rw [← HW6.out]
      exact bodyPost_ret (results_row_tmp rfl _ _ r0 39 #[.string S1, .int .i64 sz, .string S2, .int .u32 sm, .slice ra q rc] (0, 0) _ (.int .i64 0) rfl rfl FH.out Try.underlying39 rfl (by kernel_rfl)) rfl FN.out

end Go.Proofs.Ytahaehjmnafhbaa
