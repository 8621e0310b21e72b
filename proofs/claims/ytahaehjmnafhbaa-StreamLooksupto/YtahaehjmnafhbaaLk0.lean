/-
  stream: Look: the walk.
-/
import Derived.Test.YtahaehjmnafhbaaTa1
import Derived.Test.YtahaehjmnafhbaaBl0
namespace Go.Proofs.Ytahaehjmnafhbaa
open Go.RowKit

/-- a block that holds no head -/
structure Zh (w : World) (r : Nat) : Prop where
  c0 : w.cell? ⟨r, 0, none⟩ = some (.string ⟨#[]⟩)
  c1 : w.cell? ⟨r, 1, none⟩ = some (.int .i64 0)
  c2 : w.cell? ⟨r, 2, none⟩ = some (.string ⟨#[]⟩)
  c3 : w.cell? ⟨r, 3, none⟩ = some (.int .i64 0)
  c4 : w.cell? ⟨r, 4, none⟩ = some (.int .i64 0)
  fz : ∀ t, w.frozen? ⟨r, t, none⟩ = false
theorem Zh.of {w : World} {r : Nat} (h : w.heap[r]? = some (.cells #[.string ⟨#[]⟩, .int .i64 0, .string ⟨#[]⟩, .int .i64 0, .int .i64 0] 27 (0, 0))) : Zh w r :=
  ⟨by simp [World.cell?, h], by simp [World.cell?, h], by simp [World.cell?, h], by simp [World.cell?, h], by simp [World.cell?, h], fun t => by simp [World.frozen?, h]⟩

set_option maxRecDepth 100000 in
set_option maxHeartbeats 4000000 in
theorem look_walk (a : Option Addr) (n c : Nat) (w : World) (PO : Ending → World → Prop)
    (HN : Hid (∃ wA r0, wA = w.alloc (.cells #[.string ⟨#[]⟩, .int .i64 0, .string ⟨#[]⟩, .int .i64 0, .int .i64 0] 27) ∧ r0 = w.heap.size ∧ Calls Try.prog 10 #[.slice a n c] wA fun e w1 => ∃ S1 sz S2 sm ra q rc E, e = .returned (.tuple #[.agg #[.string S1, .int .i64 sz, .string S2, .int .u32 sm, .slice ra q rc], .int .i64 E]) ∧ q ≤ 1099511627776 ∧ ∃ w2 cb, w2 = w1.alloc (.cells #[.string S1, .int .i64 sz, .string S2, .int .u32 sm, .slice ra q rc] 39) ∧ cb = w1.heap.size ∧ w2.heap[r0]? = some (.cells #[.string ⟨#[]⟩, .int .i64 0, .string ⟨#[]⟩, .int .i64 0, .int .i64 0] 27 (0, 0)) ∧ (E ≠ 0 → PO (.returned (.tuple #[.agg #[.string ⟨#[]⟩, .int .i64 0, .string ⟨#[]⟩, .int .i64 0, .int .i64 0], .int .i64 E])) (set5 w2 r0 (.string ⟨#[]⟩) (.int .i64 0) (.string ⟨#[]⟩) (.int .i64 0) (.int .i64 0))) ∧ (E = 0 → (w2.cell? ⟨cb, 0, none⟩ = some (.string S1) ∧ w2.cell? ⟨cb, 1, none⟩ = some (.int .i64 sz) ∧ w2.cell? ⟨cb, 2, none⟩ = some (.string S2) ∧ w2.cell? ⟨cb, 3, none⟩ = some (.int .u32 sm) ∧ w2.cell? ⟨cb, 4, none⟩ = some (.slice ra q rc)) ∧ Calls Try.prog 11 #[.agg #[.string S1, .int .i64 sz, .string S2, .int .u32 sm, .slice ra q rc]] w2.drew fun e w3 => ∃ K, e = .returned (.int .i64 K) ∧ (w3.cell? ⟨cb, 0, none⟩ = some (.string S1) ∧ w3.cell? ⟨cb, 1, none⟩ = some (.int .i64 sz) ∧ w3.cell? ⟨cb, 2, none⟩ = some (.string S2) ∧ w3.cell? ⟨cb, 3, none⟩ = some (.int .u32 sm) ∧ w3.cell? ⟨cb, 4, none⟩ = some (.slice ra q rc)) ∧ w3.heap[r0]? = some (.cells #[.string ⟨#[]⟩, .int .i64 0, .string ⟨#[]⟩, .int .i64 0, .int .i64 0] 27 (0, 0)) ∧ (∀ u, But (fun x => x = r0) w3 u → (u.cell? ⟨cb, 0, none⟩ = some (.string S1) ∧ u.cell? ⟨cb, 1, none⟩ = some (.int .i64 sz) ∧ u.cell? ⟨cb, 2, none⟩ = some (.string S2) ∧ u.cell? ⟨cb, 3, none⟩ = some (.int .u32 sm) ∧ u.cell? ⟨cb, 4, none⟩ = some (.slice ra q rc))) ∧ PO (.returned (.tuple #[.agg #[.string S1, .int .i64 sz, .string S2, .int .i64 (q : Int), .int .i64 K], .int .i64 0])) (set5 w3 r0 (.string S1) (.int .i64 sz) (.string S2) (.int .i64 (q : Int)) (.int .i64 K))))) :
    Calls Try.prog 5 #[.slice a n c] w PO := by
  obtain ⟨wA, r0, hwA, hr0, h10⟩ := HN
  have HA := hid hwA
  have HR := hid hr0
  have H10 := hid h10
  clear hwA hr0 h10
  go_enter Try.func5, Try.ntmps5
  go_wp2_with fail
  rw [← HA.out, ← HR.out]
  clear HA HR
  refine Calls.mono H10.out ?_
  rintro e w1 ⟨S1, sz, S2, sm, ra, q, rc, E, rfl, hq, w2, cb, hw2, hcb, hz, hf, ht⟩
  have HW2 := hid hw2
  have HCB := hid hcb
  have HZ := hid hz
  have HF := hid hf
  have HT := hid ht
  clear hw2 hcb hz hf ht H10
  by_cases hE : E = 0
  · obtain ⟨kS, h11⟩ := HT.out hE
    have H11 := hid h11
    subst hE
    clear HF HT HZ h11
    go_wp2_with fail
    rw [← HW2.out, ← HCB.out]
    clear HW2 HCB
    refine wp_region_held_drew (S := fun w' => (w'.cell? ⟨cb, 0, none⟩ = some (.string S1) ∧ w'.cell? ⟨cb, 1, none⟩ = some (.int .i64 sz) ∧ w'.cell? ⟨cb, 2, none⟩ = some (.string S2) ∧ w'.cell? ⟨cb, 3, none⟩ = some (.int .u32 sm) ∧ w'.cell? ⟨cb, 4, none⟩ = some (.slice ra q rc))) (by kernel_rfl) kS (fun hSS => ?_)
    refine wpAnyH_take (i := 0) (oi := ({ dst := some 15, op := Op.fieldAddr 39 (Operand.tmp 4) 0, type := 0, pos := _, after := _, guard := none } : Oper)) (v := ?_) rfl (by kernel_rfl) (by kernel_rfl) (by kernel_rfl) (fun _ _ _ h => h) (Or.inl ⟨by rfl, ?_⟩) hSS ?_
    rotate_left
    · intro w9 hSw
      (try dsimp only at hSw)
      (try go_split_ands)
      first | (go_simp; done) | (go_simp; with_reducible rfl)
    try simp only [Act.put, List.setIfInBounds_toArray, List.set_cons_zero, List.set_cons_succ]
    refine wpAnyH_take (i := 1) (oi := ({ dst := some 16, op := Op.load 9 (Operand.tmp 15), type := 9, pos := _, after := _, guard := none } : Oper)) (v := ?_) rfl (by kernel_rfl) (by kernel_rfl) (by kernel_rfl) (fun _ _ _ h => h) (Or.inl ⟨by rfl, ?_⟩) hSS ?_
    rotate_left
    · intro w9 hSw
      (try dsimp only at hSw)
      (try go_split_ands)
      first | (go_simp; done) | (go_simp; with_reducible rfl)
    try simp only [Act.put, List.setIfInBounds_toArray, List.set_cons_zero, List.set_cons_succ]
    refine wpAnyH_take (i := 2) (oi := ({ dst := some 17, op := Op.fieldAddr 39 (Operand.tmp 4) 1, type := 0, pos := _, after := _, guard := none } : Oper)) (v := ?_) rfl (by kernel_rfl) (by kernel_rfl) (by kernel_rfl) (fun _ _ _ h => h) (Or.inl ⟨by rfl, ?_⟩) hSS ?_
    rotate_left
    · intro w9 hSw
      (try dsimp only at hSw)
      (try go_split_ands)
      first | (go_simp; done) | (go_simp; with_reducible rfl)
    try simp only [Act.put, List.setIfInBounds_toArray, List.set_cons_zero, List.set_cons_succ]
    refine wpAnyH_take (i := 3) (oi := ({ dst := some 18, op := Op.load 3 (Operand.tmp 17), type := 3, pos := _, after := _, guard := none } : Oper)) (v := ?_) rfl (by kernel_rfl) (by kernel_rfl) (by kernel_rfl) (fun _ _ _ h => h) (Or.inl ⟨by rfl, ?_⟩) hSS ?_
    rotate_left
    · intro w9 hSw
      (try dsimp only at hSw)
      (try go_split_ands)
      first | (go_simp; done) | (go_simp; with_reducible rfl)
    try simp only [Act.put, List.setIfInBounds_toArray, List.set_cons_zero, List.set_cons_succ]
    refine wpAnyH_take (i := 4) (oi := ({ dst := some 19, op := Op.fieldAddr 39 (Operand.tmp 4) 2, type := 0, pos := _, after := _, guard := none } : Oper)) (v := ?_) rfl (by kernel_rfl) (by kernel_rfl) (by kernel_rfl) (fun _ _ _ h => h) (Or.inl ⟨by rfl, ?_⟩) hSS ?_
    rotate_left
    · intro w9 hSw
      (try dsimp only at hSw)
      (try go_split_ands)
      first | (go_simp; done) | (go_simp; with_reducible rfl)
    try simp only [Act.put, List.setIfInBounds_toArray, List.set_cons_zero, List.set_cons_succ]
    refine wpAnyH_take (i := 5) (oi := ({ dst := some 20, op := Op.load 9 (Operand.tmp 19), type := 9, pos := _, after := _, guard := none } : Oper)) (v := ?_) rfl (by kernel_rfl) (by kernel_rfl) (by kernel_rfl) (fun _ _ _ h => h) (Or.inl ⟨by rfl, ?_⟩) hSS ?_
    rotate_left
    · intro w9 hSw
      (try dsimp only at hSw)
      (try go_split_ands)
      first | (go_simp; done) | (go_simp; with_reducible rfl)
    try simp only [Act.put, List.setIfInBounds_toArray, List.set_cons_zero, List.set_cons_succ]
    refine wpAnyH_take (i := 6) (oi := ({ dst := some 21, op := Op.fieldAddr 39 (Operand.tmp 4) 4, type := 0, pos := _, after := _, guard := none } : Oper)) (v := ?_) rfl (by kernel_rfl) (by kernel_rfl) (by kernel_rfl) (fun _ _ _ h => h) (Or.inl ⟨by rfl, ?_⟩) hSS ?_
    rotate_left
    · intro w9 hSw
      (try dsimp only at hSw)
      (try go_split_ands)
      first | (go_simp; done) | (go_simp; with_reducible rfl)
    try simp only [Act.put, List.setIfInBounds_toArray, List.set_cons_zero, List.set_cons_succ]
    refine wpAnyH_take (i := 7) (oi := ({ dst := some 22, op := Op.load 37 (Operand.tmp 21), type := 37, pos := _, after := _, guard := none } : Oper)) (v := ?_) rfl (by kernel_rfl) (by kernel_rfl) (by kernel_rfl) (fun _ _ _ h => h) (Or.inl ⟨by rfl, ?_⟩) hSS ?_
    rotate_left
    · intro w9 hSw
      (try dsimp only at hSw)
      (try go_split_ands)
      first | (go_simp; done) | (go_simp; with_reducible rfl)
    try simp only [Act.put, List.setIfInBounds_toArray, List.set_cons_zero, List.set_cons_succ]
    refine wpAnyH_take (i := 8) (oi := ({ dst := some 23, op := Op.call { callee := Callee.builtin Builtin.len, args := #[Operand.tmp 22], argTypes := #[37] }, type := 3, pos := _, after := _, guard := none } : Oper)) (v := ?_) rfl (by kernel_rfl) (by kernel_rfl) (by kernel_rfl) (fun _ _ _ h => h) (Or.inl ⟨by rfl, ?_⟩) hSS ?_
    rotate_left
    · intro w9 hSw
      (try dsimp only at hSw)
      (try go_split_ands)
      first | (go_simp; done) | (go_simp; with_reducible rfl)
    try simp only [Act.put, List.setIfInBounds_toArray, List.set_cons_zero, List.set_cons_succ]
    refine wpAnyH_take (i := 9) (oi := ({ dst := some 24, op := Op.load 39 (Operand.tmp 4), type := 39, pos := _, after := _, guard := none } : Oper)) (v := ?_) rfl (by kernel_rfl) (by kernel_rfl) (by kernel_rfl) (fun _ _ _ h => h) (Or.inl ⟨by rfl, ?_⟩) hSS ?_
    rotate_left
    · intro w9 hSw
      (try dsimp only at hSw)
      (try go_split_ands)
      first | (go_simp; done) | (go_simp; with_reducible rfl)
    try simp only [Act.put, List.setIfInBounds_toArray, List.set_cons_zero, List.set_cons_succ]
    refine wpAnyH_ready (rs := [10]) (by kernel_rfl) (by simp) (AllReadyH.cons (o := ({ dst := some 25, op := Op.call { callee := Callee.value (Operand.func 11), args := #[Operand.tmp 24], argTypes := #[39] }, type := 3, pos := _, after := _, guard := none } : Oper)) rfl (fun K9 hK9 => ?_) AllReadyH.nil)
    go_simp
    go_at_call 11
    refine Calls.mono H11.out ?_
    rintro e w3 ⟨K, rfl, kS3, hz3, hks, hP⟩
    have HZ3 := hid hz3
    have HKS := hid hks
    have FN := hid hP
    have FH := hid (set5_heap hz3 (.string S1) (.int .i64 sz) (.string S2) (.int .i64 (q : Int)) (.int .i64 K))
    have y0 := (Zh.of hz3).c0
    have y1 := (Zh.of hz3).c1
    have y2 := (Zh.of hz3).c2
    have y3 := (Zh.of hz3).c3
    have y4 := (Zh.of hz3).c4
    have yf := (Zh.of hz3).fz
    clear hz3 hks hP H11
    refine hK9.out _ _ kS3 (fun hSS => ?_)
    clear hK9 K9
    try simp only [Act.put, List.setIfInBounds_toArray, List.set_cons_zero, List.set_cons_succ]
    refine wpAnyH_take (i := 11) (oi := ({ dst := some 26, op := Op.build 27 #[(0, Operand.tmp 16), (1, Operand.tmp 18), (2, Operand.tmp 20), (3, Operand.tmp 23), (4, Operand.tmp 25)], type := 27, pos := _, after := _, guard := none } : Oper)) (v := ?_) rfl (by kernel_rfl) (by kernel_rfl) (by kernel_rfl) (fun _ _ _ h => h) (Or.inl ⟨by rfl, ?_⟩) hSS ?_
    rotate_left
    · intro w9 hSw
      (try dsimp only at hSw)
      (try go_split_ands)
      first | (go_simp; done) | (go_simp; with_reducible rfl)
    try simp only [Act.put, List.setIfInBounds_toArray, List.set_cons_zero, List.set_cons_succ]
    refine wpAnyH_ready (rs := [12]) (by kernel_rfl) (by simp) (AllReadyH.cons (o := ({ dst := none, op := Op.store 27 (Operand.tmp 2) (Operand.tmp 26), type := 0, pos := _, after := _, guard := none } : Oper)) rfl (fun K9 hK9 => ?_) AllReadyH.nil)
    go_simp
    refine hK9.out _ _ (HKS.out _ (set5_but w3 r0 (.string S1) (.int .i64 sz) (.string S2) (.int .i64 (q : Int)) (.int .i64 K))) (fun hSS => ?_)
    clear hK9 K9
    try simp only [Act.put, List.setIfInBounds_toArray, List.set_cons_zero, List.set_cons_succ]
    refine wpAnyH_take (i := 13) (oi := ({ dst := some 3, op := Op.assign (Operand.const (Value.int IntKind.i64 0)), type := 28, pos := _, after := _, guard := none } : Oper)) (v := ?_) rfl (by kernel_rfl) (by kernel_rfl) (by kernel_rfl) (fun _ _ _ h => h) (Or.inl ⟨by rfl, ?_⟩) hSS ?_
    rotate_left
    · intro w9 hSw
      (try dsimp only at hSw)
      (try go_split_ands)
      first | (go_simp; done) | (go_simp; with_reducible rfl)
    try simp only [Act.put, List.setIfInBounds_toArray, List.set_cons_zero, List.set_cons_succ]
    refine wpAnyH_done (by kernel_rfl) ?_ _
    clear hSS kS kS3
    go_wp2_with fail
    exact bodyPost_ret (results_row_tmp rfl _ _ r0 27 #[.string S1, .int .i64 sz, .string S2, .int .i64 (q : Int), .int .i64 K] (0, 0) _ (.int .i64 0) rfl rfl FH.out Try.underlying27 rfl (by kernel_rfl)) rfl FN.out
  · have FN := hid (HF.out hE)
    have FH := hid (set5_heap HZ.out (.string ⟨#[]⟩) (.int .i64 0) (.string ⟨#[]⟩) (.int .i64 0) (.int .i64 0))
    have y0 := (Zh.of HZ.out).c0
    have y1 := (Zh.of HZ.out).c1
    have y2 := (Zh.of HZ.out).c2
    have y3 := (Zh.of HZ.out).c3
    have y4 := (Zh.of HZ.out).c4
    have yf := (Zh.of HZ.out).fz
    rw [HW2.out] at y0 y1 y2 y3 y4 yf
    have hE2 : (E != 0) = true := by simpa using hE
    clear HF HT hE
    go_wp2_with fail
    rw [← HW2.out]
    exact bodyPost_ret (results_row_tmp rfl _ _ r0 27 #[.string ⟨#[]⟩, .int .i64 0, .string ⟨#[]⟩, .int .i64 0, .int .i64 0] (0, 0) _ (.int .i64 E) rfl rfl FH.out Try.underlying27 rfl (by kernel_rfl)) rfl FN.out

end Go.Proofs.Ytahaehjmnafhbaa
