/-
  lex: number.
-/
import Derived.Test.YtbllaacbeagljaaGreatDoorSc5
namespace Go.Proofs.YtbllaacbeagljaaGreatDoor
open Go.RowKit

theorem unU_bd (zs : List Int) (e : Nat) : unU zs e = 1 ∨ unU zs e = 1024 ∨ unU zs e = 1048576 := by
  unfold unU
  split
  · exact .inr (.inl rfl)
  split
  · exact .inr (.inr rfl)
  · exact .inl rfl
theorem nbV_bd {zs : List Int} {a : Nat} (ha : a ≤ zs.length) : 0 ≤ nbV zs a ∧ nbV zs a ≤ 1099511627777 :=
  dgV_bd _ 0 (by decide) (by decide) (fun z hz => by
    have := sub_all (p := isDig) ha z hz
    simpa [isDig] using this)
theorem nbT_bd {zs : List Int} {a : Nat} (ha : a ≤ zs.length) : 0 ≤ nbT zs a ∧ nbT zs a ≤ 1152921504607895552 := by
  have h := nbV_bd ha
  unfold nbT
  rcases unU_bd zs (dgE zs a) with e | e | e <;> rw [e] <;> omega
theorem wdAt_lt {zs : List Int} {e : Nat} (h : e < zs.length) : wdAt zs e = isWd (zs.getD e 0) := by unfold wdAt; rw [at_some h]
theorem wdAt_end {zs : List Int} {e : Nat} (h : zs.length ≤ e) : wdAt zs e = false := by unfold wdAt; rw [List.getElem?_eq_none h]

theorem put4_drew2 (w : World) (b : Nat) (k : Int) (s : ByteArray) (n a : Int) : (put4 w b k s n a).drew.drew = put4 w.drew.drew b k s n a := rfl
/-- digits, then unit: what they leave -/
def NbC (k : Nat) (zs : List Int) (a : Nat) (W0 : World) (Q : World → Prop) : Prop :=
  Calls Tryz.prog 179 #[.pointer (some ⟨k, 0, none⟩)] W0 fun e w1 => e = .returned (.int .i64 (nbV zs a)) ∧
    Calls Tryz.prog 180 #[.pointer (some ⟨k, 0, none⟩)] w1 fun e w2 => e = .returned (.int .i64 (unU zs (dgE zs a))) ∧ Q w2
theorem nbC_any {W0 : World} {k : Nat} {zs : List Int} {a : Nat} (hb : Pl.isB zs) (hl : zs.length ≤ 16777216) (ha : a < zs.length) (h : Scn W0 k (strOfNums zs) a) :
    NbC k zs a W0 fun w2 => Scn w2 k (strOfNums zs) (nbE zs a) ∧ But (fun x => x = k) W0 w2 := by
  refine (digits_any hb hl ha h).mono ?_
  rintro e w1 ⟨rfl, h1, h2⟩
  refine ⟨rfl, (unit_any hb hl (pasA_le (Nat.le_of_lt ha)) h1).mono ?_⟩
  rintro e w2 ⟨rfl, h3, h4, _⟩
  exact ⟨rfl, h3, h2.trans h4⟩

set_option maxRecDepth 100000 in
set_option maxHeartbeats 2000000 in
theorem number_big {w : World} {k : Nat} {zs : List Int} {a : Nat} (hb : Pl.isB zs) (hl : zs.length ≤ 16777216) (ha : a < zs.length) (h : Scn w k (strOfNums zs) a) (q : 1099511627776 < nbT zs a) :
    Calls Tryz.prog 171 #[.pointer (some ⟨k, 0, none⟩)] w (TokC k zs (tk0 a, a, 182) w) := by
  obtain ⟨W0, hW0⟩ : ∃ W0, W0 = w.alloc (.cells (tcs 0 sE 0 0) 227) := ⟨_, rfl⟩
  obtain ⟨R, hR⟩ : ∃ R, R = w.heap.size := ⟨_, rfl⟩
  have b0 : Below w.heap.size w W0 := by rw [hW0]; exact below1 _ _
  have r0 : TkB W0 R 0 sE 0 0 := by rw [hW0, hR]; exact heap_new _ _
  have s0 : Scn W0 k (strOfNums zs) a := by rw [hW0]; exact h.alloc _
  have hkl := h.lt
  have c1 := fun o => (h.alloc o).c1
  have hsz := str_size zs
  have HC := hid (nbC_any hb hl ha s0)
  have hE2 : nbE zs a ≤ zs.length := unE_le (pasA_le (Nat.le_of_lt ha))
  have hbd := nbT_bd (Nat.le_of_lt ha)
  have hnt : nbT zs a = nbV zs a * unU zs (dgE zs a) := rfl
  obtain ⟨PO, hPO⟩ : ∃ PO, PO = TokC k zs (tk0 a, a, 182) w := ⟨_, rfl⟩
  rw [← hPO]
  unfold NbC at HC
  have HT : Hid (∀ w2 : World, But (fun x => x = k) W0 w2 → TkB w2 R 0 sE 0 0) := fun w2 h2 => r0.keep (h2.block R r0.lt (by omega))
  have HF : Hid (∀ w2 w3 w4 : World, But (fun x => x = k) W0 w2 → Below w2.heap.size w2 w3 → w4 = put4 w3 R 0 sE 0 a → TkB w3 R 0 sE 0 0 ∧ TkB w4 R 0 sE 0 a ∧ PO (.returned (.tuple #[.agg (tcs 0 sE 0 a), .int .i64 182])) w4) := fun w2 w3 w4 h2 h3 h4 => by
    have hp := but_put4 w3 R 0 sE 0 a
    have r2 := r0.keep (h2.block R r0.lt (by omega))
    have r3 := r2.keep (h3.block R r2.lt)
    subst h4
    rw [hPO]
    refine ⟨r3, r3.put4 _ _ _ _, rfl, fun h => (by cases h), ?_⟩
    exact ((((But.of_below b0).trans h2).into (But.of_below (X := fun _ => False) h3) (fun _ _ e => e.elim)).into hp (fun x hx e => by omega))
  have HRf := hid (fun (u9 : World) => refused_any (a : Int) 182 u9)
  have HW0 := hid hW0
  have HR := hid hR
  have HG := hid (fun i hi h => str_get zs hb i hi h)
  clear hb h s0 r0 b0 hW0 hR hkl hPO
  generalize hEe : nbE zs a = E at *
  generalize nbT zs a = y at *
  generalize nbV zs a = x at *
  generalize unU zs (dgE zs a) = u at *
  subst hnt
  obtain ⟨m0, m1⟩ := hbd
  have HS : Hid (strOfNums zs = strOfNums zs) := hid rfl
  clear hEe
  generalize strOfNums zs = S at *
  go_enter Tryz.func171, Tryz.ntmps171
  go_wp2_with fail
  rw [← HW0.out, ← HR.out]
  refine Calls.mono HC.out ?_
  rintro e w1 ⟨rfl, h47⟩
  have H47 := hid h47
  clear h47 HC
  go_wp2_with fail
  refine Calls.mono H47.out ?_
  rintro e w2 ⟨rfl, h1, h2⟩
  have d0 := h1.c0
  have d1 := h1.c1
  have kS := And.intro d0 d1
  have H32 := hid (isAtEnd_any h1.drew)
  clear H47
  have q2 : 1099511627776 < x * u := q
  go_wp2_with fail
  refine wp_region_held_drew (S := (fun w' => w'.cell? ⟨k, 0, none⟩ = some (.string S) ∧ w'.cell? ⟨k, 1, none⟩ = some (.int .i64 (E : Int)))) (by kernel_rfl) kS (fun hSS => ?_)
  refine wpAnyH_take (i := 0) (oi := ({ dst := some 16, op := Op.move (Operand.tmp 5), type := 3, pos := _, after := _, guard := none } : Oper)) (v := ?_) rfl (by kernel_rfl) (by kernel_rfl) (by kernel_rfl) (fun _ _ _ h => h) (Or.inl ⟨by rfl, ?_⟩) hSS ?_
  rotate_left
  · intro w9 hSw
    (try dsimp only at hSw)
    (try go_split_ands)
    first | (go_simp; done) | (go_simp; with_reducible rfl)
  try simp only [Act.put, List.setIfInBounds_toArray, List.set_cons_zero, List.set_cons_succ]
  refine wpAnyH_take (i := 1) (oi := ({ dst := some 17, op := Op.binOp BinOp.gtr 3 (Operand.tmp 16) (Operand.const (Value.int IntKind.i64 1099511627776)) 3, type := 4, pos := _, after := _, guard := none } : Oper)) (v := .bool true) rfl (by kernel_rfl) (by kernel_rfl) (by kernel_rfl) (fun _ _ _ h => h) (Or.inl ⟨by rfl, ?_⟩) hSS ?_
  · intro w9 hSw
    (try dsimp only at hSw)
    (try go_split_ands)
    first | (go_simp; done) | (go_simp; simp [q2]; done)
  try simp only [Act.put, List.setIfInBounds_toArray, List.set_cons_zero, List.set_cons_succ]
  refine wpAnyH_take (i := 2) (oi := ({ dst := some 18, op := Op.move (Operand.tmp 17), type := 4, pos := _, after := _, guard := none } : Oper)) (v := ?_) rfl (by kernel_rfl) (by kernel_rfl) (by kernel_rfl) (fun _ _ _ h => h) (Or.inl ⟨by rfl, ?_⟩) hSS ?_
  rotate_left
  · intro w9 hSw
    (try dsimp only at hSw)
    (try go_split_ands)
    first | (go_simp; done) | (go_simp; with_reducible rfl)
  try simp only [Act.put, List.setIfInBounds_toArray, List.set_cons_zero, List.set_cons_succ]
  refine wpAnyH_take (i := 3) (oi := ({ dst := some 19, op := Op.move (Operand.tmp 0), type := 243, pos := _, after := _, guard := some (2, false) } : Oper)) (v := undef) rfl (by kernel_rfl) (by kernel_rfl) (by kernel_rfl) (fun _ _ _ h => h) (Or.inr ⟨by rfl, rfl⟩) hSS ?_
  try simp only [Act.put, List.setIfInBounds_toArray, List.set_cons_zero, List.set_cons_succ]
  refine wpAnyH_take (i := 4) (oi := ({ dst := some 20, op := Op.call { callee := Callee.value (Operand.func 176), args := #[Operand.tmp 19], argTypes := #[243] }, type := 4, pos := _, after := _, guard := some (2, false) } : Oper)) (v := undef) rfl (by kernel_rfl) (by kernel_rfl) (by kernel_rfl) (fun _ _ _ h => h) (Or.inr ⟨by rfl, rfl⟩) hSS ?_
  try simp only [Act.put, List.setIfInBounds_toArray, List.set_cons_zero, List.set_cons_succ]
  refine wpAnyH_take (i := 5) (oi := ({ dst := some 21, op := Op.unOp UnOp.not 4 (Operand.tmp 20), type := 4, pos := _, after := _, guard := some (2, false) } : Oper)) (v := undef) rfl (by kernel_rfl) (by kernel_rfl) (by kernel_rfl) (fun _ _ _ h => h) (Or.inr ⟨by rfl, rfl⟩) hSS ?_
  try simp only [Act.put, List.setIfInBounds_toArray, List.set_cons_zero, List.set_cons_succ]
  refine wpAnyH_take (i := 6) (oi := ({ dst := some 22, op := Op.move (Operand.tmp 21), type := 4, pos := _, after := _, guard := some (2, false) } : Oper)) (v := undef) rfl (by kernel_rfl) (by kernel_rfl) (by kernel_rfl) (fun _ _ _ h => h) (Or.inr ⟨by rfl, rfl⟩) hSS ?_
  try simp only [Act.put, List.setIfInBounds_toArray, List.set_cons_zero, List.set_cons_succ]
  refine wpAnyH_take (i := 7) (oi := ({ dst := some 23, op := Op.move (Operand.tmp 0), type := 243, pos := _, after := _, guard := some (6, true) } : Oper)) (v := undef) rfl (by kernel_rfl) (by kernel_rfl) (by kernel_rfl) (fun _ _ _ h => h) (Or.inr ⟨by rfl, rfl⟩) hSS ?_
  try simp only [Act.put, List.setIfInBounds_toArray, List.set_cons_zero, List.set_cons_succ]
  refine wpAnyH_take (i := 8) (oi := ({ dst := some 24, op := Op.nilCheck (Operand.tmp 23), type := 0, pos := _, after := _, guard := some (6, true) } : Oper)) (v := undef) rfl (by kernel_rfl) (by kernel_rfl) (by kernel_rfl) (fun _ _ _ h => h) (Or.inr ⟨by rfl, rfl⟩) hSS ?_
  try simp only [Act.put, List.setIfInBounds_toArray, List.set_cons_zero, List.set_cons_succ]
  refine wpAnyH_take (i := 9) (oi := ({ dst := some 25, op := Op.fieldAddr 245 (Operand.tmp 24) 0, type := 0, pos := _, after := _, guard := some (6, true) } : Oper)) (v := undef) rfl (by kernel_rfl) (by kernel_rfl) (by kernel_rfl) (fun _ _ _ h => h) (Or.inr ⟨by rfl, rfl⟩) hSS ?_
  try simp only [Act.put, List.setIfInBounds_toArray, List.set_cons_zero, List.set_cons_succ]
  refine wpAnyH_take (i := 10) (oi := ({ dst := some 26, op := Op.load 9 (Operand.tmp 25), type := 9, pos := _, after := _, guard := some (6, true) } : Oper)) (v := undef) rfl (by kernel_rfl) (by kernel_rfl) (by kernel_rfl) (fun _ _ _ h => h) (Or.inr ⟨by rfl, rfl⟩) hSS ?_
  try simp only [Act.put, List.setIfInBounds_toArray, List.set_cons_zero, List.set_cons_succ]
  refine wpAnyH_take (i := 11) (oi := ({ dst := some 27, op := Op.move (Operand.tmp 0), type := 243, pos := _, after := _, guard := some (6, true) } : Oper)) (v := undef) rfl (by kernel_rfl) (by kernel_rfl) (by kernel_rfl) (fun _ _ _ h => h) (Or.inr ⟨by rfl, rfl⟩) hSS ?_
  try simp only [Act.put, List.setIfInBounds_toArray, List.set_cons_zero, List.set_cons_succ]
  refine wpAnyH_take (i := 12) (oi := ({ dst := some 28, op := Op.nilCheck (Operand.tmp 27), type := 0, pos := _, after := _, guard := some (6, true) } : Oper)) (v := undef) rfl (by kernel_rfl) (by kernel_rfl) (by kernel_rfl) (fun _ _ _ h => h) (Or.inr ⟨by rfl, rfl⟩) hSS ?_
  try simp only [Act.put, List.setIfInBounds_toArray, List.set_cons_zero, List.set_cons_succ]
  refine wpAnyH_take (i := 13) (oi := ({ dst := some 29, op := Op.fieldAddr 245 (Operand.tmp 28) 1, type := 0, pos := _, after := _, guard := some (6, true) } : Oper)) (v := undef) rfl (by kernel_rfl) (by kernel_rfl) (by kernel_rfl) (fun _ _ _ h => h) (Or.inr ⟨by rfl, rfl⟩) hSS ?_
  try simp only [Act.put, List.setIfInBounds_toArray, List.set_cons_zero, List.set_cons_succ]
  refine wpAnyH_take (i := 14) (oi := ({ dst := some 30, op := Op.load 3 (Operand.tmp 29), type := 3, pos := _, after := _, guard := some (6, true) } : Oper)) (v := undef) rfl (by kernel_rfl) (by kernel_rfl) (by kernel_rfl) (fun _ _ _ h => h) (Or.inr ⟨by rfl, rfl⟩) hSS ?_
  try simp only [Act.put, List.setIfInBounds_toArray, List.set_cons_zero, List.set_cons_succ]
  refine wpAnyH_take (i := 15) (oi := ({ dst := some 31, op := Op.index 9 (Operand.tmp 26) (Operand.tmp 30), type := 5, pos := _, after := _, guard := some (6, true) } : Oper)) (v := undef) rfl (by kernel_rfl) (by kernel_rfl) (by kernel_rfl) (fun _ _ _ h => h) (Or.inr ⟨by rfl, rfl⟩) hSS ?_
  try simp only [Act.put, List.setIfInBounds_toArray, List.set_cons_zero, List.set_cons_succ]
  refine wpAnyH_take (i := 16) (oi := ({ dst := some 32, op := Op.call { callee := Callee.value (Operand.func 181), args := #[Operand.tmp 31], argTypes := #[5] }, type := 4, pos := _, after := _, guard := some (6, true) } : Oper)) (v := undef) rfl (by kernel_rfl) (by kernel_rfl) (by kernel_rfl) (fun _ _ _ h => h) (Or.inr ⟨by rfl, rfl⟩) hSS ?_
  try simp only [Act.put, List.setIfInBounds_toArray, List.set_cons_zero, List.set_cons_succ]
  refine wpAnyH_take (i := 17) (oi := ({ dst := some 33, op := Op.pick (Operand.tmp 22) (Operand.tmp 32) (Operand.const (Value.bool false)), type := 4, pos := _, after := _, guard := some (2, false) } : Oper)) (v := undef) rfl (by kernel_rfl) (by kernel_rfl) (by kernel_rfl) (fun _ _ _ h => h) (Or.inr ⟨by rfl, rfl⟩) hSS ?_
  try simp only [Act.put, List.setIfInBounds_toArray, List.set_cons_zero, List.set_cons_succ]
  refine wpAnyH_take (i := 18) (oi := ({ dst := some 34, op := Op.pick (Operand.tmp 18) (Operand.const (Value.bool true)) (Operand.tmp 33), type := 4, pos := _, after := _, guard := none } : Oper)) (v := ?_) rfl (by kernel_rfl) (by kernel_rfl) (by kernel_rfl) (fun _ _ _ h => h) (Or.inl ⟨by rfl, ?_⟩) hSS ?_
  rotate_left
  · intro w9 hSw
    (try dsimp only at hSw)
    (try go_split_ands)
    first | (go_simp; done) | (go_simp; with_reducible rfl)
  try simp only [Act.put, List.setIfInBounds_toArray, List.set_cons_zero, List.set_cons_succ]
  refine wpAnyH_done (by kernel_rfl) ?_ _
  have HBut : Hid (But (fun x => x = k) W0 w2.drew) := h2.drew
  clear h1 h2 HT H32
  go_wp2_with fail
  refine Calls.mono (HRf.out _) ?_
  rintro e w5 ⟨rfl, h5⟩
  have HFF := hid (HF.out _ w5 _ HBut.out h5 rfl)
  clear h5
  have t0 := HFF.out.1.cell 0 _ rfl
  have t1 := HFF.out.1.cell 1 _ rfl
  have t2 := HFF.out.1.cell 2 _ rfl
  have t3 := HFF.out.1.cell 3 _ rfl
  have tf := HFF.out.1.fz
  go_wp2_with fail
  exact bodyPost_ret (results_tok rfl _ _ R 0 sE 0 a (.int .i64 182) rfl rfl HFF.out.2.1) rfl HFF.out.2.2

set_option maxRecDepth 100000 in
set_option maxHeartbeats 2000000 in
theorem number_end {w : World} {k : Nat} {zs : List Int} {a : Nat} (hb : Pl.isB zs) (hl : zs.length ≤ 16777216) (ha : a < zs.length) (h : Scn w k (strOfNums zs) a) (q : ¬ 1099511627776 < nbT zs a) (qe : nbE zs a = zs.length) :
    Calls Tryz.prog 171 #[.pointer (some ⟨k, 0, none⟩)] w (TokC k zs (⟨3, [], nbT zs a, a⟩, nbE zs a, 0) w) := by
  obtain ⟨W0, hW0⟩ : ∃ W0, W0 = w.alloc (.cells (tcs 0 sE 0 0) 227) := ⟨_, rfl⟩
  obtain ⟨R, hR⟩ : ∃ R, R = w.heap.size := ⟨_, rfl⟩
  have b0 : Below w.heap.size w W0 := by rw [hW0]; exact below1 _ _
  have r0 : TkB W0 R 0 sE 0 0 := by rw [hW0, hR]; exact heap_new _ _
  have s0 : Scn W0 k (strOfNums zs) a := by rw [hW0]; exact h.alloc _
  have hkl := h.lt
  have c1 := fun o => (h.alloc o).c1
  have hsz := str_size zs
  have HC := hid (nbC_any hb hl ha s0)
  have hE2 : nbE zs a ≤ zs.length := unE_le (pasA_le (Nat.le_of_lt ha))
  have hbd := nbT_bd (Nat.le_of_lt ha)
  have hnt : nbT zs a = nbV zs a * unU zs (dgE zs a) := rfl
  obtain ⟨PO, hPO⟩ : ∃ PO, PO = TokC k zs (⟨3, [], nbT zs a, a⟩, nbE zs a, 0) w := ⟨_, rfl⟩
  rw [← hPO]
  unfold NbC at HC
  have HT : Hid (∀ w2 : World, But (fun x => x = k) W0 w2 → TkB w2 R 0 sE 0 0) := fun w2 h2 => r0.keep (h2.block R r0.lt (by omega))
  have HF : Hid (∀ w2 w4 : World, Scn w2 k (strOfNums zs) (nbE zs a) → But (fun x => x = k) W0 w2 → w4 = put4 w2 R 3 sE (nbT zs a) a → TkB w4 R 3 sE (nbT zs a) a ∧ PO (.returned (.tuple #[.agg (tcs 3 sE (nbT zs a) a), .int .i64 0])) w4) := fun w2 w4 h1 h2 h4 => by
    have hp := but_put4 w2 R 3 sE (nbT zs a) a
    have r2 := r0.keep (h2.block R r0.lt (by omega))
    subst h4
    rw [hPO]
    refine ⟨r2.put4 _ _ _ _, rfl, fun _ => h1.but hp (by omega), ?_⟩
    exact ((But.of_below b0).trans h2).into hp (fun x hx e => by omega)
  have HW0 := hid hW0
  have HR := hid hR
  have HG := hid (fun i hi h => str_get zs hb i hi h)
  clear hb h s0 r0 b0 hW0 hR hkl hPO
  generalize hEe : nbE zs a = E at *
  generalize nbT zs a = y at *
  generalize nbV zs a = x at *
  generalize unU zs (dgE zs a) = u at *
  subst hnt
  obtain ⟨m0, m1⟩ := hbd
  have HS : Hid (strOfNums zs = strOfNums zs) := hid rfl
  clear hEe
  generalize strOfNums zs = S at *
  go_enter Tryz.func171, Tryz.ntmps171
  go_wp2_with fail
  rw [← HW0.out, ← HR.out]
  refine Calls.mono HC.out ?_
  rintro e w1 ⟨rfl, h47⟩
  have H47 := hid h47
  clear h47 HC
  go_wp2_with fail
  refine Calls.mono H47.out ?_
  rintro e w2 ⟨rfl, h1, h2⟩
  have d0 := h1.c0
  have d1 := h1.c1
  have kS := And.intro d0 d1
  have H32 := hid (isAtEnd_any h1.drew)
  clear H47
  have q2 : ¬ 1099511627776 < x * u := Int.not_lt.2 q
  rw [decide_eq_true (show E = S.size by omega)] at H32
  go_wp2_with fail
  refine wp_region_held_drew (S := (fun w' => w'.cell? ⟨k, 0, none⟩ = some (.string S) ∧ w'.cell? ⟨k, 1, none⟩ = some (.int .i64 (E : Int)))) (by kernel_rfl) kS (fun hSS => ?_)
  refine wpAnyH_take (i := 0) (oi := ({ dst := some 16, op := Op.move (Operand.tmp 5), type := 3, pos := _, after := _, guard := none } : Oper)) (v := ?_) rfl (by kernel_rfl) (by kernel_rfl) (by kernel_rfl) (fun _ _ _ h => h) (Or.inl ⟨by rfl, ?_⟩) hSS ?_
  rotate_left
  · intro w9 hSw
    (try dsimp only at hSw)
    (try go_split_ands)
    first | (go_simp; done) | (go_simp; with_reducible rfl)
  try simp only [Act.put, List.setIfInBounds_toArray, List.set_cons_zero, List.set_cons_succ]
  refine wpAnyH_take (i := 1) (oi := ({ dst := some 17, op := Op.binOp BinOp.gtr 3 (Operand.tmp 16) (Operand.const (Value.int IntKind.i64 1099511627776)) 3, type := 4, pos := _, after := _, guard := none } : Oper)) (v := .bool false) rfl (by kernel_rfl) (by kernel_rfl) (by kernel_rfl) (fun _ _ _ h => h) (Or.inl ⟨by rfl, ?_⟩) hSS ?_
  · intro w9 hSw
    (try dsimp only at hSw)
    (try go_split_ands)
    first | (go_simp; done) | (go_simp; simp [q2]; done)
  try simp only [Act.put, List.setIfInBounds_toArray, List.set_cons_zero, List.set_cons_succ]
  refine wpAnyH_take (i := 2) (oi := ({ dst := some 18, op := Op.move (Operand.tmp 17), type := 4, pos := _, after := _, guard := none } : Oper)) (v := ?_) rfl (by kernel_rfl) (by kernel_rfl) (by kernel_rfl) (fun _ _ _ h => h) (Or.inl ⟨by rfl, ?_⟩) hSS ?_
  rotate_left
  · intro w9 hSw
    (try dsimp only at hSw)
    (try go_split_ands)
    first | (go_simp; done) | (go_simp; with_reducible rfl)
  try simp only [Act.put, List.setIfInBounds_toArray, List.set_cons_zero, List.set_cons_succ]
  refine wpAnyH_take (i := 3) (oi := ({ dst := some 19, op := Op.move (Operand.tmp 0), type := 243, pos := _, after := _, guard := some (2, false) } : Oper)) (v := ?_) rfl (by kernel_rfl) (by kernel_rfl) (by kernel_rfl) (fun _ _ _ h => h) (Or.inl ⟨by rfl, ?_⟩) hSS ?_
  rotate_left
  · intro w9 hSw
    (try dsimp only at hSw)
    (try go_split_ands)
    first | (go_simp; done) | (go_simp; with_reducible rfl)
  try simp only [Act.put, List.setIfInBounds_toArray, List.set_cons_zero, List.set_cons_succ]
  refine wpAnyH_ready (rs := [4]) (by kernel_rfl) (by simp) (AllReadyH.cons (o := ({ dst := some 20, op := Op.call { callee := Callee.value (Operand.func 176), args := #[Operand.tmp 19], argTypes := #[243] }, type := 4, pos := _, after := _, guard := some (2, false) } : Oper)) rfl (fun K9 hK9 => ?_) AllReadyH.nil)
  go_simp
  go_at_call 176
  refine Calls.mono H32.out ?_
  rintro e w3 ⟨rfl, rfl⟩
  refine hK9.out _ _ kS (fun hSS => ?_)
  clear hK9 K9
  try simp only [Act.put, List.setIfInBounds_toArray, List.set_cons_zero, List.set_cons_succ]
  refine wpAnyH_take (i := 5) (oi := ({ dst := some 21, op := Op.unOp UnOp.not 4 (Operand.tmp 20), type := 4, pos := _, after := _, guard := some (2, false) } : Oper)) (v := ?_) rfl (by kernel_rfl) (by kernel_rfl) (by kernel_rfl) (fun _ _ _ h => h) (Or.inl ⟨by rfl, ?_⟩) hSS ?_
  rotate_left
  · intro w9 hSw
    (try dsimp only at hSw)
    (try go_split_ands)
    first | (go_simp; done) | (go_simp; with_reducible rfl)
  try simp only [Act.put, List.setIfInBounds_toArray, List.set_cons_zero, List.set_cons_succ]
  refine wpAnyH_take (i := 6) (oi := ({ dst := some 22, op := Op.move (Operand.tmp 21), type := 4, pos := _, after := _, guard := some (2, false) } : Oper)) (v := ?_) rfl (by kernel_rfl) (by kernel_rfl) (by kernel_rfl) (fun _ _ _ h => h) (Or.inl ⟨by rfl, ?_⟩) hSS ?_
  rotate_left
  · intro w9 hSw
    (try dsimp only at hSw)
    (try go_split_ands)
    first | (go_simp; done) | (go_simp; with_reducible rfl)
  try simp only [Act.put, List.setIfInBounds_toArray, List.set_cons_zero, List.set_cons_succ]
  refine wpAnyH_take (i := 7) (oi := ({ dst := some 23, op := Op.move (Operand.tmp 0), type := 243, pos := _, after := _, guard := some (6, true) } : Oper)) (v := undef) rfl (by kernel_rfl) (by kernel_rfl) (by kernel_rfl) (fun _ _ _ h => h) (Or.inr ⟨by rfl, rfl⟩) hSS ?_
  try simp only [Act.put, List.setIfInBounds_toArray, List.set_cons_zero, List.set_cons_succ]
  refine wpAnyH_take (i := 8) (oi := ({ dst := some 24, op := Op.nilCheck (Operand.tmp 23), type := 0, pos := _, after := _, guard := some (6, true) } : Oper)) (v := undef) rfl (by kernel_rfl) (by kernel_rfl) (by kernel_rfl) (fun _ _ _ h => h) (Or.inr ⟨by rfl, rfl⟩) hSS ?_
  try simp only [Act.put, List.setIfInBounds_toArray, List.set_cons_zero, List.set_cons_succ]
  refine wpAnyH_take (i := 9) (oi := ({ dst := some 25, op := Op.fieldAddr 245 (Operand.tmp 24) 0, type := 0, pos := _, after := _, guard := some (6, true) } : Oper)) (v := undef) rfl (by kernel_rfl) (by kernel_rfl) (by kernel_rfl) (fun _ _ _ h => h) (Or.inr ⟨by rfl, rfl⟩) hSS ?_
  try simp only [Act.put, List.setIfInBounds_toArray, List.set_cons_zero, List.set_cons_succ]
  refine wpAnyH_take (i := 10) (oi := ({ dst := some 26, op := Op.load 9 (Operand.tmp 25), type := 9, pos := _, after := _, guard := some (6, true) } : Oper)) (v := undef) rfl (by kernel_rfl) (by kernel_rfl) (by kernel_rfl) (fun _ _ _ h => h) (Or.inr ⟨by rfl, rfl⟩) hSS ?_
  try simp only [Act.put, List.setIfInBounds_toArray, List.set_cons_zero, List.set_cons_succ]
  refine wpAnyH_take (i := 11) (oi := ({ dst := some 27, op := Op.move (Operand.tmp 0), type := 243, pos := _, after := _, guard := some (6, true) } : Oper)) (v := undef) rfl (by kernel_rfl) (by kernel_rfl) (by kernel_rfl) (fun _ _ _ h => h) (Or.inr ⟨by rfl, rfl⟩) hSS ?_
  try simp only [Act.put, List.setIfInBounds_toArray, List.set_cons_zero, List.set_cons_succ]
  refine wpAnyH_take (i := 12) (oi := ({ dst := some 28, op := Op.nilCheck (Operand.tmp 27), type := 0, pos := _, after := _, guard := some (6, true) } : Oper)) (v := undef) rfl (by kernel_rfl) (by kernel_rfl) (by kernel_rfl) (fun _ _ _ h => h) (Or.inr ⟨by rfl, rfl⟩) hSS ?_
  try simp only [Act.put, List.setIfInBounds_toArray, List.set_cons_zero, List.set_cons_succ]
  refine wpAnyH_take (i := 13) (oi := ({ dst := some 29, op := Op.fieldAddr 245 (Operand.tmp 28) 1, type := 0, pos := _, after := _, guard := some (6, true) } : Oper)) (v := undef) rfl (by kernel_rfl) (by kernel_rfl) (by kernel_rfl) (fun _ _ _ h => h) (Or.inr ⟨by rfl, rfl⟩) hSS ?_
  try simp only [Act.put, List.setIfInBounds_toArray, List.set_cons_zero, List.set_cons_succ]
  refine wpAnyH_take (i := 14) (oi := ({ dst := some 30, op := Op.load 3 (Operand.tmp 29), type := 3, pos := _, after := _, guard := some (6, true) } : Oper)) (v := undef) rfl (by kernel_rfl) (by kernel_rfl) (by kernel_rfl) (fun _ _ _ h => h) (Or.inr ⟨by rfl, rfl⟩) hSS ?_
  try simp only [Act.put, List.setIfInBounds_toArray, List.set_cons_zero, List.set_cons_succ]
  refine wpAnyH_take (i := 15) (oi := ({ dst := some 31, op := Op.index 9 (Operand.tmp 26) (Operand.tmp 30), type := 5, pos := _, after := _, guard := some (6, true) } : Oper)) (v := undef) rfl (by kernel_rfl) (by kernel_rfl) (by kernel_rfl) (fun _ _ _ h => h) (Or.inr ⟨by rfl, rfl⟩) hSS ?_
  try simp only [Act.put, List.setIfInBounds_toArray, List.set_cons_zero, List.set_cons_succ]
  refine wpAnyH_take (i := 16) (oi := ({ dst := some 32, op := Op.call { callee := Callee.value (Operand.func 181), args := #[Operand.tmp 31], argTypes := #[5] }, type := 4, pos := _, after := _, guard := some (6, true) } : Oper)) (v := undef) rfl (by kernel_rfl) (by kernel_rfl) (by kernel_rfl) (fun _ _ _ h => h) (Or.inr ⟨by rfl, rfl⟩) hSS ?_
  try simp only [Act.put, List.setIfInBounds_toArray, List.set_cons_zero, List.set_cons_succ]
  refine wpAnyH_take (i := 17) (oi := ({ dst := some 33, op := Op.pick (Operand.tmp 22) (Operand.tmp 32) (Operand.const (Value.bool false)), type := 4, pos := _, after := _, guard := some (2, false) } : Oper)) (v := ?_) rfl (by kernel_rfl) (by kernel_rfl) (by kernel_rfl) (fun _ _ _ h => h) (Or.inl ⟨by rfl, ?_⟩) hSS ?_
  rotate_left
  · intro w9 hSw
    (try dsimp only at hSw)
    (try go_split_ands)
    first | (go_simp; done) | (go_simp; with_reducible rfl)
  try simp only [Act.put, List.setIfInBounds_toArray, List.set_cons_zero, List.set_cons_succ]
  refine wpAnyH_take (i := 18) (oi := ({ dst := some 34, op := Op.pick (Operand.tmp 18) (Operand.const (Value.bool true)) (Operand.tmp 33), type := 4, pos := _, after := _, guard := none } : Oper)) (v := ?_) rfl (by kernel_rfl) (by kernel_rfl) (by kernel_rfl) (fun _ _ _ h => h) (Or.inl ⟨by rfl, ?_⟩) hSS ?_
  rotate_left
  · intro w9 hSw
    (try dsimp only at hSw)
    (try go_split_ands)
    first | (go_simp; done) | (go_simp; with_reducible rfl)
  try simp only [Act.put, List.setIfInBounds_toArray, List.set_cons_zero, List.set_cons_succ]
  refine wpAnyH_done (by kernel_rfl) ?_ _
  have HFF := hid (HF.out _ _ h1.drew.drew h2.drew.drew (put4_drew2 _ _ _ _ _ _))
  have rr := HT.out _ h2
  have t0 := rr.cell 0 _ rfl
  have t1 := rr.cell 1 _ rfl
  have t2 := rr.cell 2 _ rfl
  have t3 := rr.cell 3 _ rfl
  have tf := rr.fz
  clear h1 h2 HT H32 rr HF
  go_wp2_with fail
  exact bodyPost_ret (results_tok rfl _ _ R 3 sE (x * u) a (.int .i64 0) rfl rfl HFF.out.1) rfl HFF.out.2

set_option maxRecDepth 100000 in
set_option maxHeartbeats 2000000 in
theorem number_wd {w : World} {k : Nat} {zs : List Int} {a : Nat} (hb : Pl.isB zs) (hl : zs.length ≤ 16777216) (ha : a < zs.length) (h : Scn w k (strOfNums zs) a) (q : ¬ 1099511627776 < nbT zs a) (qe : nbE zs a < zs.length) (qw : isWd (zs.getD (nbE zs a) 0) = true) :
    Calls Tryz.prog 171 #[.pointer (some ⟨k, 0, none⟩)] w (TokC k zs (tk0 a, a, 182) w) := by
  obtain ⟨W0, hW0⟩ : ∃ W0, W0 = w.alloc (.cells (tcs 0 sE 0 0) 227) := ⟨_, rfl⟩
  obtain ⟨R, hR⟩ : ∃ R, R = w.heap.size := ⟨_, rfl⟩
  have b0 : Below w.heap.size w W0 := by rw [hW0]; exact below1 _ _
  have r0 : TkB W0 R 0 sE 0 0 := by rw [hW0, hR]; exact heap_new _ _
  have s0 : Scn W0 k (strOfNums zs) a := by rw [hW0]; exact h.alloc _
  have hkl := h.lt
  have c1 := fun o => (h.alloc o).c1
  have hsz := str_size zs
  have HC := hid (nbC_any hb hl ha s0)
  have hE2 : nbE zs a ≤ zs.length := unE_le (pasA_le (Nat.le_of_lt ha))
  have hbd := nbT_bd (Nat.le_of_lt ha)
  have hnt : nbT zs a = nbV zs a * unU zs (dgE zs a) := rfl
  obtain ⟨PO, hPO⟩ : ∃ PO, PO = TokC k zs (tk0 a, a, 182) w := ⟨_, rfl⟩
  rw [← hPO]
  unfold NbC at HC
  have HT : Hid (∀ w2 : World, But (fun x => x = k) W0 w2 → TkB w2 R 0 sE 0 0) := fun w2 h2 => r0.keep (h2.block R r0.lt (by omega))
  have HF : Hid (∀ w2 w3 w4 : World, But (fun x => x = k) W0 w2 → Below w2.heap.size w2 w3 → w4 = put4 w3 R 0 sE 0 a → TkB w3 R 0 sE 0 0 ∧ TkB w4 R 0 sE 0 a ∧ PO (.returned (.tuple #[.agg (tcs 0 sE 0 a), .int .i64 182])) w4) := fun w2 w3 w4 h2 h3 h4 => by
    have hp := but_put4 w3 R 0 sE 0 a
    have r2 := r0.keep (h2.block R r0.lt (by omega))
    have r3 := r2.keep (h3.block R r2.lt)
    subst h4
    rw [hPO]
    refine ⟨r3, r3.put4 _ _ _ _, rfl, fun h => (by cases h), ?_⟩
    exact ((((But.of_below b0).trans h2).into (But.of_below (X := fun _ => False) h3) (fun _ _ e => e.elim)).into hp (fun x hx e => by omega))
  have HRf := hid (fun (u9 : World) => refused_any (a : Int) 182 u9)
  have HW0 := hid hW0
  have HR := hid hR
  have HG := hid (fun i hi h => str_get zs hb i hi h)
  clear hb h s0 r0 b0 hW0 hR hkl hPO
  generalize hEe : nbE zs a = E at *
  generalize nbT zs a = y at *
  generalize nbV zs a = x at *
  generalize unU zs (dgE zs a) = u at *
  subst hnt
  obtain ⟨m0, m1⟩ := hbd
  have HS : Hid (strOfNums zs = strOfNums zs) := hid rfl
  clear hEe
  generalize strOfNums zs = S at *
  go_enter Tryz.func171, Tryz.ntmps171
  go_wp2_with fail
  rw [← HW0.out, ← HR.out]
  refine Calls.mono HC.out ?_
  rintro e w1 ⟨rfl, h47⟩
  have H47 := hid h47
  clear h47 HC
  go_wp2_with fail
  refine Calls.mono H47.out ?_
  rintro e w2 ⟨rfl, h1, h2⟩
  have d0 := h1.c0
  have d1 := h1.c1
  have kS := And.intro d0 d1
  have H32 := hid (isAtEnd_any h1.drew)
  clear H47
  have q2 : ¬ 1099511627776 < x * u := Int.not_lt.2 q
  rw [decide_eq_false (show ¬ E = S.size by omega)] at H32
  have hbS : E < S.size := by omega
  have hg := HG.out E (by omega) hbS
  generalize zs.getD E 0 = z at *
  have H48 := hid (isOfWord_any z w2.drew.drew)
  rw [qw] at H48
  have hlt : (E : Int) < zs.length := by omega
  have hlb : (E : Int) ≤ 16777216 := by omega
  go_wp2_with fail
  refine wp_region_held_drew (S := (fun w' => w'.cell? ⟨k, 0, none⟩ = some (.string S) ∧ w'.cell? ⟨k, 1, none⟩ = some (.int .i64 (E : Int)))) (by kernel_rfl) kS (fun hSS => ?_)
  refine wpAnyH_take (i := 0) (oi := ({ dst := some 16, op := Op.move (Operand.tmp 5), type := 3, pos := _, after := _, guard := none } : Oper)) (v := ?_) rfl (by kernel_rfl) (by kernel_rfl) (by kernel_rfl) (fun _ _ _ h => h) (Or.inl ⟨by rfl, ?_⟩) hSS ?_
  rotate_left
  · intro w9 hSw
    (try dsimp only at hSw)
    (try go_split_ands)
    first | (go_simp; done) | (go_simp; with_reducible rfl)
  try simp only [Act.put, List.setIfInBounds_toArray, List.set_cons_zero, List.set_cons_succ]
  refine wpAnyH_take (i := 1) (oi := ({ dst := some 17, op := Op.binOp BinOp.gtr 3 (Operand.tmp 16) (Operand.const (Value.int IntKind.i64 1099511627776)) 3, type := 4, pos := _, after := _, guard := none } : Oper)) (v := .bool false) rfl (by kernel_rfl) (by kernel_rfl) (by kernel_rfl) (fun _ _ _ h => h) (Or.inl ⟨by rfl, ?_⟩) hSS ?_
  · intro w9 hSw
    (try dsimp only at hSw)
    (try go_split_ands)
    first | (go_simp; done) | (go_simp; simp [q2]; done)
  try simp only [Act.put, List.setIfInBounds_toArray, List.set_cons_zero, List.set_cons_succ]
  refine wpAnyH_take (i := 2) (oi := ({ dst := some 18, op := Op.move (Operand.tmp 17), type := 4, pos := _, after := _, guard := none } : Oper)) (v := ?_) rfl (by kernel_rfl) (by kernel_rfl) (by kernel_rfl) (fun _ _ _ h => h) (Or.inl ⟨by rfl, ?_⟩) hSS ?_
  rotate_left
  · intro w9 hSw
    (try dsimp only at hSw)
    (try go_split_ands)
    first | (go_simp; done) | (go_simp; with_reducible rfl)
  try simp only [Act.put, List.setIfInBounds_toArray, List.set_cons_zero, List.set_cons_succ]
  refine wpAnyH_take (i := 3) (oi := ({ dst := some 19, op := Op.move (Operand.tmp 0), type := 243, pos := _, after := _, guard := some (2, false) } : Oper)) (v := ?_) rfl (by kernel_rfl) (by kernel_rfl) (by kernel_rfl) (fun _ _ _ h => h) (Or.inl ⟨by rfl, ?_⟩) hSS ?_
  rotate_left
  · intro w9 hSw
    (try dsimp only at hSw)
    (try go_split_ands)
    first | (go_simp; done) | (go_simp; with_reducible rfl)
  try simp only [Act.put, List.setIfInBounds_toArray, List.set_cons_zero, List.set_cons_succ]
  refine wpAnyH_ready (rs := [4]) (by kernel_rfl) (by simp) (AllReadyH.cons (o := ({ dst := some 20, op := Op.call { callee := Callee.value (Operand.func 176), args := #[Operand.tmp 19], argTypes := #[243] }, type := 4, pos := _, after := _, guard := some (2, false) } : Oper)) rfl (fun K9 hK9 => ?_) AllReadyH.nil)
  go_simp
  go_at_call 176
  refine Calls.mono H32.out ?_
  rintro e w3 ⟨rfl, rfl⟩
  refine hK9.out _ _ kS (fun hSS => ?_)
  clear hK9 K9
  try simp only [Act.put, List.setIfInBounds_toArray, List.set_cons_zero, List.set_cons_succ]
  refine wpAnyH_take (i := 5) (oi := ({ dst := some 21, op := Op.unOp UnOp.not 4 (Operand.tmp 20), type := 4, pos := _, after := _, guard := some (2, false) } : Oper)) (v := ?_) rfl (by kernel_rfl) (by kernel_rfl) (by kernel_rfl) (fun _ _ _ h => h) (Or.inl ⟨by rfl, ?_⟩) hSS ?_
  rotate_left
  · intro w9 hSw
    (try dsimp only at hSw)
    (try go_split_ands)
    first | (go_simp; done) | (go_simp; with_reducible rfl)
  try simp only [Act.put, List.setIfInBounds_toArray, List.set_cons_zero, List.set_cons_succ]
  refine wpAnyH_take (i := 6) (oi := ({ dst := some 22, op := Op.move (Operand.tmp 21), type := 4, pos := _, after := _, guard := some (2, false) } : Oper)) (v := ?_) rfl (by kernel_rfl) (by kernel_rfl) (by kernel_rfl) (fun _ _ _ h => h) (Or.inl ⟨by rfl, ?_⟩) hSS ?_
  rotate_left
  · intro w9 hSw
    (try dsimp only at hSw)
    (try go_split_ands)
    first | (go_simp; done) | (go_simp; with_reducible rfl)
  try simp only [Act.put, List.setIfInBounds_toArray, List.set_cons_zero, List.set_cons_succ]
  refine wpAnyH_take (i := 7) (oi := ({ dst := some 23, op := Op.move (Operand.tmp 0), type := 243, pos := _, after := _, guard := some (6, true) } : Oper)) (v := ?_) rfl (by kernel_rfl) (by kernel_rfl) (by kernel_rfl) (fun _ _ _ h => h) (Or.inl ⟨by rfl, ?_⟩) hSS ?_
  rotate_left
  · intro w9 hSw
    (try dsimp only at hSw)
    (try go_split_ands)
    first | (go_simp; done) | (go_simp; with_reducible rfl)
  try simp only [Act.put, List.setIfInBounds_toArray, List.set_cons_zero, List.set_cons_succ]
  refine wpAnyH_take (i := 8) (oi := ({ dst := some 24, op := Op.nilCheck (Operand.tmp 23), type := 0, pos := _, after := _, guard := some (6, true) } : Oper)) (v := ?_) rfl (by kernel_rfl) (by kernel_rfl) (by kernel_rfl) (fun _ _ _ h => h) (Or.inl ⟨by rfl, ?_⟩) hSS ?_
  rotate_left
  · intro w9 hSw
    (try dsimp only at hSw)
    (try go_split_ands)
    first | (go_simp; done) | (go_simp; with_reducible rfl)
  try simp only [Act.put, List.setIfInBounds_toArray, List.set_cons_zero, List.set_cons_succ]
  refine wpAnyH_take (i := 9) (oi := ({ dst := some 25, op := Op.fieldAddr 245 (Operand.tmp 24) 0, type := 0, pos := _, after := _, guard := some (6, true) } : Oper)) (v := ?_) rfl (by kernel_rfl) (by kernel_rfl) (by kernel_rfl) (fun _ _ _ h => h) (Or.inl ⟨by rfl, ?_⟩) hSS ?_
  rotate_left
  · intro w9 hSw
    (try dsimp only at hSw)
    (try go_split_ands)
    first | (go_simp; done) | (go_simp; with_reducible rfl)
  try simp only [Act.put, List.setIfInBounds_toArray, List.set_cons_zero, List.set_cons_succ]
  refine wpAnyH_take (i := 10) (oi := ({ dst := some 26, op := Op.load 9 (Operand.tmp 25), type := 9, pos := _, after := _, guard := some (6, true) } : Oper)) (v := ?_) rfl (by kernel_rfl) (by kernel_rfl) (by kernel_rfl) (fun _ _ _ h => h) (Or.inl ⟨by rfl, ?_⟩) hSS ?_
  rotate_left
  · intro w9 hSw
    (try dsimp only at hSw)
    (try go_split_ands)
    first | (go_simp; done) | (go_simp; with_reducible rfl)
  try simp only [Act.put, List.setIfInBounds_toArray, List.set_cons_zero, List.set_cons_succ]
  refine wpAnyH_take (i := 11) (oi := ({ dst := some 27, op := Op.move (Operand.tmp 0), type := 243, pos := _, after := _, guard := some (6, true) } : Oper)) (v := ?_) rfl (by kernel_rfl) (by kernel_rfl) (by kernel_rfl) (fun _ _ _ h => h) (Or.inl ⟨by rfl, ?_⟩) hSS ?_
  rotate_left
  · intro w9 hSw
    (try dsimp only at hSw)
    (try go_split_ands)
    first | (go_simp; done) | (go_simp; with_reducible rfl)
  try simp only [Act.put, List.setIfInBounds_toArray, List.set_cons_zero, List.set_cons_succ]
  refine wpAnyH_take (i := 12) (oi := ({ dst := some 28, op := Op.nilCheck (Operand.tmp 27), type := 0, pos := _, after := _, guard := some (6, true) } : Oper)) (v := ?_) rfl (by kernel_rfl) (by kernel_rfl) (by kernel_rfl) (fun _ _ _ h => h) (Or.inl ⟨by rfl, ?_⟩) hSS ?_
  rotate_left
  · intro w9 hSw
    (try dsimp only at hSw)
    (try go_split_ands)
    first | (go_simp; done) | (go_simp; with_reducible rfl)
  try simp only [Act.put, List.setIfInBounds_toArray, List.set_cons_zero, List.set_cons_succ]
  refine wpAnyH_take (i := 13) (oi := ({ dst := some 29, op := Op.fieldAddr 245 (Operand.tmp 28) 1, type := 0, pos := _, after := _, guard := some (6, true) } : Oper)) (v := ?_) rfl (by kernel_rfl) (by kernel_rfl) (by kernel_rfl) (fun _ _ _ h => h) (Or.inl ⟨by rfl, ?_⟩) hSS ?_
  rotate_left
  · intro w9 hSw
    (try dsimp only at hSw)
    (try go_split_ands)
    first | (go_simp; done) | (go_simp; with_reducible rfl)
  try simp only [Act.put, List.setIfInBounds_toArray, List.set_cons_zero, List.set_cons_succ]
  refine wpAnyH_take (i := 14) (oi := ({ dst := some 30, op := Op.load 3 (Operand.tmp 29), type := 3, pos := _, after := _, guard := some (6, true) } : Oper)) (v := ?_) rfl (by kernel_rfl) (by kernel_rfl) (by kernel_rfl) (fun _ _ _ h => h) (Or.inl ⟨by rfl, ?_⟩) hSS ?_
  rotate_left
  · intro w9 hSw
    (try dsimp only at hSw)
    (try go_split_ands)
    first | (go_simp; done) | (go_simp; with_reducible rfl)
  try simp only [Act.put, List.setIfInBounds_toArray, List.set_cons_zero, List.set_cons_succ]
  refine wpAnyH_take (i := 15) (oi := ({ dst := some 31, op := Op.index 9 (Operand.tmp 26) (Operand.tmp 30), type := 5, pos := _, after := _, guard := some (6, true) } : Oper)) (v := .int .u8 z) rfl (by kernel_rfl) (by kernel_rfl) (by kernel_rfl) (fun _ _ _ h => h) (Or.inl ⟨by rfl, ?_⟩) hSS ?_
  · intro w9 hSw
    (try dsimp only at hSw)
    (try go_split_ands)
    first | (go_simp; done) | (go_simp; simp [hg, hbS]; done)
  try simp only [Act.put, List.setIfInBounds_toArray, List.set_cons_zero, List.set_cons_succ]
  refine wpAnyH_ready (rs := [16]) (by kernel_rfl) (by simp) (AllReadyH.cons (o := ({ dst := some 32, op := Op.call { callee := Callee.value (Operand.func 181), args := #[Operand.tmp 31], argTypes := #[5] }, type := 4, pos := _, after := _, guard := some (6, true) } : Oper)) rfl (fun K9 hK9 => ?_) AllReadyH.nil)
  go_simp
  go_at_call 181
  refine Calls.mono H48.out ?_
  rintro e w3 ⟨rfl, rfl⟩
  refine hK9.out _ _ kS (fun hSS => ?_)
  clear hK9 K9
  try simp only [Act.put, List.setIfInBounds_toArray, List.set_cons_zero, List.set_cons_succ]
  refine wpAnyH_take (i := 17) (oi := ({ dst := some 33, op := Op.pick (Operand.tmp 22) (Operand.tmp 32) (Operand.const (Value.bool false)), type := 4, pos := _, after := _, guard := some (2, false) } : Oper)) (v := ?_) rfl (by kernel_rfl) (by kernel_rfl) (by kernel_rfl) (fun _ _ _ h => h) (Or.inl ⟨by rfl, ?_⟩) hSS ?_
  rotate_left
  · intro w9 hSw
    (try dsimp only at hSw)
    (try go_split_ands)
    first | (go_simp; done) | (go_simp; with_reducible rfl)
  try simp only [Act.put, List.setIfInBounds_toArray, List.set_cons_zero, List.set_cons_succ]
  refine wpAnyH_take (i := 18) (oi := ({ dst := some 34, op := Op.pick (Operand.tmp 18) (Operand.const (Value.bool true)) (Operand.tmp 33), type := 4, pos := _, after := _, guard := none } : Oper)) (v := ?_) rfl (by kernel_rfl) (by kernel_rfl) (by kernel_rfl) (fun _ _ _ h => h) (Or.inl ⟨by rfl, ?_⟩) hSS ?_
  rotate_left
  · intro w9 hSw
    (try dsimp only at hSw)
    (try go_split_ands)
    first | (go_simp; done) | (go_simp; with_reducible rfl)
  try simp only [Act.put, List.setIfInBounds_toArray, List.set_cons_zero, List.set_cons_succ]
  refine wpAnyH_done (by kernel_rfl) ?_ _
  have HBut : Hid (But (fun x => x = k) W0 w2.drew.drew) := h2.drew.drew
  clear h1 h2 HT H32
  go_wp2_with fail
  refine Calls.mono (HRf.out _) ?_
  rintro e w5 ⟨rfl, h5⟩
  have HFF := hid (HF.out _ w5 _ HBut.out h5 rfl)
  clear h5
  have t0 := HFF.out.1.cell 0 _ rfl
  have t1 := HFF.out.1.cell 1 _ rfl
  have t2 := HFF.out.1.cell 2 _ rfl
  have t3 := HFF.out.1.cell 3 _ rfl
  have tf := HFF.out.1.fz
  go_wp2_with fail
  exact bodyPost_ret (results_tok rfl _ _ R 0 sE 0 a (.int .i64 182) rfl rfl HFF.out.2.1) rfl HFF.out.2.2

set_option maxRecDepth 100000 in
set_option maxHeartbeats 2000000 in
theorem number_ok {w : World} {k : Nat} {zs : List Int} {a : Nat} (hb : Pl.isB zs) (hl : zs.length ≤ 16777216) (ha : a < zs.length) (h : Scn w k (strOfNums zs) a) (q : ¬ 1099511627776 < nbT zs a) (qe : nbE zs a < zs.length) (qw : isWd (zs.getD (nbE zs a) 0) = false) :
    Calls Tryz.prog 171 #[.pointer (some ⟨k, 0, none⟩)] w (TokC k zs (⟨3, [], nbT zs a, a⟩, nbE zs a, 0) w) := by
  obtain ⟨W0, hW0⟩ : ∃ W0, W0 = w.alloc (.cells (tcs 0 sE 0 0) 227) := ⟨_, rfl⟩
  obtain ⟨R, hR⟩ : ∃ R, R = w.heap.size := ⟨_, rfl⟩
  have b0 : Below w.heap.size w W0 := by rw [hW0]; exact below1 _ _
  have r0 : TkB W0 R 0 sE 0 0 := by rw [hW0, hR]; exact heap_new _ _
  have s0 : Scn W0 k (strOfNums zs) a := by rw [hW0]; exact h.alloc _
  have hkl := h.lt
  have c1 := fun o => (h.alloc o).c1
  have hsz := str_size zs
  have HC := hid (nbC_any hb hl ha s0)
  have hE2 : nbE zs a ≤ zs.length := unE_le (pasA_le (Nat.le_of_lt ha))
  have hbd := nbT_bd (Nat.le_of_lt ha)
  have hnt : nbT zs a = nbV zs a * unU zs (dgE zs a) := rfl
  obtain ⟨PO, hPO⟩ : ∃ PO, PO = TokC k zs (⟨3, [], nbT zs a, a⟩, nbE zs a, 0) w := ⟨_, rfl⟩
  rw [← hPO]
  unfold NbC at HC
  have HT : Hid (∀ w2 : World, But (fun x => x = k) W0 w2 → TkB w2 R 0 sE 0 0) := fun w2 h2 => r0.keep (h2.block R r0.lt (by omega))
  have HF : Hid (∀ w2 w4 : World, Scn w2 k (strOfNums zs) (nbE zs a) → But (fun x => x = k) W0 w2 → w4 = put4 w2 R 3 sE (nbT zs a) a → TkB w4 R 3 sE (nbT zs a) a ∧ PO (.returned (.tuple #[.agg (tcs 3 sE (nbT zs a) a), .int .i64 0])) w4) := fun w2 w4 h1 h2 h4 => by
    have hp := but_put4 w2 R 3 sE (nbT zs a) a
    have r2 := r0.keep (h2.block R r0.lt (by omega))
    subst h4
    rw [hPO]
    refine ⟨r2.put4 _ _ _ _, rfl, fun _ => h1.but hp (by omega), ?_⟩
    exact ((But.of_below b0).trans h2).into hp (fun x hx e => by omega)
  have HW0 := hid hW0
  have HR := hid hR
  have HG := hid (fun i hi h => str_get zs hb i hi h)
  clear hb h s0 r0 b0 hW0 hR hkl hPO
  generalize hEe : nbE zs a = E at *
  generalize nbT zs a = y at *
  generalize nbV zs a = x at *
  generalize unU zs (dgE zs a) = u at *
  subst hnt
  obtain ⟨m0, m1⟩ := hbd
  have HS : Hid (strOfNums zs = strOfNums zs) := hid rfl
  clear hEe
  generalize strOfNums zs = S at *
  go_enter Tryz.func171, Tryz.ntmps171
  go_wp2_with fail
  rw [← HW0.out, ← HR.out]
  refine Calls.mono HC.out ?_
  rintro e w1 ⟨rfl, h47⟩
  have H47 := hid h47
  clear h47 HC
  go_wp2_with fail
  refine Calls.mono H47.out ?_
  rintro e w2 ⟨rfl, h1, h2⟩
  have d0 := h1.c0
  have d1 := h1.c1
  have kS := And.intro d0 d1
  have H32 := hid (isAtEnd_any h1.drew)
  clear H47
  have q2 : ¬ 1099511627776 < x * u := Int.not_lt.2 q
  rw [decide_eq_false (show ¬ E = S.size by omega)] at H32
  have hbS : E < S.size := by omega
  have hg := HG.out E (by omega) hbS
  generalize zs.getD E 0 = z at *
  have H48 := hid (isOfWord_any z w2.drew.drew)
  rw [qw] at H48
  have hlt : (E : Int) < zs.length := by omega
  have hlb : (E : Int) ≤ 16777216 := by omega
  go_wp2_with fail
  refine wp_region_held_drew (S := (fun w' => w'.cell? ⟨k, 0, none⟩ = some (.string S) ∧ w'.cell? ⟨k, 1, none⟩ = some (.int .i64 (E : Int)))) (by kernel_rfl) kS (fun hSS => ?_)
  refine wpAnyH_take (i := 0) (oi := ({ dst := some 16, op := Op.move (Operand.tmp 5), type := 3, pos := _, after := _, guard := none } : Oper)) (v := ?_) rfl (by kernel_rfl) (by kernel_rfl) (by kernel_rfl) (fun _ _ _ h => h) (Or.inl ⟨by rfl, ?_⟩) hSS ?_
  rotate_left
  · intro w9 hSw
    (try dsimp only at hSw)
    (try go_split_ands)
    first | (go_simp; done) | (go_simp; with_reducible rfl)
  try simp only [Act.put, List.setIfInBounds_toArray, List.set_cons_zero, List.set_cons_succ]
  refine wpAnyH_take (i := 1) (oi := ({ dst := some 17, op := Op.binOp BinOp.gtr 3 (Operand.tmp 16) (Operand.const (Value.int IntKind.i64 1099511627776)) 3, type := 4, pos := _, after := _, guard := none } : Oper)) (v := .bool false) rfl (by kernel_rfl) (by kernel_rfl) (by kernel_rfl) (fun _ _ _ h => h) (Or.inl ⟨by rfl, ?_⟩) hSS ?_
  · intro w9 hSw
    (try dsimp only at hSw)
    (try go_split_ands)
    first | (go_simp; done) | (go_simp; simp [q2]; done)
  try simp only [Act.put, List.setIfInBounds_toArray, List.set_cons_zero, List.set_cons_succ]
  refine wpAnyH_take (i := 2) (oi := ({ dst := some 18, op := Op.move (Operand.tmp 17), type := 4, pos := _, after := _, guard := none } : Oper)) (v := ?_) rfl (by kernel_rfl) (by kernel_rfl) (by kernel_rfl) (fun _ _ _ h => h) (Or.inl ⟨by rfl, ?_⟩) hSS ?_
  rotate_left
  · intro w9 hSw
    (try dsimp only at hSw)
    (try go_split_ands)
    first | (go_simp; done) | (go_simp; with_reducible rfl)
  try simp only [Act.put, List.setIfInBounds_toArray, List.set_cons_zero, List.set_cons_succ]
  refine wpAnyH_take (i := 3) (oi := ({ dst := some 19, op := Op.move (Operand.tmp 0), type := 243, pos := _, after := _, guard := some (2, false) } : Oper)) (v := ?_) rfl (by kernel_rfl) (by kernel_rfl) (by kernel_rfl) (fun _ _ _ h => h) (Or.inl ⟨by rfl, ?_⟩) hSS ?_
  rotate_left
  · intro w9 hSw
    (try dsimp only at hSw)
    (try go_split_ands)
    first | (go_simp; done) | (go_simp; with_reducible rfl)
  try simp only [Act.put, List.setIfInBounds_toArray, List.set_cons_zero, List.set_cons_succ]
  refine wpAnyH_ready (rs := [4]) (by kernel_rfl) (by simp) (AllReadyH.cons (o := ({ dst := some 20, op := Op.call { callee := Callee.value (Operand.func 176), args := #[Operand.tmp 19], argTypes := #[243] }, type := 4, pos := _, after := _, guard := some (2, false) } : Oper)) rfl (fun K9 hK9 => ?_) AllReadyH.nil)
  go_simp
  go_at_call 176
  refine Calls.mono H32.out ?_
  rintro e w3 ⟨rfl, rfl⟩
  refine hK9.out _ _ kS (fun hSS => ?_)
  clear hK9 K9
  try simp only [Act.put, List.setIfInBounds_toArray, List.set_cons_zero, List.set_cons_succ]
  refine wpAnyH_take (i := 5) (oi := ({ dst := some 21, op := Op.unOp UnOp.not 4 (Operand.tmp 20), type := 4, pos := _, after := _, guard := some (2, false) } : Oper)) (v := ?_) rfl (by kernel_rfl) (by kernel_rfl) (by kernel_rfl) (fun _ _ _ h => h) (Or.inl ⟨by rfl, ?_⟩) hSS ?_
  rotate_left
  · intro w9 hSw
    (try dsimp only at hSw)
    (try go_split_ands)
    first | (go_simp; done) | (go_simp; with_reducible rfl)
  try simp only [Act.put, List.setIfInBounds_toArray, List.set_cons_zero, List.set_cons_succ]
  refine wpAnyH_take (i := 6) (oi := ({ dst := some 22, op := Op.move (Operand.tmp 21), type := 4, pos := _, after := _, guard := some (2, false) } : Oper)) (v := ?_) rfl (by kernel_rfl) (by kernel_rfl) (by kernel_rfl) (fun _ _ _ h => h) (Or.inl ⟨by rfl, ?_⟩) hSS ?_
  rotate_left
  · intro w9 hSw
    (try dsimp only at hSw)
    (try go_split_ands)
    first | (go_simp; done) | (go_simp; with_reducible rfl)
  try simp only [Act.put, List.setIfInBounds_toArray, List.set_cons_zero, List.set_cons_succ]
  refine wpAnyH_take (i := 7) (oi := ({ dst := some 23, op := Op.move (Operand.tmp 0), type := 243, pos := _, after := _, guard := some (6, true) } : Oper)) (v := ?_) rfl (by kernel_rfl) (by kernel_rfl) (by kernel_rfl) (fun _ _ _ h => h) (Or.inl ⟨by rfl, ?_⟩) hSS ?_
  rotate_left
  · intro w9 hSw
    (try dsimp only at hSw)
    (try go_split_ands)
    first | (go_simp; done) | (go_simp; with_reducible rfl)
  try simp only [Act.put, List.setIfInBounds_toArray, List.set_cons_zero, List.set_cons_succ]
  refine wpAnyH_take (i := 8) (oi := ({ dst := some 24, op := Op.nilCheck (Operand.tmp 23), type := 0, pos := _, after := _, guard := some (6, true) } : Oper)) (v := ?_) rfl (by kernel_rfl) (by kernel_rfl) (by kernel_rfl) (fun _ _ _ h => h) (Or.inl ⟨by rfl, ?_⟩) hSS ?_
  rotate_left
  · intro w9 hSw
    (try dsimp only at hSw)
    (try go_split_ands)
    first | (go_simp; done) | (go_simp; with_reducible rfl)
  try simp only [Act.put, List.setIfInBounds_toArray, List.set_cons_zero, List.set_cons_succ]
  refine wpAnyH_take (i := 9) (oi := ({ dst := some 25, op := Op.fieldAddr 245 (Operand.tmp 24) 0, type := 0, pos := _, after := _, guard := some (6, true) } : Oper)) (v := ?_) rfl (by kernel_rfl) (by kernel_rfl) (by kernel_rfl) (fun _ _ _ h => h) (Or.inl ⟨by rfl, ?_⟩) hSS ?_
  rotate_left
  · intro w9 hSw
    (try dsimp only at hSw)
    (try go_split_ands)
    first | (go_simp; done) | (go_simp; with_reducible rfl)
  try simp only [Act.put, List.setIfInBounds_toArray, List.set_cons_zero, List.set_cons_succ]
  refine wpAnyH_take (i := 10) (oi := ({ dst := some 26, op := Op.load 9 (Operand.tmp 25), type := 9, pos := _, after := _, guard := some (6, true) } : Oper)) (v := ?_) rfl (by kernel_rfl) (by kernel_rfl) (by kernel_rfl) (fun _ _ _ h => h) (Or.inl ⟨by rfl, ?_⟩) hSS ?_
  rotate_left
  · intro w9 hSw
    (try dsimp only at hSw)
    (try go_split_ands)
    first | (go_simp; done) | (go_simp; with_reducible rfl)
  try simp only [Act.put, List.setIfInBounds_toArray, List.set_cons_zero, List.set_cons_succ]
  refine wpAnyH_take (i := 11) (oi := ({ dst := some 27, op := Op.move (Operand.tmp 0), type := 243, pos := _, after := _, guard := some (6, true) } : Oper)) (v := ?_) rfl (by kernel_rfl) (by kernel_rfl) (by kernel_rfl) (fun _ _ _ h => h) (Or.inl ⟨by rfl, ?_⟩) hSS ?_
  rotate_left
  · intro w9 hSw
    (try dsimp only at hSw)
    (try go_split_ands)
    first | (go_simp; done) | (go_simp; with_reducible rfl)
  try simp only [Act.put, List.setIfInBounds_toArray, List.set_cons_zero, List.set_cons_succ]
  refine wpAnyH_take (i := 12) (oi := ({ dst := some 28, op := Op.nilCheck (Operand.tmp 27), type := 0, pos := _, after := _, guard := some (6, true) } : Oper)) (v := ?_) rfl (by kernel_rfl) (by kernel_rfl) (by kernel_rfl) (fun _ _ _ h => h) (Or.inl ⟨by rfl, ?_⟩) hSS ?_
  rotate_left
  · intro w9 hSw
    (try dsimp only at hSw)
    (try go_split_ands)
    first | (go_simp; done) | (go_simp; with_reducible rfl)
  try simp only [Act.put, List.setIfInBounds_toArray, List.set_cons_zero, List.set_cons_succ]
  refine wpAnyH_take (i := 13) (oi := ({ dst := some 29, op := Op.fieldAddr 245 (Operand.tmp 28) 1, type := 0, pos := _, after := _, guard := some (6, true) } : Oper)) (v := ?_) rfl (by kernel_rfl) (by kernel_rfl) (by kernel_rfl) (fun _ _ _ h => h) (Or.inl ⟨by rfl, ?_⟩) hSS ?_
  rotate_left
  · intro w9 hSw
    (try dsimp only at hSw)
    (try go_split_ands)
    first | (go_simp; done) | (go_simp; with_reducible rfl)
  try simp only [Act.put, List.setIfInBounds_toArray, List.set_cons_zero, List.set_cons_succ]
  refine wpAnyH_take (i := 14) (oi := ({ dst := some 30, op := Op.load 3 (Operand.tmp 29), type := 3, pos := _, after := _, guard := some (6, true) } : Oper)) (v := ?_) rfl (by kernel_rfl) (by kernel_rfl) (by kernel_rfl) (fun _ _ _ h => h) (Or.inl ⟨by rfl, ?_⟩) hSS ?_
  rotate_left
  · intro w9 hSw
    (try dsimp only at hSw)
    (try go_split_ands)
    first | (go_simp; done) | (go_simp; with_reducible rfl)
  try simp only [Act.put, List.setIfInBounds_toArray, List.set_cons_zero, List.set_cons_succ]
  refine wpAnyH_take (i := 15) (oi := ({ dst := some 31, op := Op.index 9 (Operand.tmp 26) (Operand.tmp 30), type := 5, pos := _, after := _, guard := some (6, true) } : Oper)) (v := .int .u8 z) rfl (by kernel_rfl) (by kernel_rfl) (by kernel_rfl) (fun _ _ _ h => h) (Or.inl ⟨by rfl, ?_⟩) hSS ?_
  · intro w9 hSw
    (try dsimp only at hSw)
    (try go_split_ands)
    first | (go_simp; done) | (go_simp; simp [hg, hbS]; done)
  try simp only [Act.put, List.setIfInBounds_toArray, List.set_cons_zero, List.set_cons_succ]
  refine wpAnyH_ready (rs := [16]) (by kernel_rfl) (by simp) (AllReadyH.cons (o := ({ dst := some 32, op := Op.call { callee := Callee.value (Operand.func 181), args := #[Operand.tmp 31], argTypes := #[5] }, type := 4, pos := _, after := _, guard := some (6, true) } : Oper)) rfl (fun K9 hK9 => ?_) AllReadyH.nil)
  go_simp
  go_at_call 181
  refine Calls.mono H48.out ?_
  rintro e w3 ⟨rfl, rfl⟩
  refine hK9.out _ _ kS (fun hSS => ?_)
  clear hK9 K9
  try simp only [Act.put, List.setIfInBounds_toArray, List.set_cons_zero, List.set_cons_succ]
  refine wpAnyH_take (i := 17) (oi := ({ dst := some 33, op := Op.pick (Operand.tmp 22) (Operand.tmp 32) (Operand.const (Value.bool false)), type := 4, pos := _, after := _, guard := some (2, false) } : Oper)) (v := ?_) rfl (by kernel_rfl) (by kernel_rfl) (by kernel_rfl) (fun _ _ _ h => h) (Or.inl ⟨by rfl, ?_⟩) hSS ?_
  rotate_left
  · intro w9 hSw
    (try dsimp only at hSw)
    (try go_split_ands)
    first | (go_simp; done) | (go_simp; with_reducible rfl)
  try simp only [Act.put, List.setIfInBounds_toArray, List.set_cons_zero, List.set_cons_succ]
  refine wpAnyH_take (i := 18) (oi := ({ dst := some 34, op := Op.pick (Operand.tmp 18) (Operand.const (Value.bool true)) (Operand.tmp 33), type := 4, pos := _, after := _, guard := none } : Oper)) (v := ?_) rfl (by kernel_rfl) (by kernel_rfl) (by kernel_rfl) (fun _ _ _ h => h) (Or.inl ⟨by rfl, ?_⟩) hSS ?_
  rotate_left
  · intro w9 hSw
    (try dsimp only at hSw)
    (try go_split_ands)
    first | (go_simp; done) | (go_simp; with_reducible rfl)
  try simp only [Act.put, List.setIfInBounds_toArray, List.set_cons_zero, List.set_cons_succ]
  refine wpAnyH_done (by kernel_rfl) ?_ _
  have HFF := hid (HF.out _ _ h1.drew.drew h2.drew.drew (put4_drew2 _ _ _ _ _ _))
  have rr := HT.out _ h2
  have t0 := rr.cell 0 _ rfl
  have t1 := rr.cell 1 _ rfl
  have t2 := rr.cell 2 _ rfl
  have t3 := rr.cell 3 _ rfl
  have tf := rr.fz
  clear h1 h2 HT H32 rr HF
  go_wp2_with fail
  exact bodyPost_ret (results_tok rfl _ _ R 3 sE (x * u) a (.int .i64 0) rfl rfl HFF.out.1) rfl HFF.out.2

theorem number1_any {w : World} {k : Nat} {zs : List Int} {a : Nat} (hb : Pl.isB zs) (hl : zs.length ≤ 16777216) (ha : a < zs.length) (h : Scn w k (strOfNums zs) a) :
    Calls Tryz.prog 171 #[.pointer (some ⟨k, 0, none⟩)] w (TokC k zs (if 1099511627776 < nbT zs a ∨ wdAt zs (nbE zs a) = true then (tk0 a, a, 182) else (⟨3, [], nbT zs a, a⟩, nbE zs a, 0)) w) := by
  have hE2 : nbE zs a ≤ zs.length := unE_le (pasA_le (Nat.le_of_lt ha))
  by_cases q : 1099511627776 < nbT zs a
  · rw [if_pos (.inl q)]
    exact number_big hb hl ha h q
  by_cases qe : nbE zs a = zs.length
  · rw [if_neg (by rw [wdAt_end (by omega)]; intro h; rcases h with h | h; exact q h; cases h)]
    exact number_end hb hl ha h q qe
  cases qw : isWd (zs.getD (nbE zs a) 0) with
  | true =>
    rw [if_pos (.inr (by rw [wdAt_lt (by omega)]; exact qw))]
    exact number_wd hb hl ha h q (by omega) qw
  | false =>
    rw [if_neg (by rw [wdAt_lt (by omega), qw]; intro h; rcases h with h | h; exact q h; cases h)]
    exact number_ok hb hl ha h q (by omega) qw

end Go.Proofs.YtbllaacbeagljaaGreatDoor
