/-
  The document's answer: Look: the walk.
-/
import Derived.Test.YtahaehjmnafhbaaPs5
namespace Go.Proofs.Ytahaehjmnafhbaa
open Go.RowKit

set_option maxRecDepth 100000 in
set_option maxHeartbeats 4000000 in
theorem rlook_walk (a : Option Addr) (n c : Nat) (w : World) (PO : Ending → World → Prop)
    (HN : Hid (∃ wA r0, wA = w.alloc (.cells #[.string ⟨#[]⟩, .int .i64 0, .string ⟨#[]⟩, .int .i64 0, .int .i64 0] 27) ∧ r0 = w.heap.size ∧ Calls Try.prog 13 #[.slice a n c] wA fun e w1 => ∃ S1 sz S2 sm ra q rc E, e = .returned (.tuple #[.agg #[.string S1, .int .i64 sz, .string S2, .int .i64 sm, .slice ra q rc], .int .i64 E]) ∧ q ≤ 4294967296 ∧ ∃ w2 sb, w2 = w1.alloc (.cells #[.string S1, .int .i64 sz, .string S2, .int .i64 sm, .slice ra q rc] 47) ∧ sb = w1.heap.size ∧ w2.heap[r0]? = some (.cells #[.string ⟨#[]⟩, .int .i64 0, .string ⟨#[]⟩, .int .i64 0, .int .i64 0] 27 (0, 0)) ∧ (E ≠ 0 → PO (.returned (.tuple #[.agg #[.string ⟨#[]⟩, .int .i64 0, .string ⟨#[]⟩, .int .i64 0, .int .i64 0], .int .i64 E])) (set5 w2 r0 (.string ⟨#[]⟩) (.int .i64 0) (.string ⟨#[]⟩) (.int .i64 0) (.int .i64 0))) ∧ (E = 0 → (w2.cell? ⟨sb, 0, none⟩ = some (.string S1) ∧ w2.cell? ⟨sb, 1, none⟩ = some (.int .i64 sz) ∧ w2.cell? ⟨sb, 2, none⟩ = some (.string S2) ∧ w2.cell? ⟨sb, 3, none⟩ = some (.int .i64 sm) ∧ w2.cell? ⟨sb, 4, none⟩ = some (.slice ra q rc)) ∧ ∃ w3 hb, w3 = w2.alloc (.cells #[.string S1, .int .i64 sz, .string S2, .int .i64 (q : Int), .int .i64 0] 27) ∧ hb = sb + 1 ∧ ∃ LI : Nat → Int → World → Prop, LI 0 0 w3 ∧ (∀ i K wt, LI i K wt → wt.cell? ⟨sb, 4, none⟩ = some (.slice ra q rc) ∧ (i < q → ∃ g k f t, ra = some ⟨g, 0, none⟩ ∧ wt.cell? ⟨g, i * 4, none⟩ = some (.int .i64 k) ∧ wt.cell? ⟨g, i * 4 + 1, none⟩ = some (.int .i64 f) ∧ wt.cell? ⟨g, i * 4 + 2, none⟩ = some (.int .i64 t) ∧ wt.cell? ⟨hb, 4, none⟩ = some (.int .i64 K) ∧ wt.frozen? ⟨hb, 4, none⟩ = false ∧ (0 ≤ K ∧ K ≤ 1125899906842624 ∧ 0 ≤ f ∧ f ≤ t ∧ t ≤ 262144) ∧ (k = 1 → ((wt.setCell ⟨hb, 4, none⟩ (.int .i64 (K + t - f))).drew.cell? ⟨sb, 4, none⟩ = some (.slice (some ⟨g, 0, none⟩) q rc) ∧ (wt.setCell ⟨hb, 4, none⟩ (.int .i64 (K + t - f))).drew.cell? ⟨g, i * 4 + 2, none⟩ = some (.int .i64 t) ∧ (wt.setCell ⟨hb, 4, none⟩ (.int .i64 (K + t - f))).drew.cell? ⟨g, i * 4 + 1, none⟩ = some (.int .i64 f)) ∧ LI (i + 1) (K + t - f) (wt.setCell ⟨hb, 4, none⟩ (.int .i64 (K + t - f))).drew) ∧ (k ≠ 1 → LI (i + 1) K wt)) ∧ (i = q → (wt.cell? ⟨hb, 0, none⟩ = some (.string S1) ∧ wt.cell? ⟨hb, 1, none⟩ = some (.int .i64 sz) ∧ wt.cell? ⟨hb, 2, none⟩ = some (.string S2) ∧ wt.cell? ⟨hb, 3, none⟩ = some (.int .i64 (q : Int)) ∧ wt.cell? ⟨hb, 4, none⟩ = some (.int .i64 K)) ∧ wt.heap[r0]? = some (.cells #[.string ⟨#[]⟩, .int .i64 0, .string ⟨#[]⟩, .int .i64 0, .int .i64 0] 27 (0, 0)) ∧ PO (.returned (.tuple #[.agg #[.string S1, .int .i64 sz, .string S2, .int .i64 (q : Int), .int .i64 K], .int .i64 0])) (set5 wt r0 (.string S1) (.int .i64 sz) (.string S2) (.int .i64 (q : Int)) (.int .i64 K))))))) :
    Calls Try.prog 7 #[.slice a n c] w PO := by
  obtain ⟨wA, r0, hwA, hr0, h13⟩ := HN
  have HA := hid hwA
  have HR := hid hr0
  have H13 := hid h13
  clear hwA hr0 h13
  go_enter Try.func7, Try.ntmps7
  go_wp2_with fail
  rw [← HA.out, ← HR.out]
  clear HA HR
  refine Calls.mono H13.out ?_
  rintro e w1 ⟨S1, sz, S2, sm, ra, q, rc, E, rfl, hq, w2, sb, hw2, hsb, hz, hf, ht⟩
  have HW2 := hid hw2
  have HSB := hid hsb
  have HZ := hid hz
  have HF := hid hf
  have HT := hid ht
  clear hw2 hsb hz hf ht H13
  by_cases hE : E = 0
  · obtain ⟨⟨c0, c1, c2, c3, c4⟩, w3, hb, hw3, hhb, LI, hL0, hLC⟩ := HT.out hE
    have HW3 := hid hw3
    have HHB := hid hhb
    have HL0 := hid hL0
    have HLC := hid hLC
    rw [HW2.out, HSB.out] at c0 c1 c2 c3 c4
    subst hE
    clear HF HT HZ hw3 hhb hL0 hLC
    go_wp2_with fail
    rw [← HW2.out, ← HSB.out, ← HW3.out, ← HHB.out]
    clear HW2 HSB HW3 HHB c0 c1 c2 c3 c4
    go_loopw [7] (fun iv wt => ∃ (i : Nat) (K : Int), i ≤ q ∧ iv = .int .i64 (i : Int) ∧ LI i K wt) (fun iv _ => q - (intOf iv).toNat)
    case atStart => exact ⟨0, 0, Nat.zero_le _, rfl, HL0.out⟩
    case round =>
      clear HL0
      obtain ⟨i, K, hi, rfl, hL⟩ := hrel
      obtain ⟨s4, hgo, hend⟩ := HLC.out i K wr hL
      have HGO := hid hgo
      have HEND := hid hend
      clear hgo hend hL
      by_cases hiq : i < q
      · obtain ⟨g, k, f, t, rfl, g0, g1, g2, k4, kf, ⟨b0, b1, b2, b3, b4⟩, hk1, hk2⟩ := HGO.out hiq
        have hiq' : (i : Int) < (q : Int) := by omega
        have HK1 := hid hk1
        have HK2 := hid hk2
        clear hk1 hk2 HGO HEND
        by_cases k1 : k = 1
        · obtain ⟨hkeep, hL1⟩ := HK1.out k1
          have NX := hid hL1
          subst k1
          clear HK1 HK2 hL1
          have x1 : IntKind.i64.wrap (K + t) = K + t := by rw [IntKind.wrap_i64]; omega
          have x2 : IntKind.i64.wrap (K + t - f) = K + t - f := by rw [IntKind.wrap_i64]; omega
          have kS := And.intro s4 (And.intro g2 g1)
          go_wp2_with fail
          refine wp_region_held_drew (S := fun w' => (w'.cell? ⟨sb, 4, none⟩ = some (.slice (some ⟨g, 0, none⟩) q rc) ∧ w'.cell? ⟨g, i * 4 + 2, none⟩ = some (.int .i64 t) ∧ w'.cell? ⟨g, i * 4 + 1, none⟩ = some (.int .i64 f))) (by kernel_rfl) kS (fun hSS => ?_)
          refine wpAnyH_take (i := 0) (oi := ({ dst := some 41, op := Op.fieldAddr 27 (Operand.tmp 6) 4, type := 0, pos := _, after := _, guard := none } : Oper)) (v := ?_) rfl (by kernel_rfl) (by kernel_rfl) (by kernel_rfl) (fun _ _ _ h => h) (Or.inl ⟨by rfl, ?_⟩) hSS ?_
          rotate_left
          · intro w9 hSw
            (try dsimp only at hSw)
            (try go_split_ands)
            first | (go_simp; done) | (go_simp; with_reducible rfl)
          try simp only [Act.put, List.setIfInBounds_toArray, List.set_cons_zero, List.set_cons_succ]
          refine wpAnyH_take (i := 2) (oi := ({ dst := some 43, op := Op.fieldAddr 47 (Operand.tmp 4) 4, type := 0, pos := _, after := _, guard := none } : Oper)) (v := ?_) rfl (by kernel_rfl) (by kernel_rfl) (by kernel_rfl) (fun _ _ _ h => h) (Or.inl ⟨by rfl, ?_⟩) hSS ?_
          rotate_left
          · intro w9 hSw
            (try dsimp only at hSw)
            (try go_split_ands)
            first | (go_simp; done) | (go_simp; with_reducible rfl)
          try simp only [Act.put, List.setIfInBounds_toArray, List.set_cons_zero, List.set_cons_succ]
          refine wpAnyH_take (i := 3) (oi := ({ dst := some 44, op := Op.load 45 (Operand.tmp 43), type := 45, pos := _, after := _, guard := none } : Oper)) (v := ?_) rfl (by kernel_rfl) (by kernel_rfl) (by kernel_rfl) (fun _ _ _ h => h) (Or.inl ⟨by rfl, ?_⟩) hSS ?_
          rotate_left
          · intro w9 hSw
            (try dsimp only at hSw)
            (try go_split_ands)
            first | (go_simp; done) | (go_simp; with_reducible rfl)
          try simp only [Act.put, List.setIfInBounds_toArray, List.set_cons_zero, List.set_cons_succ]
          refine wpAnyH_take (i := 4) (oi := ({ dst := some 45, op := Op.move (Operand.tmp 7), type := 3, pos := _, after := _, guard := none } : Oper)) (v := ?_) rfl (by kernel_rfl) (by kernel_rfl) (by kernel_rfl) (fun _ _ _ h => h) (Or.inl ⟨by rfl, ?_⟩) hSS ?_
          rotate_left
          · intro w9 hSw
            (try dsimp only at hSw)
            (try go_split_ands)
            first | (go_simp; done) | (go_simp; with_reducible rfl)
          try simp only [Act.put, List.setIfInBounds_toArray, List.set_cons_zero, List.set_cons_succ]
          refine wpAnyH_take (i := 5) (oi := ({ dst := some 46, op := Op.indexAddr 45 (Operand.tmp 44) (Operand.tmp 45), type := 0, pos := _, after := _, guard := none } : Oper)) (v := ?_) rfl (by kernel_rfl) (by kernel_rfl) (by kernel_rfl) (fun _ _ _ h => h) (Or.inl ⟨by rfl, ?_⟩) hSS ?_
          rotate_left
          · intro w9 hSw
            (try dsimp only at hSw)
            (try go_split_ands)
            first | (go_simp; done) | (go_simp; with_reducible rfl)
          try simp only [Act.put, List.setIfInBounds_toArray, List.set_cons_zero, List.set_cons_succ]
          refine wpAnyH_take (i := 6) (oi := ({ dst := some 47, op := Op.fieldAddr 51 (Operand.tmp 46) 2, type := 0, pos := _, after := _, guard := none } : Oper)) (v := ?_) rfl (by kernel_rfl) (by kernel_rfl) (by kernel_rfl) (fun _ _ _ h => h) (Or.inl ⟨by rfl, ?_⟩) hSS ?_
          rotate_left
          · intro w9 hSw
            (try dsimp only at hSw)
            (try go_split_ands)
            first | (go_simp; done) | (go_simp; with_reducible rfl)
          try simp only [Act.put, List.setIfInBounds_toArray, List.set_cons_zero, List.set_cons_succ]
          refine wpAnyH_take (i := 7) (oi := ({ dst := some 48, op := Op.load 3 (Operand.tmp 47), type := 3, pos := _, after := _, guard := none } : Oper)) (v := ?_) rfl (by kernel_rfl) (by kernel_rfl) (by kernel_rfl) (fun _ _ _ h => h) (Or.inl ⟨by rfl, ?_⟩) hSS ?_
          rotate_left
          · intro w9 hSw
            (try dsimp only at hSw)
            (try go_split_ands)
            first | (go_simp; done) | (go_simp; with_reducible rfl)
          try simp only [Act.put, List.setIfInBounds_toArray, List.set_cons_zero, List.set_cons_succ]
          refine wpAnyH_take (i := 9) (oi := ({ dst := some 50, op := Op.fieldAddr 47 (Operand.tmp 4) 4, type := 0, pos := _, after := _, guard := none } : Oper)) (v := ?_) rfl (by kernel_rfl) (by kernel_rfl) (by kernel_rfl) (fun _ _ _ h => h) (Or.inl ⟨by rfl, ?_⟩) hSS ?_
          rotate_left
          · intro w9 hSw
            (try dsimp only at hSw)
            (try go_split_ands)
            first | (go_simp; done) | (go_simp; with_reducible rfl)
          try simp only [Act.put, List.setIfInBounds_toArray, List.set_cons_zero, List.set_cons_succ]
          refine wpAnyH_take (i := 10) (oi := ({ dst := some 51, op := Op.load 45 (Operand.tmp 50), type := 45, pos := _, after := _, guard := none } : Oper)) (v := ?_) rfl (by kernel_rfl) (by kernel_rfl) (by kernel_rfl) (fun _ _ _ h => h) (Or.inl ⟨by rfl, ?_⟩) hSS ?_
          rotate_left
          · intro w9 hSw
            (try dsimp only at hSw)
            (try go_split_ands)
            first | (go_simp; done) | (go_simp; with_reducible rfl)
          try simp only [Act.put, List.setIfInBounds_toArray, List.set_cons_zero, List.set_cons_succ]
          refine wpAnyH_take (i := 11) (oi := ({ dst := some 52, op := Op.move (Operand.tmp 7), type := 3, pos := _, after := _, guard := none } : Oper)) (v := ?_) rfl (by kernel_rfl) (by kernel_rfl) (by kernel_rfl) (fun _ _ _ h => h) (Or.inl ⟨by rfl, ?_⟩) hSS ?_
          rotate_left
          · intro w9 hSw
            (try dsimp only at hSw)
            (try go_split_ands)
            first | (go_simp; done) | (go_simp; with_reducible rfl)
          try simp only [Act.put, List.setIfInBounds_toArray, List.set_cons_zero, List.set_cons_succ]
          refine wpAnyH_take (i := 12) (oi := ({ dst := some 53, op := Op.indexAddr 45 (Operand.tmp 51) (Operand.tmp 52), type := 0, pos := _, after := _, guard := none } : Oper)) (v := ?_) rfl (by kernel_rfl) (by kernel_rfl) (by kernel_rfl) (fun _ _ _ h => h) (Or.inl ⟨by rfl, ?_⟩) hSS ?_
          rotate_left
          · intro w9 hSw
            (try dsimp only at hSw)
            (try go_split_ands)
            first | (go_simp; done) | (go_simp; with_reducible rfl)
          try simp only [Act.put, List.setIfInBounds_toArray, List.set_cons_zero, List.set_cons_succ]
          refine wpAnyH_take (i := 13) (oi := ({ dst := some 54, op := Op.fieldAddr 51 (Operand.tmp 53) 1, type := 0, pos := _, after := _, guard := none } : Oper)) (v := ?_) rfl (by kernel_rfl) (by kernel_rfl) (by kernel_rfl) (fun _ _ _ h => h) (Or.inl ⟨by rfl, ?_⟩) hSS ?_
          rotate_left
          · intro w9 hSw
            (try dsimp only at hSw)
            (try go_split_ands)
            first | (go_simp; done) | (go_simp; with_reducible rfl)
          try simp only [Act.put, List.setIfInBounds_toArray, List.set_cons_zero, List.set_cons_succ]
          refine wpAnyH_take (i := 14) (oi := ({ dst := some 55, op := Op.load 3 (Operand.tmp 54), type := 3, pos := _, after := _, guard := none } : Oper)) (v := ?_) rfl (by kernel_rfl) (by kernel_rfl) (by kernel_rfl) (fun _ _ _ h => h) (Or.inl ⟨by rfl, ?_⟩) hSS ?_
          rotate_left
          · intro w9 hSw
            (try dsimp only at hSw)
            (try go_split_ands)
            first | (go_simp; done) | (go_simp; with_reducible rfl)
          try simp only [Act.put, List.setIfInBounds_toArray, List.set_cons_zero, List.set_cons_succ]
          refine wpAnyH_ready (rs := [1]) (by kernel_rfl) (by simp) (AllReadyH.cons (o := ({ dst := some 42, op := Op.load 3 (Operand.tmp 41), type := 3, pos := _, after := _, guard := none } : Oper)) rfl (fun K9 hK9 => ?_) AllReadyH.nil)
          go_simp
          refine hK9.out _ _ kS (fun hSS => ?_)
          clear hK9 K9
          try simp only [Act.put, List.setIfInBounds_toArray, List.set_cons_zero, List.set_cons_succ]
          refine wpAnyH_take (i := 8) (oi := ({ dst := some 49, op := Op.binOp BinOp.add 3 (Operand.tmp 42) (Operand.tmp 48) 3, type := 3, pos := _, after := _, guard := none } : Oper)) (v := .int .i64 (K + t)) rfl (by kernel_rfl) (by kernel_rfl) (by kernel_rfl) (fun _ _ _ h => h) (Or.inl ⟨by rfl, ?_⟩) hSS ?_
          · intro w9 hSw
            (try dsimp only at hSw)
            (try go_split_ands)
            first | (go_simp; done) | (go_simp; simp [x1]; done)
          try simp only [Act.put, List.setIfInBounds_toArray, List.set_cons_zero, List.set_cons_succ]
          refine wpAnyH_take (i := 15) (oi := ({ dst := some 56, op := Op.binOp BinOp.sub 3 (Operand.tmp 49) (Operand.tmp 55) 3, type := 3, pos := _, after := _, guard := none } : Oper)) (v := .int .i64 (K + t - f)) rfl (by kernel_rfl) (by kernel_rfl) (by kernel_rfl) (fun _ _ _ h => h) (Or.inl ⟨by rfl, ?_⟩) hSS ?_
          · intro w9 hSw
            (try dsimp only at hSw)
            (try go_split_ands)
            first | (go_simp; done) | (go_simp; simp [x2]; done)
          try simp only [Act.put, List.setIfInBounds_toArray, List.set_cons_zero, List.set_cons_succ]
          refine wpAnyH_take (i := 16) (oi := ({ dst := some 57, op := Op.fieldAddr 27 (Operand.tmp 6) 4, type := 0, pos := _, after := _, guard := none } : Oper)) (v := ?_) rfl (by kernel_rfl) (by kernel_rfl) (by kernel_rfl) (fun _ _ _ h => h) (Or.inl ⟨by rfl, ?_⟩) hSS ?_
          rotate_left
          · intro w9 hSw
            (try dsimp only at hSw)
            (try go_split_ands)
            first | (go_simp; done) | (go_simp; with_reducible rfl)
          try simp only [Act.put, List.setIfInBounds_toArray, List.set_cons_zero, List.set_cons_succ]
          refine wpAnyH_ready (rs := [17]) (by kernel_rfl) (by simp) (AllReadyH.cons (o := ({ dst := none, op := Op.store 3 (Operand.tmp 57) (Operand.tmp 56), type := 0, pos := _, after := _, guard := none } : Oper)) rfl (fun K9 hK9 => ?_) AllReadyH.nil)
          go_simp
          refine hK9.out _ _ hkeep (fun hSS => ?_)
          clear hK9 K9
          try simp only [Act.put, List.setIfInBounds_toArray, List.set_cons_zero, List.set_cons_succ]
          refine wpAnyH_done (by kernel_rfl) ?_ _
          clear hSS kS
          go_wp2
          go_roundw
          case rel => exact ⟨i + 1, K + t - f, by omega, by go_num, NX.out⟩
          case measure => simp [intOf]; omega
        · have NX := hid (HK2.out k1)
          have k2 : (k == 1) = false := by simpa using k1
          clear HK1 HK2 k1
          go_wp2
          go_roundw
          case rel => exact ⟨i + 1, K, by omega, by go_num, NX.out⟩
          case measure => simp [intOf]; omega
      · have hie : i = q := by omega
        have hiq' : ¬ (i : Int) < (q : Int) := by omega
        obtain ⟨⟨d0, d1, d2, d3, d4⟩, hz9, hP⟩ := HEND.out hie
        have FN := hid hP
        have FH := hid (set5_heap hz9 (.string S1) (.int .i64 sz) (.string S2) (.int .i64 (q : Int)) (.int .i64 K))
        have y0 := (Zh.of hz9).c0
        have y1 := (Zh.of hz9).c1
        have y2 := (Zh.of hz9).c2
        have y3 := (Zh.of hz9).c3
        have y4 := (Zh.of hz9).c4
        have yf := (Zh.of hz9).fz
        clear HGO HEND hz9 hP
        go_wp2_with fail
        exact bodyPost_ret (results_row_tmp rfl _ _ r0 27 #[.string S1, .int .i64 sz, .string S2, .int .i64 (q : Int), .int .i64 K] (0, 0) _ (.int .i64 0) rfl rfl FH.out Try.underlying27 rfl (by kernel_rfl)) rfl FN.out
  · have FN := hid (HF.out hE)
    have FH := hid (set5_heap HZ.out (.string ⟨#[]⟩) (.int .i64 0) (.string ⟨#[]⟩) (.int .i64 0) (.int .i64 0))
    have y0 := (Zh.of HZ.out).c0
    have y1 := (Zh.of HZ.out).c1
    have y2 := (Zh.of HZ.out).c2
    have y3 := (Zh.of HZ.out).c3
    have y4 := (Zh.of HZ.out).c4
    have yf := (Zh.of HZ.out).fz
    rw [HW2.out] at y0 y1 y2 y3 y4 yf
    have hE2 : (E != 0) = true := by simpa using hE
    clear HF HT hE
    go_wp2_with fail
    rw [← HW2.out]
    exact bodyPost_ret (results_row_tmp rfl _ _ r0 27 #[.string ⟨#[]⟩, .int .i64 0, .string ⟨#[]⟩, .int .i64 0, .int .i64 0] (0, 0) _ (.int .i64 E) rfl rfl FH.out Try.underlying27 rfl (by kernel_rfl)) rfl FN.out

end Go.Proofs.Ytahaehjmnafhbaa
