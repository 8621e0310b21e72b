import Derived.Test.YthkkdmblkalknaaGreatDoorA08
import Derived.Test.YthkkdmblkalknaaGreatDoorA06
/-
  op: operation by its contract.
-/
namespace Go.Proofs.YthkkdmblkalknaaGreatDoor
open Go.RowKit

theorem Ow.of_own {B : Nat} {w : World} {v : Value} {n : Nat} {xs : List Int} (h : w.ownsRow B 5 1 v n (xs.map (Value.int .u8))) (hx : xs.length = n) : Ow B w v xs := by
  unfold Ow
  rw [hx]
  exact h
theorem Ow.form {B : Nat} {w : World} {v : Value} {zs : List Int} (h : Ow B w v zs) : ∃ a c, v = .slice a zs.length c := by
  rcases h.2 with ⟨rfl, q⟩ | ⟨g', cap, cur, rfl, _⟩
  · exact ⟨none, 0, by rw [q]⟩
  · exact ⟨_, _, rfl⟩
theorem Clone_any {k : Nat} {w : World} {v : Value} {zs : List Int} (h : RdC k w v zs) (hl : zs.length ≤ 16777216) : Calls Tryz.prog 75 #[v] w fun e w' => ∃ v', e = .returned v' ∧ Ow w.heap.size w' v' zs ∧ Below w.heap.size w w' := by
  obtain ⟨hB, ⟨rfl, rfl⟩ | ⟨b, off, c, rfl, h3, h4, h5⟩⟩ := h
  · refine (Tryz.bytes_Clone_nil 0 0 w).mono ?_
    rintro e w' ⟨rfl, rfl⟩
    exact ⟨_, rfl, Ow.nil _ _, Below.refl _ _⟩
  · refine (Tryz.bytes_Clone_at ⟨b, off, none⟩ zs.length c zs w rfl (by omega) (fun i hi => by rw [Addr.add_lit]; exact h5 i hi)).mono ?_
    rintro e w' ⟨v', rfl, h1, _, h2⟩
    exact ⟨v', rfl, Ow.of_own h1 rfl, h2⟩
/-- the calls that take a field: the taker behind them, and what is stored -/
theorem OpI.text {R O D k m : Nat} {w wr : World} {q : PO × St} {v : Value} (h : OpI R O D k m w wr q v) : Calls Tryz.prog 74 #[.pointer (some ⟨k, 0, none⟩)] wr fun e w4 => e = .returned (.string (strOfNums (txG pt q.2).1)) ∧ OpI R O D k m w w4 (q.1, (txG pt q.2).2) v := by
  refine (text_any h.ok.s h.tk).mono ?_
  rintro e w4 ⟨rfl, ht, hb⟩
  have hl := tx_len h.ok.b
  exact ⟨rfl, h.call hb ht (by have := h.ok.s; omega) hl.2.2⟩
theorem OpI.number {R O D k m : Nat} {w wr : World} {q : PO × St} {v : Value} (h : OpI R O D k m w wr q v) : Calls Tryz.prog 73 #[.pointer (some ⟨k, 0, none⟩), .int .i64 4] wr fun e w4 => e = .returned (.int .i64 (nbG pt q.2 4).1) ∧ OpI R O D k m w w4 (q.1, (nbG pt q.2 4).2) v := by
  refine (number_any 4 (.inr rfl) h.ok.s h.tk).mono ?_
  rintro e w4 ⟨rfl, ht, hb⟩
  have hl := nbG_bd (m := 4) h.ok.b (by decide)
  exact ⟨rfl, h.call hb ht (by have := h.ok.s; omega) hl.2.2.2⟩
set_option maxRecDepth 100000 in
theorem OpI.data {R O D k m : Nat} {w wr : World} {q : PO × St} {v : Value} (h : OpI R O D k m w wr q v) : Calls Tryz.prog 76 #[.pointer (some ⟨k, 0, none⟩), .int .i64 512] wr fun e w4 => ∃ pv, e = .returned pv ∧ Calls Tryz.prog 75 #[pv] w4 fun e w5 => ∃ v', e = .returned v' ∧ OpI R O D k m w w5 (q.1, (pt q.2 512).2) v ∧ Ow w.heap.size w5 v' (pt q.2 512).1 ∧ some O ≠ v'.ownBlock ∧ some R ≠ v'.ownBlock ∧ some D ≠ v'.ownBlock := by
  have hp := pt_len (s := q.2) (m := 512)
  have hq := isB_pt h.ok.b 512
  refine (part_any 512 (by decide) (by decide) h.ok.s h.tk).mono ?_
  rintro e w4 ⟨pv, rfl, hv, ht, hb, _⟩
  have h4 := h.call hb ht (by have := h.ok.s; omega) hq.2
  refine ⟨pv, rfl, (Clone_any hv (by have := hp.1; omega)).mono ?_⟩
  rintro e w5 ⟨v', rfl, ho, b5⟩
  have h5 := h4.call (But.of_below b5) (h4.tk.but (But.of_below (X := fun _ => False) b5) (fun _ _ h => h)) h4.ok.s h4.ok.b
  have k1 := h4.h2
  have k2 := h4.h3
  have k3 := h4.h4
  exact ⟨v', rfl, h5, ho.mono (Nat.le_trans h4.bt.size (Nat.le_refl _)), fun e => by have := ho.base _ e.symm; omega, fun e => by have := ho.base _ e.symm; omega, fun e => by have := ho.base _ e.symm; omega⟩

theorem stepW_0 {x : ByteArray} (q : PO × St)  (h0 : x = cNM) : stepW q x = ({ q.1 with nm := strOfNums (txG pt q.2).1 }, (txG pt q.2).2) := by unfold stepW; rw [if_pos h0]
theorem stepW_1 {x : ByteArray} (q : PO × St) (h0 : ¬ x = cNM) (h1 : x = cOT) : stepW q x = ({ q.1 with ot := strOfNums (txG pt q.2).1 }, (txG pt q.2).2) := by unfold stepW; rw [if_neg h0, if_pos h1]
theorem stepW_2 {x : ByteArray} (q : PO × St) (h0 : ¬ x = cNM) (h1 : ¬ x = cOT) (h2 : x = cFR) : stepW q x = ({ q.1 with fr := (nbG pt q.2 4).1 }, (nbG pt q.2 4).2) := by unfold stepW; rw [if_neg h0, if_neg h1, if_pos h2]
theorem stepW_3 {x : ByteArray} (q : PO × St) (h0 : ¬ x = cNM) (h1 : ¬ x = cOT) (h2 : ¬ x = cFR) (h3 : x = cTO) : stepW q x = ({ q.1 with to := (nbG pt q.2 4).1 }, (nbG pt q.2 4).2) := by unfold stepW; rw [if_neg h0, if_neg h1, if_neg h2, if_pos h3]
theorem stepW_4 {x : ByteArray} (q : PO × St) (h0 : ¬ x = cNM) (h1 : ¬ x = cOT) (h2 : ¬ x = cFR) (h3 : ¬ x = cTO) (h4 : x = cDA) : stepW q x = ({ q.1 with da := (pt q.2 512).1 }, (pt q.2 512).2) := by unfold stepW; rw [if_neg h0, if_neg h1, if_neg h2, if_neg h3, if_pos h4]
theorem stepW_5 {x : ByteArray} (q : PO × St) (h0 : ¬ x = cNM) (h1 : ¬ x = cOT) (h2 : ¬ x = cFR) (h3 : ¬ x = cTO) (h4 : ¬ x = cDA) : stepW q x = q := by unfold stepW; rw [if_neg h0, if_neg h1, if_neg h2, if_neg h3, if_neg h4]

set_option maxRecDepth 100000 in
set_option maxHeartbeats 16000000 in
theorem operation_yes {w : World} {k : Nat} {s : St} (hG : GT w) (h9 : 9 ≤ k) (hT : TkS 93 w k s) (hs : s.1.length ≤ 16777216) (m : Nat) (hK : (nbG pt s 1).1 = m) (m1 : 1 ≤ m) (m2 : m ≤ 11) :
    Calls Tryz.prog 43 #[.pointer (some ⟨k, 0, none⟩)] w fun e w' => ∃ v, e = .returned (.tuple #[.agg #[.int .i64 (opP s).1.1.k, .string (opP s).1.1.nm, .string (opP s).1.1.ot, .int .i64 (opP s).1.1.fr, .int .i64 (opP s).1.1.to, v], .int .i64 (opP s).1.2]) ∧ OpE w k (opP s).1.1 (opP s).2 v w' := by
  have hkl := hT.lt
  have hBs : Pl.isB s.1 := by obtain ⟨_, _, q⟩ := hT; exact q.1
  obtain ⟨W0, hW0⟩ : ∃ W0, W0 = w.alloc (.cells #[.int .i64 0, .string cE, .string cE, .int .i64 0, .int .i64 0, .slice none 0 0] 29) := ⟨_, rfl⟩
  have b0 : Below w.heap.size w W0 := by rw [hW0]; exact below1 _ _
  have z0 : W0.heap.size = w.heap.size + 1 := by rw [hW0]; simp
  have r0 : OpB W0 w.heap.size PO0 (.slice none 0 0) := by rw [hW0]; exact heap_new _ _
  obtain ⟨e4, n4⟩ := nw_idx m1 m2
  have HA : Hid (Calls Tryz.prog 73 #[.pointer (some ⟨k, 0, none⟩), .int .i64 1] W0 fun e w1 => e = .returned (.int .i64 (m : Int)) ∧ ∀ W1, W1 = w1.alloc (.cells #[.int .i64 (m : Int), .string cE, .string cE, .int .i64 0, .int .i64 0, .slice none 0 0] 29) →
      Calls Tryz.prog 32 #[.int .i64 (m : Int)] W1 fun e w2 => e = .returned (.tuple #[.agg #[.string (kw m), .string (tl m).1, .string (tl m).2.1, .string (tl m).2.2], .bool true]) ∧ ∀ W2, W2 = w2.alloc (.cells #[.string (kw m), .string (tl m).1, .string (tl m).2.1, .string (tl m).2.2] 76) →
      Calls Tryz.prog 68 #[.agg #[.string (kw m), .string (tl m).1, .string (tl m).2.1, .string (tl m).2.2]] W2 fun e w4 => e = .returned (.slice (some ⟨W2.heap.size, 0, none⟩) (nw m) 4) ∧ OpI w.heap.size w1.heap.size W2.heap.size k m w w4 (kind1 s) (.slice none 0 0)) := by
    refine (number_any 1 (.inl rfl) hs (hT.but (But.of_below (X := fun _ => False) b0) (fun _ _ h => h))).mono ?_
    rintro e w1 ⟨rfl, hT1, hb1⟩
    rw [hK]
    refine ⟨rfl, fun W1 hW1 => ?_⟩
    have b1 : Below w1.heap.size w1 W1 := by rw [hW1]; exact below1 _ _
    have hG1 : GT W1 := ((hG.next b0).but hb1 (fun x hx => by omega)).next b1
    refine (formOf_yes m m1 m2 W1 hG1).mono ?_
    rintro e w2 ⟨rfl, b2⟩
    refine ⟨rfl, fun W2 hW2 => ?_⟩
    have b3 : Below w2.heap.size w2 W2 := by rw [hW2]; exact below1 _ _
    refine (words_any (kw m) (tl m).1 (tl m).2.1 (tl m).2.2 W2 _ rfl (nw m) e4 n4).mono ?_
    rintro e w4 ⟨rfl, hw4⟩
    have b4 : Below W2.heap.size W2 w4 := by rw [hw4]; exact below1 _ _
    have b5 : Below W1.heap.size W1 w4 := b2.trans (((b3.trans (b4.mono b3.size))).mono b2.size)
    have b6 : Below w1.heap.size w1 w4 := b1.trans (b5.mono b1.size)
    have o1 : OpB W1 w1.heap.size (kind1 s).1 (.slice none 0 0) := by rw [hW1]; unfold kind1; rw [hK]; exact heap_new _ _
    have r1 : OpB w1 w.heap.size PO0 (.slice none 0 0) := r0.keep (hb1.block _ r0.lt (by omega))
    have zz := hb1.size
    have zo := o1.lt
    have z2 := b2.size
    have z3 := b3.size
    have nb := nbG_bd (m := 1) hBs (by decide)
    refine ⟨rfl, ⟨o1.keep (b5.block _ o1.lt), r1.keep (b6.block _ r1.lt), by rw [hw4]; exact heap_new _ _, hT1.but (But.of_below (X := fun _ => False) b6) (fun _ _ h => h), Ow.nil _ _, (But.of_below b0).trans (hb1.trans (But.of_below b6)), ⟨⟨?_, ?_, (show (-9223372036854775808 : Int) ≤ 0 by decide), (show (0 : Int) ≤ 9223372036854775807 by decide), (show (-9223372036854775808 : Int) ≤ 0 by decide), (show (0 : Int) ≤ 9223372036854775807 by decide), Nat.zero_le _, Nat.zero_le _, Nat.zero_le _⟩, ?_, nb.2.2.2⟩, hkl, Nat.le_refl _, by omega, by omega, by rw [hw4]; simp, by simp [Value.ownBlock], by simp [Value.ownBlock], by simp [Value.ownBlock]⟩⟩
    · show _ ≤ (nbG pt s 1).1; omega
    · show (nbG pt s 1).1 ≤ _; omega
    · show (nbG pt s 1).2.1.length ≤ _; omega
  have HP : Hid (opP s = if (decW ((frm m).take (nw m)) (kind1 s)).2.2 = true then ((PO0, 161), (decW ((frm m).take (nw m)) (kind1 s)).2) else if (decW ((frm m).take (nw m)) (kind1 s)).1.ck = 0 then (((decW ((frm m).take (nw m)) (kind1 s)).1, 0), (decW ((frm m).take (nw m)) (kind1 s)).2) else ((PO0, 160), (decW ((frm m).take (nw m)) (kind1 s)).2)) := by
    show opP s = _
    unfold opP
    rw [if_neg (by omega)]
    unfold dec1
    rw [hK]
    exact rfl
  have HW0 := hid hW0
  have HKL := hid hkl
  have HG := hid hG
  have H9 := hid h9
  have hnw : (nw m : Int) ≤ 4 := by omega
  clear hT hs hK hW0 b0 z0 r0 hkl e4 hBs hG h9
  generalize opP s = X at *
  generalize kind1 s = q0 at *
  obtain ⟨R, hR⟩ : ∃ R, R = w.heap.size := ⟨_, rfl⟩
  rw [← hR] at HA
  have HR := hid hR
  clear hR
  go_enter Tryz.func43, Tryz.ntmps43
  go_wp2_with fail
  rw [← HW0.out]
  rw [← HR.out]
  refine HA.out.mono ?_
  rintro e w1 ⟨rfl, hB⟩
  have HB := hid (hB _ rfl)
  clear hB HA HW0
  go_wp2_with fail
  refine HB.out.mono ?_
  rintro e w2 ⟨rfl, hC⟩
  have HC := hid (hC _ rfl)
  clear hC HB
  go_wp2_with fail
  refine HC.out.mono ?_
  rintro e w4 ⟨rfl, hI⟩
  clear HC
  generalize w1.heap.size = O at *
  generalize (w2.alloc (.cells #[.string (kw m), .string (tl m).1, .string (tl m).2.1, .string (tl m).2.2] 76)).heap.size = D at *
  have HI0 := hid hI
  clear hI
  go_wp2_with fail
  go_loopw [24] (fun i wr => ∃ (r : Nat), r ≤ nw m ∧ i = .int .i64 (r : Int) ∧ ∃ v, OpI R O D k m w wr (decW ((frm m).take r) q0) v) (fun i _ => nw m - (intOf i).toNat)
  case atStart => exact ⟨0, Nat.zero_le _, rfl, _, HI0.out⟩
  case round =>
    obtain ⟨r, hr, rfl, v, hI⟩ := hrel
    clear HI0
    by_cases hlt : r < nw m
    · have hc : wr.cell? ⟨D, r, none⟩ = some (.string ((frm m).getD r ByteArray.empty)) := by
        have h := hI.db
        simp only [World.cell?, h]
        match r, (show r < 4 by omega) with
        | 0, _ => rfl
        | 1, _ => rfl
        | 2, _ => rfl
        | 3, _ => rfl
      have HNX := hid (decW_next (frm m) q0 r (by show r < 4; omega))
      generalize hx : (frm m).getD r ByteArray.empty = x at *
      clear hx
      generalize decW ((frm m).take r) q0 = q at *
      have HI := hid hI
      clear hI
      by_cases h0 : x = cNM
      · have q0 : (x.toList == ([78, 65, 77, 69] : List UInt8)) = true := by rw [beq_lit]; simp [h0]
        have H0 := hid h0
        clear h0
        have HC := hid HI.out.text
        go_wp2_with fail
        refine HC.out.mono ?_
        rintro e w5 ⟨rfl, hJ⟩
        have cO := hJ.ob.cell 1 _ rfl
        have fO := hJ.ob.fz 1
        have HOK := hid (HI.out.ok.step x)
        rw [stepW_0 q H0.out] at HOK
        have HF := hid (hJ.put 1 (.string (strOfNums (txG pt q.2).1)) (o' := { q.1 with nm := strOfNums (txG pt q.2).1 }) (v' := v) rfl HOK.out.ok hJ.ow hJ.nO hJ.nR hJ.nD)
        clear hJ HC HOK HI
        go_wp2
        go_roundw
        case rel => exact ⟨r + 1, by omega, by go_num, _, by rw [HNX.out, stepW_0 q H0.out]; exact HF.out⟩
        case measure => simp [intOf]; omega
      · have q0 : (x.toList == ([78, 65, 77, 69] : List UInt8)) = false := by rw [beq_lit]; simp [h0]
        have H0 := hid h0
        clear h0
        by_cases h1 : x = cOT
        · have q1 : (x.toList == ([79, 84, 72, 69, 82] : List UInt8)) = true := by rw [beq_lit]; simp [h1]
          have H1 := hid h1
          clear h1
          have HC := hid HI.out.text
          go_wp2_with fail
          refine HC.out.mono ?_
          rintro e w5 ⟨rfl, hJ⟩
          have cO := hJ.ob.cell 2 _ rfl
          have fO := hJ.ob.fz 2
          have HOK := hid (HI.out.ok.step x)
          rw [stepW_1 q H0.out H1.out] at HOK
          have HF := hid (hJ.put 2 (.string (strOfNums (txG pt q.2).1)) (o' := { q.1 with ot := strOfNums (txG pt q.2).1 }) (v' := v) rfl HOK.out.ok hJ.ow hJ.nO hJ.nR hJ.nD)
          clear hJ HC HOK HI
          go_wp2
          go_roundw
          case rel => exact ⟨r + 1, by omega, by go_num, _, by rw [HNX.out, stepW_1 q H0.out H1.out]; exact HF.out⟩
          case measure => simp [intOf]; omega
        · have q1 : (x.toList == ([79, 84, 72, 69, 82] : List UInt8)) = false := by rw [beq_lit]; simp [h1]
          have H1 := hid h1
          clear h1
          by_cases h2 : x = cFR
          · have q2 : (x.toList == ([70, 82, 79, 77] : List UInt8)) = true := by rw [beq_lit]; simp [h2]
            have H2 := hid h2
            clear h2
            have HC := hid HI.out.number
            go_wp2_with fail
            refine HC.out.mono ?_
            rintro e w5 ⟨rfl, hJ⟩
            have cO := hJ.ob.cell 3 _ rfl
            have fO := hJ.ob.fz 3
            have HOK := hid (HI.out.ok.step x)
            rw [stepW_2 q H0.out H1.out H2.out] at HOK
            have HF := hid (hJ.put 3 (.int .i64 (nbG pt q.2 4).1) (o' := { q.1 with fr := (nbG pt q.2 4).1 }) (v' := v) rfl HOK.out.ok hJ.ow hJ.nO hJ.nR hJ.nD)
            clear hJ HC HOK HI
            go_wp2
            go_roundw
            case rel => exact ⟨r + 1, by omega, by go_num, _, by rw [HNX.out, stepW_2 q H0.out H1.out H2.out]; exact HF.out⟩
            case measure => simp [intOf]; omega
          · have q2 : (x.toList == ([70, 82, 79, 77] : List UInt8)) = false := by rw [beq_lit]; simp [h2]
            have H2 := hid h2
            clear h2
            by_cases h3 : x = cTO
            · have q3 : (x.toList == ([84, 79] : List UInt8)) = true := by rw [beq_lit]; simp [h3]
              have H3 := hid h3
              clear h3
              have HC := hid HI.out.number
              go_wp2_with fail
              refine HC.out.mono ?_
              rintro e w5 ⟨rfl, hJ⟩
              have cO := hJ.ob.cell 4 _ rfl
              have fO := hJ.ob.fz 4
              have HOK := hid (HI.out.ok.step x)
              rw [stepW_3 q H0.out H1.out H2.out H3.out] at HOK
              have HF := hid (hJ.put 4 (.int .i64 (nbG pt q.2 4).1) (o' := { q.1 with to := (nbG pt q.2 4).1 }) (v' := v) rfl HOK.out.ok hJ.ow hJ.nO hJ.nR hJ.nD)
              clear hJ HC HOK HI
              go_wp2
              go_roundw
              case rel => exact ⟨r + 1, by omega, by go_num, _, by rw [HNX.out, stepW_3 q H0.out H1.out H2.out H3.out]; exact HF.out⟩
              case measure => simp [intOf]; omega
            · have q3 : (x.toList == ([84, 79] : List UInt8)) = false := by rw [beq_lit]; simp [h3]
              have H3 := hid h3
              clear h3
              by_cases h4 : x = cDA
              · have q4 : (x.toList == ([68, 65, 84, 65] : List UInt8)) = true := by rw [beq_lit]; simp [h4]
                have H4 := hid h4
                clear h4
                have HC := hid HI.out.data
                go_wp2_with fail
                refine HC.out.mono ?_
                rintro e w5 ⟨pv, rfl, hJ0⟩
                have H75 := hid hJ0
                clear hJ0 HC
                go_wp2_with fail
                refine H75.out.mono ?_
                rintro e w6 ⟨v', rfl, hJ, how, n1, n2, n3⟩
                have cO := hJ.ob.cell 5 _ rfl
                have fO := hJ.ob.fz 5
                have HOK := hid (HI.out.ok.step x)
                rw [stepW_4 q H0.out H1.out H2.out H3.out H4.out] at HOK
                have HF := hid (hJ.put 5 v' (o' := { q.1 with da := (pt q.2 512).1 }) (v' := v') rfl HOK.out.ok how n1 n2 n3)
                obtain ⟨va, vc, rfl, _⟩ := how.rd (isB_pt HI.out.ok.b 512).1
                clear hJ H75 HOK HI how n1 n2 n3
                go_wp2
                go_roundw
                case rel => exact ⟨r + 1, by omega, by go_num, _, by rw [HNX.out, stepW_4 q H0.out H1.out H2.out H3.out H4.out]; exact HF.out⟩
                case measure => simp [intOf]; omega
              · have q4 : (x.toList == ([68, 65, 84, 65] : List UInt8)) = false := by rw [beq_lit]; simp [h4]
                have H4 := hid h4
                clear h4
                have HF := HI
                go_wp2
                go_roundw
                case rel => exact ⟨r + 1, by omega, by go_num, _, by rw [HNX.out, stepW_5 q H0.out H1.out H2.out H3.out H4.out]; exact HF.out⟩
                case measure => simp [intOf]; omega
    · obtain rfl : r = nw m := by omega
      generalize hq : decW ((frm m).take (nw m)) q0 = q at *
      clear hq
      obtain ⟨tv, ht, _⟩ := hI.tk
      have t1 := ht.c1
      have HI := hid hI
      have HE : Hid (OpE w k q.1 q.2 v wr) := ⟨hI.ow, hI.tk, hI.bt⟩
      have HE0 : Hid (OpE w k PO0 q.2 (.slice none 0 0) wr) := ⟨Ow.nil _ _, hI.tk, hI.bt⟩
      have hr := hI.rb
      have c0 := hr.cell 0 _ rfl
      have c1 := hr.cell 1 _ rfl
      have c2 := hr.cell 2 _ rfl
      have c3 := hr.cell 3 _ rfl
      have c4 := hr.cell 4 _ rfl
      have c5 := hr.cell 5 _ rfl
      have z0 := hr.fz 0
      have z1 := hr.fz 1
      have z2 := hr.fz 2
      have z3 := hr.fz 3
      have z4 := hr.fz 4
      have z5 := hr.fz 5
      clear hI ht hr
      by_cases hsh : q.2.2 = true
      · rw [hsh] at t1
        have e : X = ((PO0, 161), q.2) := by rw [HP.out, if_pos hsh]
        subst e
        clear HP hsh
        go_wp2_with fail
        exact bodyPost_ret (results_op rfl _ _ R PO0 (.slice none 0 0) (.int .i64 161) rfl rfl (HI.out.rb.put6 PO0 (.slice none 0 0))) rfl ⟨_, rfl, HE0.out.put6 HKL.out (Nat.le_of_eq HR.out.symm) (by simp [Value.ownBlock]) PO0 (.slice none 0 0)⟩
      · have hsf : q.2.2 = false := by simpa using hsh
        rw [hsf] at t1
        have HSH := hid hsh
        obtain ⟨va, vc, rfl⟩ := HI.out.ow.form
        have hok := HI.out.ok.ok
        have HGr := hid (HG.out.but HI.out.bt (fun x hx => by have := H9.out; omega))
        have HCk := hid (Check_any q.1.k q.1.nm q.1.ot q.1.fr q.1.to va q.1.da.length vc wr HGr.out hok.nm hok.ot hok.f0 hok.t1)
        change Hid (Calls Tryz.prog 10 _ wr fun e w' => e = .returned (.int .i64 q.1.ck) ∧ _) at HCk
        have ho := HI.out.ob
        have d0 := ho.cell 0 _ rfl
        have d1 := ho.cell 1 _ rfl
        have d2 := ho.cell 2 _ rfl
        have d3 := ho.cell 3 _ rfl
        have d4 := ho.cell 4 _ rfl
        have d5 := ho.cell 5 _ rfl
        clear ho hok hsh hsf c0 c1 c2 c3 c4 c5 z0 z1 z2 z3 z4 z5
        have HX : Hid (X = if q.1.ck = 0 then ((q.1, 0), q.2) else ((PO0, 160), q.2)) := by
          show X = _
          rw [HP.out, if_neg HSH.out]
        clear HP HSH
        generalize hE : q.1.ck = E at *
        clear hE
        go_wp2_with fail
        refine HCk.out.mono ?_
        rintro e w5 ⟨rfl, b5⟩
        have hI5 := HI.out.call (But.of_below b5) (HI.out.tk.but (But.of_below (X := fun _ => False) b5) (fun _ _ h => h)) HI.out.ok.s HI.out.ok.b
        have HI5 := hid hI5
        have hr := hI5.rb
        have ho := hI5.ob
        have c0 := hr.cell 0 _ rfl
        have c1 := hr.cell 1 _ rfl
        have c2 := hr.cell 2 _ rfl
        have c3 := hr.cell 3 _ rfl
        have c4 := hr.cell 4 _ rfl
        have c5 := hr.cell 5 _ rfl
        have z0 := hr.fz 0
        have z1 := hr.fz 1
        have z2 := hr.fz 2
        have z3 := hr.fz 3
        have z4 := hr.fz 4
        have z5 := hr.fz 5
        have e0 := ho.cell 0 _ rfl
        have e1 := ho.cell 1 _ rfl
        have e2 := ho.cell 2 _ rfl
        have e3 := ho.cell 3 _ rfl
        have e4 := ho.cell 4 _ rfl
        have e5 := ho.cell 5 _ rfl
        clear hI5 hr ho b5 d0 d1 d2 d3 d4 d5 HCk HI HE HE0 HGr t1
        by_cases hE0 : E = 0
        · have e : X = ((q.1, 0), q.2) := by rw [HX.out, if_pos hE0]
          subst e
          subst hE0
          clear HX
          go_wp2_with fail
          exact bodyPost_ret (results_op rfl _ _ R q.1 _ (.int .i64 0) rfl rfl (HI5.out.rb.put6 q.1 _)) rfl ⟨_, rfl, OpE.put6 ⟨HI5.out.ow, HI5.out.tk, HI5.out.bt⟩ HKL.out (Nat.le_of_eq HR.out.symm) HI5.out.nR q.1 _⟩
        · have e : X = ((PO0, 160), q.2) := by rw [HX.out, if_neg hE0]
          subst e
          have qE : (E != 0) = true := by simpa using hE0
          clear HX hE0
          go_wp2_with fail
          exact bodyPost_ret (results_op rfl _ _ R PO0 (.slice none 0 0) (.int .i64 160) rfl rfl (HI5.out.rb.put6 PO0 (.slice none 0 0))) rfl ⟨_, rfl, OpE.put6 ⟨Ow.nil _ _, HI5.out.tk, HI5.out.bt⟩ HKL.out (Nat.le_of_eq HR.out.symm) (by simp [Value.ownBlock]) PO0 (.slice none 0 0)⟩

end Go.Proofs.YthkkdmblkalknaaGreatDoor
/-
  op: take.
-/
namespace Go.Proofs.YthkkdmblkalknaaGreatDoor
open Go.RowKit

/-- what stands in a line in the place of a word is taken -/
def takeP (o : PO) (x t : ByteArray) : PO × Bool :=
  if x = cNM then ({ o with nm := t }, true) else if x = cOT then ({ o with ot := t }, true) else if x = cFR then ({ o with fr := (numP t).1 }, (numP t).2) else if x = cTO then ({ o with to := (numP t).1 }, (numP t).2)
  else if x = cDA then ({ o with da := hexB t }, okHex t) else (o, decide (t = x))
/-- an operation that is being taken -/
structure TkO (B O : Nat) (w : World) (o : PO) (v : Value) : Prop where
  ob : OpB w O o v
  ow : Ow B w v o.da
  nO : some O ≠ v.ownBlock
  ok : okO o
theorem TkO.next {B O : Nat} {w w' : World} {o : PO} {v : Value} (h : TkO B O w o v) (hb : Below w.heap.size w w') : TkO B O w' o v := ⟨h.ob.keep (hb.block _ h.ob.lt), h.ow.next hb, h.nO, h.ok⟩
theorem TkO.put {B O : Nat} {w : World} {o : PO} {v : Value} (h : TkO B O w o v) (i : Nat) (x : Value) {o' : PO} {v' : Value} (hx : (#[.int .i64 o.k, .string o.nm, .string o.ot, .int .i64 o.fr, .int .i64 o.to, v] : Array Value).setIfInBounds i x = #[.int .i64 o'.k, .string o'.nm, .string o'.ot, .int .i64 o'.fr, .int .i64 o'.to, v']) (hok : okO o') (how : Ow B w v' o'.da) (n1 : some O ≠ v'.ownBlock) : TkO B O (w.setCell ⟨O, i, none⟩ x) o' v' := by
  have hb : But (fun y => y = O) w (w.setCell ⟨O, i, none⟩ x) := (But.refl (fun y => y = O) w).setCell (p := ⟨O, i, none⟩) rfl _
  exact ⟨h.ob.set i x hx, how.keep fun g hg => hb.block g (how.lt g hg) (fun e => n1 (by rw [hg, e])), n1, hok⟩
theorem len_hexB (s : ByteArray) : (hexB s).length ≤ 512 := by
  unfold hexB
  split
  · rw [len_unh]; omega
  · simp

set_option maxRecDepth 100000 in
set_option maxHeartbeats 8000000 in
theorem take_any {B O : Nat} {w : World} {o : PO} {v : Value} (x t : ByteArray) (hG : GT w) (ht : t.size ≤ 16777216) (hB : B ≤ w.heap.size) (h : TkO B O w o v) :
    Calls Tryz.prog 81 #[.pointer (some ⟨O, 0, none⟩), .string x, .string t] w fun e w' => ∃ v', e = .returned (.bool (takeP o x t).2) ∧ TkO B O w' (takeP o x t).1 v' ∧ But (fun y => y = O) w w' ∧ (v'.ownBlock = v.ownBlock ∨ ∀ g, v'.ownBlock = some g → w.heap.size ≤ g) := by
  have HC := hid (sClone_any t w (by omega))
  have HN := hid (numberOf_any t w hG (by omega))
  have HX := hid (bytesOf_any t w)
  have hnb := num_bd t
  have HT := hid ht
  have HI := hid h
  have HBB := hid hB
  clear hG ht hB h
  by_cases h0 : x = cNM
  · have q0 : (x.toList == ([78, 65, 77, 69] : List UInt8)) = true := by rw [beq_lit]; simp [h0]
    have e : takeP o x t = ({ o with nm := t }, true) := by unfold takeP; rw [if_pos h0]
    rw [e]
    clear e h0
    go_enter Tryz.func81, Tryz.ntmps81
    go_wp2_with fail
    refine HC.out.mono ?_
    rintro e w4 ⟨rfl, b4⟩
    have h4 := HI.out.next b4
    have cO := h4.ob.cell 1 _ rfl
    have fO := h4.ob.fz 1
    have hk := h4.ok
    have HF := hid (h4.put 1 (.string t) (o' := { o with nm := t }) (v' := v) rfl ⟨hk.k0, hk.k1, hk.f0, hk.f1, hk.t0, hk.t1, HT.out, hk.ot, hk.da⟩ h4.ow h4.nO)
    have HBt := hid ((But.of_below (X := fun y => y = O) b4).setCell (p := ⟨O, 1, none⟩) rfl (.string t))
    clear h4 hk b4 HC HN HX HI hnb
    go_wp2
    go_ret
    exact ⟨_, rfl, HF.out, HBt.out, .inl rfl⟩
  have q0 : (x.toList == ([78, 65, 77, 69] : List UInt8)) = false := by rw [beq_lit]; simp [h0]
  by_cases h1 : x = cOT
  · have q1 : (x.toList == ([79, 84, 72, 69, 82] : List UInt8)) = true := by rw [beq_lit]; simp [h1]
    have e : takeP o x t = ({ o with ot := t }, true) := by unfold takeP; rw [if_neg h0, if_pos h1]
    rw [e]
    clear e h0 h1
    go_enter Tryz.func81, Tryz.ntmps81
    go_wp2_with fail
    refine HC.out.mono ?_
    rintro e w4 ⟨rfl, b4⟩
    have h4 := HI.out.next b4
    have cO := h4.ob.cell 2 _ rfl
    have fO := h4.ob.fz 2
    have hk := h4.ok
    have HF := hid (h4.put 2 (.string t) (o' := { o with ot := t }) (v' := v) rfl ⟨hk.k0, hk.k1, hk.f0, hk.f1, hk.t0, hk.t1, hk.nm, HT.out, hk.da⟩ h4.ow h4.nO)
    have HBt := hid ((But.of_below (X := fun y => y = O) b4).setCell (p := ⟨O, 2, none⟩) rfl (.string t))
    clear h4 hk b4 HC HN HX HI hnb
    go_wp2
    go_ret
    exact ⟨_, rfl, HF.out, HBt.out, .inl rfl⟩
  have q1 : (x.toList == ([79, 84, 72, 69, 82] : List UInt8)) = false := by rw [beq_lit]; simp [h1]
  by_cases h2 : x = cFR
  · have q2 : (x.toList == ([70, 82, 79, 77] : List UInt8)) = true := by rw [beq_lit]; simp [h2]
    have e : takeP o x t = ({ o with fr := (numP t).1 }, (numP t).2) := by unfold takeP; rw [if_neg h0, if_neg h1, if_pos h2]
    rw [e]
    clear e h0 h1 h2
    go_enter Tryz.func81, Tryz.ntmps81
    go_wp2_with fail
    refine HN.out.mono ?_
    rintro e w4 ⟨rfl, b4⟩
    have h4 := HI.out.next b4
    have cO := h4.ob.cell 3 _ rfl
    have fO := h4.ob.fz 3
    have hk := h4.ok
    have HF := hid (h4.put 3 (.int .i64 (numP t).1) (o' := { o with fr := (numP t).1 }) (v' := v) rfl ⟨hk.k0, hk.k1, hnb.1, hnb.2, hk.t0, hk.t1, hk.nm, hk.ot, hk.da⟩ h4.ow h4.nO)
    have HBt := hid ((But.of_below (X := fun y => y = O) b4).setCell (p := ⟨O, 3, none⟩) rfl (.int .i64 (numP t).1))
    clear h4 hk b4 HC HN HX HI hnb
    go_wp2
    go_ret
    exact ⟨_, rfl, HF.out, HBt.out, .inl rfl⟩
  have q2 : (x.toList == ([70, 82, 79, 77] : List UInt8)) = false := by rw [beq_lit]; simp [h2]
  by_cases h3 : x = cTO
  · have q3 : (x.toList == ([84, 79] : List UInt8)) = true := by rw [beq_lit]; simp [h3]
    have e : takeP o x t = ({ o with to := (numP t).1 }, (numP t).2) := by unfold takeP; rw [if_neg h0, if_neg h1, if_neg h2, if_pos h3]
    rw [e]
    clear e h0 h1 h2 h3
    go_enter Tryz.func81, Tryz.ntmps81
    go_wp2_with fail
    refine HN.out.mono ?_
    rintro e w4 ⟨rfl, b4⟩
    have h4 := HI.out.next b4
    have cO := h4.ob.cell 4 _ rfl
    have fO := h4.ob.fz 4
    have hk := h4.ok
    have HF := hid (h4.put 4 (.int .i64 (numP t).1) (o' := { o with to := (numP t).1 }) (v' := v) rfl ⟨hk.k0, hk.k1, hk.f0, hk.f1, hnb.1, hnb.2, hk.nm, hk.ot, hk.da⟩ h4.ow h4.nO)
    have HBt := hid ((But.of_below (X := fun y => y = O) b4).setCell (p := ⟨O, 4, none⟩) rfl (.int .i64 (numP t).1))
    clear h4 hk b4 HC HN HX HI hnb
    go_wp2
    go_ret
    exact ⟨_, rfl, HF.out, HBt.out, .inl rfl⟩
  have q3 : (x.toList == ([84, 79] : List UInt8)) = false := by rw [beq_lit]; simp [h3]
  by_cases h4 : x = cDA
  · have q4 : (x.toList == ([68, 65, 84, 65] : List UInt8)) = true := by rw [beq_lit]; simp [h4]
    have e : takeP o x t = ({ o with da := hexB t }, okHex t) := by unfold takeP; rw [if_neg h0, if_neg h1, if_neg h2, if_neg h3, if_pos h4]
    rw [e]
    clear e h0 h1 h2 h3 h4
    go_enter Tryz.func81, Tryz.ntmps81
    go_wp2_with fail
    refine HX.out.mono ?_
    rintro e w4 ⟨vd, rfl, hvd, b4⟩
    obtain ⟨va, vc, rfl⟩ := hvd.form
    have h4 := HI.out.next b4
    have cO := h4.ob.cell 5 _ rfl
    have fO := h4.ob.fz 5
    have hk := h4.ok
    have HF := hid (h4.put 5 (.slice va (hexB t).length vc) (o' := { o with da := hexB t }) (v' := .slice va (hexB t).length vc) rfl ⟨hk.k0, hk.k1, hk.f0, hk.f1, hk.t0, hk.t1, hk.nm, hk.ot, by have := len_hexB t; show (hexB t).length ≤ _; omega⟩ (hvd.mono HBB.out) (fun e => by have := hvd.base _ e.symm; have := HI.out.ob.lt; omega))
    have HBt := hid ((But.of_below (X := fun y => y = O) b4).setCell (p := ⟨O, 5, none⟩) rfl (.slice va (hexB t).length vc))
    have HVB := hid hvd.base
    clear h4 hk b4 HC HN HX HI hnb hvd
    go_wp2
    go_ret
    exact ⟨_, rfl, HF.out, HBt.out, .inr HVB.out⟩
  have q4 : (x.toList == ([68, 65, 84, 65] : List UInt8)) = false := by rw [beq_lit]; simp [h4]
  have e : takeP o x t = (o, decide (t = x)) := by unfold takeP; rw [if_neg h0, if_neg h1, if_neg h2, if_neg h3, if_neg h4]
  rw [e]
  clear e h0 h1 h2 h3 h4 HC HN HX hnb
  by_cases hx : t = x
  · have qx : (t.toList == x.toList) = true := (Lib.bytes_beq_iff _ _).2 hx
    rw [decide_eq_true hx]
    clear hx
    go_enter Tryz.func81, Tryz.ntmps81
    go_wp2
    go_ret
    exact ⟨_, rfl, HI.out, But.refl _ _, .inl rfl⟩
  · have qx : (t.toList == x.toList) = false := (Lib.bytes_beq_false_iff _ _).2 hx
    rw [decide_eq_false hx]
    clear hx
    go_enter Tryz.func81, Tryz.ntmps81
    go_wp2
    go_ret
    exact ⟨_, rfl, HI.out, But.refl _ _, .inl rfl⟩

end Go.Proofs.YthkkdmblkalknaaGreatDoor
