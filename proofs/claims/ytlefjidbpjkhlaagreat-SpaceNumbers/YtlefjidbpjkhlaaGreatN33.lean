import Derived.Test.YtlefjidbpjkhlaaGreatN32
import Derived.Test.YtlefjidbpjkhlaaGreatN06
import Derived.Deep.DeepCutAuto
namespace Go.Proofs.YtlefjidbpjkhlaaGreat
open Go.RowKit Go.Deep
theorem idx0 (a b : Int) (w : World) : Sem.run Tryz.prog (Instr.index 26 (.agg #[.int .i64 a, .int .i64 b]) (.int .i64 0)) w = .ok (.int .i64 a) w := by kernel_rfl
theorem idx1 (a b : Int) (w : World) : Sem.run Tryz.prog (Instr.index 26 (.agg #[.int .i64 a, .int .i64 b]) (.int .i64 1)) w = .ok (.int .i64 b) w := by kernel_rfl
def NuT (o x0 t : Nat) (a c : Int) (PO : Ending → World → Prop) (w : World) : Prop :=
 w.cell? ⟨o, 5, none⟩ = some (.int .i64 (65)) ∧ Calls Tryz.prog 17 #[.pointer none, .int .i64 (65), .int .i64 (a)] w fun e w1 => e = .returned (.tuple #[.pointer none, .int .i64 1]) ∧ w1.cell? ⟨o, 3, none⟩ = some (.pointer (some ⟨x0, 0, none⟩)) ∧ Calls Tryz.prog 19 #[.pointer (some ⟨x0, 0, none⟩), .pointer (some ⟨t, 0, none⟩)] w1 fun e w2 => e = .returned (.tuple #[.int .i64 3, .int .i64 0]) ∧ Calls Tryz.prog 18 #[.pointer none, .int .i64 0, .int .i64 (a), .int .i64 (c)] w2 fun e w3 => e = .returned (.int .i64 1) ∧ PO (.returned (.bool true)) w3
def NuB (o x0 st t : Nat) (a c : Int) (PO : Ending → World → Prop) (w : World) : Prop :=
 (w.drew.cell? ⟨o, 1, none⟩ = some (.pointer (some ⟨st, 0, none⟩)) ∧ w.drew.cell? ⟨o, 5, none⟩ = some (.int .i64 (65))) ∧ Calls Tryz.prog 17 #[.pointer (some ⟨st, 0, none⟩), .int .i64 (65), .int .i64 (a)] w.drew fun e w1 => ∃ xv hv, e = .returned (.tuple #[.pointer xv, .int .i64 hv]) ∧ (w1.cell? ⟨o, 1, none⟩ = some (.pointer (some ⟨st, 0, none⟩)) ∧ w1.cell? ⟨o, 5, none⟩ = some (.int .i64 (65))) ∧ ((¬ (1 ≤ a ∧ a ≤ 262144) → xv = none ∧ hv = 60) ∧ ((1 ≤ a ∧ a ≤ 262144) → ∃ x, xv = some ⟨x, 0, none⟩ ∧ hv = 0)) ∧ Calls Tryz.prog 18 #[.pointer (some ⟨t, 0, none⟩), .int .i64 (65), .int .i64 (a), .int .i64 (c)] w1 fun e w2 => e = .returned (.int .i64 60) ∧ NuT o x0 t a c PO w2
def NuC (o x0 st : Nat) (a c : Int) (PO : Ending → World → Prop) (w : World) : Prop :=
 w.cell? ⟨o, 1, none⟩ = some (.pointer (some ⟨st, 0, none⟩)) ∧ Calls Tryz.prog 9 #[.pointer (some ⟨st, 0, none⟩)] w fun e w1 => ∃ t, e = .returned (.tuple #[.pointer (some ⟨t, 0, none⟩), .int .i64 0]) ∧ Calls Tryz.prog 16 #[.pointer (some ⟨t, 0, none⟩)] w1 fun e w2 => e = .returned (.bool true) ∧ ((a < 1 ∨ 262144 < a ∨ c < 1 ∨ a < c) → NuB o x0 st t a c PO w2) ∧ (¬ (a < 1 ∨ 262144 < a ∨ c < 1 ∨ a < c) → NuT o x0 t a c PO w2)
set_option maxRecDepth 100000 in
set_option maxHeartbeats 16000000 in
theorem numbers_walk {w : World} {a b c : Int} {PO : Ending → World → Prop} (H : ∀ w1, Below w.heap.size w w1 → Calls Tryz.prog 8 #[.agg #[.int .i64 9, .int .i64 9], .agg #[.int .i64 3, .int .i64 4]] w1 fun e w2 => ∃ o x0 st, e = .returned (.pointer (some ⟨o, 0, none⟩)) ∧ NuC o x0 st a c PO w2) :
  Calls Tryz.prog 4 #[.int .i64 a, .int .i64 b, .int .i64 c] w PO := by
 have HH := hid H
 have B00 := hid (Below.refl w.heap.size w)
 clear H
 go_enter Tryz.func4, Tryz.ntmps4
 go_wp2_with fail
 go_loopw [7] (fun iv wr => ∃ q : Nat, q ≤ 2 ∧ iv = .int .i64 (q : Int) ∧ Below w.heap.size w wr) (fun iv _ => 2 - (intOf iv).toNat)
 case atStart => exact ⟨0, by decide, rfl, B00.out⟩
 case round =>
  clear B00
  rename World => wo
  obtain ⟨q, hq2, rfl, hB⟩ := hrel
  rcases (show q = 0 ∨ q = 1 ∨ q = 2 by omega) with hq | hq | hq
  ·subst hq
   by_cases hg : 1 ≤ a ∧ a ≤ 262144
   ·as_aux_lemma =>
    have e1 : blkN a = ((pagesN a.toNat : Int), 0) := by unfold blkN; rw [if_pos hg]
    have HB1 := hid (SBlocks_any a wo)
    have HB2 := hid (fun w => SBlocks_any a w)
    rw [e1] at HB1
    simp only [e1] at HB2
    have a1 := pagesN_lo (r := a.toNat) (by omega)
    have a2 := pagesN_hi (r := a.toNat) (by omega)
    have a3 : a.tdiv 256 = ((a.toNat / 256 : Nat) : Int) := by rw [Int.tdiv_eq_ediv_of_nonneg (by omega)]; omega
    have a4 : ¬ (pagesN a.toNat : Int) < 1 := by omega
    have a5 : ¬ ((a.toNat / 256 : Nat) : Int) + 2 < (pagesN a.toNat : Int) := by omega
    have a6 : ¬ a < 1 := by omega
    have a7 : ¬ 262144 < a := by omega
    have a8 : ((a.toNat / 256 : Nat) : Int) ≤ 1024 := by omega
    generalize pagesN a.toNat = PG at *
    generalize (a.toNat / 256 : Nat) = QG at *
    clear e1
    have ix := fun u => idx0 a b u
    go_wp2_with fail
    clear ix
    refine Calls.mono HB1.out ?_
    rintro e w1 ⟨rfl, b1⟩
    have B1 := hid (hB.trans (b1.mono hB.size))
    clear b1 HB1 hB
    go_wp2_with fail
    refine Calls.mono (HB2.out w1) ?_
    rintro e w2 ⟨rfl, b2⟩
    have B2 := hid (B1.out.trans (b2.mono B1.out.size))
    clear b2 HB2 B1
    go_wp2_with fail
    refine Calls.mono (num_any 0 w2) ?_
    rintro e w9 ⟨rfl, hw9⟩
    rw [hw9]
    clear hw9
    go_wp2_with fail
    refine Calls.mono (num_any 0 w2) ?_
    rintro e w9 ⟨rfl, hw9⟩
    rw [hw9]
    clear hw9
    go_wp2_with fail
    go_roundw
    case rel => exact ⟨1, by decide, by go_num, B2.out⟩
    case measure => simp [intOf]
   ·as_aux_lemma =>
    have e1 : blkN a = (0, 60) := by unfold blkN; rw [if_neg hg]
    have HB1 := hid (SBlocks_any a wo)
    have HB2 := hid (fun w => SBlocks_any a w)
    rw [e1] at HB1
    simp only [e1] at HB2
    clear e1
    have ix := fun u => idx0 a b u
    go_wp2_with fail
    clear ix
    refine Calls.mono HB1.out ?_
    rintro e w1 ⟨rfl, b1⟩
    have B1 := hid (hB.trans (b1.mono hB.size))
    clear b1 HB1 hB
    go_wp2_with fail
    refine Calls.mono (HB2.out w1) ?_
    rintro e w2 ⟨rfl, b2⟩
    have B2 := hid (B1.out.trans (b2.mono B1.out.size))
    clear b2 HB2 B1
    by_cases hlt : a < 1
    ·go_wp2_with fail
     refine Calls.mono (num_any 60 w2) ?_
     rintro e w9 ⟨rfl, hw9⟩
     rw [hw9]
     clear hw9
     go_wp2_with fail
     go_roundw
     case rel => exact ⟨1, by decide, by go_num, B2.out⟩
     case measure => simp [intOf]
    ·have hgt : 262144 < a := by omega
     go_wp2_with fail
     refine Calls.mono (num_any 60 w2) ?_
     rintro e w9 ⟨rfl, hw9⟩
     rw [hw9]
     clear hw9
     go_wp2_with fail
     go_roundw
     case rel => exact ⟨1, by decide, by go_num, B2.out⟩
     case measure => simp [intOf]
  ·subst hq
   by_cases hg : 1 ≤ b ∧ b ≤ 262144
   ·as_aux_lemma =>
    have e1 : blkN b = ((pagesN b.toNat : Int), 0) := by unfold blkN; rw [if_pos hg]
    have HB1 := hid (SBlocks_any b wo)
    have HB2 := hid (fun w => SBlocks_any b w)
    rw [e1] at HB1
    simp only [e1] at HB2
    have a1 := pagesN_lo (r := b.toNat) (by omega)
    have a2 := pagesN_hi (r := b.toNat) (by omega)
    have a3 : b.tdiv 256 = ((b.toNat / 256 : Nat) : Int) := by rw [Int.tdiv_eq_ediv_of_nonneg (by omega)]; omega
    have a4 : ¬ (pagesN b.toNat : Int) < 1 := by omega
    have a5 : ¬ ((b.toNat / 256 : Nat) : Int) + 2 < (pagesN b.toNat : Int) := by omega
    have a6 : ¬ b < 1 := by omega
    have a7 : ¬ 262144 < b := by omega
    have a8 : ((b.toNat / 256 : Nat) : Int) ≤ 1024 := by omega
    generalize pagesN b.toNat = PG at *
    generalize (b.toNat / 256 : Nat) = QG at *
    clear e1
    have ix := fun u => idx1 a b u
    go_wp2_with fail
    clear ix
    refine Calls.mono HB1.out ?_
    rintro e w1 ⟨rfl, b1⟩
    have B1 := hid (hB.trans (b1.mono hB.size))
    clear b1 HB1 hB
    go_wp2_with fail
    refine Calls.mono (HB2.out w1) ?_
    rintro e w2 ⟨rfl, b2⟩
    have B2 := hid (B1.out.trans (b2.mono B1.out.size))
    clear b2 HB2 B1
    go_wp2_with fail
    refine Calls.mono (num_any 0 w2) ?_
    rintro e w9 ⟨rfl, hw9⟩
    rw [hw9]
    clear hw9
    go_wp2_with fail
    refine Calls.mono (num_any 0 w2) ?_
    rintro e w9 ⟨rfl, hw9⟩
    rw [hw9]
    clear hw9
    go_wp2_with fail
    go_roundw
    case rel => exact ⟨2, by decide, by go_num, B2.out⟩
    case measure => simp [intOf]
   ·as_aux_lemma =>
    have e1 : blkN b = (0, 60) := by unfold blkN; rw [if_neg hg]
    have HB1 := hid (SBlocks_any b wo)
    have HB2 := hid (fun w => SBlocks_any b w)
    rw [e1] at HB1
    simp only [e1] at HB2
    clear e1
    have ix := fun u => idx1 a b u
    go_wp2_with fail
    clear ix
    refine Calls.mono HB1.out ?_
    rintro e w1 ⟨rfl, b1⟩
    have B1 := hid (hB.trans (b1.mono hB.size))
    clear b1 HB1 hB
    go_wp2_with fail
    refine Calls.mono (HB2.out w1) ?_
    rintro e w2 ⟨rfl, b2⟩
    have B2 := hid (B1.out.trans (b2.mono B1.out.size))
    clear b2 HB2 B1
    by_cases hlt : b < 1
    ·go_wp2_with fail
     refine Calls.mono (num_any 60 w2) ?_
     rintro e w9 ⟨rfl, hw9⟩
     rw [hw9]
     clear hw9
     go_wp2_with fail
     go_roundw
     case rel => exact ⟨2, by decide, by go_num, B2.out⟩
     case measure => simp [intOf]
    ·have hgt : 262144 < b := by omega
     go_wp2_with fail
     refine Calls.mono (num_any 60 w2) ?_
     rintro e w9 ⟨rfl, hw9⟩
     rw [hw9]
     clear hw9
     go_wp2_with fail
     go_roundw
     case rel => exact ⟨2, by decide, by go_num, B2.out⟩
     case measure => simp [intOf]
  ·subst hq
   have HB := hid (fun r w => SBlocks_any r w)
   have HW := hid (fun w1 (b1 : Below wo.heap.size wo w1) => HH.out w1 (hB.trans (b1.mono hB.size)))
   clear hB HH
   obtain ⟨x, ex, hx⟩ : ∃ x ex, blkN (min a b) = (x, ex) := ⟨_, _, rfl⟩
   obtain ⟨y, ey, hy⟩ : ∃ y ey, blkN (max a b) = (y, ey) := ⟨_, _, rfl⟩
   have hM : ex = 0 → ey = 0 → ¬ y < x := fun e1 e2 => by
    unfold blkN at hx hy
    split at hx
    ·split at hy
     ·cases hx
      cases hy
      have := pagesN_mono (a := (min a b).toNat) (b := (max a b).toNat) (by omega)
      omega
     ·cases hy
      exact absurd e2 (by decide)
    ·cases hx
     exact absurd e1 (by decide)
   have HB1 := hid (HB.out (min a b) wo)
   have HB2 := hid (fun w => HB.out (max a b) w)
   rw [hx] at HB1
   simp only [hy] at HB2
   clear hx hy HB
   go_wp2_with fail
   refine Calls.mono HB1.out ?_
   rintro e w1 ⟨rfl, b1⟩
   have B1 := hid b1
   clear b1 HB1
   go_wp2_with fail
   refine Calls.mono (HB2.out w1) ?_
   rintro e w2 ⟨rfl, b2⟩
   have H2 := hid (HW.out w2 (B1.out.trans (b2.mono B1.out.size)))
   clear b2 HB2 B1 HW
   go_upto_region 12 with fail
   go_cut [15, 17, 121] (fun _ _ s wx => s = .bool false ∧ wx = w2)
   case first =>
    as_aux_lemma =>
    by_cases h1 : ex = 0
    ·by_cases h2 : ey = 0
     ·have hM' := hM h1 h2
      subst h1
      subst h2
      clear hM
      go_wp2_with fail
      refine Calls.mono (num_any 0 w2) ?_
      rintro e w9 ⟨rfl, hw9⟩
      rw [hw9]
      clear hw9
      go_wp2_with fail
      refine Calls.mono (num_any 0 w2) ?_
      rintro e w9 ⟨rfl, hw9⟩
      rw [hw9]
      clear hw9
      go_wp2_with fail
      go_meet
      exact ⟨by rw [decide_eq_false (by omega)], rfl⟩
     ·subst h1
      clear hM
      go_wp2_with fail
      refine Calls.mono (num_any 0 w2) ?_
      rintro e w9 ⟨rfl, hw9⟩
      rw [hw9]
      clear hw9
      go_wp2_with fail
      refine Calls.mono (num_any ey w2) ?_
      rintro e w9 ⟨rfl, hw9⟩
      rw [hw9]
      clear hw9
      go_wp2_with fail
      go_meet
      exact ⟨rfl, rfl⟩
    ·clear hM
     go_wp2_with fail
     refine Calls.mono (num_any ex w2) ?_
     rintro e w9 ⟨rfl, hw9⟩
     rw [hw9]
     clear hw9
     go_wp2_with fail
     go_meet
     exact ⟨rfl, rfl⟩
   case rest =>
    obtain ⟨rfl, hcw⟩ := hcut
    rw [hcw]
    clear hM hcw
    go_wp2_with fail
    refine Calls.mono H2.out ?_
    rintro e w3 ⟨o, x0, st, rfl, k1, h3⟩
    have H3 := hid h3
    clear h3 H2
    go_wp2_with fail
    refine Calls.mono H3.out ?_
    rintro e w4 ⟨t, rfl, h4⟩
    have H4 := hid h4
    clear h4 H3 k1
    go_wp2_with fail
    refine Calls.mono (num_any 0 w4) ?_
    rintro e w9 ⟨rfl, hw9⟩
    rw [hw9]
    clear hw9
    go_wp2_with fail
    refine Calls.mono H4.out ?_
    rintro e w5 ⟨rfl, hb, hnb⟩
    have HBad := hid hb
    have HGood := hid hnb
    clear hb hnb H4
    go_upto_region 20 with fail
    go_cut [157] (fun s wx => s = .bool (decide (a < 1 ∨ 262144 < a ∨ c < 1 ∨ a < c)) ∧ wx = w5)
    case first =>
     as_aux_lemma =>
     by_cases h1 : a < 1
     ·go_wp2_with fail
      go_meet
      exact ⟨congrArg Value.bool (decide_eq_true (by omega)).symm, rfl⟩
     ·by_cases h2 : 262144 < a
      ·go_wp2_with fail
       go_meet
       exact ⟨congrArg Value.bool (decide_eq_true (by omega)).symm, rfl⟩
      ·by_cases h3 : c < 1
       ·go_wp2_with fail
        go_meet
        exact ⟨congrArg Value.bool (decide_eq_true (by omega)).symm, rfl⟩
       ·go_wp2_with fail
        go_meet
        exact ⟨congrArg Value.bool (decide_eq_decide.2 ⟨fun q => .inr (.inr (.inr q)), fun q => by omega⟩), rfl⟩
    case rest =>
     as_aux_lemma =>
     obtain ⟨rfl, hcw⟩ := hcut
     rw [hcw]
     clear hcw
     go_upto_if 157 with fail
     go_cut [21, 22, 23] (fun _ _ _ wx => NuT o x0 t a c PO wx)
     case first =>
      as_aux_lemma =>
      by_cases hbad : (a < 1 ∨ 262144 < a ∨ c < 1 ∨ a < c)
      ·have hd : decide (a < 1 ∨ 262144 < a ∨ c < 1 ∨ a < c) = true := decide_eq_true hbad
       rw [hd]
       obtain ⟨kS, hcall⟩ := HBad.out hbad
       have HC := hid hcall
       clear hcall HBad HGood hd
       go_wp2_with fail
       refine Gz (S := fun w' => w'.cell? ⟨o, 1, none⟩ = some (.pointer (some ⟨st, 0, none⟩)) ∧ w'.cell? ⟨o, 5, none⟩ = some (.int .i64 (65))) kS (fun hSS => ?_)
       refine Ti 0 rfl ?_
       refine Ti 1 rfl ?_
       refine Ti 2 rfl ?_
       refine Ti 3 rfl ?_
       try simp only [Act.put, zA, zB, zC]
       refine Ti 4 rfl ?_
       refine Ti 5 rfl ?_
       refine Ti 6 rfl ?_
       refine Ti 7 rfl ?_
       try simp only [Act.put, zA, zB, zC]
       refine Ti 8 rfl ?_
       refine Ti 9 rfl ?_
       try simp only [Act.put, zA, zB, zC]
       refine Ri 10 rfl (fun K9 hK9 => ?_)
       go_simp
       go_at_call 17
       refine Calls.mono HC.out ?_
       rintro e w1 ⟨xv, hv, rfl, hk1, ⟨hv1, hv2⟩, h3⟩
       have HF := hid h3
       clear h3 HC
       refine hK9.out _ _ hk1 (fun hSS => ?_)
       try simp only [Act.put, zA, zB, zC]
       refine Ti 11 rfl ?_
       refine Ti 12 rfl ?_
       refine Ti 13 rfl ?_
       try simp only [Act.put, zA, zB, zC]
       refine Ti 14 rfl ?_
       refine Ti 15 rfl ?_
       try simp only [Act.put, zA, zB, zC]
       refine Dn ?_
       clear hSS kS
       obtain ⟨k1, k5⟩ := hk1
       by_cases hA : 1 ≤ a ∧ a ≤ 262144
       ·obtain ⟨x, rfl, rfl⟩ := hv2 hA
        have n1 : ¬ a < 1 := by omega
        have n2 : ¬ 262144 < a := by omega
        clear hv1 hv2 hA hbad
        go_wp2_with fail
        refine Calls.mono HF.out ?_
        rintro e w2 ⟨rfl, h5⟩
        have HT := hid h5
        clear h5 HF
        go_wp2_with fail
        refine Calls.mono (num_any 60 w2) ?_
        rintro e w9 ⟨rfl, hw9⟩
        rw [hw9]
        clear hw9
        go_wp2_with fail
        refine Calls.mono (num_any 0 w2) ?_
        rintro e w9 ⟨rfl, hw9⟩
        rw [hw9]
        clear hw9
        go_wp2_with fail
        go_meet
        exact HT.out
       ·obtain ⟨rfl, rfl⟩ := hv1 hA
        by_cases n1 : a < 1
        ·clear hv1 hv2 hA hbad
         go_wp2_with fail
         refine Calls.mono HF.out ?_
         rintro e w2 ⟨rfl, h5⟩
         have HT := hid h5
         clear h5 HF
         go_wp2_with fail
         refine Calls.mono (num_any 60 w2) ?_
         rintro e w9 ⟨rfl, hw9⟩
         rw [hw9]
         clear hw9
         go_wp2_with fail
         refine Calls.mono (num_any 60 w2) ?_
         rintro e w9 ⟨rfl, hw9⟩
         rw [hw9]
         clear hw9
         go_wp2_with fail
         go_meet
         exact HT.out
        ·have n2 : 262144 < a := by omega
         clear hv1 hv2 hA hbad
         go_wp2_with fail
         refine Calls.mono HF.out ?_
         rintro e w2 ⟨rfl, h5⟩
         have HT := hid h5
         clear h5 HF
         go_wp2_with fail
         refine Calls.mono (num_any 60 w2) ?_
         rintro e w9 ⟨rfl, hw9⟩
         rw [hw9]
         clear hw9
         go_wp2_with fail
         refine Calls.mono (num_any 60 w2) ?_
         rintro e w9 ⟨rfl, hw9⟩
         rw [hw9]
         clear hw9
         go_wp2_with fail
         go_meet
         exact HT.out
      ·have hd : decide (a < 1 ∨ 262144 < a ∨ c < 1 ∨ a < c) = false := decide_eq_false hbad
       rw [hd]
       have HT := hid (HGood.out hbad)
       clear HBad HGood hd hbad
       go_wp2_with fail
       go_meet
       exact HT.out
     case rest =>
      as_aux_lemma =>
      obtain ⟨k5, hcall⟩ := hcut
      have HC := hid hcall
      clear hcall HBad HGood
      go_wp2_with fail
      refine Calls.mono HC.out ?_
      rintro e w6 ⟨rfl, k3, h6⟩
      have H6 := hid h6
      clear h6 HC k5
      go_wp2_with fail
      refine Calls.mono H6.out ?_
      rintro e w7 ⟨rfl, h7⟩
      have H7 := hid h7
      clear h7 H6 k3
      go_wp2_with fail
      refine Calls.mono (num_any 1 w7) ?_
      rintro e w9 ⟨rfl, hw9⟩
      rw [hw9]
      clear hw9
      go_wp2_with fail
      refine Calls.mono H7.out ?_
      rintro e w8 ⟨rfl, h8⟩
      have FIN := hid h8
      clear h8 H7
      go_wp2_with fail
      refine Calls.mono (num_any 1 w8) ?_
      rintro e w9 ⟨rfl, hw9⟩
      rw [hw9]
      clear hw9
      go_wp2_with fail
      refine Calls.mono (num_any 0 w8) ?_
      rintro e w9 ⟨rfl, hw9⟩
      rw [hw9]
      clear hw9
      go_wp2
      exact FIN.out
open Go.RowKit Go.Deep
theorem takeSp (L cs : List Int) (off : Nat) (h : off ≤ L.length) : (splice L off cs).take off = L.take off := by
 unfold splice
 rw [List.take_append_of_le_length (by rw [List.length_take]; omega), List.take_take, Nat.min_self]
theorem dropSp (L cs : List Int) (off : Nat) (h : off ≤ L.length) : (splice L off cs).drop off = cs ++ L.drop (off + cs.length) := by
 unfold splice
 rw [List.drop_append_of_le_length (by rw [List.length_take]; omega), List.drop_eq_nil_of_le (by rw [List.length_take]; omega), List.nil_append]
theorem take_spgZ (r n : Nat) : (spgZ r n).take 21 = hdgZ r n := by
 unfold spgZ splice
 rw [List.take_zero, List.nil_append, List.take_append_of_le_length (by rw [length_hdgZ]; omega), List.take_of_length_le (by rw [length_hdgZ]; omega)]
theorem isPg_spg (r n : Nat) : isPg r n (spgZ r n) = true := decide_eq_true (take_spgZ r n)
theorem isPg_lpg (r sz lf q : Nat) : isPg r q (lpg r sz lf q) = true := by
 unfold lpg
 split
 ·rename_i h
  rw [h]
  refine decide_eq_true ?_
  rw [takeSp _ _ _ (by rw [length_spgZ]; omega), take_spgZ]
 ·exact isPg_spg r q
theorem drop_lpg (r sz lf : Nat) : (lpg r sz lf 0).drop 21 = sheadZ sz lf ++ (spgZ r 0).drop 29 := by
 unfold lpg
 rw [if_pos rfl, dropSp _ _ _ (by rw [length_spgZ]; omega), length_sheadZ]
theorem sheadZ_eq (sz lf : Nat) : sheadZ sz lf = Pl.dig (sz : Int) 3 ++ Pl.dig (lf : Int) 5 := by simp [sheadZ, packZ]
theorem szOf_lpg {r sz lf : Nat} (h : sz ≤ 262144) : szOf (lpg r sz lf 0) = (sz : Int) := by
 unfold szOf
 rw [drop_lpg, sheadZ_eq, List.append_assoc, List.take_append_of_le_length (by rw [Pl.length_dig]; omega), List.take_of_length_le (by rw [Pl.length_dig]; omega)]
 exact Pl.num_dig _ _ (by omega) (by omega)
theorem numbers_law (a b c : Int) (w : World) : Calls Tryz.prog 4 #[.int .i64 a, .int .i64 b, .int .i64 c] w fun e w' => e = .returned (.bool true) ∧ Below w.heap.size w w' := by
 refine numbers_walk (fun w1 b1 => ?_)
 have hp9 : pagesN 9 = 2 := by decide
 refine Calls.mono (world_any (r0 := 9) (r1 := 9) (c0 := 3) (c1 := 4) (by omega) (by omega) (by omega) (by omega) (by rw [hp9]; decide) w1) ?_
 rintro e w2 ⟨o, x0, x1, F, F2, Y, Y2, t0, t2, rfl, hw, hnb, hi, _, b2⟩
 rw [hp9] at hnb
 have s1 := b1.size
 have s2 := b2.size
 refine ⟨o, x0, F.st, rfl, hw.wb.cell 1, ?_⟩
 refine Calls.mono hi.begin ?_
 rintro e w3 ⟨t, Y3, rfl, h3, _, g3, bb3⟩
 refine ⟨t, rfl, Calls.mono (snils_any _ w3) ?_⟩
 rintro e w4 ⟨rfl, b4⟩
 refine ⟨rfl, ?_⟩
 have hol := hw.wb.lt
 have hxl := hw.s0.lt
 have wb3 := hw.wb.keep (bb3.block o hol hw.no.1)
 have sp3 := hw.s0.keep (bb3.block x0 hxl hw.no.2.1)
 have no3 : ¬ Y3 o := fun q => hw.no.1 (g3 o hol q)
 have nx3 : ¬ Y3 x0 := fun q => hw.no.2.1 (g3 x0 hxl q)
 have h4 := h3.below b4
 have s3 := bb3.size
 have s4 := b4.size
 have wb4 := wb3.keep (b4.block o wb3.lt)
 have sp4 := sp3.keep (b4.block x0 sp3.lt)
 have hF : But Y3 w3 w4 := But.of_below b4
 -- the law's end, wherever it is reached
 have tail : ∀ K w', K < 1000000 → (∃ Y', Opn Y' w' F K 1 (Cw F.nb 9 9 3 4) t (fun _ => none) [] 0 ∧ Gr Y3 Y' w4) → But Y3 w4 w' → NuT o x0 t a c (fun e w' => e = .returned (.bool true) ∧ Below w.heap.size w w') w' := fun K w' hK hY hb => by
  obtain ⟨Y', h', g'⟩ := hY
  have wb' := wb4.keep (hb.block o wb4.lt no3)
  have sp' := sp4.keep (hb.block x0 sp4.lt nx3)
  have s' := hb.size
  refine ⟨wb'.cell 5, Calls.mono (SOpen_no (sread_no (sask_nil w') (by decide) 65) (by decide) (by decide) a) ?_⟩
  rintro e w5 ⟨rfl, b5⟩
  have wb5 := wb'.keep (b5.block o wb'.lt)
  have sp5 := sp'.keep (b5.block x0 sp'.lt)
  have h5 := h'.below b5
  have s5 := b5.size
  have hzs : ((fun _ => none : Nat → Option (List Int)) 65).getD (Cw F.nb 9 9 3 4 65) = lpg 9 3 0 0 := by
   show Cw F.nb 9 9 3 4 65 = _
   unfold Cw L2w
   rw [layL_apply, if_neg (by rw [hp9]; omega), layL_apply, if_pos (by rw [hp9]; omega)]
   rfl
  refine ⟨rfl, wb5.cell 3, Calls.mono (h5.size (by omega) sp5 (fun q => nx3 (g' x0 (by have := sp4.lt; omega) q)) (by omega) (by omega) (by omega) (by rw [hzs]; exact isPg_lpg _ _ _ _) (by rw [hzs, szOf_lpg (by omega)]; omega) (by rw [hzs, szOf_lpg (by omega)]; omega)) ?_⟩
  rintro e w6 ⟨Y6, rfl, h6, g6, bb6⟩
  rw [hzs, szOf_lpg (by omega)]
  refine ⟨rfl, Calls.mono (SFormat_no (tread_no (task_nil w6) (by decide) 0) (by decide) (by decide) a c) ?_⟩
  rintro e w7 ⟨rfl, b7⟩
  refine ⟨rfl, rfl, ?_⟩
  have yB : ∀ k, k < w.heap.size → ¬ Y3 k := fun k hk q => by
   have := hw.ap.y k (g3 k (by omega) q)
   omega
  have B3 : Below w.heap.size w w3 := (b1.trans (b2.mono s1)).trans ((bb3.below (B := w.heap.size) (by omega) (fun k hk q => by have := hw.ap.y k q; omega)))
  have B4 : Below w.heap.size w w4 := B3.trans (b4.mono (by omega))
  have B5 : Below w.heap.size w w5 := (B4.trans (hb.below (by omega) yB)).trans (b5.mono (by omega))
  have B6 : Below w.heap.size w w6 := B5.trans (bb6.below (by omega) (fun k hk q => yB k hk (g' k (by omega) q)))
  exact B6.trans (b7.mono B6.size)
 refine ⟨fun hbad => ?_, fun _ => tail _ w4 (by rw [hp9]; omega) ⟨Y3, h4, Gr.refl _ _⟩ (But.refl _ _)⟩
 have hbad2 : ¬ (1 ≤ a ∧ a ≤ 262144) ∨ c < 1 ∨ a < c := by omega
 have hd : Below w4.heap.size w4 w4.drew := Below.drew1 w4
 have h4d := h4.below hd
 have wb4d := wb4.keep (hd.block o wb4.lt)
 refine ⟨⟨wb4d.cell 1, wb4d.cell 5⟩, ?_⟩
 refine Calls.mono (SOpen_any (Y := Y3) (fun Y' w' => Opn Y' w' F _ 1 (Cw F.nb 9 9 3 4) t (fun _ => none) [] 0) (fun Y' u v q1 q2 => q2.below q1) (fun Y' u q => q.lt) (Calls.mono (h4d.sread (by rw [hp9]; omega) 65 (by omega) (by omega)) (by
  rintro e w' ⟨g, cp, Y', rfl, r1, r2, r3, r4, r5, r6, r7⟩
  exact ⟨g, cp, Y', rfl, r1, r6, r7⟩)) a) ?_
 rintro e w5 ⟨Y5, h5, q1, q2, g5, bb5⟩
 have wb5 := wb4d.keep (bb5.block o wb4.lt no3)
 have s5 : w4.heap.size ≤ w5.heap.size := bb5.size
 have hcase : ∃ xv hv, e = .returned (.tuple #[.pointer xv, .int .i64 hv]) ∧ ((¬ (1 ≤ a ∧ a ≤ 262144) → xv = none ∧ hv = 60) ∧ ((1 ≤ a ∧ a ≤ 262144) → ∃ x, xv = some ⟨x, 0, none⟩ ∧ hv = 0)) := by
  by_cases hA : 1 ≤ a ∧ a ≤ 262144
  ·obtain ⟨x, rfl, _⟩ := q1 hA
   exact ⟨_, _, rfl, fun q => absurd hA q, fun _ => ⟨x, rfl, rfl⟩⟩
  ·exact ⟨_, _, q2 hA, fun _ => ⟨rfl, rfl⟩, fun q => absurd q hA⟩
 obtain ⟨xv, hv, rfl, hcs⟩ := hcase
 refine ⟨xv, hv, rfl, ⟨wb5.cell 1, wb5.cell 5⟩, hcs, ?_⟩
 refine Calls.mono (h5.formatC (by rw [hp9]; omega) 65 a c (by omega) (by omega) hbad2) ?_
 rintro e w6 ⟨Y6, rfl, h6, g6, bb6⟩
 have g45 : Gr Y3 Y5 w4 := fun k hk q => g5 k hk q
 refine ⟨rfl, tail _ w6 (by rw [hp9]; omega) ⟨Y6, h6, g45.trans g6 s5⟩ ?_⟩
 exact ((But.of_below hd (X := Y3)).trans bb5).comp bb6 g45
end Go.Proofs.YtlefjidbpjkhlaaGreat
