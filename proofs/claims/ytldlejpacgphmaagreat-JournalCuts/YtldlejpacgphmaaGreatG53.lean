import Derived.Test.YtldlejpacgphmaaGreatG52
import Derived.Test.YtldlejpacgphmaaGreatG27
import Derived.Test.YtldlejpacgphmaaGreatG47
import Derived.Test.YtldlejpacgphmaaGreatG49
namespace Go.Proofs.YtldlejpacgphmaaGreat
open Go.RowKit Go.Deep
theorem but_lo2 {B : Nat} {w w' : World} (h : Below B w w') : But (fun k => B ≤ k) w w' := ⟨h.os, h.tape, h.output, h.size, fun k _ q => h.block k (by omega)⟩
set_option maxRecDepth 100000 in
set_option maxHeartbeats 8000000 in
theorem cuts_law (ha : Option Addr) (hn hcp : Nat) (Hs : List Int) (frI blI rmI : Int) (sa : Option Addr) (scp : Nat) (As : List Ac) (w : World) (hH : Rd w.heap.size w ha hn Hs) (hHn : hn ≤ 1073741823) (hnil : ha = none → hcp = 0) (hA : RdA w.heap.size w sa As) (hN : As.length ≤ 1048576) (hP : ∀ q ∈ As, RdP (fun _ => False) w q.a0 q.ps ∧ q.ps.length ≤ 1048576 ∧ (∀ p ∈ q.ps, p.data.length ≤ 1048576 ∧ (p.ad = none → p.cap = 0))) :
  Calls Tryz.prog 6 #[.agg #[.slice ha hn hcp, .int .i64 frI, .int .i64 blI, .int .i64 rmI], .slice sa As.length scp] w fun e w' => e = .returned (.bool true) ∧ Below w.heap.size w w' := by
 obtain ⟨PO, hPO⟩ : ∃ PO : Ending → World → Prop, PO = fun e w' => e = .returned (.bool true) ∧ Below w.heap.size w w' := ⟨_, rfl⟩
 rw [← hPO]
 obtain ⟨N, hNe⟩ : ∃ N, N = As.length := ⟨_, rfl⟩
 rw [← hNe]
 have hN3 : N ≤ 1048576 := by omega
 obtain ⟨pk, hpk⟩ : ∃ pk, pk = w.heap.size := ⟨_, rfl⟩
 obtain ⟨w0, hw0⟩ : ∃ w0, w0 = w.alloc (.cells #[.slice ha hn hcp, .int .i64 frI, .int .i64 blI, .int .i64 rmI] 24) := ⟨_, rfl⟩
 have b0 : Below w.heap.size w w0 := by rw [hw0]; exact (Below.refl _ _).alloc (Nat.le_refl _) _
 have z0 : w0.heap.size = w.heap.size + 1 := by rw [hw0]; simp
 obtain ⟨B, hB⟩ : ∃ B, B = w0.heap.size := ⟨_, rfl⟩
 have hpl : pk < B := by omega
 have c0 : w0.cell? ⟨pk, 0, none⟩ = some (.slice ha hn hcp) := by rw [hw0, hpk]; exact cell_new rfl 0 _ rfl
 have c1 : w0.cell? ⟨pk, 1, none⟩ = some (.int .i64 frI) := by rw [hw0, hpk]; exact cell_new rfl 1 _ rfl
 have c2 : w0.cell? ⟨pk, 2, none⟩ = some (.int .i64 blI) := by rw [hw0, hpk]; exact cell_new rfl 2 _ rfl
 have c3 : w0.cell? ⟨pk, 3, none⟩ = some (.int .i64 rmI) := by rw [hw0, hpk]; exact cell_new rfl 3 _ rfl
 have HFin : Hid (∀ w', Below B w0 w' → PO (.returned (.bool true)) w') := fun w' hb => by
  rw [hPO]
  exact ⟨rfl, b0.trans (hb.mono (by omega))⟩
 have HSz : Hid (∀ w', Below B w0 w' → B ≤ w'.heap.size) := fun w' hb => by have := hb.size; omega
 have HLow : Hid (∀ w', Below B w0 w' → Below w.heap.size w w') := fun w' hb => b0.trans (hb.mono (by omega))
 have HAs : Hid (∀ w', Below B w0 w' → RdA B w' sa As) := fun w' hb => by
  have h1 := hA.below (HLow.out w' hb)
  exact h1.imp id (fun ⟨b, o, e, l, q⟩ => ⟨b, o, e, by omega, q⟩)
 have HPs : Hid (∀ w', Below B w0 w' → ∀ q ∈ As, RdP (fun k => B ≤ k) w' q.a0 q.ps ∧ q.ps.length ≤ 1048576 ∧ (∀ p ∈ q.ps, p.data.length ≤ 1048576 ∧ (p.ad = none → p.cap = 0))) := fun w' hb q hq => by
  obtain ⟨r1, r2, r3⟩ := hP q hq
  exact ⟨r1.but (But.of_below (HLow.out w' hb) (X := fun _ => False)) (fun _ _ q => q) _ (fun k hk q => by omega), r2, r3⟩
 have HBg : Hid (∀ w', Below B w0 w' → Calls Tryz.prog 10 #[.agg #[.slice ha hn hcp, .int .i64 frI, .int .i64 blI, .int .i64 rmI]] w' fun e w'' => Below w'.heap.size w' w'' ∧ (e = .returned (.tuple #[.pointer none, .bool true]) ∨ ∃ wb room nb fr bl W, e = .returned (.tuple #[.pointer (some ⟨wb, 0, none⟩), .bool true]) ∧ WD W w'' wb room nb fr bl 0 0 Hs [] ∧ ∀ k, W k → w'.heap.size ≤ k)) := fun w' hb => begun_any ha hn hcp Hs frI blI rmI hHn hnil ((hH.below (HLow.out w' hb)).mono (HLow.out w' hb).size)
 have HCell : Hid (∀ w', Below B w0 w' → w'.cell? ⟨pk, 0, none⟩ = some (.slice ha hn hcp) ∧ w'.cell? ⟨pk, 1, none⟩ = some (.int .i64 frI) ∧ w'.cell? ⟨pk, 2, none⟩ = some (.int .i64 blI) ∧ w'.cell? ⟨pk, 3, none⟩ = some (.int .i64 rmI)) := fun w' hb => ⟨(hb.cell (p := ⟨pk, 0, none⟩) hpl).trans c0, (hb.cell (p := ⟨pk, 1, none⟩) hpl).trans c1, (hb.cell (p := ⟨pk, 2, none⟩) hpl).trans c2, (hb.cell (p := ⟨pk, 3, none⟩) hpl).trans c3⟩
 have HNE := hid hNe
 have HW0 := hid hw0
 have HPK := hid hpk
 have HB := hid hB
 clear hH hA hP hnil hw0 hpk b0 z0 c0 c1 c2 c3 hPO hB hNe HLow hN
 go_enter Tryz.func6, Tryz.ntmps6
 go_wp2_with fail
 rw [← HW0.out, ← HPK.out]
 refine Calls.mono (lives_any w0) ?_
 rintro e w1 ⟨rfl, b1⟩
 rw [← HB.out] at b1
 have B1 := hid b1
 obtain ⟨d0, d1, d2, d3⟩ := HCell.out w1 b1
 clear b1 HW0 HPK
 go_wp2_with fail
 refine Calls.mono (HBg.out w1 B1.out) ?_
 rintro e w2 ⟨b2, hcase⟩
 have B2 : Hid (Below B w0 w2) := B1.out.trans (b2.mono (HSz.out w1 B1.out))
 have hs1 := HSz.out w1 B1.out
 clear HBg d0 d1 d2 d3 b2 HCell
 rcases hcase with rfl | ⟨wb, room, nb, fr, bl, W0, rfl, hWD, hWB⟩
 ·have FIN := hid (HFin.out w2 B2.out)
  go_wp2
  exact FIN.out
 have H2 : Hid (WD W0 w2 wb room nb fr bl 0 0 Hs [] ∧ ∀ k, W0 k → B ≤ k) := ⟨hWD, fun k q => Nat.le_trans hs1 (hWB k q)⟩
 have hnb := hWD.log.1
 have n1 := hWD.log.2.1
 clear hWD hWB hs1 B1
 go_wp2_with fail
 go_loopw [7] (fun iv wr => ∃ (i : Nat) (W : Nat → Prop) (K lasted : Nat) (Us : List (List Pm)), i ≤ N ∧ iv = .int .i64 (i : Int) ∧ WD W wr wb room nb fr bl K lasted Hs Us ∧ K ≤ i * 1048577 ∧ (∀ k, W k → B ≤ k) ∧ Below B w0 wr) (fun iv _ => N - (intOf iv).toNat)
 case atStart => exact ⟨0, W0, 0, 0, [], Nat.zero_le _, rfl, H2.out.1, Nat.zero_le _, H2.out.2, B2.out⟩
 case round =>
  clear H2 B2
  rename World => wo
  obtain ⟨i, W, K, lasted, Us, hiN, rfl, hWD, hK, hWB, hbt⟩ := hrel
  by_cases hi : i < N
  ·have hi' : (i : Int) < (N : Int) := by omega
   obtain ⟨q, hq⟩ : ∃ q, As[i]? = some q := ⟨_, List.getElem?_eq_getElem (by have := HNE.out; omega)⟩
   obtain ⟨pb, po, hsa, hpb, hcs⟩ : ∃ b off, sa = some ⟨b, off, none⟩ ∧ b < B ∧ ∀ t q, As[t]? = some q → wo.cell? ⟨b, off + t * 6, none⟩ = some (.int .i64 q.kd) ∧ wo.cell? ⟨b, off + t * 6 + 1, none⟩ = some (.int .i64 q.at_) ∧ wo.cell? ⟨b, off + t * 6 + 2, none⟩ = some (.slice q.a0 q.ps.length q.cp) ∧ wo.cell? ⟨b, off + t * 6 + 3, none⟩ = some (.int .u64 q.keep) ∧ wo.cell? ⟨b, off + t * 6 + 4, none⟩ = some (.int .i64 q.fz) ∧ wo.cell? ⟨b, off + t * 6 + 5, none⟩ = some (.int .i64 q.again) := by
    rcases HAs.out wo hbt with e | e
    ·rw [e] at hq; cases hq
    ·exact e
   obtain ⟨c0, c1, c2, c3, c4, c5⟩ := hcs i q hq
   have hqm := List.mem_of_getElem? hq
   obtain ⟨p1, p2, p3⟩ := HPs.out wo hbt q hqm
   have hsB := HSz.out wo hbt
   have hWlt : ∀ k, W k → k < wo.heap.size := fun k r => by
    obtain ⟨Z0, p0, c0, j0, g0, tr0, tl0, td0, hb0, hc0, ta0, tc0, vs0, Ls0, n0, cs0, d0, s0, h0, _, hW0⟩ := hWD
    rw [hW0] at r
    exact h0.mu_lt r
   have HPs2 : Hid (∀ w', Below B w0 w' → RdP (fun k => B ≤ k) w' q.a0 q.ps) := fun w' hb' => (HPs.out w' hb' q hqm).1
   -- a step from a world where the act lies in its block
   have HStep : Hid (∀ (fz' : Int) (wA : World) (W1 : Nat → Prop) (K1 l1 : Nat) (Us1 : List (List Pm)), (fz' = -1 ∨ q.kd = 7) → WD W1 wA wb room nb fr bl K1 l1 Hs Us1 → K1 ≤ (i + 1) * 1048577 → (∀ k, W1 k → B ≤ k) → ¬ W1 wo.heap.size → wo.heap.size < wA.heap.size → Below B w0 wA → wA.cell? ⟨wo.heap.size, 0, none⟩ = some (.int .i64 q.kd) → wA.cell? ⟨wo.heap.size, 3, none⟩ = some (.int .u64 q.keep) → Calls Tryz.prog 11 #[.pointer (some ⟨wb, 0, none⟩), .agg #[.int .i64 q.kd, .int .i64 q.at_, .slice q.a0 q.ps.length q.cp, .int .u64 q.keep, .int .i64 fz', .int .i64 (-1)]] wA fun e w2 => e = .returned (.bool true) ∧ w2.cell? ⟨wo.heap.size, 0, none⟩ = some (.int .i64 q.kd) ∧ w2.cell? ⟨wo.heap.size, 3, none⟩ = some (.int .u64 q.keep) ∧ ∃ W2 K2 l2 Us2, WD W2 w2 wb room nb fr bl K2 l2 Hs Us2 ∧ K2 ≤ K1 + nb + 1 ∧ (∀ k, W2 k → B ≤ k) ∧ Below B w0 w2) := fun fz' wA W1 K1 l1 Us1 hfz' hWD1 hK1 hWB1 hab hlA hbA kA kB => by
    have hsA := HSz.out wA hbA
    have pA := (HPs2.out wA hbA).but (But.refl (fun _ => False) wA) (fun _ _ r => r.elim) W1 (fun k _ r => hWB1 k r)
    refine Calls.mono (act_any hWD1 (by omega) q.kd q.at_ q.keep fz' (-1) hfz' q.a0 q.cp q.ps pA (by omega) (fun p hp => ⟨by have := (p3 p hp).1; omega, (p3 p hp).2⟩)) ?_
    rintro e w2 ⟨rfl, r1, W', l', Us', r2, r3, _⟩
    refine ⟨rfl, (r1.cell (p := ⟨wo.heap.size, 0, none⟩) hlA hab).trans kA, (r1.cell (p := ⟨wo.heap.size, 3, none⟩) hlA hab).trans kB, W', _, l', Us', r2, Nat.le_refl _, fun k r => ?_, ?_⟩
    ·rcases Nat.lt_or_ge k wA.heap.size with hk | hk
     ·exact hWB1 k (r3 k hk r)
     ·omega
    ·exact ((but_lo2 hbA).comp r1 (fun k _ r => hWB1 k r)).below (by have := HB.out; omega) (fun k hk r => by omega)
   have hKi : K ≤ (i + 1) * 1048577 := Nat.le_trans hK (Nat.mul_le_mul_right 1048577 (Nat.le_succ i))
   have HStart : Hid (∀ fz' : Int, ∃ wA, wA = wo.alloc (.cells #[.int .i64 q.kd, .int .i64 q.at_, .slice q.a0 q.ps.length q.cp, .int .u64 q.keep, .int .i64 fz', .int .i64 (-1)] 33) ∧ WD W wA wb room nb fr bl K lasted Hs Us ∧ ¬ W wo.heap.size ∧ wo.heap.size < wA.heap.size ∧ Below B w0 wA ∧ wA.cell? ⟨wo.heap.size, 0, none⟩ = some (.int .i64 q.kd) ∧ wA.cell? ⟨wo.heap.size, 1, none⟩ = some (.int .i64 q.at_) ∧ wA.cell? ⟨wo.heap.size, 2, none⟩ = some (.slice q.a0 q.ps.length q.cp) ∧ wA.cell? ⟨wo.heap.size, 3, none⟩ = some (.int .u64 q.keep) ∧ wA.cell? ⟨wo.heap.size, 4, none⟩ = some (.int .i64 fz') ∧ wA.cell? ⟨wo.heap.size, 5, none⟩ = some (.int .i64 (-1))) := fun fz' => by
    obtain ⟨wA, hwA⟩ : ∃ wA, wA = wo.alloc (.cells #[.int .i64 q.kd, .int .i64 q.at_, .slice q.a0 q.ps.length q.cp, .int .u64 q.keep, .int .i64 fz', .int .i64 (-1)] 33) := ⟨_, rfl⟩
    have bA : Below wo.heap.size wo wA := by rw [hwA]; exact (Below.refl _ _).alloc (Nat.le_refl _) _
    have zA : wA.heap.size = wo.heap.size + 1 := by rw [hwA]; simp
    exact ⟨wA, hwA, hWD.below bA, fun r => Nat.lt_irrefl _ (hWlt _ r), by omega, hbt.trans (bA.mono hsB), by rw [hwA]; exact cell_new rfl 0 _ rfl, by rw [hwA]; exact cell_new rfl 1 _ rfl, by rw [hwA]; exact cell_new rfl 2 _ rfl, by rw [hwA]; exact cell_new rfl 3 _ rfl, by rw [hwA]; exact cell_new rfl 4 _ rfl, by rw [hwA]; exact cell_new rfl 5 _ rfl⟩
   have HAct : Hid (∀ fz', (fz' = -1 ∨ q.kd = 7) → Calls Tryz.prog 11 #[.pointer (some ⟨wb, 0, none⟩), .agg #[.int .i64 q.kd, .int .i64 q.at_, .slice q.a0 q.ps.length q.cp, .int .u64 q.keep, .int .i64 fz', .int .i64 (-1)]] (wo.alloc (.cells #[.int .i64 q.kd, .int .i64 q.at_, .slice q.a0 q.ps.length q.cp, .int .u64 q.keep, .int .i64 fz', .int .i64 (-1)] 33)) fun e w2 => e = .returned (.bool true) ∧ w2.cell? ⟨wo.heap.size, 0, none⟩ = some (.int .i64 q.kd) ∧ w2.cell? ⟨wo.heap.size, 3, none⟩ = some (.int .u64 q.keep) ∧ ∃ W2 K2 l2 Us2, WD W2 w2 wb room nb fr bl K2 l2 Hs Us2 ∧ K2 ≤ (i + 1) * 1048577 ∧ (∀ k, W2 k → B ≤ k) ∧ Below B w0 w2) := fun fz' hfz' => by
    obtain ⟨wA, hwA, r1, r2, r3, r4, r5, _, _, r6, _, _⟩ := HStart.out fz'
    rw [← hwA]
    refine Calls.mono (HStep.out fz' wA W K lasted Us hfz' r1 hKi hWB r2 r3 r4 r5 r6) ?_
    rintro e w2 ⟨rfl, t1, t2, W2, K2, l2, Us2, t3, t4, t5, t6⟩
    exact ⟨rfl, t1, t2, W2, K2, l2, Us2, t3, by omega, t5, t6⟩
   have HCut : Hid (q.kd = 8 → Calls Tryz.prog 35 #[.pointer (some ⟨wb, 0, none⟩), .agg #[.int .i64 q.kd, .int .i64 q.at_, .slice q.a0 q.ps.length q.cp, .int .u64 q.keep, .int .i64 (-1), .int .i64 (-1)]] (wo.alloc (.cells #[.int .i64 q.kd, .int .i64 q.at_, .slice q.a0 q.ps.length q.cp, .int .u64 q.keep, .int .i64 (-1), .int .i64 (-1)] 33)) fun e wc => e = .returned (.bool true) ∧ (wc.cell? ⟨wo.heap.size, 0, none⟩ = some (.int .i64 q.kd) ∧ wc.cell? ⟨wo.heap.size, 1, none⟩ = some (.int .i64 q.at_) ∧ wc.cell? ⟨wo.heap.size, 2, none⟩ = some (.slice q.a0 q.ps.length q.cp) ∧ wc.cell? ⟨wo.heap.size, 3, none⟩ = some (.int .u64 q.keep) ∧ wc.cell? ⟨wo.heap.size, 4, none⟩ = some (.int .i64 (-1)) ∧ wc.cell? ⟨wo.heap.size, 5, none⟩ = some (.int .i64 (-1))) ∧ Calls Tryz.prog 11 #[.pointer (some ⟨wb, 0, none⟩), .agg #[.int .i64 q.kd, .int .i64 q.at_, .slice q.a0 q.ps.length q.cp, .int .u64 q.keep, .int .i64 (-1), .int .i64 (-1)]] wc fun e w2 => e = .returned (.bool true) ∧ w2.cell? ⟨wo.heap.size, 0, none⟩ = some (.int .i64 q.kd) ∧ w2.cell? ⟨wo.heap.size, 3, none⟩ = some (.int .u64 q.keep) ∧ ∃ W2 K2 l2 Us2, WD W2 w2 wb room nb fr bl K2 l2 Hs Us2 ∧ K2 ≤ (i + 1) * 1048577 ∧ (∀ k, W2 k → B ≤ k) ∧ Below B w0 w2) := fun _ => by
    obtain ⟨wA, hwA, r1, r2, r3, r4, r5, r6, r7, r8, r9, r10⟩ := HStart.out (-1)
    rw [← hwA]
    refine Calls.mono (cut_any r1 q.kd q.at_ q.keep (-1) (.slice q.a0 q.ps.length q.cp)) ?_
    rintro e wc ⟨rfl, c1, Wc, lc, Uc, c2, c3⟩
    have hc : ∀ t v, wA.cell? ⟨wo.heap.size, t, none⟩ = some v → wc.cell? ⟨wo.heap.size, t, none⟩ = some v := fun t v hv => (c1.cell (p := ⟨wo.heap.size, t, none⟩) r3 r2).trans hv
    have hsc := c1.size
    have hBc : Below B w0 wc := ((but_lo2 r4).comp c1 (fun k _ r => hWB k r)).below (by have := HB.out; omega) (fun k hk r => by omega)
    have hsA := HSz.out wA r4
    refine ⟨rfl, ⟨hc 0 _ r5, hc 1 _ r6, hc 2 _ r7, hc 3 _ r8, hc 4 _ r9, hc 5 _ r10⟩, ?_⟩
    refine Calls.mono (HStep.out (-1) wc Wc nb lc Uc (.inl rfl) c2 (by omega) (fun k r => ?_) (fun r => r2 (c3 _ r3 r)) (by omega) hBc (hc 0 _ r5) (hc 3 _ r8)) ?_
    ·rcases Nat.lt_or_ge k wA.heap.size with hk | hk
     ·exact hWB k (c3 k hk r)
     ·omega
    rintro e w2 ⟨rfl, t1, t2, W2, K2, l2, Us2, t3, t4, t5, t6⟩
    exact ⟨rfl, t1, t2, W2, K2, l2, Us2, t3, by omega, t5, t6⟩
   obtain ⟨kd, hkd⟩ : ∃ kd, kd = q.kd := ⟨_, rfl⟩
   obtain ⟨at_, hat⟩ : ∃ at_, at_ = q.at_ := ⟨_, rfl⟩
   obtain ⟨a0, ha0⟩ : ∃ a0, a0 = q.a0 := ⟨_, rfl⟩
   obtain ⟨np, hnp⟩ : ∃ np, np = q.ps.length := ⟨_, rfl⟩
   obtain ⟨cp, hcp1⟩ : ∃ cp, cp = q.cp := ⟨_, rfl⟩
   obtain ⟨keep, hkeep⟩ : ∃ keep, keep = q.keep := ⟨_, rfl⟩
   obtain ⟨fz, hfz⟩ : ∃ fz, fz = q.fz := ⟨_, rfl⟩
   obtain ⟨again, hagain⟩ : ∃ again, again = q.again := ⟨_, rfl⟩
   rw [← hkd] at c0
   rw [← hat] at c1
   rw [← ha0, ← hnp, ← hcp1] at c2
   rw [← hkeep] at c3
   rw [← hfz] at c4
   rw [← hagain] at c5
   rw [← hkd, ← hat, ← ha0, ← hnp, ← hcp1, ← hkeep] at HAct HCut
   subst hsa
   clear hcs hq hqm hkd hat ha0 hnp hcp1 hkeep hfz hagain p1 p2 p3 hWD hWB hK hWlt hsB hbt HStep HStart HPs2 hKi
   by_cases h7 : kd = 7
   ·subst h7
    go_wp2_with fail
    refine Calls.mono (HAct.out (i : Int) (.inr (by first | rfl | trivial))) ?_
    rintro e w2 ⟨rfl, kc, kk, W2, K2, l2, Us2, f1, f2, f3, f4⟩
    have F2 : Hid (WD W2 w2 wb room nb fr bl K2 l2 Hs Us2 ∧ K2 ≤ (i + 1) * 1048577 ∧ (∀ k, W2 k → B ≤ k) ∧ Below B w0 w2) := ⟨f1, f2, f3, f4⟩
    clear HAct HCut f1 f2 f3 f4
    go_wp2_with fail
    refine Calls.mono (F2.out.1.probes keep) ?_
    rintro e w3 ⟨rfl, b3⟩
    have F3 : Hid (WD W2 w3 wb room nb fr bl K2 l2 Hs Us2 ∧ K2 ≤ (i + 1) * 1048577 ∧ (∀ k, W2 k → B ≤ k) ∧ Below B w0 w3) := ⟨F2.out.1.below b3, F2.out.2.1, F2.out.2.2.1, F2.out.2.2.2.trans (b3.mono (HSz.out w2 F2.out.2.2.2))⟩
    clear F2 b3 kc kk
    go_wp2_with fail
    go_roundw
    case rel => exact ⟨i + 1, W2, K2, l2, Us2, by omega, by go_num, F3.out.1, F3.out.2.1, F3.out.2.2.1, F3.out.2.2.2⟩
    case measure => simp [intOf]; omega
   by_cases h2 : kd = 2
   ·subst h2
    go_wp2_with fail
    refine Calls.mono (HAct.out (-1) (.inl rfl)) ?_
    rintro e w2 ⟨rfl, kc, kk, W2, K2, l2, Us2, f1, f2, f3, f4⟩
    have F2 : Hid (WD W2 w2 wb room nb fr bl K2 l2 Hs Us2 ∧ K2 ≤ (i + 1) * 1048577 ∧ (∀ k, W2 k → B ≤ k) ∧ Below B w0 w2) := ⟨f1, f2, f3, f4⟩
    clear HAct HCut f1 f2 f3 f4
    go_wp2_with fail
    go_roundw
    case rel => exact ⟨i + 1, W2, K2, l2, Us2, by omega, by go_num, F2.out.1, F2.out.2.1, F2.out.2.2.1, F2.out.2.2.2⟩
    case measure => simp [intOf]; omega
   by_cases h5 : kd = 5
   ·subst h5
    go_wp2_with fail
    refine Calls.mono (HAct.out (-1) (.inl rfl)) ?_
    rintro e w2 ⟨rfl, kc, kk, W2, K2, l2, Us2, f1, f2, f3, f4⟩
    have F2 : Hid (WD W2 w2 wb room nb fr bl K2 l2 Hs Us2 ∧ K2 ≤ (i + 1) * 1048577 ∧ (∀ k, W2 k → B ≤ k) ∧ Below B w0 w2) := ⟨f1, f2, f3, f4⟩
    clear HAct HCut f1 f2 f3 f4
    go_wp2_with fail
    go_roundw
    case rel => exact ⟨i + 1, W2, K2, l2, Us2, by omega, by go_num, F2.out.1, F2.out.2.1, F2.out.2.2.1, F2.out.2.2.2⟩
    case measure => simp [intOf]; omega
   by_cases h8 : kd = 8
   ·subst h8
    go_wp2_with fail
    refine Calls.mono (HCut.out (by first | rfl | trivial)) ?_
    rintro e wc ⟨rfl, ⟨x0, x1, x2, x3, x4, x5⟩, hA2⟩
    have HA2 := hid hA2
    clear hA2 HAct HCut
    go_wp2_with fail
    refine Calls.mono HA2.out ?_
    rintro e w2 ⟨rfl, kc, kk, W2, K2, l2, Us2, f1, f2, f3, f4⟩
    have F2 : Hid (WD W2 w2 wb room nb fr bl K2 l2 Hs Us2 ∧ K2 ≤ (i + 1) * 1048577 ∧ (∀ k, W2 k → B ≤ k) ∧ Below B w0 w2) := ⟨f1, f2, f3, f4⟩
    clear HA2 f1 f2 f3 f4 x0 x1 x2 x3 x4 x5
    go_wp2_with fail
    refine Calls.mono (F2.out.1.probes keep) ?_
    rintro e w3 ⟨rfl, b3⟩
    have F3 : Hid (WD W2 w3 wb room nb fr bl K2 l2 Hs Us2 ∧ K2 ≤ (i + 1) * 1048577 ∧ (∀ k, W2 k → B ≤ k) ∧ Below B w0 w3) := ⟨F2.out.1.below b3, F2.out.2.1, F2.out.2.2.1, F2.out.2.2.2.trans (b3.mono (HSz.out w2 F2.out.2.2.2))⟩
    clear F2 b3 kc kk
    go_wp2_with fail
    go_roundw
    case rel => exact ⟨i + 1, W2, K2, l2, Us2, by omega, by go_num, F3.out.1, F3.out.2.1, F3.out.2.2.1, F3.out.2.2.2⟩
    case measure => simp [intOf]; omega
   ·have e7 : (kd == 7) = false := by simpa using h7
    have e8 : (kd == 8) = false := by simpa using h8
    have e2 : (kd != 2) = true := by simpa using h2
    have e5 : (kd != 5) = true := by simpa using h5
    go_wp2_with fail
    refine Calls.mono (HAct.out (-1) (.inl rfl)) ?_
    rintro e w2 ⟨rfl, kc, kk, W2, K2, l2, Us2, f1, f2, f3, f4⟩
    have F2 : Hid (WD W2 w2 wb room nb fr bl K2 l2 Hs Us2 ∧ K2 ≤ (i + 1) * 1048577 ∧ (∀ k, W2 k → B ≤ k) ∧ Below B w0 w2) := ⟨f1, f2, f3, f4⟩
    clear HAct HCut f1 f2 f3 f4
    go_wp2_with fail
    refine Calls.mono (F2.out.1.probes keep) ?_
    rintro e w3 ⟨rfl, b3⟩
    have F3 : Hid (WD W2 w3 wb room nb fr bl K2 l2 Hs Us2 ∧ K2 ≤ (i + 1) * 1048577 ∧ (∀ k, W2 k → B ≤ k) ∧ Below B w0 w3) := ⟨F2.out.1.below b3, F2.out.2.1, F2.out.2.2.1, F2.out.2.2.2.trans (b3.mono (HSz.out w2 F2.out.2.2.2))⟩
    clear F2 b3 kc kk
    go_wp2_with fail
    go_roundw
    case rel => exact ⟨i + 1, W2, K2, l2, Us2, by omega, by go_num, F3.out.1, F3.out.2.1, F3.out.2.2.1, F3.out.2.2.2⟩
    case measure => simp [intOf]; omega
  ·have hi' : ¬ (i : Int) < (N : Int) := by omega
   have hsB := HSz.out wo hbt
   obtain ⟨_, _, j, g, ta, tc, _, k2, k3, _, _, _, hHo⟩ := hWD.looks (by omega)
   have HHo : Hid (Calls Tryz.prog 34 #[.pointer (some ⟨j, 0, none⟩), .pointer (some ⟨g, 0, none⟩)] wo.drew fun e w'' => e = .returned (.bool true) ∧ w''.cell? ⟨wb, 2, none⟩ = some (.pointer (some ⟨j, 0, none⟩)) ∧ w''.cell? ⟨wb, 3, none⟩ = some (.pointer (some ⟨g, 0, none⟩)) ∧ PO (.returned (.bool true)) w'') := by
    refine Calls.mono (hHo wo.drew (Below.refl wo.heap.size wo).drew) ?_
    rintro e w'' ⟨rfl, r1, r2, r3⟩
    exact ⟨rfl, r1, r2, HFin.out _ (((but_lo2 hbt).comp r3 (fun k _ r => hWB k r)).below (by have := HB.out; omega) (fun k hk r => by omega))⟩
   clear hWD hK hWB hbt hHo hsB
   go_wp2_with fail
   refine wp_region_held_drew (S := fun w' => w'.cell? ⟨wb, 2, none⟩ = some (.pointer (some ⟨j, 0, none⟩)) ∧ w'.cell? ⟨wb, 3, none⟩ = some (.pointer (some ⟨g, 0, none⟩))) (by kernel_rfl) ⟨k2, k3⟩ (fun hSS => ?_)
   apply tk 0 (some 70) (.move (.tmp 5)) 27 none rfl (by kernel_rfl) (fun _ _ _ h => h) (by rfl) hSS
   ·(intro w9 hSw; (try dsimp only at hSw); (try go_split_ands); first | (go_simp; done) | (go_simp; with_reducible rfl))
   apply tk 1 (some 71) (.nilCheck (.tmp 70)) 0 none rfl (by kernel_rfl) (fun _ _ _ h => h) (by rfl) hSS
   ·(intro w9 hSw; (try dsimp only at hSw); (try go_split_ands); first | (go_simp; done) | (go_simp; with_reducible rfl))
   apply tk 2 (some 72) (.fieldAddr 45 (.tmp 71) 2) 0 none rfl (by kernel_rfl) (fun _ _ _ h => h) (by rfl) hSS
   ·(intro w9 hSw; (try dsimp only at hSw); (try go_split_ands); first | (go_simp; done) | (go_simp; with_reducible rfl))
   apply tk 3 (some 73) (.load 39 (.tmp 72)) 39 none rfl (by kernel_rfl) (fun _ _ _ h => h) (by rfl) hSS
   ·(intro w9 hSw; (try dsimp only at hSw); (try go_split_ands); first | (go_simp; done) | (go_simp; with_reducible rfl))
   try simp only [Act.put, List.setIfInBounds_toArray, List.set_cons_zero, List.set_cons_succ]
   apply tk 4 (some 74) (.move (.tmp 5)) 27 none rfl (by kernel_rfl) (fun _ _ _ h => h) (by rfl) hSS
   ·(intro w9 hSw; (try dsimp only at hSw); (try go_split_ands); first | (go_simp; done) | (go_simp; with_reducible rfl))
   apply tk 5 (some 75) (.nilCheck (.tmp 74)) 0 none rfl (by kernel_rfl) (fun _ _ _ h => h) (by rfl) hSS
   ·(intro w9 hSw; (try dsimp only at hSw); (try go_split_ands); first | (go_simp; done) | (go_simp; with_reducible rfl))
   apply tk 6 (some 76) (.fieldAddr 45 (.tmp 75) 3) 0 none rfl (by kernel_rfl) (fun _ _ _ h => h) (by rfl) hSS
   ·(intro w9 hSw; (try dsimp only at hSw); (try go_split_ands); first | (go_simp; done) | (go_simp; with_reducible rfl))
   apply tk 7 (some 77) (.load 40 (.tmp 76)) 40 none rfl (by kernel_rfl) (fun _ _ _ h => h) (by rfl) hSS
   ·(intro w9 hSw; (try dsimp only at hSw); (try go_split_ands); first | (go_simp; done) | (go_simp; with_reducible rfl))
   try simp only [Act.put, List.setIfInBounds_toArray, List.set_cons_zero, List.set_cons_succ]
   refine wpAnyH_ready (rs := [8]) (by kernel_rfl) (by simp) (AllReadyH.cons (o := ({ dst := some 78, op := Op.call { callee := Callee.value (Operand.func 34), args := #[Operand.tmp 73, Operand.tmp 77], argTypes := #[39, 40] }, type := 4, pos := _, after := _, guard := none } : Oper)) rfl (fun K9 hK9 => ?_) AllReadyH.nil)
   go_simp
   go_at_call 34
   refine Calls.mono HHo.out ?_
   rintro e wH ⟨rfl, h2, h3, hF⟩
   have FIN := hid hF
   clear hF HHo
   refine hK9.out _ _ ⟨h2, h3⟩ (fun hSS => ?_)
   clear hK9 K9
   try simp only [Act.put, List.setIfInBounds_toArray, List.set_cons_zero, List.set_cons_succ]
   apply tk 9 (some 4) (.assign (.tmp 78)) 4 none rfl (by kernel_rfl) (fun _ _ _ h => h) (by rfl) hSS
   ·(intro w9 hSw; (try dsimp only at hSw); (try go_split_ands); first | (go_simp; done) | (go_simp; with_reducible rfl))
   try simp only [Act.put, List.setIfInBounds_toArray, List.set_cons_zero, List.set_cons_succ]
   refine wpAnyH_done (by kernel_rfl) ?_ _
   clear hSS
   go_wp2
   exact FIN.out
end Go.Proofs.YtldlejpacgphmaaGreat
