import Derived.Test.YtldlejpacgphmaaGreatG49
import Derived.Test.YtldlejpacgphmaaGreatG27
import Derived.Test.YtldlejpacgphmaaGreatG47
namespace Go.Proofs.YtldlejpacgphmaaGreat
open Go.RowKit Go.Deep
theorem but_lo {B : Nat} {w w' : World} (h : Below B w w') : But (fun k => B ≤ k) w w' := ⟨h.os, h.tape, h.output, h.size, fun k _ q => h.block k (by omega)⟩
set_option maxRecDepth 100000 in
set_option maxHeartbeats 8000000 in
theorem lasts_law (ha : Option Addr) (hn hcp : Nat) (Hs : List Int) (frI blI rmI : Int) (sa : Option Addr) (scp : Nat) (As : List Ac) (w : World) (hH : Rd w.heap.size w ha hn Hs) (hHn : hn ≤ 1073741823) (hnil : ha = none → hcp = 0) (hA : RdA w.heap.size w sa As) (hN : As.length ≤ 1048576) (hP : ∀ q ∈ As, RdP (fun _ => False) w q.a0 q.ps ∧ q.ps.length ≤ 1048576 ∧ (∀ p ∈ q.ps, p.data.length ≤ 1048576 ∧ (p.ad = none → p.cap = 0))) :
  Calls Tryz.prog 3 #[.agg #[.slice ha hn hcp, .int .i64 frI, .int .i64 blI, .int .i64 rmI], .slice sa As.length scp] w fun e w' => e = .returned (.bool true) ∧ Below w.heap.size w w' := by
 obtain ⟨PO, hPO⟩ : ∃ PO : Ending → World → Prop, PO = fun e w' => e = .returned (.bool true) ∧ Below w.heap.size w w' := ⟨_, rfl⟩
 rw [← hPO]
 obtain ⟨N, hNe⟩ : ∃ N, N = As.length := ⟨_, rfl⟩
 rw [← hNe]
 have hN3 : N ≤ 1048576 := by omega
 obtain ⟨pk, hpk⟩ : ∃ pk, pk = w.heap.size := ⟨_, rfl⟩
 obtain ⟨w0, hw0⟩ : ∃ w0, w0 = w.alloc (.cells #[.slice ha hn hcp, .int .i64 frI, .int .i64 blI, .int .i64 rmI] 24) := ⟨_, rfl⟩
 have b0 : Below w.heap.size w w0 := by rw [hw0]; exact (Below.refl _ _).alloc (Nat.le_refl _) _
 have z0 : w0.heap.size = w.heap.size + 1 := by rw [hw0]; simp
 obtain ⟨B, hB⟩ : ∃ B, B = w0.heap.size := ⟨_, rfl⟩
 have hpl : pk < B := by omega
 have c0 : w0.cell? ⟨pk, 0, none⟩ = some (.slice ha hn hcp) := by rw [hw0, hpk]; exact cell_new rfl 0 _ rfl
 have c1 : w0.cell? ⟨pk, 1, none⟩ = some (.int .i64 frI) := by rw [hw0, hpk]; exact cell_new rfl 1 _ rfl
 have c2 : w0.cell? ⟨pk, 2, none⟩ = some (.int .i64 blI) := by rw [hw0, hpk]; exact cell_new rfl 2 _ rfl
 have c3 : w0.cell? ⟨pk, 3, none⟩ = some (.int .i64 rmI) := by rw [hw0, hpk]; exact cell_new rfl 3 _ rfl
 have HFin : Hid (∀ w', Below B w0 w' → PO (.returned (.bool true)) w') := fun w' hb => by
  rw [hPO]
  exact ⟨rfl, b0.trans (hb.mono (by omega))⟩
 have HSz : Hid (∀ w', Below B w0 w' → B ≤ w'.heap.size) := fun w' hb => by have := hb.size; omega
 have HLow : Hid (∀ w', Below B w0 w' → Below w.heap.size w w') := fun w' hb => b0.trans (hb.mono (by omega))
 have HAs : Hid (∀ w', Below B w0 w' → RdA B w' sa As) := fun w' hb => by
  have h1 := hA.below (HLow.out w' hb)
  exact h1.imp id (fun ⟨b, o, e, l, q⟩ => ⟨b, o, e, by omega, q⟩)
 have HPs : Hid (∀ w', Below B w0 w' → ∀ q ∈ As, RdP (fun k => B ≤ k) w' q.a0 q.ps ∧ q.ps.length ≤ 1048576 ∧ (∀ p ∈ q.ps, p.data.length ≤ 1048576 ∧ (p.ad = none → p.cap = 0))) := fun w' hb q hq => by
  obtain ⟨r1, r2, r3⟩ := hP q hq
  exact ⟨r1.but (But.of_below (HLow.out w' hb) (X := fun _ => False)) (fun _ _ q => q) _ (fun k hk q => by omega), r2, r3⟩
 have HBg : Hid (∀ w', Below B w0 w' → Calls Tryz.prog 10 #[.agg #[.slice ha hn hcp, .int .i64 frI, .int .i64 blI, .int .i64 rmI]] w' fun e w'' => Below w'.heap.size w' w'' ∧ (e = .returned (.tuple #[.pointer none, .bool true]) ∨ ∃ wb room nb fr bl W, e = .returned (.tuple #[.pointer (some ⟨wb, 0, none⟩), .bool true]) ∧ WD W w'' wb room nb fr bl 0 0 Hs [] ∧ ∀ k, W k → w'.heap.size ≤ k)) := fun w' hb => begun_any ha hn hcp Hs frI blI rmI hHn hnil ((hH.below (HLow.out w' hb)).mono (HLow.out w' hb).size)
 have HCell : Hid (∀ w', Below B w0 w' → w'.cell? ⟨pk, 0, none⟩ = some (.slice ha hn hcp) ∧ w'.cell? ⟨pk, 1, none⟩ = some (.int .i64 frI) ∧ w'.cell? ⟨pk, 2, none⟩ = some (.int .i64 blI) ∧ w'.cell? ⟨pk, 3, none⟩ = some (.int .i64 rmI)) := fun w' hb => ⟨(hb.cell (p := ⟨pk, 0, none⟩) hpl).trans c0, (hb.cell (p := ⟨pk, 1, none⟩) hpl).trans c1, (hb.cell (p := ⟨pk, 2, none⟩) hpl).trans c2, (hb.cell (p := ⟨pk, 3, none⟩) hpl).trans c3⟩
 have HNE := hid hNe
 have HW0 := hid hw0
 have HPK := hid hpk
 have HB := hid hB
 clear hH hA hP hnil hw0 hpk b0 z0 c0 c1 c2 c3 hPO hB hNe HLow hN
 go_enter Tryz.func3, Tryz.ntmps3
 go_wp2_with fail
 rw [← HW0.out, ← HPK.out]
 refine Calls.mono (lives_any w0) ?_
 rintro e w1 ⟨rfl, b1⟩
 rw [← HB.out] at b1
 have B1 := hid b1
 obtain ⟨d0, d1, d2, d3⟩ := HCell.out w1 b1
 clear b1 HW0 HPK
 go_wp2_with fail
 refine Calls.mono (HBg.out w1 B1.out) ?_
 rintro e w2 ⟨b2, hcase⟩
 have B2 : Hid (Below B w0 w2) := B1.out.trans (b2.mono (HSz.out w1 B1.out))
 have hs1 := HSz.out w1 B1.out
 clear HBg d0 d1 d2 d3 b2 HCell
 rcases hcase with rfl | ⟨wb, room, nb, fr, bl, W0, rfl, hWD, hWB⟩
 ·have FIN := hid (HFin.out w2 B2.out)
  go_wp2
  exact FIN.out
 have H2 : Hid (WD W0 w2 wb room nb fr bl 0 0 Hs [] ∧ ∀ k, W0 k → B ≤ k) := ⟨hWD, fun k q => Nat.le_trans hs1 (hWB k q)⟩
 have hnb := hWD.log.1
 have n1 := hWD.log.2.1
 clear hWD hWB hs1 B1
 go_wp2_with fail
 go_loopw [7] (fun iv wr => ∃ (i : Nat) (W : Nat → Prop) (K lasted : Nat) (Us : List (List Pm)), i ≤ N ∧ iv = .int .i64 (i : Int) ∧ WD W wr wb room nb fr bl K lasted Hs Us ∧ K ≤ i * 524289 ∧ (∀ k, W k → B ≤ k) ∧ Below B w0 wr) (fun iv _ => N - (intOf iv).toNat)
 case atStart => exact ⟨0, W0, 0, 0, [], Nat.zero_le _, rfl, H2.out.1, Nat.zero_le _, H2.out.2, B2.out⟩
 case round =>
  clear H2 B2
  rename World => wo
  obtain ⟨i, W, K, lasted, Us, hiN, rfl, hWD, hK, hWB, hbt⟩ := hrel
  by_cases hi : i < N
  ·have hi' : (i : Int) < (N : Int) := by omega
   obtain ⟨q, hq⟩ : ∃ q, As[i]? = some q := ⟨_, List.getElem?_eq_getElem (by have := HNE.out; omega)⟩
   obtain ⟨pb, po, hsa, hpb, hcs⟩ : ∃ b off, sa = some ⟨b, off, none⟩ ∧ b < B ∧ ∀ t q, As[t]? = some q → wo.cell? ⟨b, off + t * 6, none⟩ = some (.int .i64 q.kd) ∧ wo.cell? ⟨b, off + t * 6 + 1, none⟩ = some (.int .i64 q.at_) ∧ wo.cell? ⟨b, off + t * 6 + 2, none⟩ = some (.slice q.a0 q.ps.length q.cp) ∧ wo.cell? ⟨b, off + t * 6 + 3, none⟩ = some (.int .u64 q.keep) ∧ wo.cell? ⟨b, off + t * 6 + 4, none⟩ = some (.int .i64 q.fz) ∧ wo.cell? ⟨b, off + t * 6 + 5, none⟩ = some (.int .i64 q.again) := by
    rcases HAs.out wo hbt with e | e
    ·rw [e] at hq; cases hq
    ·exact e
   obtain ⟨c0, c1, c2, c3, c4, c5⟩ := hcs i q hq
   have hqm := List.mem_of_getElem? hq
   obtain ⟨p1, p2, p3⟩ := HPs.out wo hbt q hqm
   have hsB := HSz.out wo hbt
   have hWlt : ∀ k, W k → k < wo.heap.size := fun k r => by
    obtain ⟨Z0, p0, c0, j0, g0, tr0, tl0, td0, hb0, hc0, ta0, tc0, vs0, Ls0, n0, cs0, d0, s0, h0, _, hW0⟩ := hWD
    rw [hW0] at r
    exact h0.mu_lt r
   have HAct : Hid (∀ fz', (fz' = -1 ∨ q.kd = 7) → Calls Tryz.prog 11 #[.pointer (some ⟨wb, 0, none⟩), .agg #[.int .i64 q.kd, .int .i64 q.at_, .slice q.a0 q.ps.length q.cp, .int .u64 q.keep, .int .i64 fz', .int .i64 q.again]] (wo.alloc (.cells #[.int .i64 q.kd, .int .i64 q.at_, .slice q.a0 q.ps.length q.cp, .int .u64 q.keep, .int .i64 fz', .int .i64 q.again] 33)) fun e w2 => e = .returned (.bool true) ∧ w2.cell? ⟨wo.heap.size, 0, none⟩ = some (.int .i64 q.kd) ∧ wo.heap.size < w2.heap.size ∧ Below B w0 w2 ∧ ∃ W' K' lasted' Us', WE (q.kd = 4) W' w2 wb room nb fr bl K' lasted' Hs Us' ∧ K' ≤ (i + 1) * 524289 ∧ (∀ k, W' k → B ≤ k) ∧ (q.kd = 3 ∨ q.kd = 4 → lasted' = Us'.length)) := fun fz' hfz' => by
    obtain ⟨wA, hwA⟩ : ∃ wA, wA = wo.alloc (.cells #[.int .i64 q.kd, .int .i64 q.at_, .slice q.a0 q.ps.length q.cp, .int .u64 q.keep, .int .i64 fz', .int .i64 q.again] 33) := ⟨_, rfl⟩
    have bA : Below wo.heap.size wo wA := by rw [hwA]; exact (Below.refl _ _).alloc (Nat.le_refl _) _
    have zA : wA.heap.size = wo.heap.size + 1 := by rw [hwA]; simp
    have kA : wA.cell? ⟨wo.heap.size, 0, none⟩ = some (.int .i64 q.kd) := by rw [hwA]; exact cell_new rfl 0 _ rfl
    rw [← hwA]
    refine Calls.mono (act_all (hWD.below bA) (by omega) q.kd q.at_ q.keep fz' q.again hfz' q.a0 q.cp q.ps ((p1.but (But.of_below bA (X := fun _ => False)) (fun _ _ r => r.elim) W (fun k hk r => hWB k r))) (by omega) (fun p hp => ⟨by have := (p3 p hp).1; omega, (p3 p hp).2⟩)) ?_
    rintro e w2 ⟨rfl, r1, W', l', Us', r2, r3, r4⟩
    have hs2 := r1.size
    refine ⟨rfl, (r1.cell (p := ⟨wo.heap.size, 0, none⟩) (by show wo.heap.size < _; omega) (fun r => Nat.lt_irrefl _ (hWlt _ r))).trans kA, by omega, ?_, W', _, l', Us', r2, by omega, fun k r => ?_, r4⟩
    ·exact (((but_lo hbt).comp (But.of_below bA (X := fun _ => False)) (fun _ _ r => r.elim)).comp r1 (fun k _ r => hWB k r)).below (by have := HB.out; omega) (fun k hk r => by omega)
    ·rcases Nat.lt_or_ge k wA.heap.size with hk | hk
     ·exact hWB k (r3 k hk r)
     ·omega
   obtain ⟨kd, hkd⟩ : ∃ kd, kd = q.kd := ⟨_, rfl⟩
   obtain ⟨at_, hat⟩ : ∃ at_, at_ = q.at_ := ⟨_, rfl⟩
   obtain ⟨a0, ha0⟩ : ∃ a0, a0 = q.a0 := ⟨_, rfl⟩
   obtain ⟨np, hnp⟩ : ∃ np, np = q.ps.length := ⟨_, rfl⟩
   obtain ⟨cp, hcp1⟩ : ∃ cp, cp = q.cp := ⟨_, rfl⟩
   obtain ⟨keep, hkeep⟩ : ∃ keep, keep = q.keep := ⟨_, rfl⟩
   obtain ⟨fz, hfz⟩ : ∃ fz, fz = q.fz := ⟨_, rfl⟩
   obtain ⟨again, hagain⟩ : ∃ again, again = q.again := ⟨_, rfl⟩
   rw [← hkd] at c0
   rw [← hat] at c1
   rw [← ha0, ← hnp, ← hcp1] at c2
   rw [← hkeep] at c3
   rw [← hfz] at c4
   rw [← hagain] at c5
   rw [← hkd, ← hat, ← ha0, ← hnp, ← hcp1, ← hkeep, ← hagain] at HAct
   subst hsa
   clear hcs hq hqm hkd hat ha0 hnp hcp1 hkeep hfz hagain p1 p2 p3 hWD hWB hK hWlt hsB hbt
   by_cases h7 : kd = 7
   ·subst h7
    go_wp2_with fail
    refine Calls.mono (HAct.out (i : Int) (.inr (by first | rfl | trivial))) ?_
    rintro e w2 ⟨rfl, kc, kl, b2, W2, K2, l2, Us2, hWE, hK2, hWB2, hl2⟩
    have F2 : Hid (WD W2 w2 wb room nb fr bl K2 l2 Hs Us2 ∧ K2 ≤ (i + 1) * 524289 ∧ (∀ k, W2 k → B ≤ k) ∧ Below B w0 w2) := ⟨hWE.wd, hK2, hWB2, b2⟩
    clear HAct hWE hK2 hWB2 hl2 b2
    go_wp2_with fail
    go_roundw
    case rel => exact ⟨i + 1, W2, K2, l2, Us2, by omega, by go_num, F2.out.1, F2.out.2.1, F2.out.2.2.1, F2.out.2.2.2⟩
    case measure => simp [intOf]; omega
   by_cases h3 : kd = 3
   ·subst h3
    have hside : (3 : Int) = 3 ∨ (3 : Int) = 4 := (.inl rfl)
    go_wp2_with fail
    refine Calls.mono (HAct.out (-1) (.inl rfl)) ?_
    rintro e w2 ⟨rfl, kc, kl, b2, W2, K2, l2, Us2, hWE, hK2, hWB2, hl2⟩
    have F2 : Hid (WD W2 w2 wb room nb fr bl K2 l2 Hs Us2 ∧ K2 ≤ (i + 1) * 524289 ∧ (∀ k, W2 k → B ≤ k) ∧ Below B w0 w2) := ⟨hWE.wd, hK2, hWB2, b2⟩
    obtain ⟨_, _, hus, g, ta, tc, hLk⟩ := hWE.wd.log
    have hl3 := hl2 (by first | exact hside | trivial)
    obtain ⟨n, hne⟩ : ∃ n, n = Us2.length := ⟨_, rfl⟩
    have hn2 : n ≤ 1099511627776 := by omega
    have HLk : Hid (∀ w', Below w2.heap.size w2 w' → w'.cell? ⟨wb, 3, none⟩ = some (.pointer (some ⟨g, 0, none⟩)) ∧ w'.cell? ⟨wb, 5, none⟩ = some (.int .i64 (n : Int)) ∧ w'.cell? ⟨g, 3, none⟩ = some (.slice ta n tc) ∧ w'.cell? ⟨wo.heap.size, 0, none⟩ = some (.int .i64 3) ∧ (Calls Tryz.prog 14 #[.pointer (some ⟨g, 0, none⟩)] w' fun e w'' => e = .returned (.int .i64 (nb : Int)) ∧ w'' = w') ∧ (∀ at_ : Int, Calls Tryz.prog 15 #[.pointer (some ⟨g, 0, none⟩), .int .i64 at_] w' fun e w'' => e = .returned (.int .i64 (homeC nb fr bl at_)) ∧ Below w'.heap.size w' w'') ∧ ∀ x, x < nb → Calls Tryz.prog 17 #[.pointer (some ⟨g, 0, none⟩), .int .i64 (x : Int), .int .i64 (n : Int)] w' fun e w'' => ∃ g' cp, e = .returned (.slice (some ⟨g', 0, none⟩) 512 cp) ∧ Own w'' g' 512 cp (contT (imgB Hs) (plainT Us2) n x) ∧ Below w'.heap.size w' w'') := fun w' hb' => by
     obtain ⟨r1, r2, r3, r4, r5, r6⟩ := hLk w' hb'
     rw [hl3, ← hne] at r2
     rw [← hne] at r3 r6
     exact ⟨r1, r2, r3, (hb'.cell (p := ⟨wo.heap.size, 0, none⟩) kl).trans kc, r4, r5, r6⟩
    obtain ⟨L, hL⟩ : ∃ L, L = 512 * nb := ⟨_, rfl⟩
    have HLf := hid (hWE.left 0)
    rw [← hL] at HLf
    have HLe := hid (And.intro hL hne)
    have HWb : Hid (∀ w', Below w2.heap.size w2 w' → WD W2 w' wb room nb fr bl K2 l2 Hs Us2 ∧ K2 ≤ (i + 1) * 524289 ∧ (∀ k, W2 k → B ≤ k) ∧ Below B w0 w') := fun w' hb' => ⟨F2.out.1.below hb', F2.out.2.1, F2.out.2.2.1, F2.out.2.2.2.trans (hb'.mono (HSz.out w2 F2.out.2.2.2))⟩
    clear HAct hWE hK2 hWB2 hl2 b2 hl3 hLk hL hne hus hside F2
    go_wp2_with fail
    refine Calls.mono HLf.out ?_
    rintro e w3 ⟨ib, ic, I, rfl, b3, oI, iI, hIm, hPr⟩
    have HPr := hid (hPr w3.drew (Below.refl w3.heap.size w3).drew)
    obtain ⟨k3, k5, kg, kk, _⟩ := HLk.out w3 b3
    have B3 := hid b3
    have HI := hid (And.intro oI (And.intro iI hIm))
    clear b3 oI iI hIm hPr HLf kc kl
    go_wp2_with fail
    refine wp_region_noPanic ?_
    refine wp_region_held_drew (S := fun w' => w'.cell? ⟨wb, 3, none⟩ = some (.pointer (some ⟨g, 0, none⟩)) ∧ w'.cell? ⟨wb, 5, none⟩ = some (.int .i64 (n : Int)) ∧ w'.cell? ⟨g, 3, none⟩ = some (.slice ta n tc)) (by kernel_rfl) ⟨k3, k5, kg⟩ (fun hSS => ?_)
    apply tk 0 (some 59) (.move (.tmp 10)) 4 none rfl (by kernel_rfl) (fun _ _ _ h => h) (by rfl) hSS
    ·(intro w9 hSw; (try dsimp only at hSw); (try go_split_ands); first | (go_simp; done) | (go_simp; with_reducible rfl))
    apply tk 1 (some 60) (.unOp .not 4 (.tmp 59)) 4 none rfl (by kernel_rfl) (fun _ _ _ h => h) (by rfl) hSS
    ·(intro w9 hSw; (try dsimp only at hSw); (try go_split_ands); first | (go_simp; done) | (go_simp; with_reducible rfl))
    apply tk 2 (some 61) (.move (.tmp 60)) 4 none rfl (by kernel_rfl) (fun _ _ _ h => h) (by rfl) hSS
    ·(intro w9 hSw; (try dsimp only at hSw); (try go_split_ands); first | (go_simp; done) | (go_simp; with_reducible rfl))
    apply tk 3 (some 62) (.move (.tmp 5)) 27 (some (2, false)) rfl (by kernel_rfl) (fun _ _ _ h => h) (by rfl) hSS
    ·(intro w9 hSw; (try dsimp only at hSw); (try go_split_ands); first | (go_simp; done) | (go_simp; with_reducible rfl))
    try simp only [Act.put, List.setIfInBounds_toArray, List.set_cons_zero, List.set_cons_succ]
    apply tk 4 (some 63) (.nilCheck (.tmp 62)) 0 (some (2, false)) rfl (by kernel_rfl) (fun _ _ _ h => h) (by rfl) hSS
    ·(intro w9 hSw; (try dsimp only at hSw); (try go_split_ands); first | (go_simp; done) | (go_simp; with_reducible rfl))
    apply tk 5 (some 64) (.fieldAddr 45 (.tmp 63) 5) 0 (some (2, false)) rfl (by kernel_rfl) (fun _ _ _ h => h) (by rfl) hSS
    ·(intro w9 hSw; (try dsimp only at hSw); (try go_split_ands); first | (go_simp; done) | (go_simp; with_reducible rfl))
    apply tk 6 (some 65) (.load 3 (.tmp 64)) 3 (some (2, false)) rfl (by kernel_rfl) (fun _ _ _ h => h) (by rfl) hSS
    ·(intro w9 hSw; (try dsimp only at hSw); (try go_split_ands); first | (go_simp; done) | (go_simp; with_reducible rfl))
    apply tk 7 (some 66) (.move (.tmp 5)) 27 (some (2, false)) rfl (by kernel_rfl) (fun _ _ _ h => h) (by rfl) hSS
    ·(intro w9 hSw; (try dsimp only at hSw); (try go_split_ands); first | (go_simp; done) | (go_simp; with_reducible rfl))
    try simp only [Act.put, List.setIfInBounds_toArray, List.set_cons_zero, List.set_cons_succ]
    apply tk 8 (some 67) (.nilCheck (.tmp 66)) 0 (some (2, false)) rfl (by kernel_rfl) (fun _ _ _ h => h) (by rfl) hSS
    ·(intro w9 hSw; (try dsimp only at hSw); (try go_split_ands); first | (go_simp; done) | (go_simp; with_reducible rfl))
    apply tk 9 (some 68) (.fieldAddr 45 (.tmp 67) 3) 0 (some (2, false)) rfl (by kernel_rfl) (fun _ _ _ h => h) (by rfl) hSS
    ·(intro w9 hSw; (try dsimp only at hSw); (try go_split_ands); first | (go_simp; done) | (go_simp; with_reducible rfl))
    apply tk 10 (some 69) (.load 40 (.tmp 68)) 40 (some (2, false)) rfl (by kernel_rfl) (fun _ _ _ h => h) (by rfl) hSS
    ·(intro w9 hSw; (try dsimp only at hSw); (try go_split_ands); first | (go_simp; done) | (go_simp; with_reducible rfl))
    apply tk 11 (some 70) (.nilCheck (.tmp 69)) 0 (some (2, false)) rfl (by kernel_rfl) (fun _ _ _ h => h) (by rfl) hSS
    ·(intro w9 hSw; (try dsimp only at hSw); (try go_split_ands); first | (go_simp; done) | (go_simp; with_reducible rfl))
    try simp only [Act.put, List.setIfInBounds_toArray, List.set_cons_zero, List.set_cons_succ]
    apply tk 12 (some 71) (.fieldAddr 48 (.tmp 70) 3) 0 (some (2, false)) rfl (by kernel_rfl) (fun _ _ _ h => h) (by rfl) hSS
    ·(intro w9 hSw; (try dsimp only at hSw); (try go_split_ands); first | (go_simp; done) | (go_simp; with_reducible rfl))
    apply tk 13 (some 72) (.load 46 (.tmp 71)) 46 (some (2, false)) rfl (by kernel_rfl) (fun _ _ _ h => h) (by rfl) hSS
    ·(intro w9 hSw; (try dsimp only at hSw); (try go_split_ands); first | (go_simp; done) | (go_simp; with_reducible rfl))
    apply tk 14 (some 73) (.call { callee := .builtin .len, args := #[.tmp 72], argTypes := #[46] }) 3 (some (2, false)) rfl (by kernel_rfl) (fun _ _ _ h => h) (by rfl) hSS
    ·(intro w9 hSw; (try dsimp only at hSw); (try go_split_ands); first | (go_simp; done) | (go_simp; with_reducible rfl))
    apply tk 15 (some 74) (.binOp .neq 3 (.tmp 65) (.tmp 73) 3) 4 (some (2, false)) rfl (by kernel_rfl) (fun _ _ _ h => h) (by rfl) hSS
    ·(intro w9 hSw; (try dsimp only at hSw); (try go_split_ands); first | (go_simp; done) | (go_simp; with_reducible rfl))
    try simp only [Act.put, List.setIfInBounds_toArray, List.set_cons_zero, List.set_cons_succ]
    apply tk 16 (some 75) (.pick (.tmp 61) (.const (.bool true)) (.tmp 74)) 4 none rfl (by kernel_rfl) (fun _ _ _ h => h) (by rfl) hSS
    ·(intro w9 hSw; (try dsimp only at hSw); (try go_split_ands); first | (go_simp; done) | (go_simp; with_reducible rfl))
    apply tk 17 (some 76) (.move (.tmp 75)) 4 none rfl (by kernel_rfl) (fun _ _ _ h => h) (by rfl) hSS
    ·(intro w9 hSw; (try dsimp only at hSw); (try go_split_ands); first | (go_simp; done) | (go_simp; with_reducible rfl))
    apply tk 18 (some 77) (.move (.tmp 5)) 27 (some (17, false)) rfl (by kernel_rfl) (fun _ _ _ h => h) (by rfl) hSS
    ·(intro w9 hSw; (try dsimp only at hSw); (try go_split_ands); first | (go_simp; done) | (go_simp; with_reducible rfl))
    apply tk 19 (some 78) (.move (.tmp 9)) 22 (some (17, false)) rfl (by kernel_rfl) (fun _ _ _ h => h) (by rfl) hSS
    ·(intro w9 hSw; (try dsimp only at hSw); (try go_split_ands); first | (go_simp; done) | (go_simp; with_reducible rfl))
    try simp only [Act.put, List.setIfInBounds_toArray, List.set_cons_zero, List.set_cons_succ]
    refine wpAnyH_ready (rs := [20]) (by kernel_rfl) (by simp) (AllReadyH.cons (o := ({ dst := some 79, op := Op.call { callee := Callee.value (Operand.func 13), args := #[Operand.tmp 77, Operand.tmp 78], argTypes := #[27, 22] }, type := 4, pos := _, after := _, guard := some (17, false) } : Oper)) rfl (fun K9 hK9 => ?_) AllReadyH.nil)
    go_simp
    go_at_call 13
    refine Calls.mono HPr.out ?_
    rintro e w4 ⟨rfl, b4⟩
    have B43' : Hid (Below w3.heap.size w3 w4) := (Below.refl w3.heap.size w3).drew.trans b4
    have B4 : Hid (Below w2.heap.size w2 w4) := B3.out.trans (((Below.refl w3.heap.size w3).drew.trans b4).mono B3.out.size)
    obtain ⟨m3, m5, mg, _⟩ := HLk.out w4 B4.out
    clear b4 HPr
    refine hK9.out _ _ ⟨m3, m5, mg⟩ (fun hSS => ?_)
    clear hK9 K9
    try simp only [Act.put, List.setIfInBounds_toArray, List.set_cons_zero, List.set_cons_succ]
    apply tk 21 (some 80) (.unOp .not 4 (.tmp 79)) 4 (some (17, false)) rfl (by kernel_rfl) (fun _ _ _ h => h) (by rfl) hSS
    ·(intro w9 hSw; (try dsimp only at hSw); (try go_split_ands); first | (go_simp; done) | (go_simp; with_reducible rfl))
    try simp only [Act.put, List.setIfInBounds_toArray, List.set_cons_zero, List.set_cons_succ]
    apply tk 22 (some 81) (.pick (.tmp 76) (.const (.bool true)) (.tmp 80)) 4 none rfl (by kernel_rfl) (fun _ _ _ h => h) (by rfl) hSS
    ·(intro w9 hSw; (try dsimp only at hSw); (try go_split_ands); first | (go_simp; done) | (go_simp; with_reducible rfl))
    try simp only [Act.put, List.setIfInBounds_toArray, List.set_cons_zero, List.set_cons_succ]
    refine wpAnyH_done (by kernel_rfl) (NoPanic.normal ?_) _
    clear hSS k3 k5 kg kk m3 m5 mg
    have B34 : Hid (Below w2.heap.size w2 w4) := B4.out
    go_wp2_with fail
    go_loopw [11] (fun av wr => av = .int .i64 0 ∧ Below w2.heap.size w2 wr) (fun av _ => (intOf av).toNat)
    case atStart => exact ⟨rfl, B34.out⟩
    case round =>
     obtain ⟨rfl, bq⟩ := hrel
     obtain ⟨q3, q5, qg, qk, hD, _⟩ := HLk.out wr bq
     have HD := hid hD
     have HQ := hid (HWb.out wr bq)
     have hnp : (0 : Int) < (nb : Int) := by omega
     clear bq hD HLk HWb B34 B4 B3 HI
     go_wp2_with fail
     refine Calls.mono HD.out ?_
     rintro e w9 ⟨rfl, hw9⟩
     rw [hw9]
     clear hw9 HD
     go_wp2_with fail
     go_roundw
     case rel => exact ⟨i + 1, W2, K2, l2, Us2, by omega, by go_num, HQ.out.1, HQ.out.2.1, HQ.out.2.2.1, HQ.out.2.2.2⟩
     case measure => simp [intOf]; omega
   by_cases h4 : kd = 4
   ·subst h4
    have hside : (4 : Int) = 3 ∨ (4 : Int) = 4 := (.inr rfl)
    go_wp2_with fail
    refine Calls.mono (HAct.out (-1) (.inl rfl)) ?_
    rintro e w2 ⟨rfl, kc, kl, b2, W2, K2, l2, Us2, hWE, hK2, hWB2, hl2⟩
    have F2 : Hid (WD W2 w2 wb room nb fr bl K2 l2 Hs Us2 ∧ K2 ≤ (i + 1) * 524289 ∧ (∀ k, W2 k → B ≤ k) ∧ Below B w0 w2) := ⟨hWE.wd, hK2, hWB2, b2⟩
    obtain ⟨_, _, hus, g, ta, tc, hLk⟩ := hWE.wd.log
    have hl3 := hl2 (by first | exact hside | trivial)
    obtain ⟨n, hne⟩ : ∃ n, n = Us2.length := ⟨_, rfl⟩
    have hn2 : n ≤ 1099511627776 := by omega
    have HLk : Hid (∀ w', Below w2.heap.size w2 w' → w'.cell? ⟨wb, 3, none⟩ = some (.pointer (some ⟨g, 0, none⟩)) ∧ w'.cell? ⟨wb, 5, none⟩ = some (.int .i64 (n : Int)) ∧ w'.cell? ⟨g, 3, none⟩ = some (.slice ta n tc) ∧ w'.cell? ⟨wo.heap.size, 0, none⟩ = some (.int .i64 4) ∧ (Calls Tryz.prog 14 #[.pointer (some ⟨g, 0, none⟩)] w' fun e w'' => e = .returned (.int .i64 (nb : Int)) ∧ w'' = w') ∧ (∀ at_ : Int, Calls Tryz.prog 15 #[.pointer (some ⟨g, 0, none⟩), .int .i64 at_] w' fun e w'' => e = .returned (.int .i64 (homeC nb fr bl at_)) ∧ Below w'.heap.size w' w'') ∧ ∀ x, x < nb → Calls Tryz.prog 17 #[.pointer (some ⟨g, 0, none⟩), .int .i64 (x : Int), .int .i64 (n : Int)] w' fun e w'' => ∃ g' cp, e = .returned (.slice (some ⟨g', 0, none⟩) 512 cp) ∧ Own w'' g' 512 cp (contT (imgB Hs) (plainT Us2) n x) ∧ Below w'.heap.size w' w'') := fun w' hb' => by
     obtain ⟨r1, r2, r3, r4, r5, r6⟩ := hLk w' hb'
     rw [hl3, ← hne] at r2
     rw [← hne] at r3 r6
     exact ⟨r1, r2, r3, (hb'.cell (p := ⟨wo.heap.size, 0, none⟩) kl).trans kc, r4, r5, r6⟩
    obtain ⟨L, hL⟩ : ∃ L, L = 512 * nb := ⟨_, rfl⟩
    have HLf := hid (hWE.left 0)
    rw [← hL] at HLf
    have HLe := hid (And.intro hL hne)
    have HWb : Hid (∀ w', Below w2.heap.size w2 w' → WD W2 w' wb room nb fr bl K2 l2 Hs Us2 ∧ K2 ≤ (i + 1) * 524289 ∧ (∀ k, W2 k → B ≤ k) ∧ Below B w0 w') := fun w' hb' => ⟨F2.out.1.below hb', F2.out.2.1, F2.out.2.2.1, F2.out.2.2.2.trans (hb'.mono (HSz.out w2 F2.out.2.2.2))⟩
    clear HAct hWE hK2 hWB2 hl2 b2 hl3 hLk hL hne hus hside F2
    go_wp2_with fail
    refine Calls.mono HLf.out ?_
    rintro e w3 ⟨ib, ic, I, rfl, b3, oI, iI, hIm, hPr⟩
    have HPr := hid (hPr w3.drew (Below.refl w3.heap.size w3).drew)
    obtain ⟨k3, k5, kg, kk, _⟩ := HLk.out w3 b3
    have B3 := hid b3
    have HI := hid (And.intro oI (And.intro iI hIm))
    clear b3 oI iI hIm hPr HLf kc kl
    go_wp2_with fail
    refine wp_region_noPanic ?_
    refine wp_region_held_drew (S := fun w' => w'.cell? ⟨wb, 3, none⟩ = some (.pointer (some ⟨g, 0, none⟩)) ∧ w'.cell? ⟨wb, 5, none⟩ = some (.int .i64 (n : Int)) ∧ w'.cell? ⟨g, 3, none⟩ = some (.slice ta n tc)) (by kernel_rfl) ⟨k3, k5, kg⟩ (fun hSS => ?_)
    apply tk 0 (some 59) (.move (.tmp 10)) 4 none rfl (by kernel_rfl) (fun _ _ _ h => h) (by rfl) hSS
    ·(intro w9 hSw; (try dsimp only at hSw); (try go_split_ands); first | (go_simp; done) | (go_simp; with_reducible rfl))
    apply tk 1 (some 60) (.unOp .not 4 (.tmp 59)) 4 none rfl (by kernel_rfl) (fun _ _ _ h => h) (by rfl) hSS
    ·(intro w9 hSw; (try dsimp only at hSw); (try go_split_ands); first | (go_simp; done) | (go_simp; with_reducible rfl))
    apply tk 2 (some 61) (.move (.tmp 60)) 4 none rfl (by kernel_rfl) (fun _ _ _ h => h) (by rfl) hSS
    ·(intro w9 hSw; (try dsimp only at hSw); (try go_split_ands); first | (go_simp; done) | (go_simp; with_reducible rfl))
    apply tk 3 (some 62) (.move (.tmp 5)) 27 (some (2, false)) rfl (by kernel_rfl) (fun _ _ _ h => h) (by rfl) hSS
    ·(intro w9 hSw; (try dsimp only at hSw); (try go_split_ands); first | (go_simp; done) | (go_simp; with_reducible rfl))
    try simp only [Act.put, List.setIfInBounds_toArray, List.set_cons_zero, List.set_cons_succ]
    apply tk 4 (some 63) (.nilCheck (.tmp 62)) 0 (some (2, false)) rfl (by kernel_rfl) (fun _ _ _ h => h) (by rfl) hSS
    ·(intro w9 hSw; (try dsimp only at hSw); (try go_split_ands); first | (go_simp; done) | (go_simp; with_reducible rfl))
    apply tk 5 (some 64) (.fieldAddr 45 (.tmp 63) 5) 0 (some (2, false)) rfl (by kernel_rfl) (fun _ _ _ h => h) (by rfl) hSS
    ·(intro w9 hSw; (try dsimp only at hSw); (try go_split_ands); first | (go_simp; done) | (go_simp; with_reducible rfl))
    apply tk 6 (some 65) (.load 3 (.tmp 64)) 3 (some (2, false)) rfl (by kernel_rfl) (fun _ _ _ h => h) (by rfl) hSS
    ·(intro w9 hSw; (try dsimp only at hSw); (try go_split_ands); first | (go_simp; done) | (go_simp; with_reducible rfl))
    apply tk 7 (some 66) (.move (.tmp 5)) 27 (some (2, false)) rfl (by kernel_rfl) (fun _ _ _ h => h) (by rfl) hSS
    ·(intro w9 hSw; (try dsimp only at hSw); (try go_split_ands); first | (go_simp; done) | (go_simp; with_reducible rfl))
    try simp only [Act.put, List.setIfInBounds_toArray, List.set_cons_zero, List.set_cons_succ]
    apply tk 8 (some 67) (.nilCheck (.tmp 66)) 0 (some (2, false)) rfl (by kernel_rfl) (fun _ _ _ h => h) (by rfl) hSS
    ·(intro w9 hSw; (try dsimp only at hSw); (try go_split_ands); first | (go_simp; done) | (go_simp; with_reducible rfl))
    apply tk 9 (some 68) (.fieldAddr 45 (.tmp 67) 3) 0 (some (2, false)) rfl (by kernel_rfl) (fun _ _ _ h => h) (by rfl) hSS
    ·(intro w9 hSw; (try dsimp only at hSw); (try go_split_ands); first | (go_simp; done) | (go_simp; with_reducible rfl))
    apply tk 10 (some 69) (.load 40 (.tmp 68)) 40 (some (2, false)) rfl (by kernel_rfl) (fun _ _ _ h => h) (by rfl) hSS
    ·(intro w9 hSw; (try dsimp only at hSw); (try go_split_ands); first | (go_simp; done) | (go_simp; with_reducible rfl))
    apply tk 11 (some 70) (.nilCheck (.tmp 69)) 0 (some (2, false)) rfl (by kernel_rfl) (fun _ _ _ h => h) (by rfl) hSS
    ·(intro w9 hSw; (try dsimp only at hSw); (try go_split_ands); first | (go_simp; done) | (go_simp; with_reducible rfl))
    try simp only [Act.put, List.setIfInBounds_toArray, List.set_cons_zero, List.set_cons_succ]
    apply tk 12 (some 71) (.fieldAddr 48 (.tmp 70) 3) 0 (some (2, false)) rfl (by kernel_rfl) (fun _ _ _ h => h) (by rfl) hSS
    ·(intro w9 hSw; (try dsimp only at hSw); (try go_split_ands); first | (go_simp; done) | (go_simp; with_reducible rfl))
    apply tk 13 (some 72) (.load 46 (.tmp 71)) 46 (some (2, false)) rfl (by kernel_rfl) (fun _ _ _ h => h) (by rfl) hSS
    ·(intro w9 hSw; (try dsimp only at hSw); (try go_split_ands); first | (go_simp; done) | (go_simp; with_reducible rfl))
    apply tk 14 (some 73) (.call { callee := .builtin .len, args := #[.tmp 72], argTypes := #[46] }) 3 (some (2, false)) rfl (by kernel_rfl) (fun _ _ _ h => h) (by rfl) hSS
    ·(intro w9 hSw; (try dsimp only at hSw); (try go_split_ands); first | (go_simp; done) | (go_simp; with_reducible rfl))
    apply tk 15 (some 74) (.binOp .neq 3 (.tmp 65) (.tmp 73) 3) 4 (some (2, false)) rfl (by kernel_rfl) (fun _ _ _ h => h) (by rfl) hSS
    ·(intro w9 hSw; (try dsimp only at hSw); (try go_split_ands); first | (go_simp; done) | (go_simp; with_reducible rfl))
    try simp only [Act.put, List.setIfInBounds_toArray, List.set_cons_zero, List.set_cons_succ]
    apply tk 16 (some 75) (.pick (.tmp 61) (.const (.bool true)) (.tmp 74)) 4 none rfl (by kernel_rfl) (fun _ _ _ h => h) (by rfl) hSS
    ·(intro w9 hSw; (try dsimp only at hSw); (try go_split_ands); first | (go_simp; done) | (go_simp; with_reducible rfl))
    apply tk 17 (some 76) (.move (.tmp 75)) 4 none rfl (by kernel_rfl) (fun _ _ _ h => h) (by rfl) hSS
    ·(intro w9 hSw; (try dsimp only at hSw); (try go_split_ands); first | (go_simp; done) | (go_simp; with_reducible rfl))
    apply tk 18 (some 77) (.move (.tmp 5)) 27 (some (17, false)) rfl (by kernel_rfl) (fun _ _ _ h => h) (by rfl) hSS
    ·(intro w9 hSw; (try dsimp only at hSw); (try go_split_ands); first | (go_simp; done) | (go_simp; with_reducible rfl))
    apply tk 19 (some 78) (.move (.tmp 9)) 22 (some (17, false)) rfl (by kernel_rfl) (fun _ _ _ h => h) (by rfl) hSS
    ·(intro w9 hSw; (try dsimp only at hSw); (try go_split_ands); first | (go_simp; done) | (go_simp; with_reducible rfl))
    try simp only [Act.put, List.setIfInBounds_toArray, List.set_cons_zero, List.set_cons_succ]
    refine wpAnyH_ready (rs := [20]) (by kernel_rfl) (by simp) (AllReadyH.cons (o := ({ dst := some 79, op := Op.call { callee := Callee.value (Operand.func 13), args := #[Operand.tmp 77, Operand.tmp 78], argTypes := #[27, 22] }, type := 4, pos := _, after := _, guard := some (17, false) } : Oper)) rfl (fun K9 hK9 => ?_) AllReadyH.nil)
    go_simp
    go_at_call 13
    refine Calls.mono HPr.out ?_
    rintro e w4 ⟨rfl, b4⟩
    have B43' : Hid (Below w3.heap.size w3 w4) := (Below.refl w3.heap.size w3).drew.trans b4
    have B4 : Hid (Below w2.heap.size w2 w4) := B3.out.trans (((Below.refl w3.heap.size w3).drew.trans b4).mono B3.out.size)
    obtain ⟨m3, m5, mg, _⟩ := HLk.out w4 B4.out
    clear b4 HPr
    refine hK9.out _ _ ⟨m3, m5, mg⟩ (fun hSS => ?_)
    clear hK9 K9
    try simp only [Act.put, List.setIfInBounds_toArray, List.set_cons_zero, List.set_cons_succ]
    apply tk 21 (some 80) (.unOp .not 4 (.tmp 79)) 4 (some (17, false)) rfl (by kernel_rfl) (fun _ _ _ h => h) (by rfl) hSS
    ·(intro w9 hSw; (try dsimp only at hSw); (try go_split_ands); first | (go_simp; done) | (go_simp; with_reducible rfl))
    try simp only [Act.put, List.setIfInBounds_toArray, List.set_cons_zero, List.set_cons_succ]
    apply tk 22 (some 81) (.pick (.tmp 76) (.const (.bool true)) (.tmp 80)) 4 none rfl (by kernel_rfl) (fun _ _ _ h => h) (by rfl) hSS
    ·(intro w9 hSw; (try dsimp only at hSw); (try go_split_ands); first | (go_simp; done) | (go_simp; with_reducible rfl))
    try simp only [Act.put, List.setIfInBounds_toArray, List.set_cons_zero, List.set_cons_succ]
    refine wpAnyH_done (by kernel_rfl) (NoPanic.normal ?_) _
    clear hSS k3 k5 kg kk m3 m5 mg
    have B34 : Hid (Below w2.heap.size w2 w4) := B4.out
    have B43 : Hid (Below w3.heap.size w3 w4) := B43'.out
    go_wp2_with fail
    go_loopw [11] (fun av wr => ∃ x : Nat, x ≤ nb ∧ av = .int .i64 (x : Int) ∧ Below w2.heap.size w2 wr ∧ Below w3.heap.size w3 wr) (fun av _ => nb - (intOf av).toNat)
    case atStart => exact ⟨0, Nat.zero_le _, rfl, B34.out, B43.out⟩
    case round =>
     obtain ⟨x, hxl, rfl, bq, bq3⟩ := hrel
     obtain ⟨q3, q5, qg, qk, hD, _⟩ := HLk.out wr bq
     have HD := hid hD
     have BQ := hid bq
     have BQ3 := hid bq3
     clear bq hD bq3
     by_cases hxn : x < nb
     ·have hx' : (x : Int) < (nb : Int) := by omega
      go_wp2_with fail
      refine Calls.mono HD.out ?_
      rintro e w9 ⟨rfl, hw9⟩
      rw [hw9]
      clear hw9 HD
      obtain ⟨_, _, _, _, _, hAt, _⟩ := HLk.out wr.drew BQ.out.drew
      rcases homeC_cases nb fr bl (x : Int) with hh | hh
      ·have HAt := hid (hAt (x : Int))
       rw [hh] at HAt
       clear hAt hh
       go_wp2_with fail
       refine wp_region_noPanic ?_
       refine wp_region_held_drew (S := fun w' => w'.cell? ⟨wb, 3, none⟩ = some (.pointer (some ⟨g, 0, none⟩)) ∧ w'.cell? ⟨g, 3, none⟩ = some (.slice ta n tc)) (by kernel_rfl) ⟨q3, qg⟩ (fun hSS => ?_)
       apply tk 0 (some 96) (.move (.tmp 5)) 27 none rfl (by kernel_rfl) (fun _ _ _ h => h) (by rfl) hSS
       ·(intro w9 hSw; (try dsimp only at hSw); (try go_split_ands); first | (go_simp; done) | (go_simp; with_reducible rfl))
       apply tk 1 (some 97) (.nilCheck (.tmp 96)) 0 none rfl (by kernel_rfl) (fun _ _ _ h => h) (by rfl) hSS
       ·(intro w9 hSw; (try dsimp only at hSw); (try go_split_ands); first | (go_simp; done) | (go_simp; with_reducible rfl))
       apply tk 2 (some 98) (.fieldAddr 45 (.tmp 97) 3) 0 none rfl (by kernel_rfl) (fun _ _ _ h => h) (by rfl) hSS
       ·(intro w9 hSw; (try dsimp only at hSw); (try go_split_ands); first | (go_simp; done) | (go_simp; with_reducible rfl))
       apply tk 3 (some 99) (.load 40 (.tmp 98)) 40 none rfl (by kernel_rfl) (fun _ _ _ h => h) (by rfl) hSS
       ·(intro w9 hSw; (try dsimp only at hSw); (try go_split_ands); first | (go_simp; done) | (go_simp; with_reducible rfl))
       try simp only [Act.put, List.setIfInBounds_toArray, List.set_cons_zero, List.set_cons_succ]
       apply tk 4 (some 100) (.move (.tmp 11)) 3 none rfl (by kernel_rfl) (fun _ _ _ h => h) (by rfl) hSS
       ·(intro w9 hSw; (try dsimp only at hSw); (try go_split_ands); first | (go_simp; done) | (go_simp; with_reducible rfl))
       try simp only [Act.put, List.setIfInBounds_toArray, List.set_cons_zero, List.set_cons_succ]
       refine wpAnyH_ready (rs := [5]) (by kernel_rfl) (by simp) (AllReadyH.cons (o := ({ dst := some 101, op := Op.call { callee := Callee.value (Operand.func 15), args := #[Operand.tmp 99, Operand.tmp 100], argTypes := #[40, 3] }, type := 3, pos := _, after := _, guard := none } : Oper)) rfl (fun K9 hK9 => ?_) AllReadyH.nil)
       go_simp
       go_at_call 15
       refine Calls.mono HAt.out ?_
       rintro e wa ⟨rfl, ba⟩
       have BA : Hid (Below w2.heap.size w2 wa) := BQ.out.trans (((Below.refl wr.heap.size wr).drew.trans ba).mono BQ.out.size)
       have BQA : Hid (Below wr.heap.size wr wa) := (Below.refl wr.heap.size wr).drew.trans ba
       obtain ⟨a3, _, ag, _, _, _, hBe⟩ := HLk.out wa BA.out
       have HBe := hid (hBe x hxn)
       clear ba HAt hBe
       refine hK9.out _ _ ⟨a3, ag⟩ (fun hSS => ?_)
       clear hK9 K9
       try simp only [Act.put, List.setIfInBounds_toArray, List.set_cons_zero, List.set_cons_succ]
       apply tk 6 (some 102) (.binOp .eql 3 (.tmp 101) (.const (.int .i64 0)) 3) 4 none rfl (by kernel_rfl) (fun _ _ _ h => h) (by rfl) hSS
       ·(intro w9 hSw; (try dsimp only at hSw); (try go_split_ands); first | (go_simp; done) | (go_simp; with_reducible rfl))
       apply tk 7 (some 103) (.move (.tmp 102)) 4 none rfl (by kernel_rfl) (fun _ _ _ h => h) (by rfl) hSS
       ·(intro w9 hSw; (try dsimp only at hSw); (try go_split_ands); first | (go_simp; done) | (go_simp; with_reducible rfl))
       refine sk 8 (some 104) (.move (.tmp 9)) 22 (some (7, true)) rfl (by kernel_rfl) (fun _ _ _ h => h) (by rfl) hSS ?_
       refine sk 9 (some 105) (.move (.tmp 11)) 3 (some (7, true)) rfl (by kernel_rfl) (fun _ _ _ h => h) (by rfl) hSS ?_
       try simp only [Act.put, List.setIfInBounds_toArray, List.set_cons_zero, List.set_cons_succ]
       refine sk 10 (some 106) (.binOp .mul 3 (.tmp 105) (.const (.int .i64 512)) 3) 3 (some (7, true)) rfl (by kernel_rfl) (fun _ _ _ h => h) (by rfl) hSS ?_
       refine sk 11 (some 107) (.move (.tmp 11)) 3 (some (7, true)) rfl (by kernel_rfl) (fun _ _ _ h => h) (by rfl) hSS ?_
       refine sk 12 (some 108) (.binOp .add 3 (.tmp 107) (.const (.int .i64 1)) 3) 3 (some (7, true)) rfl (by kernel_rfl) (fun _ _ _ h => h) (by rfl) hSS ?_
       refine sk 13 (some 109) (.binOp .mul 3 (.tmp 108) (.const (.int .i64 512)) 3) 3 (some (7, true)) rfl (by kernel_rfl) (fun _ _ _ h => h) (by rfl) hSS ?_
       try simp only [Act.put, List.setIfInBounds_toArray, List.set_cons_zero, List.set_cons_succ]
       refine sk 14 (some 110) (.slice 22 (.tmp 104) (some (.tmp 106)) (some (.tmp 109)) none) 22 (some (7, true)) rfl (by kernel_rfl) (fun _ _ _ h => h) (by rfl) hSS ?_
       refine sk 15 (some 111) (.move (.tmp 5)) 27 (some (7, true)) rfl (by kernel_rfl) (fun _ _ _ h => h) (by rfl) hSS ?_
       refine sk 16 (some 112) (.nilCheck (.tmp 111)) 0 (some (7, true)) rfl (by kernel_rfl) (fun _ _ _ h => h) (by rfl) hSS ?_
       refine sk 17 (some 113) (.fieldAddr 45 (.tmp 112) 3) 0 (some (7, true)) rfl (by kernel_rfl) (fun _ _ _ h => h) (by rfl) hSS ?_
       try simp only [Act.put, List.setIfInBounds_toArray, List.set_cons_zero, List.set_cons_succ]
       refine sk 18 (some 114) (.load 40 (.tmp 113)) 40 (some (7, true)) rfl (by kernel_rfl) (fun _ _ _ h => h) (by rfl) hSS ?_
       refine sk 19 (some 115) (.move (.tmp 11)) 3 (some (7, true)) rfl (by kernel_rfl) (fun _ _ _ h => h) (by rfl) hSS ?_
       refine sk 20 (some 116) (.move (.tmp 5)) 27 (some (7, true)) rfl (by kernel_rfl) (fun _ _ _ h => h) (by rfl) hSS ?_
       refine sk 21 (some 117) (.nilCheck (.tmp 116)) 0 (some (7, true)) rfl (by kernel_rfl) (fun _ _ _ h => h) (by rfl) hSS ?_
       try simp only [Act.put, List.setIfInBounds_toArray, List.set_cons_zero, List.set_cons_succ]
       refine sk 22 (some 118) (.fieldAddr 45 (.tmp 117) 3) 0 (some (7, true)) rfl (by kernel_rfl) (fun _ _ _ h => h) (by rfl) hSS ?_
       refine sk 23 (some 119) (.load 40 (.tmp 118)) 40 (some (7, true)) rfl (by kernel_rfl) (fun _ _ _ h => h) (by rfl) hSS ?_
       refine sk 24 (some 120) (.nilCheck (.tmp 119)) 0 (some (7, true)) rfl (by kernel_rfl) (fun _ _ _ h => h) (by rfl) hSS ?_
       refine sk 25 (some 121) (.fieldAddr 48 (.tmp 120) 3) 0 (some (7, true)) rfl (by kernel_rfl) (fun _ _ _ h => h) (by rfl) hSS ?_
       try simp only [Act.put, List.setIfInBounds_toArray, List.set_cons_zero, List.set_cons_succ]
       refine sk 26 (some 122) (.load 46 (.tmp 121)) 46 (some (7, true)) rfl (by kernel_rfl) (fun _ _ _ h => h) (by rfl) hSS ?_
       refine sk 27 (some 123) (.call { callee := .builtin .len, args := #[.tmp 122], argTypes := #[46] }) 3 (some (7, true)) rfl (by kernel_rfl) (fun _ _ _ h => h) (by rfl) hSS ?_
       refine sk 28 (some 124) (.call { callee := .value (.func 17), args := #[.tmp 114, .tmp 115, .tmp 123], argTypes := #[40, 3, 3] }) 22 (some (7, true)) rfl (by kernel_rfl) (fun _ _ _ h => h) (by rfl) hSS ?_
       refine sk 29 (some 125) (.call { callee := .value (.func 16), args := #[.tmp 110, .tmp 124], argTypes := #[22, 22] }) 4 (some (7, true)) rfl (by kernel_rfl) (fun _ _ _ h => h) (by rfl) hSS ?_
       try simp only [Act.put, List.setIfInBounds_toArray, List.set_cons_zero, List.set_cons_succ]
       refine sk 30 (some 126) (.unOp .not 4 (.tmp 125)) 4 (some (7, true)) rfl (by kernel_rfl) (fun _ _ _ h => h) (by rfl) hSS ?_
       apply tk 31 (some 127) (.pick (.tmp 103) (.tmp 126) (.const (.bool false))) 4 none rfl (by kernel_rfl) (fun _ _ _ h => h) (by rfl) hSS
       ·(intro w9 hSw; (try dsimp only at hSw); (try go_split_ands); first | (go_simp; done) | (go_simp; with_reducible rfl))
       try simp only [Act.put, List.setIfInBounds_toArray, List.set_cons_zero, List.set_cons_succ]
       refine wpAnyH_done (by kernel_rfl) (NoPanic.normal ?_) _
       clear hSS q3 q5 qg qk a3 ag
       have FIN : Hid (Below w2.heap.size w2 wa ∧ Below w3.heap.size w3 wa) := ⟨BA.out, BQ3.out.trans (BQA.out.mono BQ3.out.size)⟩
       go_wp2_with fail
       go_roundw
       case rel => exact ⟨x + 1, by omega, by go_num, FIN.out.1, FIN.out.2⟩
       case measure => simp [intOf]; omega
      ·have HAt := hid (hAt (x : Int))
       rw [hh] at HAt
       have hhb : HomeB nb fr bl x := by
        refine ⟨hxn, fun r => ?_⟩
        unfold homeC at hh
        rw [if_pos (by omega)] at hh
        cases hh
       obtain ⟨o1, ho1⟩ : ∃ o1 : Nat, o1 = x * 512 := ⟨_, rfl⟩
       obtain ⟨x1, hx1⟩ : ∃ x1 : Nat, x1 = x + 1 := ⟨_, rfl⟩
       obtain ⟨o2, ho2⟩ : ∃ o2 : Nat, o2 = x1 * 512 := ⟨_, rfl⟩
       have u1 : (x : Int) * 512 = (o1 : Int) := by omega
       have u2 : IntKind.i64.wrap (o1 : Int) = (o1 : Int) := by rw [IntKind.wrap_i64]; omega
       have u3 : (x : Int) + 1 = (x1 : Int) := by omega
       have u4 : IntKind.i64.wrap (x1 : Int) = (x1 : Int) := by rw [IntKind.wrap_i64]; omega
       have u5 : (x1 : Int) * 512 = (o2 : Int) := by omega
       have u6 : IntKind.i64.wrap (o2 : Int) = (o2 : Int) := by rw [IntKind.wrap_i64]; omega
       have hLL := HLe.out.1
       have hcap := HI.out.1.cap
       have u7 : (o1 : Int) ≤ (o2 : Int) := by omega
       have u8 : (o2 : Int) ≤ (ic : Int) := by omega
       have u9 : o2 - o1 = 512 := by omega
       have u10 : o1 ≤ o2 := by omega
       have u11 : o2 ≤ ic := by omega
       have u12 : ¬ (ic = o1) := by omega
       have HSame : Hid (∀ (wx : World) (gx cx : Nat), Below wr.heap.size wr wx → Own wx gx 512 cx (contT (imgB Hs) (plainT Us2) n x) → Calls Tryz.prog 16 #[.slice (some ⟨ib, o1, none⟩) 512 (ic - o1), .slice (some ⟨gx, 0, none⟩) 512 cx] wx fun e w'' => e = .returned (.bool true) ∧ w'' = wx) := fun wx gx cx bx ox => by
        have hbI := BQ3.out.trans (bx.mono BQ3.out.size)
        have oI := HI.out.1.keep (hbI.block ib HI.out.1.lt)
        have hci := HI.out.2.2 (by first | rfl | trivial) x hhb
        have hlI : I.length = L := HI.out.1.len
        have hci2 : (I.drop (512 * x)).take 512 = contT (imgB Hs) (plainT Us2) n x := by rw [HLe.out.2]; exact hci
        have hlt : ((I.drop (512 * x)).take 512).length = 512 := by rw [List.length_take, List.length_drop]; omega
        have hbb : Pl.isB ((I.drop (512 * x)).take 512) := fun z hz => HI.out.2.1 z (List.mem_of_mem_drop (List.mem_of_mem_take hz))
        rw [← hci2] at ox
        refine SameBytes_eq wx.heap.size (some ⟨ib, o1, none⟩) (some ⟨gx, 0, none⟩) 512 (ic - o1) 512 cx _ wx ⟨hlt, hbb, .inr ⟨ib, o1, rfl, oI.lt, fun t ht => ?_⟩⟩ (ox.rd hbb)
        rw [oI.cell (o1 + t) (by omega), List.getD_eq_getElem?_getD, List.getD_eq_getElem?_getD, List.getElem?_take_of_lt ht, List.getElem?_drop]
        rw [show 512 * x + t = o1 + t by omega]
       clear hAt hh hhb ho1 hx1 ho2 hLL hcap
       go_wp2_with fail
       refine wp_region_noPanic ?_
       refine wp_region_held_drew (S := fun w' => w'.cell? ⟨wb, 3, none⟩ = some (.pointer (some ⟨g, 0, none⟩)) ∧ w'.cell? ⟨g, 3, none⟩ = some (.slice ta n tc)) (by kernel_rfl) ⟨q3, qg⟩ (fun hSS => ?_)
       apply tk 0 (some 96) (.move (.tmp 5)) 27 none rfl (by kernel_rfl) (fun _ _ _ h => h) (by rfl) hSS
       ·(intro w9 hSw; (try dsimp only at hSw); (try go_split_ands); first | (go_simp; done) | (go_simp; with_reducible rfl))
       apply tk 1 (some 97) (.nilCheck (.tmp 96)) 0 none rfl (by kernel_rfl) (fun _ _ _ h => h) (by rfl) hSS
       ·(intro w9 hSw; (try dsimp only at hSw); (try go_split_ands); first | (go_simp; done) | (go_simp; with_reducible rfl))
       apply tk 2 (some 98) (.fieldAddr 45 (.tmp 97) 3) 0 none rfl (by kernel_rfl) (fun _ _ _ h => h) (by rfl) hSS
       ·(intro w9 hSw; (try dsimp only at hSw); (try go_split_ands); first | (go_simp; done) | (go_simp; with_reducible rfl))
       try simp only [Act.put, List.setIfInBounds_toArray, List.set_cons_zero, List.set_cons_succ]
       apply tk 3 (some 99) (.load 40 (.tmp 98)) 40 none rfl (by kernel_rfl) (fun _ _ _ h => h) (by rfl) hSS
       ·(intro w9 hSw; (try dsimp only at hSw); (try go_split_ands); first | (go_simp; done) | (go_simp; with_reducible rfl))
       apply tk 4 (some 100) (.move (.tmp 11)) 3 none rfl (by kernel_rfl) (fun _ _ _ h => h) (by rfl) hSS
       ·(intro w9 hSw; (try dsimp only at hSw); (try go_split_ands); first | (go_simp; done) | (go_simp; with_reducible rfl))
       try simp only [Act.put, List.setIfInBounds_toArray, List.set_cons_zero, List.set_cons_succ]
       refine wpAnyH_ready (rs := [5]) (by kernel_rfl) (by simp) (AllReadyH.cons (o := ({ dst := some 101, op := Op.call { callee := Callee.value (Operand.func 15), args := #[Operand.tmp 99, Operand.tmp 100], argTypes := #[40, 3] }, type := 3, pos := _, after := _, guard := none } : Oper)) rfl (fun K9 hK9 => ?_) AllReadyH.nil)
       go_simp
       go_at_call 15
       refine Calls.mono HAt.out ?_
       rintro e wa ⟨rfl, ba⟩
       have BA : Hid (Below w2.heap.size w2 wa) := BQ.out.trans (((Below.refl wr.heap.size wr).drew.trans ba).mono BQ.out.size)
       have BQA : Hid (Below wr.heap.size wr wa) := (Below.refl wr.heap.size wr).drew.trans ba
       obtain ⟨a3, _, ag, _, _, _, hBe⟩ := HLk.out wa BA.out
       have HBe := hid (hBe x hxn)
       clear ba HAt hBe
       refine hK9.out _ _ ⟨a3, ag⟩ (fun hSS => ?_)
       clear hK9 K9
       try simp only [Act.put, List.setIfInBounds_toArray, List.set_cons_zero, List.set_cons_succ]
       apply tk 6 (some 102) (.binOp .eql 3 (.tmp 101) (.const (.int .i64 0)) 3) 4 none rfl (by kernel_rfl) (fun _ _ _ h => h) (by rfl) hSS
       ·(intro w9 hSw; (try dsimp only at hSw); (try go_split_ands); first | (go_simp; done) | (go_simp; with_reducible rfl))
       apply tk 7 (some 103) (.move (.tmp 102)) 4 none rfl (by kernel_rfl) (fun _ _ _ h => h) (by rfl) hSS
       ·(intro w9 hSw; (try dsimp only at hSw); (try go_split_ands); first | (go_simp; done) | (go_simp; with_reducible rfl))
       apply tk 8 (some 104) (.move (.tmp 9)) 22 (some (7, true)) rfl (by kernel_rfl) (fun _ _ _ h => h) (by rfl) hSS
       ·(intro w9 hSw; (try dsimp only at hSw); (try go_split_ands); first | (go_simp; done) | (go_simp; with_reducible rfl))
       try simp only [Act.put, List.setIfInBounds_toArray, List.set_cons_zero, List.set_cons_succ]
       apply tk 9 (some 105) (.move (.tmp 11)) 3 (some (7, true)) rfl (by kernel_rfl) (fun _ _ _ h => h) (by rfl) hSS
       ·(intro w9 hSw; (try dsimp only at hSw); (try go_split_ands); first | (go_simp; done) | (go_simp; with_reducible rfl))
       apply tk 10 (some 106) (.binOp .mul 3 (.tmp 105) (.const (.int .i64 512)) 3) 3 (some (7, true)) rfl (by kernel_rfl) (fun _ _ _ h => h) (by rfl) hSS
       ·(intro w9 hSw; (try dsimp only at hSw); (try go_split_ands); first | (go_simp; done) | (go_simp; with_reducible rfl))
       apply tk 11 (some 107) (.move (.tmp 11)) 3 (some (7, true)) rfl (by kernel_rfl) (fun _ _ _ h => h) (by rfl) hSS
       ·(intro w9 hSw; (try dsimp only at hSw); (try go_split_ands); first | (go_simp; done) | (go_simp; with_reducible rfl))
       apply tk 12 (some 108) (.binOp .add 3 (.tmp 107) (.const (.int .i64 1)) 3) 3 (some (7, true)) rfl (by kernel_rfl) (fun _ _ _ h => h) (by rfl) hSS
       ·(intro w9 hSw; (try dsimp only at hSw); (try go_split_ands); first | (go_simp; done) | (go_simp; with_reducible rfl))
       try simp only [Act.put, List.setIfInBounds_toArray, List.set_cons_zero, List.set_cons_succ]
       apply tk 13 (some 109) (.binOp .mul 3 (.tmp 108) (.const (.int .i64 512)) 3) 3 (some (7, true)) rfl (by kernel_rfl) (fun _ _ _ h => h) (by rfl) hSS
       ·(intro w9 hSw; (try dsimp only at hSw); (try go_split_ands); first | (go_simp; done) | (go_simp; with_reducible rfl))
       apply tk 14 (some 110) (.slice 22 (.tmp 104) (some (.tmp 106)) (some (.tmp 109)) none) 22 (some (7, true)) rfl (by kernel_rfl) (fun _ _ _ h => h) (by rfl) hSS
       ·(intro w9 hSw; (try dsimp only at hSw); (try go_split_ands); first | (go_simp; done) | (go_simp; with_reducible rfl))
       apply tk 15 (some 111) (.move (.tmp 5)) 27 (some (7, true)) rfl (by kernel_rfl) (fun _ _ _ h => h) (by rfl) hSS
       ·(intro w9 hSw; (try dsimp only at hSw); (try go_split_ands); first | (go_simp; done) | (go_simp; with_reducible rfl))
       apply tk 16 (some 112) (.nilCheck (.tmp 111)) 0 (some (7, true)) rfl (by kernel_rfl) (fun _ _ _ h => h) (by rfl) hSS
       ·(intro w9 hSw; (try dsimp only at hSw); (try go_split_ands); first | (go_simp; done) | (go_simp; with_reducible rfl))
       try simp only [Act.put, List.setIfInBounds_toArray, List.set_cons_zero, List.set_cons_succ]
       apply tk 17 (some 113) (.fieldAddr 45 (.tmp 112) 3) 0 (some (7, true)) rfl (by kernel_rfl) (fun _ _ _ h => h) (by rfl) hSS
       ·(intro w9 hSw; (try dsimp only at hSw); (try go_split_ands); first | (go_simp; done) | (go_simp; with_reducible rfl))
       apply tk 18 (some 114) (.load 40 (.tmp 113)) 40 (some (7, true)) rfl (by kernel_rfl) (fun _ _ _ h => h) (by rfl) hSS
       ·(intro w9 hSw; (try dsimp only at hSw); (try go_split_ands); first | (go_simp; done) | (go_simp; with_reducible rfl))
       apply tk 19 (some 115) (.move (.tmp 11)) 3 (some (7, true)) rfl (by kernel_rfl) (fun _ _ _ h => h) (by rfl) hSS
       ·(intro w9 hSw; (try dsimp only at hSw); (try go_split_ands); first | (go_simp; done) | (go_simp; with_reducible rfl))
       apply tk 20 (some 116) (.move (.tmp 5)) 27 (some (7, true)) rfl (by kernel_rfl) (fun _ _ _ h => h) (by rfl) hSS
       ·(intro w9 hSw; (try dsimp only at hSw); (try go_split_ands); first | (go_simp; done) | (go_simp; with_reducible rfl))
       try simp only [Act.put, List.setIfInBounds_toArray, List.set_cons_zero, List.set_cons_succ]
       apply tk 21 (some 117) (.nilCheck (.tmp 116)) 0 (some (7, true)) rfl (by kernel_rfl) (fun _ _ _ h => h) (by rfl) hSS
       ·(intro w9 hSw; (try dsimp only at hSw); (try go_split_ands); first | (go_simp; done) | (go_simp; with_reducible rfl))
       apply tk 22 (some 118) (.fieldAddr 45 (.tmp 117) 3) 0 (some (7, true)) rfl (by kernel_rfl) (fun _ _ _ h => h) (by rfl) hSS
       ·(intro w9 hSw; (try dsimp only at hSw); (try go_split_ands); first | (go_simp; done) | (go_simp; with_reducible rfl))
       apply tk 23 (some 119) (.load 40 (.tmp 118)) 40 (some (7, true)) rfl (by kernel_rfl) (fun _ _ _ h => h) (by rfl) hSS
       ·(intro w9 hSw; (try dsimp only at hSw); (try go_split_ands); first | (go_simp; done) | (go_simp; with_reducible rfl))
       apply tk 24 (some 120) (.nilCheck (.tmp 119)) 0 (some (7, true)) rfl (by kernel_rfl) (fun _ _ _ h => h) (by rfl) hSS
       ·(intro w9 hSw; (try dsimp only at hSw); (try go_split_ands); first | (go_simp; done) | (go_simp; with_reducible rfl))
       try simp only [Act.put, List.setIfInBounds_toArray, List.set_cons_zero, List.set_cons_succ]
       apply tk 25 (some 121) (.fieldAddr 48 (.tmp 120) 3) 0 (some (7, true)) rfl (by kernel_rfl) (fun _ _ _ h => h) (by rfl) hSS
       ·(intro w9 hSw; (try dsimp only at hSw); (try go_split_ands); first | (go_simp; done) | (go_simp; with_reducible rfl))
       apply tk 26 (some 122) (.load 46 (.tmp 121)) 46 (some (7, true)) rfl (by kernel_rfl) (fun _ _ _ h => h) (by rfl) hSS
       ·(intro w9 hSw; (try dsimp only at hSw); (try go_split_ands); first | (go_simp; done) | (go_simp; with_reducible rfl))
       apply tk 27 (some 123) (.call { callee := .builtin .len, args := #[.tmp 122], argTypes := #[46] }) 3 (some (7, true)) rfl (by kernel_rfl) (fun _ _ _ h => h) (by rfl) hSS
       ·(intro w9 hSw; (try dsimp only at hSw); (try go_split_ands); first | (go_simp; done) | (go_simp; with_reducible rfl))
       try simp only [Act.put, List.setIfInBounds_toArray, List.set_cons_zero, List.set_cons_succ]
       refine wpAnyH_ready (rs := [28]) (by kernel_rfl) (by simp) (AllReadyH.cons (o := ({ dst := some 124, op := Op.call { callee := Callee.value (Operand.func 17), args := #[Operand.tmp 114, Operand.tmp 115, Operand.tmp 123], argTypes := #[40, 3, 3] }, type := 22, pos := _, after := _, guard := some (7, true) } : Oper)) rfl (fun K9 hK9 => ?_) AllReadyH.nil)
       go_simp
       go_at_call 17
       refine Calls.mono HBe.out ?_
       rintro e wx ⟨gx, cx, rfl, ox, bx⟩
       have BQX : Hid (Below wr.heap.size wr wx) := BQA.out.trans (bx.mono BQA.out.size)
       have BX : Hid (Below w2.heap.size w2 wx) := BA.out.trans (bx.mono BA.out.size)
       obtain ⟨x3, _, xg, _⟩ := HLk.out wx BX.out
       have HSm := hid (HSame.out wx gx cx (BQA.out.trans (bx.mono BQA.out.size)) ox)
       clear bx ox HBe
       refine hK9.out _ _ ⟨x3, xg⟩ (fun hSS => ?_)
       clear hK9 K9
       try simp only [Act.put, List.setIfInBounds_toArray, List.set_cons_zero, List.set_cons_succ]
       refine wpAnyH_ready (rs := [29]) (by kernel_rfl) (by simp) (AllReadyH.cons (o := ({ dst := some 125, op := Op.call { callee := Callee.value (Operand.func 16), args := #[Operand.tmp 110, Operand.tmp 124], argTypes := #[22, 22] }, type := 4, pos := _, after := _, guard := some (7, true) } : Oper)) rfl (fun K9 hK9 => ?_) AllReadyH.nil)
       go_simp
       go_at_call 16
       refine Calls.mono HSm.out ?_
       rintro e w9 ⟨rfl, hw9⟩
       rw [hw9]
       clear hw9 HSm
       refine hK9.out _ _ ⟨x3, xg⟩ (fun hSS => ?_)
       clear hK9 K9
       try simp only [Act.put, List.setIfInBounds_toArray, List.set_cons_zero, List.set_cons_succ]
       apply tk 30 (some 126) (.unOp .not 4 (.tmp 125)) 4 (some (7, true)) rfl (by kernel_rfl) (fun _ _ _ h => h) (by rfl) hSS
       ·(intro w9 hSw; (try dsimp only at hSw); (try go_split_ands); first | (go_simp; done) | (go_simp; with_reducible rfl))
       apply tk 31 (some 127) (.pick (.tmp 103) (.tmp 126) (.const (.bool false))) 4 none rfl (by kernel_rfl) (fun _ _ _ h => h) (by rfl) hSS
       ·(intro w9 hSw; (try dsimp only at hSw); (try go_split_ands); first | (go_simp; done) | (go_simp; with_reducible rfl))
       try simp only [Act.put, List.setIfInBounds_toArray, List.set_cons_zero, List.set_cons_succ]
       refine wpAnyH_done (by kernel_rfl) (NoPanic.normal ?_) _
       clear hSS q3 q5 qg qk a3 ag x3 xg
       have FIN : Hid (Below w2.heap.size w2 wx ∧ Below w3.heap.size w3 wx) := ⟨BX.out, BQ3.out.trans (BQX.out.mono BQ3.out.size)⟩
       go_wp2_with fail
       go_roundw
       case rel => exact ⟨x + 1, by omega, by go_num, FIN.out.1, FIN.out.2⟩
       case measure => simp [intOf]; omega
     ·have hx' : ¬ (x : Int) < (nb : Int) := by omega
      have HQ := hid (HWb.out wr BQ.out)
      clear HLk HWb B34 B4 B3 HI BQ BQ3
      go_wp2_with fail
      refine Calls.mono HD.out ?_
      rintro e w9 ⟨rfl, hw9⟩
      rw [hw9]
      clear hw9 HD
      go_wp2_with fail
      go_roundw
      case rel => exact ⟨i + 1, W2, K2, l2, Us2, by omega, by go_num, HQ.out.1, HQ.out.2.1, HQ.out.2.2.1, HQ.out.2.2.2⟩
      case measure => simp [intOf]; omega
   ·have e7 : (kd == 7) = false := by simpa using h7
    have e3 : (kd != 3) = true := by simpa using h3
    have e4 : (kd != 4) = true := by simpa using h4
    go_wp2_with fail
    refine Calls.mono (HAct.out (-1) (.inl rfl)) ?_
    rintro e w2 ⟨rfl, kc, kl, b2, W2, K2, l2, Us2, hWE, hK2, hWB2, hl2⟩
    have F2 : Hid (WD W2 w2 wb room nb fr bl K2 l2 Hs Us2 ∧ K2 ≤ (i + 1) * 524289 ∧ (∀ k, W2 k → B ≤ k) ∧ Below B w0 w2) := ⟨hWE.wd, hK2, hWB2, b2⟩
    clear HAct hWE hK2 hWB2 hl2 b2
    go_wp2_with fail
    go_roundw
    case rel => exact ⟨i + 1, W2, K2, l2, Us2, by omega, by go_num, F2.out.1, F2.out.2.1, F2.out.2.2.1, F2.out.2.2.2⟩
    case measure => simp [intOf]; omega
  ·have hi' : ¬ (i : Int) < (N : Int) := by omega
   have FIN := hid (HFin.out wo hbt)
   clear hWD hK hWB hbt
   go_wp2
   exact FIN.out
end Go.Proofs.YtldlejpacgphmaaGreat
