import Derived.Test.YtldlejpacgphmaaGreatG43
import Derived.Test.YtldlejpacgphmaaGreatG24
import Derived.Test.YtldlejpacgphmaaGreatG40
import Derived.Test.YtldlejpacgphmaaGreatG41
import Derived.Deep.DeepCutAuto
namespace Go.Proofs.YtldlejpacgphmaaGreat
open Go.RowKit Go.Deep
theorem but_lo3 {B : Nat} {w w' : World} (h : Below B w w') : But (fun k => B ≤ k) w w' := ⟨h.os, h.tape, h.output, h.size, fun k _ q => h.block k (by omega)⟩
theorem acts_at {B i : Nat} {w : World} {sa : Option Addr} {As : List Ac} {q : Ac} (h : RdA B w sa As) (hq : As[i]? = some q) : ∃ b off, sa = some ⟨b, off, none⟩ ∧ b < B ∧ ∀ t q, As[t]? = some q → w.cell? ⟨b, off + t * 6, none⟩ = some (.int .i64 q.kd) ∧ w.cell? ⟨b, off + t * 6 + 1, none⟩ = some (.int .i64 q.at_) ∧ w.cell? ⟨b, off + t * 6 + 2, none⟩ = some (.slice q.a0 q.ps.length q.cp) ∧ w.cell? ⟨b, off + t * 6 + 3, none⟩ = some (.int .u64 q.keep) ∧ w.cell? ⟨b, off + t * 6 + 4, none⟩ = some (.int .i64 q.fz) ∧ w.cell? ⟨b, off + t * 6 + 5, none⟩ = some (.int .i64 q.again) := by
 rcases h with e | e
 ·rw [e] at hq; cases hq
 ·exact e
theorem act_on {W : Nat → Prop} {wo w0 : World} {wb room nb fr bl K lasted B : Nat} {Hs : List Int} {Us : List (List Pm)} (q : Ac) (hWD : WD W wo wb room nb fr bl K lasted Hs Us) (hK : K + nb < 4611686018427387904) (hWB : ∀ k, W k → B ≤ k) (hbt : Below B w0 wo) (hB : B = w0.heap.size) (p1 : RdP (fun k => B ≤ k) wo q.a0 q.ps) (p2 : q.ps.length ≤ 1048576) (p3 : ∀ p ∈ q.ps, p.data.length ≤ 1048576 ∧ (p.ad = none → p.cap = 0)) (fz' : Int) (hfz' : fz' = -1 ∨ q.kd = 7) :
  Calls Tryz.prog 11 #[.pointer (some ⟨wb, 0, none⟩), .agg #[.int .i64 q.kd, .int .i64 q.at_, .slice q.a0 q.ps.length q.cp, .int .u64 q.keep, .int .i64 fz', .int .i64 q.again]] (wo.alloc (.cells #[.int .i64 q.kd, .int .i64 q.at_, .slice q.a0 q.ps.length q.cp, .int .u64 q.keep, .int .i64 fz', .int .i64 q.again] 33)) fun e w2 => e = .returned (.bool true) ∧ w2.cell? ⟨wo.heap.size, 3, none⟩ = some (.int .u64 q.keep) ∧ Below B w0 w2 ∧ ∃ W' l' Us', WD W' w2 wb room nb fr bl (K + nb + 1) l' Hs Us' ∧ (∀ k, W' k → B ≤ k) := by
 have hsB := hbt.size
 have hWlt : ∀ k, W k → k < wo.heap.size := fun k r => hWD.lt r
 obtain ⟨wA, hwA⟩ : ∃ wA, wA = wo.alloc (.cells #[.int .i64 q.kd, .int .i64 q.at_, .slice q.a0 q.ps.length q.cp, .int .u64 q.keep, .int .i64 fz', .int .i64 q.again] 33) := ⟨_, rfl⟩
 have bA : Below wo.heap.size wo wA := by rw [hwA]; exact (Below.refl _ _).alloc (Nat.le_refl _) _
 have zA : wA.heap.size = wo.heap.size + 1 := by rw [hwA]; simp
 have kA : wA.cell? ⟨wo.heap.size, 3, none⟩ = some (.int .u64 q.keep) := by rw [hwA]; exact cell_new rfl 3 _ rfl
 rw [← hwA]
 refine Calls.mono (act_any (hWD.below bA) hK q.kd q.at_ q.keep fz' q.again hfz' q.a0 q.cp q.ps ((p1.but (But.of_below bA (X := fun _ => False)) (fun _ _ r => r.elim) W (fun k hk r => hWB k r))) (by omega) (fun p hp => ⟨by have := (p3 p hp).1; omega, (p3 p hp).2⟩)) ?_
 rintro e w2 ⟨rfl, r1, W', l', Us', r2, r3, _⟩
 refine ⟨rfl, (r1.cell (p := ⟨wo.heap.size, 3, none⟩) (by show wo.heap.size < _; omega) (fun r => Nat.lt_irrefl _ (hWlt _ r))).trans kA, ?_, W', l', Us', r2, fun k r => ?_⟩
 ·exact (((but_lo3 hbt).comp (But.of_below bA (X := fun _ => False)) (fun _ _ r => r.elim)).comp r1 (fun k _ r => hWB k r)).below (by omega) (fun k hk r => by omega)
 ·rcases Nat.lt_or_ge k wA.heap.size with hk | hk
  ·exact hWB k (r3 k hk r)
  ·omega
set_option maxRecDepth 100000 in
set_option maxHeartbeats 16000000 in
theorem anew_law (ha : Option Addr) (hn hcp : Nat) (Hs : List Int) (frI blI rmI : Int) (sa : Option Addr) (scp : Nat) (As : List Ac) (shift : Int) (sb : Option Addr) (scp2 : Nat) (Bs : List Ac) (fuse mask : Int) (w : World) (hH : Rd w.heap.size w ha hn Hs) (hHn : hn ≤ 1073741823) (hnil : ha = none → hcp = 0) (hA : RdA w.heap.size w sa As) (hN : As.length ≤ 1048576) (hP : ∀ q ∈ As, RdP (fun _ => False) w q.a0 q.ps ∧ q.ps.length ≤ 1048576 ∧ (∀ p ∈ q.ps, p.data.length ≤ 1048576 ∧ (p.ad = none → p.cap = 0)))
  (hA2 : RdA w.heap.size w sb Bs) (hN2 : Bs.length ≤ 1048576) (hP2 : ∀ q ∈ Bs, RdP (fun _ => False) w q.a0 q.ps ∧ q.ps.length ≤ 1048576 ∧ (∀ p ∈ q.ps, p.data.length ≤ 1048576 ∧ (p.ad = none → p.cap = 0))) (hfu2 : fuse ≤ 9223372036854775807) :
  Calls Tryz.prog 8 #[.agg #[.slice ha hn hcp, .int .i64 frI, .int .i64 blI, .int .i64 rmI], .slice sa As.length scp, .int .i64 shift, .slice sb Bs.length scp2, .int .i64 fuse, .int .u64 mask] w fun e w' => e = .returned (.bool true) ∧ Below w.heap.size w w' := by
 obtain ⟨PO, hPO⟩ : ∃ PO : Ending → World → Prop, PO = fun e w' => e = .returned (.bool true) ∧ Below w.heap.size w w' := ⟨_, rfl⟩
 rw [← hPO]
 obtain ⟨N, hNe⟩ : ∃ N, N = As.length := ⟨_, rfl⟩
 rw [← hNe]
 have hN3 : N ≤ 1048576 := by omega
 obtain ⟨M, hMe⟩ : ∃ M, M = Bs.length := ⟨_, rfl⟩
 rw [← hMe]
 have hM3 : M ≤ 1048576 := by omega
 obtain ⟨pk, hpk⟩ : ∃ pk, pk = w.heap.size := ⟨_, rfl⟩
 obtain ⟨w0, hw0⟩ : ∃ w0, w0 = w.alloc (.cells #[.slice ha hn hcp, .int .i64 frI, .int .i64 blI, .int .i64 rmI] 24) := ⟨_, rfl⟩
 have b0 : Below w.heap.size w w0 := by rw [hw0]; exact (Below.refl _ _).alloc (Nat.le_refl _) _
 have z0 : w0.heap.size = w.heap.size + 1 := by rw [hw0]; simp
 obtain ⟨B, hB⟩ : ∃ B, B = w0.heap.size := ⟨_, rfl⟩
 have hpl : pk < B := by omega
 have c0 : w0.cell? ⟨pk, 0, none⟩ = some (.slice ha hn hcp) := by rw [hw0, hpk]; exact cell_new rfl 0 _ rfl
 have c1 : w0.cell? ⟨pk, 1, none⟩ = some (.int .i64 frI) := by rw [hw0, hpk]; exact cell_new rfl 1 _ rfl
 have c2 : w0.cell? ⟨pk, 2, none⟩ = some (.int .i64 blI) := by rw [hw0, hpk]; exact cell_new rfl 2 _ rfl
 have c3 : w0.cell? ⟨pk, 3, none⟩ = some (.int .i64 rmI) := by rw [hw0, hpk]; exact cell_new rfl 3 _ rfl
 have HFin : Hid (∀ w', Below B w0 w' → PO (.returned (.bool true)) w') := fun w' hb => by
  rw [hPO]
  exact ⟨rfl, b0.trans (hb.mono (by omega))⟩
 have HSz : Hid (∀ w', Below B w0 w' → B ≤ w'.heap.size) := fun w' hb => by have := hb.size; omega
 have HLow : Hid (∀ w', Below B w0 w' → Below w.heap.size w w') := fun w' hb => b0.trans (hb.mono (by omega))
 have HAs : Hid (∀ w', Below B w0 w' → RdA B w' sa As) := fun w' hb => by
  have h1 := hA.below (HLow.out w' hb)
  exact h1.imp id (fun ⟨b, o, e, l, q⟩ => ⟨b, o, e, by omega, q⟩)
 have HBs : Hid (∀ w', Below B w0 w' → RdA B w' sb Bs) := fun w' hb => by
  have h1 := hA2.below (HLow.out w' hb)
  exact h1.imp id (fun ⟨b, o, e, l, q⟩ => ⟨b, o, e, by omega, q⟩)
 have HPs : Hid (∀ w', Below B w0 w' → ∀ q ∈ As, RdP (fun k => B ≤ k) w' q.a0 q.ps ∧ q.ps.length ≤ 1048576 ∧ (∀ p ∈ q.ps, p.data.length ≤ 1048576 ∧ (p.ad = none → p.cap = 0))) := fun w' hb q hq => by
  obtain ⟨r1, r2, r3⟩ := hP q hq
  exact ⟨r1.but (But.of_below (HLow.out w' hb) (X := fun _ => False)) (fun _ _ q => q) _ (fun k hk q => by omega), r2, r3⟩
 have HPs2 : Hid (∀ w', Below B w0 w' → ∀ q ∈ Bs, RdP (fun k => B ≤ k) w' q.a0 q.ps ∧ q.ps.length ≤ 1048576 ∧ (∀ p ∈ q.ps, p.data.length ≤ 1048576 ∧ (p.ad = none → p.cap = 0))) := fun w' hb q hq => by
  obtain ⟨r1, r2, r3⟩ := hP2 q hq
  exact ⟨r1.but (But.of_below (HLow.out w' hb) (X := fun _ => False)) (fun _ _ q => q) _ (fun k hk q => by omega), r2, r3⟩
 have HBg : Hid (∀ w', Below B w0 w' → Calls Tryz.prog 10 #[.agg #[.slice ha hn hcp, .int .i64 frI, .int .i64 blI, .int .i64 rmI]] w' fun e w'' => Below w'.heap.size w' w'' ∧ (e = .returned (.tuple #[.pointer none, .bool true]) ∨ ∃ (wb room nb fr bl : Nat) (W : Nat → Prop), frI = (fr : Int) ∧ blI = (bl : Int) ∧ e = .returned (.tuple #[.pointer (some ⟨wb, 0, none⟩), .bool true]) ∧ WD W w'' wb room nb fr bl 0 0 Hs [] ∧ ∀ k, W k → w'.heap.size ≤ k)) := fun w' hb => begun_at ha hn hcp Hs frI blI rmI hHn hnil ((hH.below (HLow.out w' hb)).mono (HLow.out w' hb).size)
 have HCell : Hid (∀ w', Below B w0 w' → w'.cell? ⟨pk, 0, none⟩ = some (.slice ha hn hcp) ∧ w'.cell? ⟨pk, 1, none⟩ = some (.int .i64 frI) ∧ w'.cell? ⟨pk, 2, none⟩ = some (.int .i64 blI) ∧ w'.cell? ⟨pk, 3, none⟩ = some (.int .i64 rmI)) := fun w' hb => ⟨(hb.cell (p := ⟨pk, 0, none⟩) hpl).trans c0, (hb.cell (p := ⟨pk, 1, none⟩) hpl).trans c1, (hb.cell (p := ⟨pk, 2, none⟩) hpl).trans c2, (hb.cell (p := ⟨pk, 3, none⟩) hpl).trans c3⟩
 have HNE := hid hNe
 have HME := hid hMe
 have HW0 := hid hw0
 have HPK := hid hpk
 have HB := hid hB
 have HNm := hid num_any
 have HFu := hid hfu2
 clear hH hA hP hnil hw0 hpk b0 z0 c0 c1 c2 c3 hPO hB hNe HLow hN hMe hN2 hA2 hP2 hfu2
 go_enter Tryz.func8, Tryz.ntmps8
 go_wp2_with fail
 rw [← HW0.out, ← HPK.out]
 refine Calls.mono (lives_any w0) ?_
 rintro e w1 ⟨rfl, b1⟩
 rw [← HB.out] at b1
 have B1 := hid b1
 obtain ⟨d0, d1, d2, d3⟩ := HCell.out w1 b1
 clear b1 HW0 HPK
 go_wp2_with fail
 refine Calls.mono (HBg.out w1 B1.out) ?_
 rintro e w2 ⟨b2, hcase⟩
 have B2 : Hid (Below B w0 w2) := B1.out.trans (b2.mono (HSz.out w1 B1.out))
 have hs1 := HSz.out w1 B1.out
 clear HBg d0 d1 d2 d3 b2
 rcases hcase with rfl | ⟨wb, room, nb, fr, bl, W0, rfl, rfl, rfl, hWD, hWB⟩
 ·have FIN := hid (HFin.out w2 B2.out)
  go_wp2
  exact FIN.out
 have H2 : Hid (WD W0 w2 wb room nb fr bl 0 0 Hs [] ∧ ∀ k, W0 k → B ≤ k) := ⟨hWD, fun k q => Nat.le_trans hs1 (hWB k q)⟩
 have hnb := hWD.log.1
 have n1 := hWD.log.2.1
 clear hWD hWB hs1 B1
 go_wp2_with fail
 go_loopw [15] (fun iv wr => ∃ (i : Nat) (W : Nat → Prop) (K lasted : Nat) (Us : List (List Pm)), i ≤ N ∧ iv = .int .i64 (i : Int) ∧ WD W wr wb room nb fr bl K lasted Hs Us ∧ K ≤ i * 524289 ∧ (∀ k, W k → B ≤ k) ∧ Below B w0 wr) (fun iv _ => N - (intOf iv).toNat)
 case atStart => exact ⟨0, W0, 0, 0, [], Nat.zero_le _, rfl, H2.out.1, Nat.zero_le _, H2.out.2, B2.out⟩
 case round =>
  clear H2 B2
  rename World => wo
  obtain ⟨i, W, K, lasted, Us, hiN, rfl, hWD, hK, hWB, hbt⟩ := hrel
  by_cases hi : i < N
  ·have hi' : (i : Int) < (N : Int) := by omega
   obtain ⟨q, hq⟩ : ∃ q, As[i]? = some q := ⟨_, List.getElem?_eq_getElem (by have := HNE.out; omega)⟩
   obtain ⟨pb, po, hsa, hpb, hcs⟩ := acts_at (HAs.out wo hbt) hq
   obtain ⟨c0, c1, c2, c3, c4, c5⟩ := hcs i q hq
   obtain ⟨p1, p2, p3⟩ := HPs.out wo hbt q (List.mem_of_getElem? hq)
   have HAct : Hid (∀ fz', (fz' = -1 ∨ q.kd = 7) → Calls Tryz.prog 11 #[.pointer (some ⟨wb, 0, none⟩), .agg #[.int .i64 q.kd, .int .i64 q.at_, .slice q.a0 q.ps.length q.cp, .int .u64 q.keep, .int .i64 fz', .int .i64 q.again]] (wo.alloc (.cells #[.int .i64 q.kd, .int .i64 q.at_, .slice q.a0 q.ps.length q.cp, .int .u64 q.keep, .int .i64 fz', .int .i64 q.again] 33)) fun e w2 => e = .returned (.bool true) ∧ w2.cell? ⟨wo.heap.size, 3, none⟩ = some (.int .u64 q.keep) ∧ Below B w0 w2 ∧ ∃ W' l' Us', WD W' w2 wb room nb fr bl (K + nb + 1) l' Hs Us' ∧ (∀ k, W' k → B ≤ k)) := fun fz' hfz' => act_on q hWD (by omega) hWB hbt HB.out p1 p2 p3 fz' hfz'
   have hK2 : K + nb + 1 ≤ (i + 1) * 524289 := by omega
   obtain ⟨kd, hkd⟩ : ∃ kd, kd = q.kd := ⟨_, rfl⟩
   obtain ⟨at_, hat⟩ : ∃ at_, at_ = q.at_ := ⟨_, rfl⟩
   obtain ⟨a0, ha0⟩ : ∃ a0, a0 = q.a0 := ⟨_, rfl⟩
   obtain ⟨np, hnp⟩ : ∃ np, np = q.ps.length := ⟨_, rfl⟩
   obtain ⟨cp, hcp1⟩ : ∃ cp, cp = q.cp := ⟨_, rfl⟩
   obtain ⟨keep, hkeep⟩ : ∃ keep, keep = q.keep := ⟨_, rfl⟩
   obtain ⟨fz, hfz⟩ : ∃ fz, fz = q.fz := ⟨_, rfl⟩
   obtain ⟨again, hagain⟩ : ∃ again, again = q.again := ⟨_, rfl⟩
   rw [← hkd] at c0
   rw [← hat] at c1
   rw [← ha0, ← hnp, ← hcp1] at c2
   rw [← hkeep] at c3
   rw [← hfz] at c4
   rw [← hagain] at c5
   rw [← hkd, ← hat, ← ha0, ← hnp, ← hcp1, ← hkeep, ← hagain] at HAct
   obtain ⟨K2, hK2e⟩ : ∃ K2, K2 = K + nb + 1 := ⟨_, rfl⟩
   rw [← hK2e] at HAct hK2
   subst hsa
   have HK2 := hid hK2
   clear hcs hq hkd hat ha0 hnp hcp1 hkeep hfz hagain p1 p2 p3 hWD hWB hK hbt hK2e hK2
   by_cases h7 : kd = 7
   ·subst h7
    go_wp2_with fail
    refine Calls.mono (HAct.out (i : Int) (.inr (by first | rfl | trivial))) ?_
    rintro e w2 ⟨rfl, kk, b2, W2, l2, Us2, f1, f2'⟩
    have F2 : Hid (WD W2 w2 wb room nb fr bl K2 l2 Hs Us2 ∧ (∀ k, W2 k → B ≤ k) ∧ Below B w0 w2) := ⟨f1, f2', b2⟩
    clear HAct f1 f2' b2
    go_wp2_with fail
    go_roundw
    case rel => exact ⟨i + 1, W2, K2, l2, Us2, by omega, by go_num, F2.out.1, HK2.out, F2.out.2.1, F2.out.2.2⟩
    case measure => simp [intOf]; omega
   ·have e7 : (kd == 7) = false := by simpa using h7
    go_wp2_with fail
    refine Calls.mono (HAct.out (-1) (.inl rfl)) ?_
    rintro e w2 ⟨rfl, kk, b2, W2, l2, Us2, f1, f2'⟩
    have F2 : Hid (WD W2 w2 wb room nb fr bl K2 l2 Hs Us2 ∧ (∀ k, W2 k → B ≤ k) ∧ Below B w0 w2) := ⟨f1, f2', b2⟩
    clear HAct f1 f2' b2
    go_wp2_with fail
    go_roundw
    case rel => exact ⟨i + 1, W2, K2, l2, Us2, by omega, by go_num, F2.out.1, HK2.out, F2.out.2.1, F2.out.2.2⟩
    case measure => simp [intOf]; omega
  ·have hi' : ¬ (i : Int) < (N : Int) := by omega
   have hKN : K ≤ N * 524289 := Nat.le_trans hK (Nat.mul_le_mul_right _ hiN)
   obtain ⟨x0, x1, y2, x3⟩ := HCell.out wo hbt
   obtain ⟨Z, p, c, j, g, tried, tl, td, hb, hc, ta, tc, vs, Ls, n1', cs, d, s, hX, hOn, hW⟩ := hWD
   have hfit := hX.fit
   have y3 := hX.wd.cell 3
   have HX : Hid (Wx Z wo wb p c j g room nb fr bl K lasted tried tl td hb hc Hs ta tc vs Us Ls n1' cs d s ∧ On d s nb fr bl lasted (imgB Hs) (plainT Us)) := ⟨hX, hOn⟩
   have HZB : Hid ((∀ k, Z k → B ≤ k) ∧ (∀ k, TB tl td Ls k → B ≤ k) ∧ B ≤ wb) := ⟨fun k q => hWB k (by rw [hW]; exact .inl (.inl q)), fun k q => hWB k (by rw [hW]; exact .inl (.inr (.inr q))), hWB wb (by rw [hW]; exact .inl (.inr (.inl rfl)))⟩
   have HBT := hid hbt
   have HDk0 : Hid (∀ w', Below wo.heap.size wo w' → Calls Tryz.prog 14 #[.pointer (some ⟨g, 0, none⟩)] w' fun e w'' => e = .returned (.int .i64 (nb : Int)) ∧ w'' = w') := fun w' hb' => refDisk_any (hX.below hb').lg.lg hX.nb
   clear hX hOn hW hWB hbt hK HAs HPs
   go_wp2_with fail
   refine wp_region_noPanic ?_
   refine wp_region_held_drew (S := fun w' => w'.cell? ⟨pk, 1, none⟩ = some (.int .i64 (fr : Int))) (by kernel_rfl) x1 (fun hSS => ?_)
   apply tk 0 (some 63) (.fieldAddr 24 (.tmp 6) 1) 0 none rfl (by kernel_rfl) (fun _ _ _ h => h) (by rfl) hSS
   ·(intro a h; (try dsimp only at h); (try go_split_ands); go_simp; try with_reducible rfl)
   apply tk 1 (some 64) (.load 3 (.tmp 63)) 3 none rfl (by kernel_rfl) (fun _ _ _ h => h) (by rfl) hSS
   ·(intro a h; (try dsimp only at h); (try go_split_ands); go_simp; try with_reducible rfl)
   apply tk 2 (some 65) (.move (.tmp 2)) 3 none rfl (by kernel_rfl) (fun _ _ _ h => h) (by rfl) hSS
   ·(intro a h; (try dsimp only at h); (try go_split_ands); go_simp; try with_reducible rfl)
   try simp only [Act.put, List.setIfInBounds_toArray, List.set_cons_zero, List.set_cons_succ]
   refine wpAnyH_ready (rs := [3]) (by kernel_rfl) (by simp) (AllReadyH.cons (o := ({ dst := some 66, op := Op.call { callee := Callee.value (Operand.func 23), args := #[Operand.tmp 65], argTypes := #[3] }, type := 3, pos := _, after := _, guard := none } : Oper)) rfl (fun K9 hK9 => ?_) AllReadyH.nil)
   go_simp
   go_at_call 23
   refine Calls.mono (low_any shift _) ?_
   rintro e w9 ⟨y, rfl, hy, hw9, hye⟩
   clear hye
   rw [hw9]
   clear hw9
   obtain ⟨r0, hr0⟩ : ∃ r0 : Nat, r0 = y % 3 := ⟨_, rfl⟩
   have hr1 : r0 < 3 := by omega
   have ht1 : (y : Int).tmod 3 = (r0 : Int) := by rw [Int.tmod_eq_emod_of_nonneg (by omega)]; omega
   have ht2 : (y : Int) % 3 = (r0 : Int) := by omega
   have hw3 : IntKind.i64.wrap (r0 : Int) = (r0 : Int) := by rw [IntKind.wrap_i64]; omega
   obtain ⟨f1, hf1⟩ : ∃ f1 : Nat, f1 = fr + r0 := ⟨_, rfl⟩
   have hf2 : (fr : Int) + (r0 : Int) = (f1 : Int) := by omega
   have hf3 : IntKind.i64.wrap (f1 : Int) = (f1 : Int) := by rw [IntKind.wrap_i64]; omega
   clear hr0 hf1
   refine hK9.out _ _ x1 (fun hSS => ?_)
   clear hK9 K9
   try simp only [Act.put, List.setIfInBounds_toArray, List.set_cons_zero, List.set_cons_succ]
   apply tk 4 (some 67) (.binOp .rem 3 (.tmp 66) (.const (.int .i64 3)) 3) 3 none rfl (by kernel_rfl) (fun _ _ _ h => h) (by rfl) hSS
   ·(intro a h; (try dsimp only at h); (try go_split_ands); go_simp; try with_reducible rfl)
   apply tk 5 (some 68) (.binOp .add 3 (.tmp 64) (.tmp 67) 3) 3 none rfl (by kernel_rfl) (fun _ _ _ h => h) (by rfl) hSS
   ·(intro a h; (try dsimp only at h); (try go_split_ands); go_simp; try with_reducible rfl)
   try simp only [Act.put, List.setIfInBounds_toArray, List.set_cons_zero, List.set_cons_succ]
   apply tk 6 (some 17) (.assign (.tmp 68)) 3 none rfl (by kernel_rfl) (fun _ _ _ h => h) (by rfl) hSS
   ·(intro a h; (try dsimp only at h); (try go_split_ands); go_simp; try with_reducible rfl)
   try simp only [Act.put, List.setIfInBounds_toArray, List.set_cons_zero, List.set_cons_succ]
   refine wpAnyH_done (by kernel_rfl) (NoPanic.normal ?_) _
   clear hSS
   obtain ⟨pc, hpc⟩ : ∃ pc, pc = placeC nb (f1 : Int) (bl : Int) := ⟨_, rfl⟩
   have HPl := hid (refPlaced_any nb hnb (f1 : Int) (bl : Int))
   rw [← hpc] at HPl
   have HPC : Hid (pc = 0 → f1 + bl ≤ nb) := fun e => by
    rw [hpc] at e
    obtain ⟨f9, b9, e9, e8, _, hle⟩ := placeC_zero e
    omega
   clear hpc
   go_wp2_with fail
   refine wp_region_noPanic ?_
   refine wp_region_held_drew (S := fun w' => w'.cell? ⟨wb, 3, none⟩ = some (.pointer (some ⟨g, 0, none⟩)) ∧ w'.cell? ⟨pk, 2, none⟩ = some (.int .i64 (bl : Int))) (by kernel_rfl) ⟨y3, y2⟩ (fun hSS => ?_)
   apply tk 0 (some 69) (.move (.tmp 13)) 27 none rfl (by kernel_rfl) (fun _ _ _ h => h) (by rfl) hSS
   ·(intro a h; (try dsimp only at h); (try go_split_ands); go_simp; try with_reducible rfl)
   apply tk 1 (some 70) (.nilCheck (.tmp 69)) 0 none rfl (by kernel_rfl) (fun _ _ _ h => h) (by rfl) hSS
   ·(intro a h; (try dsimp only at h); (try go_split_ands); go_simp; try with_reducible rfl)
   apply tk 2 (some 71) (.fieldAddr 45 (.tmp 70) 3) 0 none rfl (by kernel_rfl) (fun _ _ _ h => h) (by rfl) hSS
   ·(intro a h; (try dsimp only at h); (try go_split_ands); go_simp; try with_reducible rfl)
   apply tk 3 (some 72) (.load 40 (.tmp 71)) 40 none rfl (by kernel_rfl) (fun _ _ _ h => h) (by rfl) hSS
   ·(intro a h; (try dsimp only at h); (try go_split_ands); go_simp; try with_reducible rfl)
   try simp only [Act.put, List.setIfInBounds_toArray, List.set_cons_zero, List.set_cons_succ]
   apply tk 5 (some 74) (.move (.tmp 17)) 3 none rfl (by kernel_rfl) (fun _ _ _ h => h) (by rfl) hSS
   ·(intro a h; (try dsimp only at h); (try go_split_ands); go_simp; try with_reducible rfl)
   apply tk 6 (some 75) (.fieldAddr 24 (.tmp 6) 2) 0 none rfl (by kernel_rfl) (fun _ _ _ h => h) (by rfl) hSS
   ·(intro a h; (try dsimp only at h); (try go_split_ands); go_simp; try with_reducible rfl)
   apply tk 7 (some 76) (.load 3 (.tmp 75)) 3 none rfl (by kernel_rfl) (fun _ _ _ h => h) (by rfl) hSS
   ·(intro a h; (try dsimp only at h); (try go_split_ands); go_simp; try with_reducible rfl)
   try simp only [Act.put, List.setIfInBounds_toArray, List.set_cons_zero, List.set_cons_succ]
   refine wpAnyH_ready (rs := [4]) (by kernel_rfl) (by simp) (AllReadyH.cons (o := ({ dst := some 73, op := Op.call { callee := Callee.value (Operand.func 14), args := #[Operand.tmp 72], argTypes := #[40] }, type := 3, pos := _, after := _, guard := none } : Oper)) rfl (fun K9 hK9 => ?_) AllReadyH.nil)
   go_simp
   go_at_call 14
   refine Calls.mono (HDk0.out _ (by first | exact (Below.refl _ _).drew.drew | exact (Below.refl _ _).drew | exact Below.refl _ _)) ?_
   rintro e w9 ⟨rfl, hw9⟩
   rw [hw9]
   clear hw9
   refine hK9.out _ _ ⟨y3, y2⟩ (fun hSS => ?_)
   clear hK9 K9
   try simp only [Act.put, List.setIfInBounds_toArray, List.set_cons_zero, List.set_cons_succ]
   refine wpAnyH_ready (rs := [8]) (by kernel_rfl) (by simp) (AllReadyH.cons (o := ({ dst := some 77, op := Op.call { callee := Callee.value (Operand.func 26), args := #[Operand.tmp 73, Operand.tmp 74, Operand.tmp 76], argTypes := #[3, 3, 3] }, type := 3, pos := _, after := _, guard := none } : Oper)) rfl (fun K9 hK9 => ?_) AllReadyH.nil)
   go_simp
   go_at_call 26
   refine Calls.mono (HPl.out _) ?_
   rintro e w9 ⟨rfl, hw9⟩
   rw [hw9]
   clear hw9
   refine hK9.out _ _ ⟨y3, y2⟩ (fun hSS => ?_)
   clear hK9 K9
   try simp only [Act.put, List.setIfInBounds_toArray, List.set_cons_zero, List.set_cons_succ]
   apply tk 9 (some 78) (.binOp .neq 3 (.tmp 77) (.const (.int .i64 0)) 3) 4 none rfl (by kernel_rfl) (fun _ _ _ h => h) (by rfl) hSS
   ·(intro a h; (try dsimp only at h); (try go_split_ands); go_simp; try with_reducible rfl)
   try simp only [Act.put, List.setIfInBounds_toArray, List.set_cons_zero, List.set_cons_succ]
   refine wpAnyH_done (by kernel_rfl) (NoPanic.normal ?_) _
   clear hSS HPl HDk0
   go_upto_if 78 with fail
   go_cut [17] (fun s17 wx => ∃ f2 : Nat, s17 = .int .i64 (f2 : Int) ∧ f2 + bl ≤ nb ∧ Below wo.heap.size wo wx)
   case first =>
    by_cases hz : pc = 0
    ·subst hz
     have hle2 := HPC.out rfl
     go_wp2_with fail
     go_meet
     exact ⟨f1, by first | rfl | go_num, hle2, (by first | exact (Below.refl _ _).drew.drew | exact (Below.refl _ _).drew | exact Below.refl _ _)⟩
    ·have hz2 : (pc != 0) = true := by simpa using hz
     go_wp2_with fail
     go_meet
     exact ⟨fr, by first | rfl | go_num, hfit, (by first | exact (Below.refl _ _).drew.drew | exact (Below.refl _ _).drew | exact Below.refl _ _)⟩
   case rest =>
   rename World => wk
   obtain ⟨f2, rfl, hf2b, hbk⟩ := hcut
   have HX2 : Hid (Wx Z wk wb p c j g room nb fr bl K lasted tried tl td hb hc Hs ta tc vs Us Ls n1' cs d s ∧ On d s nb fr bl lasted (imgB Hs) (plainT Us)) := ⟨HX.out.1.below hbk, HX.out.2⟩
   have HBT2 : Hid (Below B w0 wk) := HBT.out.trans (hbk.mono (HSz.out wo HBT.out))
   obtain ⟨B1, hB1⟩ : ∃ B1, B1 = wk.heap.size := ⟨_, rfl⟩
   have HB1 := hid hB1
   have HLk : Hid (∀ w', But Z wk w' → w'.cell? ⟨wb, 0, none⟩ = some (.pointer (some ⟨p, 0, none⟩)) ∧ w'.cell? ⟨wb, 1, none⟩ = some (.pointer (some ⟨c, 0, none⟩)) ∧ w'.cell? ⟨wb, 3, none⟩ = some (.pointer (some ⟨g, 0, none⟩)) ∧ Calls Tryz.prog 14 #[.pointer (some ⟨g, 0, none⟩)] w' fun e w'' => e = .returned (.int .i64 (nb : Int)) ∧ w'' = w') := fun w' hb' => by
    have h := HX2.out.1
    have wd := h.wd.keep (hb'.block wb h.wd.lt h.zw)
    exact ⟨wd.cell 0, wd.cell 1, wd.cell 3, refDisk_any (h.lg.but hb' (fun _ _ q => .inl q) (fun k => Z k ∨ k = wb ∨ TB tl td Ls k) (fun _ _ q => q)).lg h.nb⟩
   have HRe : Hid (∀ (i : Nat) (a : Option Addr) (m cc : Nat) (Z' : Nat → Prop) (wr : World), i < nb → m = 512 * i → wr.ownsRow B1 5 1 (.slice a m cc) m ((catZ d.read i).map (Value.int .u8)) → Cq Z' wr c p room nb (K + i) d → Gr Z Z' wk → But Z wk wr → (∀ x, (Value.slice a m cc).ownBlock = some x → ¬ Z' x) →
     Calls Tryz.prog 28 #[.pointer (some ⟨c, 0, none⟩), .int .i64 (i : Int)] wr fun e w' => ∃ g2 cp2, e = .returned (.tuple #[.slice (some ⟨g2, 0, none⟩) 512 cp2, .int .i64 0]) ∧ ∃ a' m' cc' w3, (Builtin.append_ #[22, 22] 22 #[.slice a m cc, .slice (some ⟨g2, 0, none⟩) 512 cp2]).run Tryz.prog w' = .ok (.slice a' m' cc') w3 ∧ m' = 512 * (i + 1) ∧ w3.ownsRow B1 5 1 (.slice a' m' cc') m' ((catZ d.read (i + 1)).map (Value.int .u8)) ∧
      ∃ Z', Cq Z' w3 c p room nb (K + (i + 1)) d ∧ Gr Z Z' wk ∧ But Z wk w3 ∧ (∀ x, (Value.slice a' m' cc').ownBlock = some x → ¬ Z' x)) := fun i a m cc Z' wr hi hm hrow hq hG hb hh => by
    have hpl := HX2.out.2.puts HX2.out.1.lo HX2.out.1.fit HX2.out.1.nb
    exact home_read hi hm hrow hq (by omega) (by omega) HX2.out.2.on hnb hG hb hh HB1.out
   clear hbk HX HBT HPC y2 y3 x0 x1 x3 hB1 hr1 ht1 ht2 hw3 hf2 hf3 hy
   go_wp2_with fail
   go_loopw [18, 19] (fun hv iv wr => ∃ (i : Nat) (a : Option Addr) (m cc : Nat) (Z' : Nat → Prop), i ≤ nb ∧ iv = .int .i64 (i : Int) ∧ hv = .slice a m cc ∧ m = 512 * i ∧ wr.ownsRow B1 5 1 (.slice a m cc) m ((catZ d.read i).map (Value.int .u8)) ∧ Cq Z' wr c p room nb (K + i) d ∧ Gr Z Z' wk ∧ But Z wk wr ∧ (∀ x, (Value.slice a m cc).ownBlock = some x → ¬ Z' x)) (fun _ iv _ => nb - (intOf iv).toNat)
   case atStart => exact ⟨0, none, 0, 0, Z, Nat.zero_le _, rfl, rfl, rfl, World.ownsRow_nil _ _ _ _, HX2.out.1.jq.toCq, Gr.refl _ _, But.refl _ _, (fun x e => by cases e)⟩
   case round =>
    obtain ⟨i2, a, m, cc, Z', hiN2, rfl, rfl, hm, hrow, hCq, hG, hbt, hh⟩ := hrel
    obtain ⟨k0, k1, k3, hDk⟩ := HLk.out wr hbt
    have HDk := hid hDk
    by_cases hi2 : i2 < nb
    ·have hi2' : (i2 : Int) < (nb : Int) := by omega
     have HR1 := hid (HRe.out i2 a m cc Z' wr hi2 hm hrow hCq hG hbt hh)
     clear hrow hCq hG hbt hh hm hDk HRe HLk
     go_wp2_with fail
     refine Calls.mono HDk.out ?_
     rintro e w9 ⟨rfl, hw9⟩
     rw [hw9]
     clear hw9 HDk
     go_wp2_with fail
     refine Calls.mono HR1.out ?_
     rintro e w7 ⟨g2, cp2, rfl, a', m', cc', w8, hrun, K9⟩
     have HK9 := hid K9
     clear HR1 K9
     go_wp2_with fail
     refine Calls.mono (HNm.out 0 w7) ?_
     rintro e w9 ⟨rfl, hw9⟩
     rw [hw9]
     clear hw9
     go_wp2_with (at_builtin; refine Lib.wpList_append_run _ rfl _ _ _ _ rfl _ _ rfl rfl _ _ (by exact hrun) ?_)
     go_roundw
     case rel =>
      obtain ⟨k1, k2, Z', k3, k4, k5, k6⟩ := HK9.out
      exact ⟨i2 + 1, a', m', cc', Z', by omega, by go_num, rfl, k1, k2, k3, k4, k5, k6⟩
     case measure => simp [intOf]; omega
    ·have hi2' : ¬ (i2 : Int) < (nb : Int) := by omega
     have hie : i2 = nb := by omega
     rw [hie] at hm hrow hCq
     subst hm
     obtain ⟨hb2, rfl, how⟩ := own_some hrow (by omega)
     have hbB := (World.ownsRow.lt hrow hb2 rfl).1
     have hnZ := hh hb2 rfl
     obtain ⟨K3, hK3⟩ : ∃ K3, K3 = K + nb := ⟨_, rfl⟩
     rw [← hK3] at hCq
     have hK4 : K3 ≤ (N + 1) * 524289 := by omega
     obtain ⟨Hm, hHm⟩ : ∃ Hm, Hm = catZ d.read nb := ⟨_, rfl⟩
     have HA : Hid (∀ (k : Int) (w2 : World) (Z2 : Nat → Prop), But Z wk w2 → Cq Z2 w2 c p room nb K3 ⟨d.img, d.puts, k, false⟩ → Gr Z Z2 wk → Own w2 hb2 (512 * nb) cc (catZ d.read nb) → ¬ Z2 hb2 → AnewP B w0 wb p c room nb fr bl K3 hb2 cc Hm f2 mask (.slice ha hn hcp) (.int .i64 rmI) k w2) := fun k w2 Z2 b2 q1 g2 ow nz => by
      rw [hHm]
      have hB1 := HB1.out
      exact HX2.out.1.anewP HX2.out.2 HB.out HZB.out.1 HZB.out.2.1 HZB.out.2.2 b2 (Below.ofBut HBT2.out b2 HZB.out.1 HB.out) q1 g2 ow nz (by omega) (HSz.out wk HBT2.out) f2 hf2b mask _ _
     have hon := HX2.out.2.on
     have hfu := HX2.out.1.fu
     have hd9 : d = ⟨d.img, d.puts, -1, false⟩ := by rw [← hfu, ← hon]
     have HNo : Hid (AnewP B w0 wb p c room nb fr bl K3 hb2 cc Hm f2 mask (.slice ha hn hcp) (.int .i64 rmI) (-1) wr) := HA.out (-1) wr Z' hbt (by rw [← hd9]; exact hCq) hG how hnZ
     have HFs : Hid (0 ≤ fuse → Calls Tryz.prog 38 #[.pointer (some ⟨p, 0, none⟩), .int .i64 fuse] wr fun e w2 => e = .returned (.int .i64 0) ∧ AnewP B w0 wb p c room nb fr bl K3 hb2 cc Hm f2 mask (.slice ha hn hcp) (.int .i64 rmI) fuse w2) := fun hf => by
      refine Calls.mono (Cq.fuse hCq.cut hon fuse (by omega) HFu.out) ?_
      rintro e w2 ⟨rfl, ⟨Z3, q3, g3⟩, b3⟩
      have hs := hbt.size
      exact ⟨rfl, HA.out fuse w2 Z3 (hbt.comp b3 (fun k hk q => hG k hk q.1)) q3 (fun k hk q => hG k hk (g3 k (by omega) q).1) (how.keep (b3.block hb2 how.lt (fun q => hnZ q.1))) (fun q => hnZ (g3 hb2 how.lt q).1)⟩
     clear hrow hCq hG hbt hh hDk HRe HLk HA how hnZ hbB hK3 hHm hon hfu hd9 HX2 HB1 HBT2 HFu hie
     go_wp2_with fail
     refine Calls.mono HDk.out ?_
     rintro e w9 ⟨rfl, hw9⟩
     rw [hw9]
     clear hw9 HDk
     go_upto_if 106 with fail
     go_cut [17] (fun s17 wx => s17 = .int .i64 (f2 : Int) ∧ ∃ k : Int, (fuse < 0 → k = -1) ∧ AnewP B w0 wb p c room nb fr bl K3 hb2 cc Hm f2 mask (.slice ha hn hcp) (.int .i64 rmI) k wx)
     case first =>
      by_cases hf : 0 ≤ fuse
      ·go_wp2_with fail
       refine Calls.mono (HFs.out hf) ?_
       rintro e w2 ⟨rfl, hP2⟩
       have HP2 := hid hP2
       clear hP2 HFs HNo
       go_wp2_with fail
       go_meet
       exact ⟨by first | rfl | trivial, fuse, fun q => by omega, HP2.out⟩
      ·go_wp2_with fail
       go_meet
       exact ⟨by first | rfl | trivial, -1, fun _ => rfl, HNo.out⟩
     case rest =>
     rename World => wf
     obtain ⟨rfl, k, hkf, hAP⟩ := hcut
     unfold AnewP at hAP
     obtain ⟨bf, t0, t1, hFo⟩ := hAP
     have HFo := hid hFo
     obtain ⟨u0, u1, u2, u3⟩ := HCell.out wf bf
     clear hFo bf HFs HNo k0 k1 k3
     go_wp2_with fail
     refine wp_region_noPanic ?_
     refine wp_region_held_drew (S := fun w' => w'.cell? ⟨wb, 1, none⟩ = some (.pointer (some ⟨c, 0, none⟩)) ∧ w'.cell? ⟨pk, 2, none⟩ = some (.int .i64 (bl : Int))) (by kernel_rfl) ⟨t1, u2⟩ (fun hSS => ?_)
     apply tk 0 (some 113) (.move (.tmp 13)) 27 none rfl (by kernel_rfl) (fun _ _ _ h => h) (by rfl) hSS
     ·(intro a h; (try dsimp only at h); (try go_split_ands); go_simp; try with_reducible rfl)
     apply tk 1 (some 114) (.nilCheck (.tmp 113)) 0 none rfl (by kernel_rfl) (fun _ _ _ h => h) (by rfl) hSS
     ·(intro a h; (try dsimp only at h); (try go_split_ands); go_simp; try with_reducible rfl)
     try simp only [Act.put, List.setIfInBounds_toArray, List.set_cons_zero, List.set_cons_succ]
     apply tk 2 (some 115) (.fieldAddr 45 (.tmp 114) 1) 0 none rfl (by kernel_rfl) (fun _ _ _ h => h) (by rfl) hSS
     ·(intro a h; (try dsimp only at h); (try go_split_ands); go_simp; try with_reducible rfl)
     apply tk 3 (some 116) (.load 38 (.tmp 115)) 38 none rfl (by kernel_rfl) (fun _ _ _ h => h) (by rfl) hSS
     ·(intro a h; (try dsimp only at h); (try go_split_ands); go_simp; try with_reducible rfl)
     apply tk 4 (some 117) (.move (.tmp 17)) 3 none rfl (by kernel_rfl) (fun _ _ _ h => h) (by rfl) hSS
     ·(intro a h; (try dsimp only at h); (try go_split_ands); go_simp; try with_reducible rfl)
     apply tk 5 (some 118) (.fieldAddr 24 (.tmp 6) 2) 0 none rfl (by kernel_rfl) (fun _ _ _ h => h) (by rfl) hSS
     ·(intro a h; (try dsimp only at h); (try go_split_ands); go_simp; try with_reducible rfl)
     try simp only [Act.put, List.setIfInBounds_toArray, List.set_cons_zero, List.set_cons_succ]
     apply tk 6 (some 119) (.load 3 (.tmp 118)) 3 none rfl (by kernel_rfl) (fun _ _ _ h => h) (by rfl) hSS
     ·(intro a h; (try dsimp only at h); (try go_split_ands); go_simp; try with_reducible rfl)
     try simp only [Act.put, List.setIfInBounds_toArray, List.set_cons_zero, List.set_cons_succ]
     refine wpAnyH_ready (rs := [7]) (by kernel_rfl) (by simp) (AllReadyH.cons (o := ({ dst := some 120, op := Op.call { callee := Callee.value (Operand.func 29), args := #[Operand.tmp 116, Operand.tmp 117, Operand.tmp 119], argTypes := #[38, 3, 3] }, type := 55, pos := _, after := _, guard := none } : Oper)) rfl (fun K9 hK9 => ?_) AllReadyH.nil)
     go_simp
     go_at_call 29
     refine Calls.mono HFo.out ?_
     rintro e w3 ⟨code, rfl, b3, j0, j1, hk1, hcs⟩
     obtain ⟨v0, v1, v2, v3⟩ := HCell.out w3 b3
     have B3 := hid b3
     have HCs := hid hcs
     clear b3 hcs HFo
     refine hK9.out _ _ ⟨j1, v2⟩ (fun hSS => ?_)
     clear hK9 K9
     try simp only [Act.put, List.setIfInBounds_toArray, List.set_cons_zero, List.set_cons_succ]
     apply tk 8 (some 22) (.assign (.tmp 120)) 55 none rfl (by kernel_rfl) (fun _ _ _ h => h) (by rfl) hSS
     ·(intro a h; (try dsimp only at h); (try go_split_ands); go_simp; try with_reducible rfl)
     try simp only [Act.put, List.setIfInBounds_toArray, List.set_cons_zero, List.set_cons_succ]
     refine wpAnyH_done (by kernel_rfl) (NoPanic.normal ?_) _
     clear hSS t0 t1 u0 u1 u2 u3
     go_wp2_with fail
     refine Calls.mono (HNm.out code w3) ?_
     rintro e w9 ⟨rfl, hw9⟩
     rw [hw9]
     clear hw9
     rcases HCs.out with ⟨hc24, hL⟩ | ⟨hc0, hF⟩
     ·subst hc24
      have hf : 0 ≤ fuse := by
       by_cases hf : 0 ≤ fuse
       ·exact hf
       ·have := hk1 (hkf (by omega))
        omega
      have HL := hid hL
      clear hL HCs hk1 hkf
      go_wp2_with fail
      refine Calls.mono HL.out ?_
      rintro e w4 ⟨ib, ic, rfl, b4, hHalf⟩
      have B4 : Hid (Below B w0 w4) := B3.out.trans (b4.mono (HSz.out w3 B3.out))
      obtain ⟨g0, g1, g2, g3⟩ := HCell.out w4 B4.out
      have HHf := hid (hHalf w4 (Below.refl _ _))
      clear b4 hHalf HL v0 v1 v2 v3 j0 j1
      go_wp2_with fail
      refine Calls.mono HHf.out ?_
      rintro e w6 ⟨rfl, b6⟩
      have FIN := hid (HFin.out w6 (B4.out.trans (b6.mono (HSz.out w4 B4.out))))
      clear b6 HHf
      go_wp2
      exact FIN.out
     ·subst hc0
      have HF := hid hF
      clear hF HCs hk1 hkf
      go_wp2_with fail
      refine Calls.mono (HNm.out 0 w3) ?_
      rintro e w9 ⟨rfl, hw9⟩
      rw [hw9]
      clear hw9
      go_wp2_with fail
      refine Calls.mono HF.out ?_
      rintro e w4 ⟨rfl, b4, l1, hOp⟩
      obtain ⟨q0, q1, q2, q3⟩ := HCell.out w4 b4
      have HOp := hid hOp
      clear hOp b4 HF v0 v1 v2 v3 j0 j1 B3
      go_wp2_with fail
      refine wp_region_noPanic ?_
      refine wp_region_held_drew (S := fun w' => w'.cell? ⟨wb, 1, none⟩ = some (.pointer (some ⟨c, 0, none⟩)) ∧ w'.cell? ⟨pk, 2, none⟩ = some (.int .i64 (bl : Int))) (by kernel_rfl) ⟨l1, q2⟩ (fun hSS => ?_)
      apply tk 0 (some 151) (.move (.tmp 13)) 27 none rfl (by kernel_rfl) (fun _ _ _ h => h) (by rfl) hSS
      ·(intro a h; (try dsimp only at h); (try go_split_ands); go_simp; try with_reducible rfl)
      apply tk 1 (some 152) (.nilCheck (.tmp 151)) 0 none rfl (by kernel_rfl) (fun _ _ _ h => h) (by rfl) hSS
      ·(intro a h; (try dsimp only at h); (try go_split_ands); go_simp; try with_reducible rfl)
      apply tk 2 (some 153) (.fieldAddr 45 (.tmp 152) 1) 0 none rfl (by kernel_rfl) (fun _ _ _ h => h) (by rfl) hSS
      ·(intro a h; (try dsimp only at h); (try go_split_ands); go_simp; try with_reducible rfl)
      apply tk 3 (some 154) (.load 38 (.tmp 153)) 38 none rfl (by kernel_rfl) (fun _ _ _ h => h) (by rfl) hSS
      ·(intro a h; (try dsimp only at h); (try go_split_ands); go_simp; try with_reducible rfl)
      try simp only [Act.put, List.setIfInBounds_toArray, List.set_cons_zero, List.set_cons_succ]
      apply tk 4 (some 155) (.move (.tmp 17)) 3 none rfl (by kernel_rfl) (fun _ _ _ h => h) (by rfl) hSS
      ·(intro a h; (try dsimp only at h); (try go_split_ands); go_simp; try with_reducible rfl)
      apply tk 5 (some 156) (.fieldAddr 24 (.tmp 6) 2) 0 none rfl (by kernel_rfl) (fun _ _ _ h => h) (by rfl) hSS
      ·(intro a h; (try dsimp only at h); (try go_split_ands); go_simp; try with_reducible rfl)
      apply tk 6 (some 157) (.load 3 (.tmp 156)) 3 none rfl (by kernel_rfl) (fun _ _ _ h => h) (by rfl) hSS
      ·(intro a h; (try dsimp only at h); (try go_split_ands); go_simp; try with_reducible rfl)
      try simp only [Act.put, List.setIfInBounds_toArray, List.set_cons_zero, List.set_cons_succ]
      refine wpAnyH_ready (rs := [7]) (by kernel_rfl) (by simp) (AllReadyH.cons (o := ({ dst := some 158, op := Op.call { callee := Callee.value (Operand.func 27), args := #[Operand.tmp 154, Operand.tmp 155, Operand.tmp 157], argTypes := #[38, 3, 3] }, type := 70, pos := _, after := _, guard := none } : Oper)) rfl (fun K9 hK9 => ?_) AllReadyH.nil)
      go_simp
      go_at_call 27
      refine Calls.mono HOp.out ?_
      rintro e w5 ⟨j', rfl, b5, hwB5, hwl5, z1, ⟨e2, z2⟩, ⟨e3, z3⟩, ⟨e5, z5⟩, hfz, W', hWD', hWB'⟩
      obtain ⟨x0, x1', x2, x3⟩ := HCell.out w5 b5
      have HW5 := hid (And.intro hWD' hWB')
      have B5 := hid b5
      have hpw : ¬ pk = wb := by omega
      have hwp : ¬ wb = pk := by omega
      have zf2 := hfz 2
      have zf3 := hfz 3
      have zf5 := hfz 5
      clear b5 hWD' hWB' HOp hfz
      refine hK9.out _ _ ⟨z1, x2⟩ (fun hSS => ?_)
      clear hK9 K9
      try simp only [Act.put, List.setIfInBounds_toArray, List.set_cons_zero, List.set_cons_succ]
      apply tk 8 (some 150) (.move (.tmp 158)) 70 none rfl (by kernel_rfl) (fun _ _ _ h => h) (by rfl) hSS
      ·(intro a h; (try dsimp only at h); (try go_split_ands); go_simp; try with_reducible rfl)
      apply tk 9 (some 159) (.extract (.tmp 150) 0) 39 none rfl (by kernel_rfl) (fun _ _ _ h => h) (by rfl) hSS
      ·(intro a h; (try dsimp only at h); (try go_split_ands); go_simp; try with_reducible rfl)
      try simp only [Act.put, List.setIfInBounds_toArray, List.set_cons_zero, List.set_cons_succ]
      apply tk 10 (some 160) (.extract (.tmp 150) 1) 55 none rfl (by kernel_rfl) (fun _ _ _ h => h) (by rfl) hSS
      ·(intro a h; (try dsimp only at h); (try go_split_ands); go_simp; try with_reducible rfl)
      apply tk 11 (some 25) (.assign (.tmp 159)) 39 none rfl (by kernel_rfl) (fun _ _ _ h => h) (by rfl) hSS
      ·(intro a h; (try dsimp only at h); (try go_split_ands); go_simp; try with_reducible rfl)
      apply tk 12 (some 26) (.assign (.tmp 160)) 55 none rfl (by kernel_rfl) (fun _ _ _ h => h) (by rfl) hSS
      ·(intro a h; (try dsimp only at h); (try go_split_ands); go_simp; try with_reducible rfl)
      try simp only [Act.put, List.setIfInBounds_toArray, List.set_cons_zero, List.set_cons_succ]
      refine wpAnyH_done (by kernel_rfl) (NoPanic.normal ?_) _
      clear hSS l1 q0 q1 q2 q3
      go_wp2_with fail
      refine Calls.mono (HNm.out 0 w5) ?_
      rintro e w9 ⟨rfl, hw9⟩
      rw [hw9]
      clear hw9
      obtain ⟨wF, hwF⟩ : ∃ wF, wF = anewW w5 wb j' nb f2 bl hb2 cc := ⟨_, rfl⟩
      have HWF : Hid (WD W' wF wb room nb f2 bl K3 0 Hm [] ∧ (∀ k, W' k → B ≤ k) ∧ Below B w0 wF) := by
       rw [hwF]
       refine ⟨HW5.out.1, HW5.out.2, ?_⟩
       unfold anewW
       exact Below.ofBut B5.out ((((But.refl (fun k => k = wb) w5).setCell rfl _).alloc _).setCell rfl _ |>.setCell rfl _) (fun k q => by omega) HB.out
      unfold anewW at hwF
      rw [World.setCell_alloc_past _ _ _ _ (by simpa using hwl5), World.setCell_alloc_past _ _ _ _ (by simpa using hwl5)] at hwF
      have HwF := hid hwF
      have x2' : (w5.setCell ⟨wb, 2, none⟩ (.pointer (some ⟨j', 0, none⟩))).cell? ⟨pk, 2, none⟩ = some (.int .i64 (bl : Int)) := by
       have b9 : Below B w0 (w5.setCell ⟨wb, 2, none⟩ (.pointer (some ⟨j', 0, none⟩))) := Below.ofBut B5.out ((But.refl (fun k => k = wb) w5).setCell rfl _) (fun k q => by omega) HB.out
       exact (HCell.out _ b9).2.2.1
      clear hwF HW5 B5 x0 x1' x3
      go_wp2_with fail
      rw [← HwF.out]
      go_loopw [27] (fun iv wr => ∃ (i : Nat) (W : Nat → Prop) (K lasted : Nat) (Us : List (List Pm)), i ≤ M ∧ iv = .int .i64 (i : Int) ∧ WD W wr wb room nb f2 bl K lasted Hm Us ∧ K ≤ (N + 1 + i) * 524289 ∧ (∀ k, W k → B ≤ k) ∧ Below B w0 wr) (fun iv _ => M - (intOf iv).toNat)
      case atStart => exact ⟨0, W', K3, 0, [], Nat.zero_le _, rfl, HWF.out.1, hK4, HWF.out.2.1, HWF.out.2.2⟩
      case round =>
       clear HWF HwF z1 z2 z3 z5 zf2 zf3 zf5 x2 x2'
       rename World => wo
       obtain ⟨i, W, K, lasted, Us, hiN, rfl, hWD, hK, hWB, hbt⟩ := hrel
       by_cases hi : i < M
       ·have hi' : (i : Int) < (M : Int) := by omega
        obtain ⟨q, hq⟩ : ∃ q, Bs[i]? = some q := ⟨_, List.getElem?_eq_getElem (by have := HME.out; omega)⟩
        obtain ⟨pb, po, hsa, hpb, hcs⟩ := acts_at (HBs.out wo hbt) hq
        obtain ⟨c0, c1, c2, c3, c4, c5⟩ := hcs i q hq
        obtain ⟨p1, p2, p3⟩ := HPs2.out wo hbt q (List.mem_of_getElem? hq)
        have HAct : Hid (∀ fz', (fz' = -1 ∨ q.kd = 7) → Calls Tryz.prog 11 #[.pointer (some ⟨wb, 0, none⟩), .agg #[.int .i64 q.kd, .int .i64 q.at_, .slice q.a0 q.ps.length q.cp, .int .u64 q.keep, .int .i64 fz', .int .i64 q.again]] (wo.alloc (.cells #[.int .i64 q.kd, .int .i64 q.at_, .slice q.a0 q.ps.length q.cp, .int .u64 q.keep, .int .i64 fz', .int .i64 q.again] 33)) fun e w2 => e = .returned (.bool true) ∧ w2.cell? ⟨wo.heap.size, 3, none⟩ = some (.int .u64 q.keep) ∧ Below B w0 w2 ∧ ∃ W' l' Us', WD W' w2 wb room nb f2 bl (K + nb + 1) l' Hm Us' ∧ (∀ k, W' k → B ≤ k)) := fun fz' hfz' => act_on q hWD (by omega) hWB hbt HB.out p1 p2 p3 fz' hfz'
        have hK2 : K + nb + 1 ≤ (N + 1 + (i + 1)) * 524289 := by omega
        obtain ⟨kd, hkd⟩ : ∃ kd, kd = q.kd := ⟨_, rfl⟩
        obtain ⟨at_, hat⟩ : ∃ at_, at_ = q.at_ := ⟨_, rfl⟩
        obtain ⟨a0, ha0⟩ : ∃ a0, a0 = q.a0 := ⟨_, rfl⟩
        obtain ⟨np, hnp⟩ : ∃ np, np = q.ps.length := ⟨_, rfl⟩
        obtain ⟨cp, hcp1⟩ : ∃ cp, cp = q.cp := ⟨_, rfl⟩
        obtain ⟨keep, hkeep⟩ : ∃ keep, keep = q.keep := ⟨_, rfl⟩
        obtain ⟨fz, hfz⟩ : ∃ fz, fz = q.fz := ⟨_, rfl⟩
        obtain ⟨again, hagain⟩ : ∃ again, again = q.again := ⟨_, rfl⟩
        rw [← hkd] at c0
        rw [← hat] at c1
        rw [← ha0, ← hnp, ← hcp1] at c2
        rw [← hkeep] at c3
        rw [← hfz] at c4
        rw [← hagain] at c5
        rw [← hkd, ← hat, ← ha0, ← hnp, ← hcp1, ← hkeep, ← hagain] at HAct
        obtain ⟨K2, hK2e⟩ : ∃ K2, K2 = K + nb + 1 := ⟨_, rfl⟩
        rw [← hK2e] at HAct hK2
        subst hsa
        have HK2 := hid hK2
        clear hcs hq hkd hat ha0 hnp hcp1 hkeep hfz hagain p1 p2 p3 hWD hWB hK hbt hK2e hK2
        by_cases h7 : kd = 7
        ·subst h7
         go_wp2_with fail
         refine Calls.mono (HAct.out (i : Int) (.inr (by first | rfl | trivial))) ?_
         rintro e w2 ⟨rfl, kk, b2, W2, l2, Us2, f1, f2'⟩
         have F2 : Hid (WD W2 w2 wb room nb f2 bl K2 l2 Hm Us2 ∧ (∀ k, W2 k → B ≤ k) ∧ Below B w0 w2) := ⟨f1, f2', b2⟩
         clear HAct f1 f2' b2
         go_wp2_with fail
         refine Calls.mono (F2.out.1.probes keep) ?_
         rintro e w3 ⟨rfl, b3⟩
         have F3 : Hid (WD W2 w3 wb room nb f2 bl K2 l2 Hm Us2 ∧ (∀ k, W2 k → B ≤ k) ∧ Below B w0 w3) := ⟨F2.out.1.below b3, F2.out.2.1, F2.out.2.2.trans (b3.mono (HSz.out w2 F2.out.2.2))⟩
         clear F2 b3 kk
         go_wp2_with fail
         go_roundw
         case rel => exact ⟨i + 1, W2, K2, l2, Us2, by omega, by go_num, F3.out.1, HK2.out, F3.out.2.1, F3.out.2.2⟩
         case measure => simp [intOf]; omega
        ·have e7 : (kd == 7) = false := by simpa using h7
         go_wp2_with fail
         refine Calls.mono (HAct.out (-1) (.inl rfl)) ?_
         rintro e w2 ⟨rfl, kk, b2, W2, l2, Us2, f1, f2'⟩
         have F2 : Hid (WD W2 w2 wb room nb f2 bl K2 l2 Hm Us2 ∧ (∀ k, W2 k → B ≤ k) ∧ Below B w0 w2) := ⟨f1, f2', b2⟩
         clear HAct f1 f2' b2
         go_wp2_with fail
         refine Calls.mono (F2.out.1.probes keep) ?_
         rintro e w3 ⟨rfl, b3⟩
         have F3 : Hid (WD W2 w3 wb room nb f2 bl K2 l2 Hm Us2 ∧ (∀ k, W2 k → B ≤ k) ∧ Below B w0 w3) := ⟨F2.out.1.below b3, F2.out.2.1, F2.out.2.2.trans (b3.mono (HSz.out w2 F2.out.2.2))⟩
         clear F2 b3 kk
         go_wp2_with fail
         go_roundw
         case rel => exact ⟨i + 1, W2, K2, l2, Us2, by omega, by go_num, F3.out.1, HK2.out, F3.out.2.1, F3.out.2.2⟩
         case measure => simp [intOf]; omega
       ·have hi' : ¬ (i : Int) < (M : Int) := by omega
        have hsB := HSz.out wo hbt
        obtain ⟨_, _, j2, g2, ta2, tc2, _, k2, k3, _, _, _, hHo⟩ := hWD.looks (by omega)
        have HHo : Hid (Calls Tryz.prog 34 #[.pointer (some ⟨j2, 0, none⟩), .pointer (some ⟨g2, 0, none⟩)] wo.drew fun e w'' => e = .returned (.bool true) ∧ w''.cell? ⟨wb, 2, none⟩ = some (.pointer (some ⟨j2, 0, none⟩)) ∧ w''.cell? ⟨wb, 3, none⟩ = some (.pointer (some ⟨g2, 0, none⟩)) ∧ PO (.returned (.bool true)) w'') := by
         refine Calls.mono (hHo wo.drew (Below.refl wo.heap.size wo).drew) ?_
         rintro e w'' ⟨rfl, r1, r2, r3⟩
         exact ⟨rfl, r1, r2, HFin.out _ (((but_lo3 hbt).comp r3 (fun k _ r => hWB k r)).below (by have := HB.out; omega) (fun k hk r => by omega))⟩
        clear hWD hK hWB hbt hHo hsB
        go_wp2_with fail
        refine wp_region_held_drew (S := fun w' => w'.cell? ⟨wb, 2, none⟩ = some (.pointer (some ⟨j2, 0, none⟩)) ∧ w'.cell? ⟨wb, 3, none⟩ = some (.pointer (some ⟨g2, 0, none⟩))) (by kernel_rfl) ⟨k2, k3⟩ (fun hSS => ?_)
        apply tk 0 (some 211) (.move (.tmp 13)) 27 none rfl (by kernel_rfl) (fun _ _ _ h => h) (by rfl) hSS
        ·(intro a h; (try dsimp only at h); (try go_split_ands); go_simp; try with_reducible rfl)
        apply tk 1 (some 212) (.nilCheck (.tmp 211)) 0 none rfl (by kernel_rfl) (fun _ _ _ h => h) (by rfl) hSS
        ·(intro a h; (try dsimp only at h); (try go_split_ands); go_simp; try with_reducible rfl)
        try simp only [Act.put, List.setIfInBounds_toArray, List.set_cons_zero, List.set_cons_succ]
        apply tk 2 (some 213) (.fieldAddr 45 (.tmp 212) 2) 0 none rfl (by kernel_rfl) (fun _ _ _ h => h) (by rfl) hSS
        ·(intro a h; (try dsimp only at h); (try go_split_ands); go_simp; try with_reducible rfl)
        apply tk 3 (some 214) (.load 39 (.tmp 213)) 39 none rfl (by kernel_rfl) (fun _ _ _ h => h) (by rfl) hSS
        ·(intro a h; (try dsimp only at h); (try go_split_ands); go_simp; try with_reducible rfl)
        apply tk 4 (some 215) (.move (.tmp 13)) 27 none rfl (by kernel_rfl) (fun _ _ _ h => h) (by rfl) hSS
        ·(intro a h; (try dsimp only at h); (try go_split_ands); go_simp; try with_reducible rfl)
        apply tk 5 (some 216) (.nilCheck (.tmp 215)) 0 none rfl (by kernel_rfl) (fun _ _ _ h => h) (by rfl) hSS
        ·(intro a h; (try dsimp only at h); (try go_split_ands); go_simp; try with_reducible rfl)
        try simp only [Act.put, List.setIfInBounds_toArray, List.set_cons_zero, List.set_cons_succ]
        apply tk 6 (some 217) (.fieldAddr 45 (.tmp 216) 3) 0 none rfl (by kernel_rfl) (fun _ _ _ h => h) (by rfl) hSS
        ·(intro a h; (try dsimp only at h); (try go_split_ands); go_simp; try with_reducible rfl)
        apply tk 7 (some 218) (.load 40 (.tmp 217)) 40 none rfl (by kernel_rfl) (fun _ _ _ h => h) (by rfl) hSS
        ·(intro a h; (try dsimp only at h); (try go_split_ands); go_simp; try with_reducible rfl)
        try simp only [Act.put, List.setIfInBounds_toArray, List.set_cons_zero, List.set_cons_succ]
        refine wpAnyH_ready (rs := [8]) (by kernel_rfl) (by simp) (AllReadyH.cons (o := ({ dst := some 219, op := Op.call { callee := Callee.value (Operand.func 34), args := #[Operand.tmp 214, Operand.tmp 218], argTypes := #[39, 40] }, type := 4, pos := _, after := _, guard := none } : Oper)) rfl (fun K9 hK9 => ?_) AllReadyH.nil)
        go_simp
        go_at_call 34
        refine Calls.mono HHo.out ?_
        rintro e wH ⟨rfl, h2, h3, hF⟩
        have FIN := hid hF
        clear hF HHo
        refine hK9.out _ _ ⟨h2, h3⟩ (fun hSS => ?_)
        clear hK9 K9
        try simp only [Act.put, List.setIfInBounds_toArray, List.set_cons_zero, List.set_cons_succ]
        apply tk 9 (some 12) (.assign (.tmp 219)) 4 none rfl (by kernel_rfl) (fun _ _ _ h => h) (by rfl) hSS
        ·(intro a h; (try dsimp only at h); (try go_split_ands); go_simp; try with_reducible rfl)
        try simp only [Act.put, List.setIfInBounds_toArray, List.set_cons_zero, List.set_cons_succ]
        refine wpAnyH_done (by kernel_rfl) ?_ _
        clear hSS
        go_wp2
        exact FIN.out
end Go.Proofs.YtldlejpacgphmaaGreat
