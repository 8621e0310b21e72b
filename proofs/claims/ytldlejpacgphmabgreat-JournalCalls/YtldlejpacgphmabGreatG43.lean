import Derived.Test.YtldlejpacgphmabGreatG41
import Derived.Test.YtldlejpacgphmabGreatG22
import Derived.Test.YtldlejpacgphmabGreatG42
import Derived.Test.YtldlejpacgphmabGreatG35
import Derived.Deep.DeepCutAuto
namespace Go.Proofs.YtldlejpacgphmabGreat
open Go.RowKit Go.Deep
def RdWho (B : Nat) (w : World) (a : Option Addr) (ys : List Int) : Prop := ys = [] ∨ ∃ b off, a = some ⟨b, off, none⟩ ∧ b < B ∧ ∀ t y, ys[t]? = some y → w.cell? ⟨b, off + t, none⟩ = some (.int .i64 y)
theorem acts_at {B i : Nat} {w : World} {sa : Option Addr} {As : List Ac} {q : Ac} (h : RdA B w sa As) (hq : As[i]? = some q) : ∃ b off, sa = some ⟨b, off, none⟩ ∧ b < B ∧ ∀ t q, As[t]? = some q → w.cell? ⟨b, off + t * 6, none⟩ = some (.int .i64 q.kd) ∧ w.cell? ⟨b, off + t * 6 + 1, none⟩ = some (.int .i64 q.at_) ∧ w.cell? ⟨b, off + t * 6 + 2, none⟩ = some (.slice q.a0 q.ps.length q.cp) ∧ w.cell? ⟨b, off + t * 6 + 3, none⟩ = some (.int .u64 q.keep) ∧ w.cell? ⟨b, off + t * 6 + 4, none⟩ = some (.int .i64 q.fz) ∧ w.cell? ⟨b, off + t * 6 + 5, none⟩ = some (.int .i64 q.again) := by
 rcases h with e | e
 ·rw [e] at hq; cases hq
 ·exact e
theorem begun_ow {X0 : Nat → Prop} {w : World} (a : Option Addr) (L hcap : Nat) (H : List Int) (frI blI rI : Int) (hL : L ≤ 1073741823) (hnil : a = none → hcap = 0) (hR : Rd w.heap.size w a L H) (hX0 : ∀ k, X0 k → k < w.heap.size) :
  Calls Tryz.prog 10 #[.agg #[.slice a L hcap, .int .i64 frI, .int .i64 blI, .int .i64 rI]] w fun e w' => Below w.heap.size w w' ∧ ∃ va W, e = .returned (.tuple #[va, .bool true]) ∧ OW X0 W w' va 0 ∧ ∀ k, W k → w.heap.size ≤ k := by
 refine Calls.mono (begun_any a L hcap H frI blI rI hL hnil hR hX0) ?_
 rintro e w' ⟨b, rfl | ⟨wb, room, nb, fr, bl, W, rfl, h1, h2⟩⟩
 ·exact ⟨b, _, fun _ => False, rfl, .inl ⟨rfl, fun _ q => q, fun k q => Nat.lt_of_lt_of_le (hX0 k q) b.size⟩, fun _ q => q.elim⟩
 ·exact ⟨b, _, W, rfl, .inr ⟨wb, room, nb, fr, bl, 0, H, [], rfl, h1⟩, h2⟩
theorem bd_a {a K : Nat} (h : K ≤ a) (hb : a ≤ 140000000000) : K ≤ a + 524300 ∧ K + 524289 ≤ a + 524300 ∧ K + 524289 + 2 ≤ a + 524300 ∧ K + 524289 + 2 < 4611686018427387904 ∧ K + 524288 < 4611686018427387904 := by omega
theorem bd_step {i K N : Nat} (h : K ≤ i * 524300) (hi : i ≤ N) (hN : N ≤ 262144) : K ≤ (i + 1) * 524300 ∧ K + 524289 ≤ (i + 1) * 524300 ∧ K + 524289 + 2 ≤ (i + 1) * 524300 ∧ K + 524289 + 2 < 4611686018427387904 ∧ K + 524288 < 4611686018427387904 := by
 have e : (i + 1) * 524300 = i * 524300 + 524300 := by rw [Nat.add_mul, Nat.one_mul]
 have hb : i * 524300 ≤ 140000000000 := Nat.le_trans (Nat.mul_le_mul_right 524300 (show i ≤ 262144 by omega)) (by decide)
 rw [e]
 exact bd_a h hb
theorem Duo.act {B : Nat} {w0 wo : World} {vo : Value} {Wc Wo : Nat → Prop} {K : Nat} {X : Nat → Prop} {b cnt tot nK wb : Nat} (h : Duo B wo (.pointer (some ⟨wb, 0, none⟩)) vo Wc Wo K X) (hBk : Bok B X wo b cnt tot nK) (hbt : Below B w0 wo) (hB : B = w0.heap.size) (hK : K + 524288 < 4611686018427387904) (hnK : nK ≤ 134217728) (q : Ac) (p1 : RdP (fun k => B ≤ k) wo q.a0 q.ps) (p2 : q.ps.length ≤ 1048576) (p3 : ∀ p ∈ q.ps, p.data.length ≤ 1048576 ∧ (p.ad = none → p.cap = 0)) (fz' : Int) (hfz' : fz' = -1 ∨ q.kd = 7) :
  Calls Tryz.prog 11 #[.pointer (some ⟨wb, 0, none⟩), .agg #[.int .i64 q.kd, .int .i64 q.at_, .slice q.a0 q.ps.length q.cp, .int .u64 q.keep, .int .i64 fz', .int .i64 q.again]] (wo.alloc (.cells #[.int .i64 q.kd, .int .i64 q.at_, .slice q.a0 q.ps.length q.cp, .int .u64 q.keep, .int .i64 fz', .int .i64 q.again] 38)) fun e w2 => e = .returned (.bool true) ∧ Calls Tryz.prog 12 #[.pointer (some ⟨b, 0, none⟩)] w2 fun e w3 => e = .returned (.bool true) ∧ w3.cell? ⟨wo.heap.size, 0, none⟩ = some (.int .i64 q.kd) ∧ w3.cell? ⟨wo.heap.size, 1, none⟩ = some (.int .i64 q.at_) ∧ wo.heap.size < w3.heap.size ∧ Below B w0 w3 ∧ ∃ W' X', Duo B w3 (.pointer (some ⟨wb, 0, none⟩)) vo W' Wo (K + 524289) X' ∧ Bok B X' w3 b cnt tot nK ∧ ¬ W' wo.heap.size ∧ ¬ X' wo.heap.size := by
 have hsB := hbt.size
 obtain ⟨wA, hwA⟩ : ∃ wA, wA = wo.alloc (.cells #[.int .i64 q.kd, .int .i64 q.at_, .slice q.a0 q.ps.length q.cp, .int .u64 q.keep, .int .i64 fz', .int .i64 q.again] 38) := ⟨_, rfl⟩
 have bA : Below wo.heap.size wo wA := by rw [hwA]; exact (Below.refl _ _).alloc (Nat.le_refl _) _
 have zA : wA.heap.size = wo.heap.size + 1 := by rw [hwA]; simp
 have kA : wA.cell? ⟨wo.heap.size, 0, none⟩ = some (.int .i64 q.kd) := by rw [hwA]; exact cell_new rfl 0 _ rfl
 have kB : wA.cell? ⟨wo.heap.size, 1, none⟩ = some (.int .i64 q.at_) := by rw [hwA]; exact cell_new rfl 1 _ rfl
 rw [← hwA]
 have hA := h.below (by omega) bA
 have bkA : Bok B X wA b cnt tot nK := hBk.but (But.of_below bA (X := fun _ => False)) (fun _ _ _ q => q)
 obtain ⟨wb', room, nb, fr, bl, lasted, H, Us, ev, hWD⟩ : ∃ wb' room nb fr bl lasted H Us, (Value.pointer (some ⟨wb, 0, none⟩)) = .pointer (some ⟨wb', 0, none⟩) ∧ WD (fun k => Wo k ∨ X k) Wc wA wb' room nb fr bl K lasted H Us := by
  rcases hA.a with ⟨e, _⟩ | e
  ·cases e
  ·exact e
 obtain rfl : wb = wb' := by injection ev with e; injection e with e; injection e
 have hnb := hWD.log.1
 have nWc : ¬ Wc wo.heap.size := fun r => Nat.lt_irrefl _ (h.a.lt r)
 have nX : ¬ X wo.heap.size := fun r => Nat.lt_irrefl _ (h.lx _ r).2
 refine Calls.mono (act_any hWD (by omega) q.kd q.at_ q.keep fz' q.again hfz' q.a0 q.cp q.ps (p1.but (But.of_below bA (X := fun _ => False)) (fun _ _ r => r.elim) Wc (fun k hk r => h.la k r)) (by omega) (fun p hp => ⟨by have := (p3 p hp).1; omega, (p3 p hp).2⟩)) ?_
 rintro e w2 ⟨rfl, r1, W', l', Us', r2, r3, _⟩
 have s2 := r1.size
 have btA : Below B w0 wA := hbt.trans (bA.mono (by omega))
 have bt2 : Below B w0 w2 := Below.ofBut btA r1 h.la hB
 have D2 : Duo B w2 (.pointer (some ⟨wb, 0, none⟩)) vo W' Wo (K + 524289) X := hA.step (by omega) r1 (.inr ⟨wb, room, nb, fr, bl, l', H, Us', rfl, r2.monoK (by omega)⟩) r3 (by omega) (fun _ _ q => q) (fun k q => ⟨by have := (hA.lx k q).2; omega, fun r => hA.ax k (r3 k (hA.lx k q).2 r) q⟩)
 have bk2 : Bok B X w2 b cnt tot nK := bkA.but r1 (fun k _ q r => hA.ax k r q)
 refine ⟨rfl, Calls.mono (Holds_any B X w2 b cnt tot nK hnK bk2) ?_⟩
 rintro e w3 ⟨rfl, bk3, b3⟩
 have s3 := b3.size
 have nW' : ¬ W' wo.heap.size := fun r => nWc (r3 _ (by omega) r)
 have hcc : ∀ t v, wA.cell? ⟨wo.heap.size, t, none⟩ = some v → w3.cell? ⟨wo.heap.size, t, none⟩ = some v := fun t v hv => ((b3.cell (p := ⟨wo.heap.size, t, none⟩) (by show wo.heap.size < _; omega) nX).trans (r1.cell (p := ⟨wo.heap.size, t, none⟩) (by show wo.heap.size < _; omega) nWc)).trans hv
 refine ⟨rfl, hcc 0 _ kA, hcc 1 _ kB, by omega, Below.ofBut bt2 b3 (fun k q => (h.lx k q).1) hB, W', X, D2.other (by have := bt2.size; omega) b3 (fun _ _ q => q) (fun _ _ q => q) (fun k q => by have := (D2.lx k q).2; omega), bk3, nW', nX⟩
set_option maxRecDepth 100000 in
set_option maxHeartbeats 16000000 in
theorem calls_law (ha : Option Addr) (hn hcp : Nat) (Hs : List Int) (frI blI rmI : Int) (ha2 : Option Addr) (hn2 hcp2 : Nat) (Hs2 : List Int) (frI2 blI2 rmI2 : Int) (sa : Option Addr) (scp : Nat) (As : List Ac) (ya : Option Addr) (ycp : Nat) (Ys : List Int) (w : World) (hH : Rd w.heap.size w ha hn Hs) (hHn : hn ≤ 1073741823) (hnil : ha = none → hcp = 0) (hH2 : Rd w.heap.size w ha2 hn2 Hs2) (hHn2 : hn2 ≤ 1073741823) (hnil2 : ha2 = none → hcp2 = 0) (hA : RdA w.heap.size w sa As) (hN : As.length ≤ 262144) (hP : ∀ q ∈ As, RdP (fun _ => False) w q.a0 q.ps ∧ q.ps.length ≤ 1048576 ∧ (∀ p ∈ q.ps, p.data.length ≤ 1048576 ∧ (p.ad = none → p.cap = 0))) (hY : RdWho w.heap.size w ya Ys) (hM : Ys.length ≤ 1048576) :
  Calls Tryz.prog 3 #[.agg #[.slice ha hn hcp, .int .i64 frI, .int .i64 blI, .int .i64 rmI], .agg #[.slice ha2 hn2 hcp2, .int .i64 frI2, .int .i64 blI2, .int .i64 rmI2], .slice sa As.length scp, .slice ya Ys.length ycp] w fun e w' => e = .returned (.bool true) ∧ Below w.heap.size w w' := by
 obtain ⟨PO, hPO⟩ : ∃ PO : Ending → World → Prop, PO = fun e w' => e = .returned (.bool true) ∧ Below w.heap.size w w' := ⟨_, rfl⟩
 rw [← hPO]
 obtain ⟨N, hNe⟩ : ∃ N, N = As.length := ⟨_, rfl⟩
 rw [← hNe]
 have hN3 : N ≤ 262144 := by omega
 obtain ⟨M, hMe⟩ : ∃ M, M = Ys.length := ⟨_, rfl⟩
 rw [← hMe]
 have hM3 : M ≤ 1048576 := by omega
 obtain ⟨pk, hpk⟩ : ∃ pk, pk = w.heap.size := ⟨_, rfl⟩
 obtain ⟨wP, hwP⟩ : ∃ wP, wP = w.alloc (.cells #[.slice ha hn hcp, .int .i64 frI, .int .i64 blI, .int .i64 rmI] 24) := ⟨_, rfl⟩
 have zP : wP.heap.size = w.heap.size + 1 := by rw [hwP]; simp
 obtain ⟨w0, hw0⟩ : ∃ w0, w0 = wP.alloc (.cells #[.slice ha2 hn2 hcp2, .int .i64 frI2, .int .i64 blI2, .int .i64 rmI2] 24) := ⟨_, rfl⟩
 have bP : Below w.heap.size w wP := by rw [hwP]; exact (Below.refl _ _).alloc (Nat.le_refl _) _
 have b0P : Below wP.heap.size wP w0 := by rw [hw0]; exact (Below.refl _ _).alloc (Nat.le_refl _) _
 have b0 : Below w.heap.size w w0 := bP.trans (b0P.mono (by omega))
 have z0 : w0.heap.size = w.heap.size + 2 := by rw [hw0]; simp [zP]
 obtain ⟨B, hB⟩ : ∃ B, B = w0.heap.size := ⟨_, rfl⟩
 have hpl : pk < B := by omega
 have hpl2 : pk + 1 < B := by omega
 have cA : ∀ t v, #[.slice ha hn hcp, .int .i64 frI, .int .i64 blI, .int .i64 rmI][t]? = some v → w0.cell? ⟨pk, t, none⟩ = some v := fun t v hv => (b0P.cell (p := ⟨pk, t, none⟩) (by show pk < _; omega)).trans (by rw [hwP, hpk]; exact cell_new rfl t _ hv)
 have cB : ∀ t v, #[.slice ha2 hn2 hcp2, .int .i64 frI2, .int .i64 blI2, .int .i64 rmI2][t]? = some v → w0.cell? ⟨pk + 1, t, none⟩ = some v := fun t v hv => by rw [hw0, hpk, ← zP]; exact cell_new rfl t _ hv
 have HCell : Hid (∀ w', Below B w0 w' → (w'.cell? ⟨pk, 0, none⟩ = some (.slice ha hn hcp) ∧ w'.cell? ⟨pk, 1, none⟩ = some (.int .i64 frI) ∧ w'.cell? ⟨pk, 2, none⟩ = some (.int .i64 blI) ∧ w'.cell? ⟨pk, 3, none⟩ = some (.int .i64 rmI)) ∧ (w'.cell? ⟨pk + 1, 0, none⟩ = some (.slice ha2 hn2 hcp2) ∧ w'.cell? ⟨pk + 1, 1, none⟩ = some (.int .i64 frI2) ∧ w'.cell? ⟨pk + 1, 2, none⟩ = some (.int .i64 blI2) ∧ w'.cell? ⟨pk + 1, 3, none⟩ = some (.int .i64 rmI2))) := fun w' hb => ⟨⟨(hb.cell (p := ⟨pk, 0, none⟩) hpl).trans (cA 0 _ rfl), (hb.cell (p := ⟨pk, 1, none⟩) hpl).trans (cA 1 _ rfl), (hb.cell (p := ⟨pk, 2, none⟩) hpl).trans (cA 2 _ rfl), (hb.cell (p := ⟨pk, 3, none⟩) hpl).trans (cA 3 _ rfl)⟩, ⟨(hb.cell (p := ⟨pk + 1, 0, none⟩) hpl2).trans (cB 0 _ rfl), (hb.cell (p := ⟨pk + 1, 1, none⟩) hpl2).trans (cB 1 _ rfl), (hb.cell (p := ⟨pk + 1, 2, none⟩) hpl2).trans (cB 2 _ rfl), (hb.cell (p := ⟨pk + 1, 3, none⟩) hpl2).trans (cB 3 _ rfl)⟩⟩
 have HFin : Hid (∀ w', Below B w0 w' → PO (.returned (.bool true)) w') := fun w' hb => by
  rw [hPO]
  exact ⟨rfl, b0.trans (hb.mono (by omega))⟩
 have HSz : Hid (∀ w', Below B w0 w' → B ≤ w'.heap.size) := fun w' hb => by have := hb.size; omega
 have HLow : Hid (∀ w', Below B w0 w' → Below w.heap.size w w') := fun w' hb => b0.trans (hb.mono (by omega))
 have HAs : Hid (∀ w', Below B w0 w' → RdA B w' sa As) := fun w' hb => by
  have h1 := hA.below (HLow.out w' hb)
  exact h1.imp id (fun ⟨b, o, e, l, q⟩ => ⟨b, o, e, by omega, q⟩)
 have HYs : Hid (∀ w', Below B w0 w' → ∀ t y, Ys[t]? = some y → ∃ b off, ya = some ⟨b, off, none⟩ ∧ w'.cell? ⟨b, off + t, none⟩ = some (.int .i64 y)) := fun w' hb t y hy => by
  rcases hY with e | ⟨b, off, e1, e2, e3⟩
  ·rw [e] at hy; cases hy
  ·exact ⟨b, off, e1, ((HLow.out w' hb).cell (p := ⟨b, off + t, none⟩) e2).trans (e3 t y hy)⟩
 have HPs : Hid (∀ w', Below B w0 w' → ∀ q ∈ As, RdP (fun k => B ≤ k) w' q.a0 q.ps ∧ q.ps.length ≤ 1048576 ∧ (∀ p ∈ q.ps, p.data.length ≤ 1048576 ∧ (p.ad = none → p.cap = 0))) := fun w' hb q hq => by
  obtain ⟨r1, r2, r3⟩ := hP q hq
  exact ⟨r1.but (But.of_below (HLow.out w' hb) (X := fun _ => False)) (fun _ _ q => q) _ (fun k hk q => by omega), r2, r3⟩
 have HBg : Hid (∀ w', Below B w0 w' → Calls Tryz.prog 10 #[.agg #[.slice ha hn hcp, .int .i64 frI, .int .i64 blI, .int .i64 rmI]] w' fun e w'' => Below w'.heap.size w' w'' ∧ ∃ va W, e = .returned (.tuple #[va, .bool true]) ∧ OW (fun _ => False) W w'' va 0 ∧ ∀ k, W k → w'.heap.size ≤ k) := fun w' hb => begun_ow ha hn hcp Hs frI blI rmI hHn hnil ((hH.below (HLow.out w' hb)).mono (HLow.out w' hb).size) (fun _ q => q.elim)
 have HBg2 : Hid (∀ w' (X0 : Nat → Prop), Below B w0 w' → (∀ k, X0 k → k < w'.heap.size) → Calls Tryz.prog 10 #[.agg #[.slice ha2 hn2 hcp2, .int .i64 frI2, .int .i64 blI2, .int .i64 rmI2]] w' fun e w'' => Below w'.heap.size w' w'' ∧ ∃ va W, e = .returned (.tuple #[va, .bool true]) ∧ OW X0 W w'' va 0 ∧ ∀ k, W k → w'.heap.size ≤ k) := fun w' X0 hb hx => begun_ow ha2 hn2 hcp2 Hs2 frI2 blI2 rmI2 hHn2 hnil2 ((hH2.below (HLow.out w' hb)).mono (HLow.out w' hb).size) hx
 have HNE := hid hNe
 have HME := hid hMe
 have HW0 : Hid (w0 = (w.alloc (.cells #[.slice ha hn hcp, .int .i64 frI, .int .i64 blI, .int .i64 rmI] 24)).alloc (.cells #[.slice ha2 hn2 hcp2, .int .i64 frI2, .int .i64 blI2, .int .i64 rmI2] 24)) := hw0.trans (by rw [hwP])
 have HPK := hid hpk
 have HB := hid hB
 have HNm := hid num_any
 clear hH hA hP hnil hH2 hnil2 hHn hHn2 hw0 hwP hpk b0 b0P bP z0 zP cA cB hPO hB hNe hMe HLow hN hM hY
 go_enter Tryz.func3, Tryz.ntmps3
 go_wp2_with fail
 rw [← HW0.out, ← HPK.out]
 refine Calls.mono (lives_any w0) ?_
 rintro e w1 ⟨rfl, b1⟩
 rw [← HB.out] at b1
 have B1 := hid b1
 obtain ⟨⟨d0, d1, d2, d3⟩, _⟩ := HCell.out w1 b1
 clear b1 HW0 HPK
 go_wp2_with fail
 refine Calls.mono (HBg.out w1 B1.out) ?_
 rintro e w2 ⟨b2, va, Wa, rfl, owa, la⟩
 have B2 : Hid (Below B w0 w2) := B1.out.trans (b2.mono (HSz.out w1 B1.out))
 have hs1 := HSz.out w1 B1.out
 have OWA : Hid (OW (fun _ => False) Wa w2 va 0 ∧ ∀ k, Wa k → B ≤ k) := ⟨owa, fun k q => by have := la k q; omega⟩
 obtain ⟨_, ⟨e0, e1, e2, e3⟩⟩ := HCell.out w2 B2.out
 clear HBg d0 d1 d2 d3 b2 owa la hs1 B1
 go_wp2_with fail
 refine Calls.mono (HBg2.out w2 Wa B2.out (fun k q => OWA.out.1.lt q)) ?_
 rintro e w3 ⟨b3, vb, Wb, rfl, owb, lb⟩
 have B3 : Hid (Below B w0 w3) := B2.out.trans (b3.mono (HSz.out w2 B2.out))
 obtain ⟨w4, hw4⟩ : ∃ w4, w4 = w3.alloc (.cells #[.int .i64 0, .int .i64 0, .bool false, .slice none 0 0, .slice none 0 0, .slice none 0 0, .slice none 0 0, .slice none 0 0] 34) := ⟨_, rfl⟩
 obtain ⟨bb, hbb⟩ : ∃ bb, bb = w3.heap.size := ⟨_, rfl⟩
 have H4 : Hid (Duo B w4 va vb Wa Wb 0 (fun x => x = bb) ∧ Bok B (fun x => x = bb) w4 bb 0 0 0 ∧ Below B w0 w4) := by
  have b4 : Below w3.heap.size w3 w4 := by rw [hw4]; exact (Below.refl _ _).alloc (Nat.le_refl _) _
  have z4 : w4.heap.size = w3.heap.size + 1 := by rw [hw4]; simp
  have hs3 := HSz.out w3 B3.out
  refine ⟨?_, ?_, B3.out.trans (b4.mono hs3)⟩
  ·rw [hbb]
   exact Duo.begun (HSz.out w2 B2.out) OWA.out.1 b3 owb OWA.out.2 lb b4 (by omega)
  ·rw [hbb]
   exact Bok.new (by rw [hw4]; exact Array.getElem?_push_size) hs3
 have HW4 := hid hw4
 have HBB := hid hbb
 clear HBg2 e0 e1 e2 e3 b3 owb lb B2 OWA B3 hw4 hbb
 go_wp2_with fail
 rw [← HW4.out, ← HBB.out]
 clear HW4 HBB
 go_loopw [14] (fun iv wr => ∃ (i : Nat) (Wa Wb : Nat → Prop) (K : Nat) (X : Nat → Prop) (cnt tot nK : Nat), i ≤ N ∧ iv = .int .i64 (i : Int) ∧ Duo B wr va vb Wa Wb K X ∧ Bok B X wr bb cnt tot nK ∧ K ≤ i * 524300 ∧ cnt ≤ 2 * i ∧ tot ≤ 1024 * i ∧ nK ≤ 30 * i ∧ Below B w0 wr) (fun iv _ => N - (intOf iv).toNat)
 case atStart => exact ⟨0, Wa, Wb, 0, _, 0, 0, 0, Nat.zero_le _, rfl, H4.out.1, H4.out.2.1, by omega, by omega, by omega, by omega, H4.out.2.2⟩
 case round =>
  clear H4
  rename World => wo
  obtain ⟨i, Wa, Wb, K, X, cnt, tot, nK, hiN, rfl, hD, hBk, hK, hc, ht, hnK, hbt⟩ := hrel
  by_cases hi : i < N
  ·have hi' : (i : Int) < (N : Int) := by omega
   have HBd := hid (bd_step hK hiN hN3)
   have hKs := HBd.out.2.2.2.1
   have hKt := HBd.out.2.2.2.2
   clear hK
   obtain ⟨q, hq⟩ : ∃ q, As[i]? = some q := ⟨_, List.getElem?_eq_getElem (by have := HNE.out; omega)⟩
   obtain ⟨pb, po, hsa, hpb, hcs⟩ := acts_at (HAs.out wo hbt) hq
   obtain ⟨c0, c1, c2, c3, c4, c5⟩ := hcs i q hq
   have HQ := hid (HPs.out wo hbt q (List.mem_of_getElem? hq))
   have HYi := hid (HYs.out wo hbt i)
   have HMe : Hid (i < M → ∃ y, Ys[i]? = some y) := fun hm => ⟨_, List.getElem?_eq_getElem (by have := HME.out; omega)⟩
   have HDB := hid (And.intro hD (And.intro hBk hbt))
   have HSA := hid hsa
   clear hcs hq hD hBk hbt hsa
   go_upto_region 12 with fail
   go_cut [71] (fun s71 wx => (∃ bo : Bool, s71 = .bool bo) ∧ wo = wx)
   case first =>
    by_cases hm : i < M
    ·have hm' : (i : Int) < (M : Int) := by omega
     obtain ⟨y, hy⟩ := HMe.out hm
     obtain ⟨yb, yo, hya, hyc⟩ := HYi.out y hy
     subst hya
     clear hy
     go_wp2_with fail
     go_meet
     exact ⟨⟨_, rfl⟩, rfl⟩
    ·have hm' : ¬ (i : Int) < (M : Int) := by omega
     go_wp2_with fail
     go_meet
     exact ⟨⟨_, rfl⟩, rfl⟩
   case rest =>
   obtain ⟨⟨bo, rfl⟩, rfl⟩ := hcut
   clear HYi HMe
   go_upto_if 71 with fail
   go_cut [15] (fun s15 wx => (s15 = va ∨ s15 = vb) ∧ wo = wx)
   case first =>
    cases bo
    ·go_wp2_with fail
     go_meet
     exact ⟨.inl rfl, rfl⟩
    ·go_wp2_with fail
     go_meet
     exact ⟨.inr rfl, rfl⟩
   case rest =>
   obtain ⟨hs15, rfl⟩ := hcut
   obtain ⟨vo, Wc, Wo, hDc, hBack⟩ : ∃ vo Wc Wo, Duo B wo u15 vo Wc Wo K X ∧ ∀ w' Wc' X' K', Duo B w' u15 vo Wc' Wo K' X' → ∃ Wa' Wb', Duo B w' va vb Wa' Wb' K' X' := by
    rcases hs15 with e | e
    ·rw [e]
     exact ⟨vb, Wa, Wb, HDB.out.1, fun w' Wc' X' K' h => ⟨_, _, h⟩⟩
    ·rw [e]
     exact ⟨va, Wb, Wa, HDB.out.1.swap, fun w' Wc' X' K' h => ⟨_, _, h.swap⟩⟩
   have HBack := hid hBack
   clear hBack hs15
   have hDca := hDc.a
   rcases hDca with ⟨rfl, _⟩ | ⟨wb, room, nb, fr, bl, lasted, H, Us, rfl, _⟩
   ·clear hDc c0 c1 c2 c3 c4 c5
    go_wp2_with fail
    go_roundw
    case rel => exact ⟨i + 1, Wa, Wb, K, X, cnt, tot, nK, by omega, by go_num, HDB.out.1, HDB.out.2.1, HBd.out.1, by omega, by omega, by omega, HDB.out.2.2⟩
    case measure => simp [intOf]; omega
   ·have HAct : Hid (∀ fz', (fz' = -1 ∨ q.kd = 7) → Calls Tryz.prog 11 #[.pointer (some ⟨wb, 0, none⟩), .agg #[.int .i64 q.kd, .int .i64 q.at_, .slice q.a0 q.ps.length q.cp, .int .u64 q.keep, .int .i64 fz', .int .i64 q.again]] (wo.alloc (.cells #[.int .i64 q.kd, .int .i64 q.at_, .slice q.a0 q.ps.length q.cp, .int .u64 q.keep, .int .i64 fz', .int .i64 q.again] 38)) fun e w2 => e = .returned (.bool true) ∧ Calls Tryz.prog 12 #[.pointer (some ⟨bb, 0, none⟩)] w2 fun e w3 => e = .returned (.bool true) ∧ w3.cell? ⟨wo.heap.size, 0, none⟩ = some (.int .i64 q.kd) ∧ w3.cell? ⟨wo.heap.size, 1, none⟩ = some (.int .i64 q.at_) ∧ wo.heap.size < w3.heap.size ∧ Below B w0 w3 ∧ ∃ W' X', Duo B w3 (.pointer (some ⟨wb, 0, none⟩)) vo W' Wo (K + 524289) X' ∧ Bok B X' w3 bb cnt tot nK ∧ ¬ W' wo.heap.size ∧ ¬ X' wo.heap.size) := fun fz' hfz' => hDc.act HDB.out.2.1 HDB.out.2.2 HB.out hKt (by omega) q HQ.out.1 HQ.out.2.1 HQ.out.2.2 fz' hfz'
    obtain ⟨kd, hkd⟩ : ∃ kd, kd = q.kd := ⟨_, rfl⟩
    obtain ⟨at_, hat⟩ : ∃ at_, at_ = q.at_ := ⟨_, rfl⟩
    obtain ⟨a0, ha0⟩ : ∃ a0, a0 = q.a0 := ⟨_, rfl⟩
    obtain ⟨np, hnp⟩ : ∃ np, np = q.ps.length := ⟨_, rfl⟩
    obtain ⟨cp, hcp1⟩ : ∃ cp, cp = q.cp := ⟨_, rfl⟩
    obtain ⟨keep, hkeep⟩ : ∃ keep, keep = q.keep := ⟨_, rfl⟩
    obtain ⟨fz, hfz⟩ : ∃ fz, fz = q.fz := ⟨_, rfl⟩
    obtain ⟨again, hagain⟩ : ∃ again, again = q.again := ⟨_, rfl⟩
    rw [← hkd] at c0
    rw [← hat] at c1
    rw [← ha0, ← hnp, ← hcp1] at c2
    rw [← hkeep] at c3
    rw [← hfz] at c4
    rw [← hagain] at c5
    rw [← hkd, ← hat, ← ha0, ← hnp, ← hcp1, ← hkeep, ← hagain] at HAct
    have hsa := HSA.out
    clear HSA
    subst hsa
    clear hkd hat ha0 hnp hcp1 hkeep hfz hagain HQ hDc HDB
    by_cases h7 : kd = 7
    ·subst h7
     go_wp2_with fail
     refine Calls.mono (HAct.out 0 (.inr (by first | rfl | trivial))) ?_
     rintro e w2 ⟨rfl, hHo⟩
     have HHo := hid hHo
     clear hHo HAct
     go_wp2_with fail
     refine Calls.mono HHo.out ?_
     rintro e w3 ⟨rfl, k0, k1, hl3, bt3, W3, X3, D3, bk3, nW3, nX3⟩
     have F3 : Hid (∃ Wa' Wb' X', Duo B w3 va vb Wa' Wb' (K + 524289) X' ∧ Bok B X' w3 bb cnt tot nK ∧ Below B w0 w3) := by
      obtain ⟨Wa', Wb', hd⟩ := HBack.out w3 W3 X3 _ D3
      exact ⟨Wa', Wb', X3, hd, bk3, bt3⟩
     clear HHo D3 bk3 bt3 nW3 nX3 hl3 k1
     go_wp2_with fail
     go_roundw
     case rel =>
      obtain ⟨Wa', Wb', X', r1, r2, r3⟩ := F3.out
      exact ⟨i + 1, Wa', Wb', K + 524289, X', cnt, tot, nK, by omega, by go_num, r1, r2, HBd.out.2.1, by omega, by omega, by omega, r3⟩
     case measure => simp [intOf]; omega
    by_cases h2 : kd = 2
    ·subst h2
     go_wp2_with fail
     refine Calls.mono (HAct.out (-1) (.inl rfl)) ?_
     rintro e w2 ⟨rfl, hHo⟩
     have HHo := hid hHo
     clear hHo HAct
     go_wp2_with fail
     refine Calls.mono HHo.out ?_
     rintro e w3 ⟨rfl, k0, k1, hl3, bt3, W3, X3, D3, bk3, nW3, nX3⟩
     obtain ⟨j, hj, hT4⟩ := D3.twice bk3 bt3 HB.out hKs (by omega) (by omega) (by omega) at_ (3 * (i : Int)) (3 * (i : Int) + 1) (by omega) (by omega) hl3 ⟨nW3, nX3⟩
     have HT4 := hid hT4
     clear HHo D3 bk3 bt3 nW3 nX3 hl3 hT4
     go_wp2_with fail
     obtain ⟨ab, hab⟩ : ∃ ab, ab = wo.heap.size := ⟨_, rfl⟩
     rw [← hab] at k0 k1 HT4
     rw [← hab]
     clear hab
     refine wp_region_noPanic ?_
     refine wp_region_held_drew (S := fun w' => w'.cell? ⟨wb, 2, none⟩ = some (.pointer (some ⟨j, 0, none⟩)) ∧ w'.cell? ⟨ab, 1, none⟩ = some (.int .i64 at_)) (by kernel_rfl) ⟨hj, k1⟩ (fun hSS => ?_)
     refine tk 0 (some 97) (.move (.tmp 15)) 28 none hSS ?_
     refine tk 1 (some 98) (.nilCheck (.tmp 97)) 0 none hSS ?_
     refine tk 2 (some 99) (.fieldAddr 50 (.tmp 98) 2) 0 none hSS ?_
     refine tk 3 (some 100) (.load 44 (.tmp 99)) 44 none hSS ?_
     try simp only [Act.put, zA, zB, zC]
     refine tk 4 (some 101) (.fieldAddr 38 (.tmp 16) 1) 0 none hSS ?_
     refine tk 5 (some 102) (.load 3 (.tmp 101)) 3 none hSS ?_
     try simp only [Act.put, zA, zB, zC]
     refine wpAnyH_ready (rs := [6]) (by kernel_rfl) (by simp) (AllReadyH.cons (o := ({ dst := some 103, op := Op.call { callee := Callee.value (Operand.func 13), args := #[Operand.tmp 100, Operand.tmp 102], argTypes := #[44, 3] }, type := 41, pos := _, after := _, guard := none } : Oper)) rfl (fun K9 hK9 => ?_) AllReadyH.nil)
     go_simp
     go_at_call 13
     refine Calls.mono HT4.out ?_
     rintro e w4 ⟨al, n4, cl, code, rfl, j4, a4, hT5⟩
     have a4' := a4.trans k1
     have HT5 := hid hT5
     clear HT4 hT5 a4
     refine hK9.out _ _ ⟨j4, a4'⟩ (fun hSS => ?_)
     clear hK9 K9
     try simp only [Act.put, zA, zB, zC]
     refine tk 7 (some 96) (.move (.tmp 103)) 41 none hSS ?_
     refine tk 8 (some 104) (.extract (.tmp 96) 0) 22 none hSS ?_
     refine tk 9 (some 105) (.extract (.tmp 96) 1) 40 none hSS ?_
     try simp only [Act.put, zA, zB, zC]
     refine tk 10 (some 17) (.assign (.tmp 104)) 22 none hSS ?_
     refine tk 11 (some 18) (.assign (.tmp 105)) 40 none hSS ?_
     try simp only [Act.put, zA, zB, zC]
     refine wpAnyH_done (by kernel_rfl) (NoPanic.normal ?_) _
     clear hSS hj k0
     go_wp2_with fail
     refine wp_region_noPanic ?_
     refine wp_region_held_drew (S := fun w' => w'.cell? ⟨wb, 2, none⟩ = some (.pointer (some ⟨j, 0, none⟩)) ∧ w'.cell? ⟨ab, 1, none⟩ = some (.int .i64 at_)) (by kernel_rfl) ⟨j4, a4'⟩ (fun hSS => ?_)
     refine tk 0 (some 107) (.move (.tmp 15)) 28 none hSS ?_
     refine tk 1 (some 108) (.nilCheck (.tmp 107)) 0 none hSS ?_
     refine tk 2 (some 109) (.fieldAddr 50 (.tmp 108) 2) 0 none hSS ?_
     try simp only [Act.put, zA, zB, zC]
     refine tk 3 (some 110) (.load 44 (.tmp 109)) 44 none hSS ?_
     refine tk 4 (some 111) (.fieldAddr 38 (.tmp 16) 1) 0 none hSS ?_
     refine tk 5 (some 112) (.load 3 (.tmp 111)) 3 none hSS ?_
     try simp only [Act.put, zA, zB, zC]
     refine wpAnyH_ready (rs := [6]) (by kernel_rfl) (by simp) (AllReadyH.cons (o := ({ dst := some 113, op := Op.call { callee := Callee.value (Operand.func 13), args := #[Operand.tmp 110, Operand.tmp 112], argTypes := #[44, 3] }, type := 41, pos := _, after := _, guard := none } : Oper)) rfl (fun K9 hK9 => ?_) AllReadyH.nil)
     go_simp
     go_at_call 13
     refine Calls.mono HT5.out ?_
     rintro e w5 ⟨al2, n5, cl2, code2, rfl, j5, a5, hT6⟩
     have a5' := a5.trans k1
     have HT6 := hid hT6
     clear HT5 hT6 a5
     refine hK9.out _ _ ⟨j5, a5'⟩ (fun hSS => ?_)
     clear hK9 K9
     try simp only [Act.put, zA, zB, zC]
     refine tk 7 (some 106) (.move (.tmp 113)) 41 none hSS ?_
     refine tk 8 (some 114) (.extract (.tmp 106) 0) 22 none hSS ?_
     try simp only [Act.put, zA, zB, zC]
     refine tk 9 (some 115) (.extract (.tmp 106) 1) 40 none hSS ?_
     refine tk 10 (some 19) (.assign (.tmp 114)) 22 none hSS ?_
     refine tk 11 (some 20) (.assign (.tmp 115)) 40 none hSS ?_
     try simp only [Act.put, zA, zB, zC]
     refine wpAnyH_done (by kernel_rfl) (NoPanic.normal ?_) _
     clear hSS j4 a4' k1
     go_wp2_with fail
     refine Calls.mono HT6.out ?_
     rintro e w6 ⟨rfl, hT7⟩
     have HT7 := hid hT7
     clear HT6 hT7 j5 a5'
     go_wp2_with fail
     refine Calls.mono HT7.out ?_
     rintro e w7 ⟨rfl, bt7, W7, X7, nK7, tot7, hn7, ht7, D7, bk7⟩
     have F3 : Hid (∃ Wa' Wb' X', Duo B w7 va vb Wa' Wb' (K + 524289 + 2) X' ∧ Bok B X' w7 bb (cnt + 2) tot7 nK7 ∧ Below B w0 w7) := by
      obtain ⟨Wa', Wb', hd⟩ := HBack.out w7 W7 X7 _ D7
      exact ⟨Wa', Wb', X7, hd, bk7, bt7⟩
     clear HT7 D7 bk7 bt7
     go_wp2_with fail
     go_roundw
     case rel =>
      obtain ⟨Wa', Wb', X', r1, r2, r3⟩ := F3.out
      exact ⟨i + 1, Wa', Wb', K + 524289 + 2, X', cnt + 2, tot7, nK7, by omega, by go_num, r1, r2, HBd.out.2.2.1, by omega, by omega, by omega, r3⟩
     case measure => simp [intOf]; omega
    ·have e7 : (kd == 7) = false := by simpa using h7
     have e2 : (kd == 2) = false := by simpa using h2
     go_wp2_with fail
     refine Calls.mono (HAct.out (-1) (.inl rfl)) ?_
     rintro e w2 ⟨rfl, hHo⟩
     have HHo := hid hHo
     clear hHo HAct
     go_wp2_with fail
     refine Calls.mono HHo.out ?_
     rintro e w3 ⟨rfl, k0, k1, hl3, bt3, W3, X3, D3, bk3, nW3, nX3⟩
     have F3 : Hid (∃ Wa' Wb' X', Duo B w3 va vb Wa' Wb' (K + 524289) X' ∧ Bok B X' w3 bb cnt tot nK ∧ Below B w0 w3) := by
      obtain ⟨Wa', Wb', hd⟩ := HBack.out w3 W3 X3 _ D3
      exact ⟨Wa', Wb', X3, hd, bk3, bt3⟩
     clear HHo D3 bk3 bt3 nW3 nX3 hl3 k1
     go_wp2_with fail
     go_roundw
     case rel =>
      obtain ⟨Wa', Wb', X', r1, r2, r3⟩ := F3.out
      exact ⟨i + 1, Wa', Wb', K + 524289, X', cnt, tot, nK, by omega, by go_num, r1, r2, HBd.out.2.1, by omega, by omega, by omega, r3⟩
     case measure => simp [intOf]; omega
  ·have hi' : ¬ (i : Int) < (N : Int) := by omega
   have HSt := hid (settle_book B X wo bb cnt tot nK (HSz.out wo hbt) (by omega) (by omega) (by omega) hBk)
   have HDD := hid (And.intro hD hbt)
   clear hD hBk hbt HAs HPs HYs
   go_wp2_with fail
   refine Calls.mono HSt.out ?_
   rintro e w5 ⟨rfl, nK5, hn5, bk5, b5⟩
   obtain ⟨X5, hX5⟩ : ∃ X5 : Nat → Prop, X5 = fun k => (X k ∨ wo.heap.size ≤ k) ∧ k < w5.heap.size := ⟨_, rfl⟩
   have H5 : Hid (Duo B w5 va vb Wa Wb K X5 ∧ Bok B X5 w5 bb (cnt + 3) tot nK5 ∧ Below B w0 w5) := by
    have hs := HSz.out wo HDD.out.2
    rw [hX5]
    refine ⟨HDD.out.1.other hs b5 (fun _ _ q => q) (fun k hk q => q.1.elim id (fun r => by omega)) (fun k q => q.2), bk5.cut, Below.ofBut HDD.out.2 b5 (fun k q => (HDD.out.1.lx k q).1) HB.out⟩
   have HX5 : Hid (∀ k, X5 k → B ≤ k) := fun k q => (H5.out.1.lx k q).1
   have hK5 := (bd_step hK hiN hN3).2.2.2.2
   clear hK
   have hn6 : nK5 ≤ 33554432 := by omega
   clear HSt HDD bk5 b5 hX5
   go_wp2_with fail
   refine Calls.mono (Read_nilJ 0 w5) ?_
   rintro e w9 ⟨rfl, hw9⟩
   rw [hw9]
   clear hw9
   go_wp2_with fail
   refine Calls.mono (Seq_nilJ w5) ?_
   rintro e w9 ⟨rfl, hw9⟩
   rw [hw9]
   clear hw9
   go_wp2_with fail
   refine Calls.mono (Append_nilJ w5) ?_
   rintro e w9 ⟨rfl, hw9⟩
   rw [hw9]
   clear hw9
   go_wp2_with fail
   refine Calls.mono (Flush_nilJ w5) ?_
   rintro e w9 ⟨rfl, hw9⟩
   rw [hw9]
   clear hw9
   go_wp2_with fail
   refine Calls.mono (Check_nilJ w5) ?_
   rintro e w9 ⟨rfl, hw9⟩
   rw [hw9]
   clear hw9
   go_wp2_with fail
   refine Calls.mono (Open_nilJ (-1) 0 w5) ?_
   rintro e w6 ⟨rfl, b6⟩
   have B6 := hid b6
   clear b6
   go_wp2_with fail
   refine Calls.mono (Format_nilJ (-1) 0 w6) ?_
   rintro e w7 ⟨rfl, b7⟩
   have H7 : Hid (Duo B w7 va vb Wa Wb K X5 ∧ Bok B X5 w7 bb (cnt + 3) tot nK5 ∧ Below B w0 w7) := by
    have b57 : Below w5.heap.size w5 w7 := B6.out.trans (b7.mono B6.out.size)
    have hs := HSz.out w5 H5.out.2.2
    exact ⟨H5.out.1.below hs b57, H5.out.2.1.but (But.of_below b57 (X := fun _ => False)) (fun _ _ _ q => q), H5.out.2.2.trans (b57.mono hs)⟩
   clear H5 B6 b7
   go_upto_region 36 with fail
   go_cut [32] (fun s32 wx => s32 = .bool true ∧ ∃ X9 : Nat → Prop, Bok B X9 wx bb (cnt + 3) tot nK5 ∧ (∀ k, X9 k → B ≤ k) ∧ Below B w0 wx)
   case first =>
    have hDu := H7.out.1
    have hOa := hDu.a
    have hOb := hDu.b
    rcases hOa with ⟨rfl, _⟩ | ⟨xa, _, _, _, _, _, _, _, rfl, _⟩ <;> rcases hOb with ⟨rfl, _⟩ | ⟨xb, _, _, _, _, _, _, _, rfl, _⟩
    ·have FB : Hid (Bok B X5 w7 bb (cnt + 3) tot nK5 ∧ Below B w0 w7.drew) := ⟨H7.out.2.1, H7.out.2.2.drew⟩
     clear hDu H7
     refine wp_region_noPanic ?_
     refine wp_region_held_drew (S := fun _ => True) (by kernel_rfl) trivial (fun hSS => ?_)
     refine tk 0 (some 151) (.move (.tmp 9)) 28 none hSS ?_
     refine tk 1 (some 152) (.binOp .eql 28 (.tmp 151) (.const (.pointer none)) 28) 4 none hSS ?_
     try simp only [Act.put, zA, zB, zC]
     refine tk 2 (some 153) (.move (.tmp 152)) 4 none hSS ?_
     refine sk 3 (some 154) (.move (.tmp 9)) 28 (some (2, false)) hSS ?_
     refine sk 4 (some 155) (.nilCheck (.tmp 154)) 0 (some (2, false)) hSS ?_
     refine sk 5 (some 156) (.fieldAddr 50 (.tmp 155) 2) 0 (some (2, false)) hSS ?_
     try simp only [Act.put, zA, zB, zC]
     refine sk 6 (some 157) (.load 44 (.tmp 156)) 44 (some (2, false)) hSS ?_
     refine sk 7 (some 158) (.move (.tmp 9)) 28 (some (2, false)) hSS ?_
     refine sk 8 (some 159) (.nilCheck (.tmp 158)) 0 (some (2, false)) hSS ?_
     refine sk 9 (some 160) (.fieldAddr 50 (.tmp 159) 3) 0 (some (2, false)) hSS ?_
     try simp only [Act.put, zA, zB, zC]
     refine sk 10 (some 161) (.load 45 (.tmp 160)) 45 (some (2, false)) hSS ?_
     refine sk 11 (some 162) (.call { callee := .value (.func 22), args := #[.tmp 157, .tmp 161], argTypes := #[44, 45] }) 4 (some (2, false)) hSS ?_
     refine tk 12 (some 163) (.pick (.tmp 153) (.const (.bool true)) (.tmp 162)) 4 none hSS ?_
     refine tk 13 (some 164) (.move (.tmp 163)) 4 none hSS ?_
     try simp only [Act.put, zA, zB, zC]
     refine tk 14 (some 165) (.move (.tmp 11)) 28 (some (13, true)) hSS ?_
     refine tk 15 (some 166) (.binOp .eql 28 (.tmp 165) (.const (.pointer none)) 28) 4 (some (13, true)) hSS ?_
     refine tk 16 (some 167) (.move (.tmp 166)) 4 (some (13, true)) hSS ?_
     refine sk 17 (some 168) (.move (.tmp 11)) 28 (some (16, false)) hSS ?_
     try simp only [Act.put, zA, zB, zC]
     refine sk 18 (some 169) (.nilCheck (.tmp 168)) 0 (some (16, false)) hSS ?_
     refine sk 19 (some 170) (.fieldAddr 50 (.tmp 169) 2) 0 (some (16, false)) hSS ?_
     refine sk 20 (some 171) (.load 44 (.tmp 170)) 44 (some (16, false)) hSS ?_
     refine sk 21 (some 172) (.move (.tmp 11)) 28 (some (16, false)) hSS ?_
     try simp only [Act.put, zA, zB, zC]
     refine sk 22 (some 173) (.nilCheck (.tmp 172)) 0 (some (16, false)) hSS ?_
     refine sk 23 (some 174) (.fieldAddr 50 (.tmp 173) 3) 0 (some (16, false)) hSS ?_
     refine sk 24 (some 175) (.load 45 (.tmp 174)) 45 (some (16, false)) hSS ?_
     refine sk 25 (some 176) (.call { callee := .value (.func 22), args := #[.tmp 171, .tmp 175], argTypes := #[44, 45] }) 4 (some (16, false)) hSS ?_
     try simp only [Act.put, zA, zB, zC]
     refine tk 26 (some 177) (.pick (.tmp 167) (.const (.bool true)) (.tmp 176)) 4 (some (13, true)) hSS ?_
     refine tk 27 (some 178) (.pick (.tmp 164) (.tmp 177) (.const (.bool false))) 4 none hSS ?_
     refine tk 28 (some 32) (.assign (.tmp 178)) 4 none hSS ?_
     try simp only [Act.put, zA, zB, zC]
     refine wpAnyH_done (by kernel_rfl) (NoPanic.normal ?_) _
     clear hSS
     go_wp2_with fail
     go_meet
     exact ⟨by first | rfl | trivial, X5, (FB.out.1.but (But.of_below (Below.refl w7.heap.size w7).drew (X := fun _ => False)) (fun _ _ _ q => q)), HX5.out, FB.out.2⟩
    ·obtain ⟨ja, ga, ⟨q1, q2⟩, hC⟩ := hDu.swap.sure1 H7.out.2.1 H7.out.2.2 HB.out hK5
     have HC := hid hC
     clear hC hDu H7
     refine wp_region_noPanic ?_
     refine wp_region_held_drew (S := fun w' => w'.cell? ⟨xb, 2, none⟩ = some (.pointer (some ⟨ja, 0, none⟩)) ∧ w'.cell? ⟨xb, 3, none⟩ = some (.pointer (some ⟨ga, 0, none⟩))) (by kernel_rfl) ⟨q1, q2⟩ (fun hSS => ?_)
     refine tk 0 (some 151) (.move (.tmp 9)) 28 none hSS ?_
     refine tk 1 (some 152) (.binOp .eql 28 (.tmp 151) (.const (.pointer none)) 28) 4 none hSS ?_
     try simp only [Act.put, zA, zB, zC]
     refine tk 2 (some 153) (.move (.tmp 152)) 4 none hSS ?_
     refine sk 3 (some 154) (.move (.tmp 9)) 28 (some (2, false)) hSS ?_
     refine sk 4 (some 155) (.nilCheck (.tmp 154)) 0 (some (2, false)) hSS ?_
     refine sk 5 (some 156) (.fieldAddr 50 (.tmp 155) 2) 0 (some (2, false)) hSS ?_
     try simp only [Act.put, zA, zB, zC]
     refine sk 6 (some 157) (.load 44 (.tmp 156)) 44 (some (2, false)) hSS ?_
     refine sk 7 (some 158) (.move (.tmp 9)) 28 (some (2, false)) hSS ?_
     refine sk 8 (some 159) (.nilCheck (.tmp 158)) 0 (some (2, false)) hSS ?_
     refine sk 9 (some 160) (.fieldAddr 50 (.tmp 159) 3) 0 (some (2, false)) hSS ?_
     try simp only [Act.put, zA, zB, zC]
     refine sk 10 (some 161) (.load 45 (.tmp 160)) 45 (some (2, false)) hSS ?_
     refine sk 11 (some 162) (.call { callee := .value (.func 22), args := #[.tmp 157, .tmp 161], argTypes := #[44, 45] }) 4 (some (2, false)) hSS ?_
     refine tk 12 (some 163) (.pick (.tmp 153) (.const (.bool true)) (.tmp 162)) 4 none hSS ?_
     refine tk 13 (some 164) (.move (.tmp 163)) 4 none hSS ?_
     try simp only [Act.put, zA, zB, zC]
     refine tk 14 (some 165) (.move (.tmp 11)) 28 (some (13, true)) hSS ?_
     refine tk 15 (some 166) (.binOp .eql 28 (.tmp 165) (.const (.pointer none)) 28) 4 (some (13, true)) hSS ?_
     refine tk 16 (some 167) (.move (.tmp 166)) 4 (some (13, true)) hSS ?_
     refine tk 17 (some 168) (.move (.tmp 11)) 28 (some (16, false)) hSS ?_
     try simp only [Act.put, zA, zB, zC]
     refine tk 18 (some 169) (.nilCheck (.tmp 168)) 0 (some (16, false)) hSS ?_
     refine tk 19 (some 170) (.fieldAddr 50 (.tmp 169) 2) 0 (some (16, false)) hSS ?_
     refine tk 20 (some 171) (.load 44 (.tmp 170)) 44 (some (16, false)) hSS ?_
     refine tk 21 (some 172) (.move (.tmp 11)) 28 (some (16, false)) hSS ?_
     try simp only [Act.put, zA, zB, zC]
     refine tk 22 (some 173) (.nilCheck (.tmp 172)) 0 (some (16, false)) hSS ?_
     refine tk 23 (some 174) (.fieldAddr 50 (.tmp 173) 3) 0 (some (16, false)) hSS ?_
     refine tk 24 (some 175) (.load 45 (.tmp 174)) 45 (some (16, false)) hSS ?_
     try simp only [Act.put, zA, zB, zC]
     refine wpAnyH_ready (rs := [25]) (by kernel_rfl) (by simp) (AllReadyH.cons (o := ({ dst := some 176, op := Op.call { callee := Callee.value (Operand.func 22), args := #[Operand.tmp 171, Operand.tmp 175], argTypes := #[44, 45] }, type := 4, pos := _, after := _, guard := some (16, false) } : Oper)) rfl (fun K9 hK9 => ?_) AllReadyH.nil)
     go_simp
     go_at_call 22
     refine Calls.mono HC.out ?_
     rintro e w9 ⟨rfl, ⟨t1, t2⟩, bk9, bt9⟩
     have FB := hid (And.intro bk9 bt9)
     clear bk9 bt9 HC
     refine hK9.out _ _ ⟨t1, t2⟩ (fun hSS => ?_)
     clear hK9 K9
     try simp only [Act.put, zA, zB, zC]
     refine tk 26 (some 177) (.pick (.tmp 167) (.const (.bool true)) (.tmp 176)) 4 (some (13, true)) hSS ?_
     refine tk 27 (some 178) (.pick (.tmp 164) (.tmp 177) (.const (.bool false))) 4 none hSS ?_
     try simp only [Act.put, zA, zB, zC]
     refine tk 28 (some 32) (.assign (.tmp 178)) 4 none hSS ?_
     try simp only [Act.put, zA, zB, zC]
     refine wpAnyH_done (by kernel_rfl) (NoPanic.normal ?_) _
     clear hSS
     go_wp2_with fail
     go_meet
     exact ⟨by first | rfl | trivial, X5, FB.out.1, HX5.out, FB.out.2⟩
    ·obtain ⟨ja, ga, ⟨q1, q2⟩, hC⟩ := hDu.sure1 H7.out.2.1 H7.out.2.2 HB.out hK5
     have HC := hid hC
     clear hC hDu H7
     refine wp_region_noPanic ?_
     refine wp_region_held_drew (S := fun w' => w'.cell? ⟨xa, 2, none⟩ = some (.pointer (some ⟨ja, 0, none⟩)) ∧ w'.cell? ⟨xa, 3, none⟩ = some (.pointer (some ⟨ga, 0, none⟩))) (by kernel_rfl) ⟨q1, q2⟩ (fun hSS => ?_)
     refine tk 0 (some 151) (.move (.tmp 9)) 28 none hSS ?_
     refine tk 1 (some 152) (.binOp .eql 28 (.tmp 151) (.const (.pointer none)) 28) 4 none hSS ?_
     refine tk 2 (some 153) (.move (.tmp 152)) 4 none hSS ?_
     refine tk 3 (some 154) (.move (.tmp 9)) 28 (some (2, false)) hSS ?_
     try simp only [Act.put, zA, zB, zC]
     refine tk 4 (some 155) (.nilCheck (.tmp 154)) 0 (some (2, false)) hSS ?_
     refine tk 5 (some 156) (.fieldAddr 50 (.tmp 155) 2) 0 (some (2, false)) hSS ?_
     refine tk 6 (some 157) (.load 44 (.tmp 156)) 44 (some (2, false)) hSS ?_
     refine tk 7 (some 158) (.move (.tmp 9)) 28 (some (2, false)) hSS ?_
     try simp only [Act.put, zA, zB, zC]
     refine tk 8 (some 159) (.nilCheck (.tmp 158)) 0 (some (2, false)) hSS ?_
     refine tk 9 (some 160) (.fieldAddr 50 (.tmp 159) 3) 0 (some (2, false)) hSS ?_
     refine tk 10 (some 161) (.load 45 (.tmp 160)) 45 (some (2, false)) hSS ?_
     try simp only [Act.put, zA, zB, zC]
     refine wpAnyH_ready (rs := [11]) (by kernel_rfl) (by simp) (AllReadyH.cons (o := ({ dst := some 162, op := Op.call { callee := Callee.value (Operand.func 22), args := #[Operand.tmp 157, Operand.tmp 161], argTypes := #[44, 45] }, type := 4, pos := _, after := _, guard := some (2, false) } : Oper)) rfl (fun K9 hK9 => ?_) AllReadyH.nil)
     go_simp
     go_at_call 22
     refine Calls.mono HC.out ?_
     rintro e w9 ⟨rfl, ⟨t1, t2⟩, bk9, bt9⟩
     have FB := hid (And.intro bk9 bt9)
     clear bk9 bt9 HC
     refine hK9.out _ _ ⟨t1, t2⟩ (fun hSS => ?_)
     clear hK9 K9
     try simp only [Act.put, zA, zB, zC]
     refine tk 12 (some 163) (.pick (.tmp 153) (.const (.bool true)) (.tmp 162)) 4 none hSS ?_
     refine tk 13 (some 164) (.move (.tmp 163)) 4 none hSS ?_
     try simp only [Act.put, zA, zB, zC]
     refine tk 14 (some 165) (.move (.tmp 11)) 28 (some (13, true)) hSS ?_
     refine tk 15 (some 166) (.binOp .eql 28 (.tmp 165) (.const (.pointer none)) 28) 4 (some (13, true)) hSS ?_
     refine tk 16 (some 167) (.move (.tmp 166)) 4 (some (13, true)) hSS ?_
     refine sk 17 (some 168) (.move (.tmp 11)) 28 (some (16, false)) hSS ?_
     try simp only [Act.put, zA, zB, zC]
     refine sk 18 (some 169) (.nilCheck (.tmp 168)) 0 (some (16, false)) hSS ?_
     refine sk 19 (some 170) (.fieldAddr 50 (.tmp 169) 2) 0 (some (16, false)) hSS ?_
     refine sk 20 (some 171) (.load 44 (.tmp 170)) 44 (some (16, false)) hSS ?_
     refine sk 21 (some 172) (.move (.tmp 11)) 28 (some (16, false)) hSS ?_
     try simp only [Act.put, zA, zB, zC]
     refine sk 22 (some 173) (.nilCheck (.tmp 172)) 0 (some (16, false)) hSS ?_
     refine sk 23 (some 174) (.fieldAddr 50 (.tmp 173) 3) 0 (some (16, false)) hSS ?_
     refine sk 24 (some 175) (.load 45 (.tmp 174)) 45 (some (16, false)) hSS ?_
     refine sk 25 (some 176) (.call { callee := .value (.func 22), args := #[.tmp 171, .tmp 175], argTypes := #[44, 45] }) 4 (some (16, false)) hSS ?_
     try simp only [Act.put, zA, zB, zC]
     refine tk 26 (some 177) (.pick (.tmp 167) (.const (.bool true)) (.tmp 176)) 4 (some (13, true)) hSS ?_
     refine tk 27 (some 178) (.pick (.tmp 164) (.tmp 177) (.const (.bool false))) 4 none hSS ?_
     refine tk 28 (some 32) (.assign (.tmp 178)) 4 none hSS ?_
     try simp only [Act.put, zA, zB, zC]
     refine wpAnyH_done (by kernel_rfl) (NoPanic.normal ?_) _
     clear hSS
     go_wp2_with fail
     go_meet
     exact ⟨by first | rfl | trivial, X5, FB.out.1, HX5.out, FB.out.2⟩
    ·obtain ⟨ja, ga, jb, gb, ⟨q1, q2, q3, q4⟩, hC⟩ := hDu.sure2 H7.out.2.1 H7.out.2.2 HB.out hK5
     have HC := hid hC
     clear hC hDu H7
     refine wp_region_noPanic ?_
     refine wp_region_held_drew (S := fun w' => w'.cell? ⟨xa, 2, none⟩ = some (.pointer (some ⟨ja, 0, none⟩)) ∧ w'.cell? ⟨xa, 3, none⟩ = some (.pointer (some ⟨ga, 0, none⟩)) ∧ w'.cell? ⟨xb, 2, none⟩ = some (.pointer (some ⟨jb, 0, none⟩)) ∧ w'.cell? ⟨xb, 3, none⟩ = some (.pointer (some ⟨gb, 0, none⟩))) (by kernel_rfl) ⟨q1, q2, q3, q4⟩ (fun hSS => ?_)
     refine tk 0 (some 151) (.move (.tmp 9)) 28 none hSS ?_
     refine tk 1 (some 152) (.binOp .eql 28 (.tmp 151) (.const (.pointer none)) 28) 4 none hSS ?_
     try simp only [Act.put, zA, zB, zC]
     refine tk 2 (some 153) (.move (.tmp 152)) 4 none hSS ?_
     refine tk 3 (some 154) (.move (.tmp 9)) 28 (some (2, false)) hSS ?_
     refine tk 4 (some 155) (.nilCheck (.tmp 154)) 0 (some (2, false)) hSS ?_
     refine tk 5 (some 156) (.fieldAddr 50 (.tmp 155) 2) 0 (some (2, false)) hSS ?_
     try simp only [Act.put, zA, zB, zC]
     refine tk 6 (some 157) (.load 44 (.tmp 156)) 44 (some (2, false)) hSS ?_
     refine tk 7 (some 158) (.move (.tmp 9)) 28 (some (2, false)) hSS ?_
     refine tk 8 (some 159) (.nilCheck (.tmp 158)) 0 (some (2, false)) hSS ?_
     refine tk 9 (some 160) (.fieldAddr 50 (.tmp 159) 3) 0 (some (2, false)) hSS ?_
     try simp only [Act.put, zA, zB, zC]
     refine tk 10 (some 161) (.load 45 (.tmp 160)) 45 (some (2, false)) hSS ?_
     try simp only [Act.put, zA, zB, zC]
     refine wpAnyH_ready (rs := [11]) (by kernel_rfl) (by simp) (AllReadyH.cons (o := ({ dst := some 162, op := Op.call { callee := Callee.value (Operand.func 22), args := #[Operand.tmp 157, Operand.tmp 161], argTypes := #[44, 45] }, type := 4, pos := _, after := _, guard := some (2, false) } : Oper)) rfl (fun K9 hK9 => ?_) AllReadyH.nil)
     go_simp
     go_at_call 22
     refine Calls.mono HC.out ?_
     rintro e w8 ⟨rfl, ⟨r1, r2, r3, r4⟩, hC2⟩
     have HC2 := hid hC2
     clear hC2 HC
     refine hK9.out _ _ ⟨r1, r2, r3, r4⟩ (fun hSS => ?_)
     clear hK9 K9
     try simp only [Act.put, zA, zB, zC]
     refine tk 12 (some 163) (.pick (.tmp 153) (.const (.bool true)) (.tmp 162)) 4 none hSS ?_
     refine tk 13 (some 164) (.move (.tmp 163)) 4 none hSS ?_
     refine tk 14 (some 165) (.move (.tmp 11)) 28 (some (13, true)) hSS ?_
     refine tk 15 (some 166) (.binOp .eql 28 (.tmp 165) (.const (.pointer none)) 28) 4 (some (13, true)) hSS ?_
     try simp only [Act.put, zA, zB, zC]
     refine tk 16 (some 167) (.move (.tmp 166)) 4 (some (13, true)) hSS ?_
     refine tk 17 (some 168) (.move (.tmp 11)) 28 (some (16, false)) hSS ?_
     refine tk 18 (some 169) (.nilCheck (.tmp 168)) 0 (some (16, false)) hSS ?_
     refine tk 19 (some 170) (.fieldAddr 50 (.tmp 169) 2) 0 (some (16, false)) hSS ?_
     try simp only [Act.put, zA, zB, zC]
     refine tk 20 (some 171) (.load 44 (.tmp 170)) 44 (some (16, false)) hSS ?_
     refine tk 21 (some 172) (.move (.tmp 11)) 28 (some (16, false)) hSS ?_
     refine tk 22 (some 173) (.nilCheck (.tmp 172)) 0 (some (16, false)) hSS ?_
     refine tk 23 (some 174) (.fieldAddr 50 (.tmp 173) 3) 0 (some (16, false)) hSS ?_
     try simp only [Act.put, zA, zB, zC]
     refine tk 24 (some 175) (.load 45 (.tmp 174)) 45 (some (16, false)) hSS ?_
     try simp only [Act.put, zA, zB, zC]
     refine wpAnyH_ready (rs := [25]) (by kernel_rfl) (by simp) (AllReadyH.cons (o := ({ dst := some 176, op := Op.call { callee := Callee.value (Operand.func 22), args := #[Operand.tmp 171, Operand.tmp 175], argTypes := #[44, 45] }, type := 4, pos := _, after := _, guard := some (16, false) } : Oper)) rfl (fun K9 hK9 => ?_) AllReadyH.nil)
     go_simp
     go_at_call 22
     refine Calls.mono HC2.out ?_
     rintro e w9 ⟨rfl, ⟨t1, t2, t3, t4⟩, bk9, bt9⟩
     have FB := hid (And.intro bk9 bt9)
     clear bk9 bt9 HC2
     refine hK9.out _ _ ⟨t1, t2, t3, t4⟩ (fun hSS => ?_)
     clear hK9 K9
     try simp only [Act.put, zA, zB, zC]
     refine tk 26 (some 177) (.pick (.tmp 167) (.const (.bool true)) (.tmp 176)) 4 (some (13, true)) hSS ?_
     refine tk 27 (some 178) (.pick (.tmp 164) (.tmp 177) (.const (.bool false))) 4 none hSS ?_
     refine tk 28 (some 32) (.assign (.tmp 178)) 4 none hSS ?_
     try simp only [Act.put, zA, zB, zC]
     refine wpAnyH_done (by kernel_rfl) (NoPanic.normal ?_) _
     clear hSS
     go_wp2_with fail
     go_meet
     exact ⟨by first | rfl | trivial, X5, FB.out.1, HX5.out, FB.out.2⟩
   case rest =>
   rename World => wq
   obtain ⟨rfl, X9, bk9, lx9, bt9⟩ := hcut
   have HHo := hid (Holds_any B X9 wq bb (cnt + 3) tot nK5 (by omega) bk9)
   have HF9 := hid (And.intro lx9 bt9)
   clear bk9 lx9 bt9 H7
   go_wp2_with fail
   refine Calls.mono HHo.out ?_
   rintro e w10 ⟨rfl, _, b10⟩
   have FIN := hid (HFin.out w10 (Below.ofBut HF9.out.2 b10 HF9.out.1 HB.out))
   clear HHo b10 HF9
   go_wp2_with fail
   refine Calls.mono (HNm.out 1 w10) ?_
   rintro e w9 ⟨rfl, hw9⟩
   rw [hw9]
   clear hw9
   go_wp2_with fail
   refine Calls.mono (HNm.out 1 w10) ?_
   rintro e w9 ⟨rfl, hw9⟩
   rw [hw9]
   clear hw9
   go_wp2_with fail
   refine Calls.mono (HNm.out 1 w10) ?_
   rintro e w9 ⟨rfl, hw9⟩
   rw [hw9]
   clear hw9
   go_wp2_with fail
   refine Calls.mono (HNm.out 1 w10) ?_
   rintro e w9 ⟨rfl, hw9⟩
   rw [hw9]
   clear hw9
   go_wp2_with fail
   refine Calls.mono (HNm.out 1 w10) ?_
   rintro e w9 ⟨rfl, hw9⟩
   rw [hw9]
   clear hw9
   go_wp2_with fail
   refine Calls.mono (HNm.out 1 w10) ?_
   rintro e w9 ⟨rfl, hw9⟩
   rw [hw9]
   clear hw9
   go_wp2_with fail
   refine Calls.mono (HNm.out 1 w10) ?_
   rintro e w9 ⟨rfl, hw9⟩
   rw [hw9]
   clear hw9
   go_wp2_with fail
   exact FIN.out
end Go.Proofs.YtldlejpacgphmabGreat
