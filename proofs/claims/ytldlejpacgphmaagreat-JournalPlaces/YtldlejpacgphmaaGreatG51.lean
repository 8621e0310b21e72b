import Derived.Test.YtldlejpacgphmaaGreatG50
import Derived.Deep.RegionHeld3
namespace Go.Proofs.YtldlejpacgphmaaGreat
open Go.RowKit Go.Deep

set_option maxRecDepth 100000 in
set_option maxHeartbeats 8000000 in
theorem places_law (ha : Option Addr) (hn hcp : Nat) (Hs : List Int) (frI blI rmI : Int) (wa : Option Addr) (wcp : Nat) (ps : List Pm) (blocks : Int) (w : World) (hH : Rd w.heap.size w ha hn Hs) (hHn : hn ≤ 1073741823) (hnil : ha = none → hcp = 0) (hP : RdP (fun _ => False) w wa ps) (hN : ps.length ≤ 1048576) (hd : ∀ p ∈ ps, p.data.length ≤ 1073741823 ∧ (p.ad = none → p.cap = 0)) :
    Calls Tryz.prog 4 #[.agg #[.slice ha hn hcp, .int .i64 frI, .int .i64 blI, .int .i64 rmI], .slice wa ps.length wcp, .int .i64 blocks] w fun e w' => e = .returned (.bool true) ∧ Below w.heap.size w w' := by
  obtain ⟨PO, hPO⟩ : ∃ PO : Ending → World → Prop, PO = fun e w' => e = .returned (.bool true) ∧ Below w.heap.size w w' := ⟨_, rfl⟩
  rw [← hPO]
  obtain ⟨N, hNe⟩ : ∃ N, N = ps.length := ⟨_, rfl⟩
  rw [← hNe]
  have hN3 : N ≤ 1048576 := by omega
  obtain ⟨pk, hpk⟩ : ∃ pk, pk = w.heap.size := ⟨_, rfl⟩
  obtain ⟨w0, hw0⟩ : ∃ w0, w0 = w.alloc (.cells #[.slice ha hn hcp, .int .i64 frI, .int .i64 blI, .int .i64 rmI] 24) := ⟨_, rfl⟩
  have b0 : Below w.heap.size w w0 := by rw [hw0]; exact (Below.refl _ _).alloc (Nat.le_refl _) _
  have z0 : w0.heap.size = w.heap.size + 1 := by rw [hw0]; simp
  obtain ⟨B, hB⟩ : ∃ B, B = w0.heap.size := ⟨_, rfl⟩
  have hpl : pk < B := by omega
  have c0 : w0.cell? ⟨pk, 0, none⟩ = some (.slice ha hn hcp) := by rw [hw0, hpk]; exact cell_new rfl 0 _ rfl
  have c1 : w0.cell? ⟨pk, 1, none⟩ = some (.int .i64 frI) := by rw [hw0, hpk]; exact cell_new rfl 1 _ rfl
  have c2 : w0.cell? ⟨pk, 2, none⟩ = some (.int .i64 blI) := by rw [hw0, hpk]; exact cell_new rfl 2 _ rfl
  have c3 : w0.cell? ⟨pk, 3, none⟩ = some (.int .i64 rmI) := by rw [hw0, hpk]; exact cell_new rfl 3 _ rfl
  have HCell : Hid (∀ w', Below B w0 w' → w'.cell? ⟨pk, 0, none⟩ = some (.slice ha hn hcp) ∧ w'.cell? ⟨pk, 1, none⟩ = some (.int .i64 frI) ∧ w'.cell? ⟨pk, 2, none⟩ = some (.int .i64 blI) ∧ w'.cell? ⟨pk, 3, none⟩ = some (.int .i64 rmI)) := fun w' hb => ⟨(hb.cell (p := ⟨pk, 0, none⟩) hpl).trans c0, (hb.cell (p := ⟨pk, 1, none⟩) hpl).trans c1, (hb.cell (p := ⟨pk, 2, none⟩) hpl).trans c2, (hb.cell (p := ⟨pk, 3, none⟩) hpl).trans c3⟩
  have HFin : Hid (∀ w', Below B w0 w' → PO (.returned (.bool true)) w') := fun w' hb => by
    rw [hPO]
    exact ⟨rfl, b0.trans (hb.mono (by omega))⟩
  have HSz : Hid (∀ w', Below B w0 w' → B ≤ w'.heap.size) := fun w' hb => by have := hb.size; omega
  have HRd : Hid (∀ w', Below B w0 w' → Rd w'.heap.size w' ha hn Hs) := fun w' hb => by
    have h1 : Below w.heap.size w w' := b0.trans (hb.mono (by omega))
    exact (hH.below h1).mono h1.size
  have HPs : Hid (∀ w', Below B w0 w' → RdP (fun k => B ≤ k) w' wa ps) := fun w' hb => by
    have h1 : Below w.heap.size w w' := b0.trans (hb.mono (by omega))
    exact hP.but (But.of_below h1 (X := fun _ => False)) (fun _ _ q => q) _ (fun k hk q => by omega)
  have HD := hid hd
  have HNE := hid hNe
  have HNil := hid hnil
  obtain ⟨mo, hmo⟩ : ∃ mo : Int, mo = (if blocks < 16 ∨ 524288 < blocks then 0 else blocks / 2 - 4) := ⟨_, rfl⟩
  obtain ⟨mc, hmc⟩ : ∃ mc : Int, mc = mostC blocks := ⟨_, rfl⟩
  have HM1 : Hid (∀ w1 : World, Calls Tryz.prog 18 #[.int .i64 blocks] w1 fun e w' => e = .returned (.tuple #[.int .i64 mo, .int .i64 mc]) ∧ Below w1.heap.size w1 w') := fun w1 => by rw [hmo, hmc]; exact jMost_any blocks w1
  have HM2 : Hid (∀ w1 : World, Calls Tryz.prog 19 #[.int .i64 blocks] w1 fun e w' => e = .returned (.tuple #[.int .i64 mo, .int .i64 mc]) ∧ w' = w1) := fun w1 => by rw [hmo, hmc]; exact refMost_any blocks w1
  have HNm := hid num_any
  have HLow := hid low_any
  have HCpA : Hid (∀ w', Below B w0 w' → Calls Tryz.prog 22 #[.slice ha hn hcp] w' fun e w'' => ∃ g cap, e = .returned (.slice (some ⟨g, 0, none⟩) hn cap) ∧ w'.heap.size ≤ g ∧ Own w'' g hn cap Hs ∧ Below w'.heap.size w' w'') := fun w' hb => CopyBytes_any ha hn hcp Hs w' (by omega) hnil (HRd.out w' hb)
  have hisb := hH.2.1
  have HW0 := hid hw0
  have HPK := hid hpk
  have HB := hid hB
  clear hH hP hnil hd hmo hmc hw0 hpk b0 z0 c0 c1 c2 c3 hPO hB hNe HRd
  go_enter Tryz.func4, Tryz.ntmps4
  go_wp2_with fail
  rw [← HW0.out, ← HPK.out]
  refine Calls.mono (lives_any w0) ?_
  rintro e w1 ⟨rfl, b1⟩
  rw [← HB.out] at b1
  have B1 := hid b1
  clear b1 HW0 HPK
  go_wp2_with fail
  refine Calls.mono (HM1.out w1) ?_
  rintro e w2 ⟨rfl, b2⟩
  have B2 : Hid (Below B w0 w2) := B1.out.trans (b2.mono (HSz.out w1 B1.out))
  clear b2 HM1 B1
  go_wp2_with fail
  refine Calls.mono (HM2.out w2) ?_
  rintro e w9 ⟨rfl, hw9⟩
  rw [hw9]
  clear hw9 HM2
  obtain ⟨d0, d1, d2, d3⟩ := HCell.out w2 B2.out
  go_wp2_with fail
  refine Calls.mono (HNm.out mc w2) ?_
  rintro e w9 ⟨rfl, hw9⟩
  rw [hw9]
  clear hw9
  go_wp2_with fail
  refine Calls.mono (HCpA.out w2 B2.out) ?_
  rintro e w3 ⟨g1, cp1, rfl, hg1, o1, b3⟩
  have B3 : Hid (Below B w0 w3) := B2.out.trans (b3.mono (HSz.out w2 B2.out))
  clear d0 d1 d2 d3 hg1 HCpA B2 b3
  by_cases hbad : openBad hn
  · have HOb := hid (Open_bad (some ⟨g1, 0, none⟩) hn cp1 w3 hbad)
    clear hbad o1
    go_wp2_with fail
    refine Calls.mono HOb.out ?_
    rintro e w9 ⟨rfl, hw9⟩
    rw [hw9]
    clear hw9 HOb
    go_wp2_with fail
    refine Calls.mono (HNm.out 21 w3) ?_
    rintro e w9 ⟨rfl, hw9⟩
    rw [hw9]
    clear hw9
    have FIN := hid (HFin.out w3 B3.out)
    go_wp2_with fail
    exact FIN.out
  obtain ⟨nb, hnbe, n1, hnb⟩ : ∃ nb, hn = 512 * nb ∧ 1 ≤ nb ∧ nb ≤ 524288 := by
    unfold openBad at hbad
    exact ⟨hn / 512, by omega, by omega, by omega⟩
  have HOd : Hid (Calls Tryz.prog 21 #[.slice (some ⟨g1, 0, none⟩) hn cp1] w3 fun e w' => ∃ p, e = .returned (.tuple #[.pointer (some ⟨p, 0, none⟩), .int .i64 0]) ∧ w3.heap.size ≤ p ∧ Dk (fun x => w3.heap.size ≤ x) w' p Hs [] (-1) false nb ∧ Below w3.heap.size w3 w') := by
    rw [hnbe] at o1 ⊢
    exact Open_ok ⟨g1, 0, none⟩ nb cp1 Hs w3 n1 hnb (o1.rd hisb)
  have hq1 : (hn : Int).tdiv 512 = (nb : Int) := by rw [Int.tdiv_eq_ediv_of_nonneg (by omega)]; omega
  have hq2 : (hn : Int) / 512 = (nb : Int) := by omega
  have hwn : IntKind.i64.wrap (nb : Int) = (nb : Int) := by rw [IntKind.wrap_i64]; omega
  have HPl := hid (refPlaced_any nb hnb frI blI)
  have HNB := hid (And.intro hnbe (And.intro n1 hnb))
  obtain ⟨want, hwant⟩ : ∃ want, want = placeC nb frI blI := ⟨_, rfl⟩
  rw [← hwant] at HPl
  have HWN := hid hwant
  clear hbad o1 hnbe n1 hnb hwant
  go_wp2_with fail
  refine Calls.mono HOd.out ?_
  rintro e w4 ⟨p, rfl, hp4, dk, b4⟩
  have B4 : Hid (Below B w0 w4) := B3.out.trans (b4.mono (HSz.out w3 B3.out))
  have hs3 := HSz.out w3 B3.out
  have hs4 := b4.size
  have DK := hid dk
  clear HOd dk b4 B3 hp4
  obtain ⟨d0, d1, d2, d3⟩ := HCell.out w4 B4.out
  go_wp2_with fail
  refine Calls.mono (HNm.out 0 w4) ?_
  rintro e w9 ⟨rfl, hw9⟩
  rw [hw9]
  clear hw9
  go_wp2_with fail
  refine Calls.mono (HLow.out rmI w4) ?_
  rintro e w9 ⟨y, rfl, hy, hw9, hye⟩
  clear hye
  rw [hw9]
  clear hw9
  obtain ⟨r0, hr0⟩ : ∃ r0 : Nat, r0 = y % 4096 := ⟨_, rfl⟩
  have ht1 : (y : Int).tmod 4096 = (r0 : Int) := by rw [Int.tmod_eq_emod_of_nonneg (by omega)]; omega
  have ht2 : (y : Int) % 4096 = (r0 : Int) := by omega
  have hr1 : r0 < 4096 := by omega
  have hw3 : IntKind.i64.wrap (r0 : Int) = (r0 : Int) := by rw [IntKind.wrap_i64]; omega
  have hw4 : IntKind.i64.wrap (1 + (r0 : Int)) = 1 + (r0 : Int) := by rw [IntKind.wrap_i64]; omega
  obtain ⟨room, hroom⟩ : ∃ room : Nat, room = 1 + r0 := ⟨_, rfl⟩
  have hrm : 1 + (r0 : Int) = (room : Int) := by omega
  have HNw2 := hid (CNew_ok (w := w4) p room (by omega) (by omega))
  have HRM : Hid (1 ≤ room ∧ room ≤ 4096) := ⟨by omega, by omega⟩
  clear hr0 hroom HLow
  go_wp2_with fail
  refine Calls.mono HNw2.out ?_
  rintro e w5 ⟨c, rfl, hc5, cs, b5⟩
  have B5 : Hid (Below B w0 w5) := B4.out.trans (b5.mono (HSz.out w4 B4.out))
  have HQ5 : Hid (Cq (fun k => w3.heap.size ≤ k ∧ k < w5.heap.size) w5 c p room nb 0 ⟨Hs, [], -1, false⟩) := Cq.new DK.out cs b5 hs4
  have HZ5 : Hid (B ≤ w3.heap.size) := hs3
  clear HNw2 cs b5 DK B4 d0 d1 d2 d3 ht1 ht2 hr1 hw3 hw4 hrm hy hc5 hs3 hs4
  go_wp2_with fail
  refine Calls.mono (HNm.out 0 w5) ?_
  rintro e w9 ⟨rfl, hw9⟩
  rw [hw9]
  clear hw9
  go_wp2_with fail
  go_loopw [16] (fun iv wr => ∃ (q : Nat) (d : Pd) (Z : Nat → Prop), q ≤ N ∧ iv = .int .i64 (q : Int) ∧ Cq Z wr c p room nb 0 d ∧ d.off = false ∧ d.fu = -1 ∧ d.puts.length ≤ q ∧ (∀ k, Z k → B ≤ k) ∧ Below B w0 wr) (fun iv _ => N - (intOf iv).toNat)
  case atStart => exact ⟨0, _, _, Nat.zero_le _, rfl, HQ5.out, rfl, rfl, Nat.le_refl _, fun k q => Nat.le_trans HZ5.out q.1, B5.out⟩
  case round =>
    clear HQ5 HZ5 B5
    obtain ⟨q, d, Z, hqN, rfl, hCq, hon, hfu, hpl1, hZB, hbt⟩ := hrel
    by_cases hq : q < N
    · have hq' : (q : Int) < (N : Int) := by omega
      obtain ⟨pp, hpp⟩ : ∃ pp, ps[q]? = some pp := ⟨_, List.getElem?_eq_getElem (by have := HNE.out; omega)⟩
      have hRP := HPs.out wr hbt
      obtain ⟨pb, po, ha0, hpb, hpX, hcs⟩ : ∃ b off, wa = some ⟨b, off, none⟩ ∧ b < wr.heap.size ∧ ¬ (B ≤ b) ∧ ∀ (t : Nat) (p : Pm), ps[t]? = some p → wr.cell? ⟨b, off + t * 2, none⟩ = some (.int .i64 p.at_) ∧ wr.cell? ⟨b, off + t * 2 + 1, none⟩ = some (.slice p.ad p.data.length p.cap) := by
        rcases hRP.2 with e | ⟨b, off, r1, r2, r3, r4⟩
        · rw [e] at hpp; cases hpp
        · exact ⟨b, off, r1, r2, r3, r4⟩
      obtain ⟨c0, c1⟩ := hcs q pp hpp
      have hpm := List.mem_of_getElem? hpp
      have hrd := hRP.1 pp hpm
      obtain ⟨hdl, hdn⟩ := HD.out pp hpm
      have hsB := HSz.out wr hbt
      have HCp := hid (CopyBytes_any pp.ad pp.data.length pp.cap pp.data wr.drew (by omega) hdn hrd.rd)
      have HWr : Hid (∀ (wc : World) (g2 cap2 : Nat), wr.drew.heap.size ≤ g2 → Own wc g2 pp.data.length cap2 pp.data → Below wr.drew.heap.size wr.drew wc → Calls Tryz.prog 25 #[.pointer (some ⟨c, 0, none⟩), .int .i64 pp.at_, .slice (some ⟨g2, 0, none⟩) pp.data.length cap2] wc fun e w' => ∃ code d', e = .returned (.int .i64 code) ∧ w'.cell? ⟨pb, po + q * 2, none⟩ = some (.int .i64 pp.at_) ∧ w'.cell? ⟨pb, po + q * 2 + 1, none⟩ = some (.slice pp.ad pp.data.length pp.cap) ∧ ∃ Z', Cq Z' w' c p room nb 0 d' ∧ d'.off = false ∧ d'.fu = -1 ∧ d'.puts.length ≤ q + 1 ∧ (∀ k, Z' k → B ≤ k) ∧ Below B w0 w') := fun wc g2 cap2 hg2 ho2 b2 => by
        have hg2' : wr.heap.size ≤ g2 := hg2
        have b2' : Below wr.heap.size wr wc := (Below.refl wr.heap.size wr).drew.trans b2
        have hq2 := hCq.cut.below b2'
        refine Calls.mono (Cq.writeAny hq2 (by omega) hon hfu pp.at_ (some ⟨g2, 0, none⟩) pp.data.length cap2 pp.data (ho2.rdn hrd.2.1 (fun r => by omega))) ?_
        rintro e w' ⟨code, d', rfl, e1, e2, e3, ⟨Z', e4, e5⟩, e6⟩
        have hbp : wc.cell? ⟨pb, po + q * 2, none⟩ = some (.int .i64 pp.at_) ∧ wc.cell? ⟨pb, po + q * 2 + 1, none⟩ = some (.slice pp.ad pp.data.length pp.cap) := ⟨(b2'.cell (p := ⟨pb, po + q * 2, none⟩) hpb).trans c0, (b2'.cell (p := ⟨pb, po + q * 2 + 1, none⟩) hpb).trans c1⟩
        have hs2 := b2'.size
        have hnZ : ¬ (Z pb ∧ pb < wr.heap.size) := fun r => hpX (hZB pb r.1)
        refine ⟨code, d', rfl, (e6.cell (p := ⟨pb, po + q * 2, none⟩) (by show pb < _; omega) hnZ).trans hbp.1, (e6.cell (p := ⟨pb, po + q * 2 + 1, none⟩) (by show pb < _; omega) hnZ).trans hbp.2, Z', e4, e1, e2, by omega, fun k r => ?_, ?_⟩
        · rcases Nat.lt_or_ge k wc.heap.size with hk | hk
          · exact hZB k (e5 k hk r).1
          · omega
        · exact (((but_low hbt).comp (But.of_below b2' (X := fun _ => False)) (fun _ _ r => r.elim)).comp e6 (fun k _ r => hZB k r.1)).below (by have := HB.out; omega) (fun k hk r => by omega)
      obtain ⟨v, hv⟩ : ∃ v, v = pp.at_ := ⟨_, rfl⟩
      obtain ⟨ln, hln⟩ : ∃ ln, ln = pp.data.length := ⟨_, rfl⟩
      obtain ⟨ad, had⟩ : ∃ ad, ad = pp.ad := ⟨_, rfl⟩
      obtain ⟨cp1, hcp1⟩ : ∃ cp1, cp1 = pp.cap := ⟨_, rfl⟩
      obtain ⟨zs, hzs⟩ : ∃ zs, zs = pp.data := ⟨_, rfl⟩
      rw [← hv] at c0
      rw [← hln, ← had, ← hcp1] at c1
      rw [← hln, ← had, ← hcp1, ← hzs] at HCp
      rw [← hv, ← hln, ← had, ← hcp1, ← hzs] at HWr
      have hpbr : pb < wr.heap.size := hpb
      subst ha0
      clear hcs hpp hpm hrd hdl hdn hv hln had hcp1 hzs hRP hCq hon hfu hpl1 hZB hbt hsB hpX hpb
      have hN2 : q + 1 ≤ 1073741823 := by omega
      go_wp2_with fail
      refine wp_region_noPanic ?_
      refine wp_region_held_drew (S := fun w' => w'.cell? ⟨pb, po + q * 2, none⟩ = some (.int .i64 v) ∧ w'.cell? ⟨pb, po + q * 2 + 1, none⟩ = some (.slice ad ln cp1)) (by kernel_rfl) ⟨c0, c1⟩ (fun hSS => ?_)
      refine wpAnyH_take (i := 0) (oi := ({ dst := some 81, op := Op.move (Operand.tmp 14), type := 38, pos := _, after := _, guard := none } : Oper)) (v := ?_) rfl (by kernel_rfl) (by kernel_rfl) (by kernel_rfl) (fun _ _ _ h => h) (Or.inl ⟨by rfl, ?_⟩) hSS ?_
      rotate_left
      · intro w9 hSw
        (try dsimp only at hSw)
        (try go_split_ands)
        first | (go_simp; done) | (go_simp; with_reducible rfl)
      try simp only [Act.put, List.setIfInBounds_toArray, List.set_cons_zero, List.set_cons_succ]
      refine wpAnyH_take (i := 1) (oi := ({ dst := some 82, op := Op.move (Operand.tmp 1), type := 30, pos := _, after := _, guard := none } : Oper)) (v := ?_) rfl (by kernel_rfl) (by kernel_rfl) (by kernel_rfl) (fun _ _ _ h => h) (Or.inl ⟨by rfl, ?_⟩) hSS ?_
      rotate_left
      · intro w9 hSw
        (try dsimp only at hSw)
        (try go_split_ands)
        first | (go_simp; done) | (go_simp; with_reducible rfl)
      try simp only [Act.put, List.setIfInBounds_toArray, List.set_cons_zero, List.set_cons_succ]
      refine wpAnyH_take (i := 2) (oi := ({ dst := some 83, op := Op.move (Operand.tmp 16), type := 3, pos := _, after := _, guard := none } : Oper)) (v := ?_) rfl (by kernel_rfl) (by kernel_rfl) (by kernel_rfl) (fun _ _ _ h => h) (Or.inl ⟨by rfl, ?_⟩) hSS ?_
      rotate_left
      · intro w9 hSw
        (try dsimp only at hSw)
        (try go_split_ands)
        first | (go_simp; done) | (go_simp; with_reducible rfl)
      try simp only [Act.put, List.setIfInBounds_toArray, List.set_cons_zero, List.set_cons_succ]
      refine wpAnyH_take (i := 3) (oi := ({ dst := some 84, op := Op.indexAddr 30 (Operand.tmp 82) (Operand.tmp 83), type := 0, pos := _, after := _, guard := none } : Oper)) (v := ?_) rfl (by kernel_rfl) (by kernel_rfl) (by kernel_rfl) (fun _ _ _ h => h) (Or.inl ⟨by rfl, ?_⟩) hSS ?_
      rotate_left
      · intro w9 hSw
        (try dsimp only at hSw)
        (try go_split_ands)
        first | (go_simp; done) | (go_simp; with_reducible rfl)
      try simp only [Act.put, List.setIfInBounds_toArray, List.set_cons_zero, List.set_cons_succ]
      refine wpAnyH_take (i := 4) (oi := ({ dst := some 85, op := Op.fieldAddr 68 (Operand.tmp 84) 0, type := 0, pos := _, after := _, guard := none } : Oper)) (v := ?_) rfl (by kernel_rfl) (by kernel_rfl) (by kernel_rfl) (fun _ _ _ h => h) (Or.inl ⟨by rfl, ?_⟩) hSS ?_
      rotate_left
      · intro w9 hSw
        (try dsimp only at hSw)
        (try go_split_ands)
        first | (go_simp; done) | (go_simp; with_reducible rfl)
      try simp only [Act.put, List.setIfInBounds_toArray, List.set_cons_zero, List.set_cons_succ]
      refine wpAnyH_take (i := 5) (oi := ({ dst := some 86, op := Op.load 3 (Operand.tmp 85), type := 3, pos := _, after := _, guard := none } : Oper)) (v := ?_) rfl (by kernel_rfl) (by kernel_rfl) (by kernel_rfl) (fun _ _ _ h => h) (Or.inl ⟨by rfl, ?_⟩) hSS ?_
      rotate_left
      · intro w9 hSw
        (try dsimp only at hSw)
        (try go_split_ands)
        first | (go_simp; done) | (go_simp; with_reducible rfl)
      try simp only [Act.put, List.setIfInBounds_toArray, List.set_cons_zero, List.set_cons_succ]
      refine wpAnyH_take (i := 6) (oi := ({ dst := some 87, op := Op.move (Operand.tmp 1), type := 30, pos := _, after := _, guard := none } : Oper)) (v := ?_) rfl (by kernel_rfl) (by kernel_rfl) (by kernel_rfl) (fun _ _ _ h => h) (Or.inl ⟨by rfl, ?_⟩) hSS ?_
      rotate_left
      · intro w9 hSw
        (try dsimp only at hSw)
        (try go_split_ands)
        first | (go_simp; done) | (go_simp; with_reducible rfl)
      try simp only [Act.put, List.setIfInBounds_toArray, List.set_cons_zero, List.set_cons_succ]
      refine wpAnyH_take (i := 7) (oi := ({ dst := some 88, op := Op.move (Operand.tmp 16), type := 3, pos := _, after := _, guard := none } : Oper)) (v := ?_) rfl (by kernel_rfl) (by kernel_rfl) (by kernel_rfl) (fun _ _ _ h => h) (Or.inl ⟨by rfl, ?_⟩) hSS ?_
      rotate_left
      · intro w9 hSw
        (try dsimp only at hSw)
        (try go_split_ands)
        first | (go_simp; done) | (go_simp; with_reducible rfl)
      try simp only [Act.put, List.setIfInBounds_toArray, List.set_cons_zero, List.set_cons_succ]
      refine wpAnyH_take (i := 8) (oi := ({ dst := some 89, op := Op.indexAddr 30 (Operand.tmp 87) (Operand.tmp 88), type := 0, pos := _, after := _, guard := none } : Oper)) (v := ?_) rfl (by kernel_rfl) (by kernel_rfl) (by kernel_rfl) (fun _ _ _ h => h) (Or.inl ⟨by rfl, ?_⟩) hSS ?_
      rotate_left
      · intro w9 hSw
        (try dsimp only at hSw)
        (try go_split_ands)
        first | (go_simp; done) | (go_simp; with_reducible rfl)
      try simp only [Act.put, List.setIfInBounds_toArray, List.set_cons_zero, List.set_cons_succ]
      refine wpAnyH_take (i := 9) (oi := ({ dst := some 90, op := Op.fieldAddr 68 (Operand.tmp 89) 1, type := 0, pos := _, after := _, guard := none } : Oper)) (v := ?_) rfl (by kernel_rfl) (by kernel_rfl) (by kernel_rfl) (fun _ _ _ h => h) (Or.inl ⟨by rfl, ?_⟩) hSS ?_
      rotate_left
      · intro w9 hSw
        (try dsimp only at hSw)
        (try go_split_ands)
        first | (go_simp; done) | (go_simp; with_reducible rfl)
      try simp only [Act.put, List.setIfInBounds_toArray, List.set_cons_zero, List.set_cons_succ]
      refine wpAnyH_take (i := 10) (oi := ({ dst := some 91, op := Op.load 22 (Operand.tmp 90), type := 22, pos := _, after := _, guard := none } : Oper)) (v := ?_) rfl (by kernel_rfl) (by kernel_rfl) (by kernel_rfl) (fun _ _ _ h => h) (Or.inl ⟨by rfl, ?_⟩) hSS ?_
      rotate_left
      · intro w9 hSw
        (try dsimp only at hSw)
        (try go_split_ands)
        first | (go_simp; done) | (go_simp; with_reducible rfl)
      try simp only [Act.put, List.setIfInBounds_toArray, List.set_cons_zero, List.set_cons_succ]
      refine wpAnyH_ready (rs := [11]) (by kernel_rfl) (by simp) (AllReadyH.cons (o := ({ dst := some 92, op := Op.call { callee := Callee.value (Operand.func 22), args := #[Operand.tmp 91], argTypes := #[22] }, type := 22, pos := _, after := _, guard := none } : Oper)) rfl (fun K9 hK9 => ?_) AllReadyH.nil)
      go_simp
      go_at_call 22
      refine Calls.mono HCp.out ?_
      rintro e wc ⟨g2, cap2, rfl, hg2, ho2, b2⟩
      have HW2 := hid (HWr.out wc g2 cap2 hg2 ho2 b2)
      have e0 := (b2.cell (p := ⟨pb, po + q * 2, none⟩) hpbr).trans c0
      have e1 := (b2.cell (p := ⟨pb, po + q * 2 + 1, none⟩) hpbr).trans c1
      clear hg2 ho2 b2 HCp HWr
      refine hK9.out _ _ ⟨e0, e1⟩ (fun hSS => ?_)
      clear hK9 K9
      try simp only [Act.put, List.setIfInBounds_toArray, List.set_cons_zero, List.set_cons_succ]
      refine wpAnyH_ready (rs := [12]) (by kernel_rfl) (by simp) (AllReadyH.cons (o := ({ dst := some 93, op := Op.call { callee := Callee.value (Operand.func 25), args := #[Operand.tmp 81, Operand.tmp 86, Operand.tmp 92], argTypes := #[38, 3, 22] }, type := 55, pos := _, after := _, guard := none } : Oper)) rfl (fun K9 hK9 => ?_) AllReadyH.nil)
      go_simp
      go_at_call 25
      refine Calls.mono HW2.out ?_
      rintro e wd ⟨code, d3, rfl, hc0, hc1, FIN⟩
      have FIN' := hid FIN
      clear FIN HW2
      refine hK9.out _ _ ⟨hc0, hc1⟩ (fun hSS => ?_)
      clear hK9 K9
      try simp only [Act.put, List.setIfInBounds_toArray, List.set_cons_zero, List.set_cons_succ]
      refine wpAnyH_done (by kernel_rfl) (NoPanic.normal ?_) _
      clear c0 c1 hc0 hc1 e0 e1 hSS
      go_wp2_with fail
      go_roundw
      case rel =>
        obtain ⟨Z', f1, f2, f3, f4, f5, f6⟩ := FIN'.out
        exact ⟨q + 1, d3, Z', by omega, by go_num, f1, f2, f3, f4, f5, f6⟩
      case measure => simp [intOf]; omega
    · have hq' : ¬ (q : Int) < (N : Int) := by omega
      have hs6 := HSz.out wr hbt
      obtain ⟨f0, f1, f2, f3⟩ := HCell.out wr hbt
      have HOp : Hid (Calls Tryz.prog 27 #[.pointer (some ⟨c, 0, none⟩), .int .i64 frI, .int .i64 blI] wr fun e w' => ∃ jv code d', e = .returned (.tuple #[.pointer jv, .int .i64 code]) ∧ (jv = none ↔ code ≠ 0) ∧ (want ≠ 0 → code = want) ∧ ∃ Z', Cq Z' w' c p room nb 0 d' ∧ d'.off = false ∧ d'.fu = -1 ∧ d'.puts.length + nb + nb + 8 ≤ 1073741823 ∧ (∀ k, Z' k → B ≤ k) ∧ Below B w0 w') := by
        have hnb9 := HNB.out
        refine Calls.mono (Open_q hCq frI blI (by omega) hon hfu) ?_
        rintro e w' ⟨jv, code, d', rfl, k1, k2, k3, k4, k5, ⟨Z', k6, k7⟩, k8⟩
        rw [← HWN.out] at k2
        refine ⟨jv, code, d', rfl, k1, k2, Z', k6, k3, k4, by omega, fun k r => ?_, ?_⟩
        · rcases Nat.lt_or_ge k wr.heap.size with hk | hk
          · exact hZB k (k7 k hk r)
          · omega
        · exact ((but_low hbt).comp k8 (fun k _ r => hZB k r)).below (by have := HB.out; omega) (fun k hk r => by omega)
      clear hCq hon hfu hpl1 hZB hbt hs6 hqN HPs HD HNE
      go_wp2_with fail
      refine Calls.mono (HPl.out wr) ?_
      rintro e w9 ⟨rfl, hw9⟩
      rw [hw9]
      clear hw9
      go_wp2_with fail
      refine Calls.mono HOp.out ?_
      rintro e w6 ⟨jv, code, d, rfl, hj, hcw, Z6, q6, hon, hfu, pl6, zb6, bb6⟩
      clear HOp f0 f1 f2 f3 HPl hq hq'
      have H6 : Hid (Cq (fun k => Z6 k ∧ k < w6.heap.size) w6 c p room nb 0 d ∧ (∀ k, (Z6 k ∧ k < w6.heap.size) → B ≤ k ∧ k < w6.heap.size) ∧ Below B w0 w6) := ⟨q6.cut, fun k r => ⟨zb6 k r.1, r.2⟩, bb6⟩
      have HDd : Hid (d.off = false ∧ d.fu = -1 ∧ d.puts.length + nb + nb + 8 ≤ 1073741823) := ⟨hon, hfu, pl6⟩
      clear q6 hon hfu pl6 zb6 bb6
      -- a block is read
      have HRe : Hid (∀ (i : Nat) (a : Option Addr) (m cc : Nat) (Z : Nat → Prop) (wr : World), i < nb → m = 512 * i → wr.ownsRow B 5 1 (.slice a m cc) m ((catZ d.read i).map (Value.int .u8)) → Cq Z wr c p room nb i d → (∀ k, Z k → B ≤ k ∧ k < wr.heap.size) → (∀ h, (Value.slice a m cc).ownBlock = some h → ¬ Z h) → Below B w0 wr →
          Calls Tryz.prog 28 #[.pointer (some ⟨c, 0, none⟩), .int .i64 (i : Int)] wr fun e w' => ∃ g2 cp2, e = .returned (.tuple #[.slice (some ⟨g2, 0, none⟩) 512 cp2, .int .i64 0]) ∧ ∃ a' m' cc' w3, (Builtin.append_ #[22, 22] 22 #[.slice a m cc, .slice (some ⟨g2, 0, none⟩) 512 cp2]).run Tryz.prog w' = .ok (.slice a' m' cc') w3 ∧ m' = 512 * (i + 1) ∧ w3.ownsRow B 5 1 (.slice a' m' cc') m' ((catZ d.read (i + 1)).map (Value.int .u8)) ∧
            ∃ Z', Cq Z' w3 c p room nb (i + 1) d ∧ (∀ k, Z' k → B ≤ k ∧ k < w3.heap.size) ∧ (∀ h, (Value.slice a' m' cc').ownBlock = some h → ¬ Z' h) ∧ Below B w0 w3) := fun i a m cc Z wr hi hm hrow hq hZ hh hbt => by
        have hnb9 := HNB.out
        have hd9 := HDd.out
        refine Calls.mono (Cq.cread hq (by omega) (by omega) hd9.1 i hi) ?_
        rintro e w' ⟨g2, cp2, rfl, hg2, o2, ⟨Z2, k1, k2, k3⟩, k4⟩
        refine ⟨g2, cp2, rfl, ?_⟩
        have hs := k4.size
        have hsB := HSz.out wr hbt
        have hrow2 := owns_keep hrow (fun k e => k4.block k (World.ownsRow.lt hrow k e).2 (hh k e))
        obtain ⟨a', cc', w3, r1, r2, r3, r4⟩ := grow_at hrow2 (b := g2) (off := 0) (m := 512) (cp := cp2) (body := d.read i) o2.len (fun t ht => by rw [Nat.zero_add]; exact o2.cell t ht) (by omega) (by omega) (by omega)
        have hs3 := r3.size
        have hhZ : ∀ h, (Value.slice a m cc).ownBlock = some h → h < wr.heap.size ∧ ¬ (Z2 h ∧ h < w'.heap.size) := fun h e => by
          have hl := (World.ownsRow.lt hrow h e).2
          exact ⟨hl, fun r => hh h e (k2 h hl r.1)⟩
        refine ⟨a', m + 512, cc', w3, r1, by omega, r2, fun k => Z2 k ∧ k < w'.heap.size, k1.cut.but r3 (fun x _ r e => (hhZ x e).2 r), fun k r => ⟨?_, by omega⟩, fun h e r => ?_, ?_⟩
        · rcases Nat.lt_or_ge k wr.heap.size with hk | hk
          · exact (hZ k (k2 k hk r.1)).1
          · omega
        · rcases r4 with r4 | r4
          · rw [r4] at e
            exact (hhZ h e).2 r
          · rw [r4] at e
            injection e with e
            omega
        · exact (((but_low hbt).comp k4 (fun k _ r => (hZ k r).1)).comp r3 (fun k _ e => (World.ownsRow.lt hrow k e).1)).below (by have := HB.out; omega) (fun k hk r => by omega)
      -- Format
      have HFo : Hid (∀ (a : Option Addr) (cc : Nat) (Z : Nat → Prop) (wr : World), wr.ownsRow B 5 1 (.slice a hn cc) hn ((catZ d.read nb).map (Value.int .u8)) → Cq Z wr c p room nb nb d → (∀ k, Z k → B ≤ k ∧ k < wr.heap.size) → (∀ h, (Value.slice a hn cc).ownBlock = some h → ¬ Z h) → Below B w0 wr → ∃ hb, a = some ⟨hb, 0, none⟩ ∧
          Calls Tryz.prog 29 #[.pointer (some ⟨c, 0, none⟩), .int .i64 frI, .int .i64 blI] wr fun e w' => e = .returned (.int .i64 want) ∧ Below B w0 w' ∧ (want = 0 → ∃ f b : Nat, frI = f ∧ blI = b ∧ TailP B w' c p room nb f b nb hb cc (catZ d.read nb))) := fun a cc Z wr hrow hq hZ hh hbt => by
        have hnb9 := HNB.out
        have hd9 := HDd.out
        have hsB := HSz.out wr hbt
        obtain ⟨hb, rfl, ho⟩ := own_some hrow (by omega)
        refine ⟨hb, rfl, ?_⟩
        rw [hnb9.1] at ho
        refine Calls.mono (Format_places hq hd9.2.2 hd9.1 hd9.2.1 hZ hsB ho (hh hb rfl) HRM.out.1 HRM.out.2 (by omega) frI blI) ?_
        rintro e w' ⟨rfl, k1, k2⟩
        rw [← HWN.out] at k2 ⊢
        exact ⟨rfl, hbt.trans k1, k2⟩
      obtain ⟨hnbe, n1, hnb⟩ := HNB.out
      have HNB2 := hid hnbe
      clear hnbe
      by_cases hwz : want = 0
      · subst hwz
        clear hcw
        have hjb : jv.isNone = (code != 0) := by
          rw [Bool.eq_iff_iff, Option.isNone_iff_eq_none, bne_iff_ne]
          exact hj
        clear hj
        go_wp2_with fail
        refine Calls.mono (HNm.out code w6) ?_
        rintro e w9 ⟨rfl, hw9⟩
        rw [hw9]
        clear hw9
        go_wp2_with fail
        go_loopw [20, 21] (fun ov iv wr => ∃ (i : Nat) (a : Option Addr) (m cc : Nat) (Z : Nat → Prop), i ≤ nb ∧ iv = .int .i64 (i : Int) ∧ ov = .slice a m cc ∧ m = 512 * i ∧ wr.ownsRow B 5 1 (.slice a m cc) m ((catZ d.read i).map (Value.int .u8)) ∧ Cq Z wr c p room nb i d ∧ (∀ k, Z k → B ≤ k ∧ k < wr.heap.size) ∧ (∀ h, (Value.slice a m cc).ownBlock = some h → ¬ Z h) ∧ Below B w0 wr) (fun _ iv _ => nb - (intOf iv).toNat)
        case atStart => exact ⟨0, none, 0, 0, _, Nat.zero_le _, rfl, rfl, rfl, World.ownsRow_nil _ _ _ _, H6.out.1, H6.out.2.1, (fun h e => by cases e), H6.out.2.2⟩
        case round =>
          clear H6
          obtain ⟨i, a, m, cc, Z, hiN, rfl, rfl, hm, hrow, hCq, hZ, hh, hbt⟩ := hrel
          obtain ⟨f0, f1, f2, f3⟩ := HCell.out wr hbt
          by_cases hi : i < nb
          · have hi' : (i : Int) < (nb : Int) := by omega
            have HR1 := hid (HRe.out i a m cc Z wr hi hm hrow hCq hZ hh hbt)
            clear hrow hCq hZ hh hbt hm HRe HFo
            go_wp2_with fail
            refine Calls.mono HR1.out ?_
            rintro e w7 ⟨g2, cp2, rfl, a', m', cc', w8, hrun, K9⟩
            have HK9 := hid K9
            clear HR1 K9
            go_wp2_with fail
            refine Calls.mono (HNm.out 0 w7) ?_
            rintro e w9 ⟨rfl, hw9⟩
            rw [hw9]
            clear hw9
            go_wp2_with (at_builtin; refine Lib.wpList_append_run _ rfl _ _ _ _ rfl _ _ rfl rfl _ _ (by exact hrun) ?_)
            go_roundw
            case rel =>
              obtain ⟨k1, k2, Z', k3, k4, k5, k6⟩ := HK9.out
              exact ⟨i + 1, a', m', cc', Z', by omega, by go_num, rfl, k1, k2, k3, k4, k5, k6⟩
            case measure => simp [intOf]; omega
          · have hi' : ¬ (i : Int) < (nb : Int) := by omega
            have hie : i = nb := by omega
            subst hie
            rw [← HNB2.out] at hm
            subst hm
            obtain ⟨hb, rfl, HF0⟩ := HFo.out a cc Z wr hrow hCq hZ hh hbt
            have HF1 := hid HF0
            clear HF0 HFo HRe hrow hCq hZ hh hbt
            go_wp2_with fail
            refine Calls.mono HF1.out ?_
            rintro e w7 ⟨rfl, bb7, hT⟩
            clear HF1 f0 f1 f2 f3
            obtain ⟨fr, bl, hfr, hbl, hT2⟩ := hT (by first | rfl | trivial)
            clear hT
            subst hfr hbl
            unfold TailP logW wldW at hT2
            rw [← HNB2.out] at hT2
            have HT := hid hT2
            have HB7 := hid bb7
            have hs7 := HSz.out w7 bb7
            obtain ⟨g0, g1, g2, g3⟩ := HCell.out w7 bb7
            have hpl7 : pk < w7.heap.size := by omega
            clear hT2 bb7
            go_wp2_with fail
            refine Calls.mono (HNm.out 0 w7) ?_
            rintro e w9 ⟨rfl, hw9⟩
            rw [hw9]
            clear hw9
            go_wp2_with fail
            refine Calls.mono HT.out ?_
            rintro e w10 ⟨j, rfl, bb10, h30⟩
            have H30 := hid h30
            have HB10 : Hid (Below B w0 w10) := HB7.out.trans bb10
            clear HT h30 bb10 g0 g1 g2 g3
            go_wp2_with fail
            refine Calls.mono (HNm.out 0 w10) ?_
            rintro e w9 ⟨rfl, hw9⟩
            rw [hw9]
            clear hw9
            go_wp2_with fail
            refine Calls.mono H30.out ?_
            rintro e w11 ⟨gx, rfl, bb11, k2, kf, kl, W, hWD, hWB⟩
            obtain ⟨w12, hw12⟩ : ∃ w12, w12 = w11.setCell ⟨w7.heap.size + 1, 2, none⟩ (.pointer (some ⟨j, 0, none⟩)) := ⟨_, rfl⟩
            rw [← hw12] at hWD
            have hwbB : B ≤ w7.heap.size + 1 := by omega
            have hne : pk ≠ w7.heap.size + 1 := by omega
            have bb12 : Below B w0 w12 := by
              rw [hw12]
              exact ((but_low (HB7.out.trans bb11)).setCell hwbB _).below (by have := HB.out; omega) (fun k hk r => by omega)
            obtain ⟨g0, g1, g2, g3⟩ := HCell.out w12 bb12
            have HPr : Hid (∀ m : Int, Calls Tryz.prog 31 #[.pointer (some ⟨w7.heap.size + 1, 0, none⟩), .int .u64 m] w12 fun e w' => e = .returned (.bool true) ∧ Below w12.heap.size w12 w') := fun m => hWD.probes m
            have HAc : Hid (∀ w13, Below w12.heap.size w12 w13 → Calls Tryz.prog 11 #[.pointer (some ⟨w7.heap.size + 1, 0, none⟩), .agg #[.int .i64 1, .int .i64 0, .slice (some ⟨w13.heap.size, 0, none⟩) 0 0, .int .u64 0, .int .i64 (-1), .int .i64 0]] (w13.alloc (.cells #[] 68)) fun e w' => e = .returned (.bool true) ∧ ∀ m : Int, Calls Tryz.prog 31 #[.pointer (some ⟨w7.heap.size + 1, 0, none⟩), .int .u64 m] w' fun e w'' => e = .returned (.bool true) ∧ PO (.returned (.bool true)) w'') := fun w13 b13 => by
              have b14 : Below w12.heap.size w12 (w13.alloc (.cells #[] 68)) := b13.alloc b13.size _
              refine Calls.mono (act_append (hWD.below b14) 0 0 0 (some ⟨w13.heap.size, 0, none⟩) 0 [] ⟨(fun p hp => by cases hp), .inl rfl⟩ (by simp) (fun p hp => by cases hp)) ?_
              rintro e w' ⟨rfl, bA, W', Us', hWD', _, _⟩
              refine ⟨rfl, fun m => Calls.mono (hWD'.probes m) ?_⟩
              rintro e w'' ⟨rfl, b15⟩
              refine ⟨rfl, HFin.out _ ?_⟩
              exact ((((but_low bb12).comp (But.of_below b14 (X := fun _ => False)) (fun _ _ r => r.elim)).comp bA (fun k _ r => hWB k r)).comp (But.of_below b15 (X := fun _ => False)) (fun _ _ r => r.elim)).below (by have := HB.out; omega) (fun k hk r => by omega)
            have HW12 := hid hw12
            have g3' : (w11.setCell ⟨w7.heap.size + 1, 2, none⟩ (.pointer (some ⟨j, 0, none⟩))).cell? ⟨pk, 3, none⟩ = some (.int .i64 rmI) := by rw [← hw12]; exact g3
            clear bb11 H30 bb12 hWD hWB hw12 hwbB HB7 HB10
            go_wp2_with fail
            rw [← HW12.out]
            refine Calls.mono (HPr.out _) ?_
            rintro e w13 ⟨rfl, b13⟩
            have HA13 := hid (HAc.out w13 b13)
            clear HAc HPr b13 g0 g1 g2 g3 g3'
            go_wp2_with fail
            refine Calls.mono HA13.out ?_
            rintro e w14 ⟨rfl, hP14⟩
            have HP14 := hid hP14
            clear HA13 hP14
            go_wp2_with fail
            refine Calls.mono (HP14.out _) ?_
            rintro e w15 ⟨rfl, hF15⟩
            have FIN := hid hF15
            clear HP14 hF15
            go_wp2_with fail
            exact FIN.out
      · have hce : code = want := hcw hwz
        subst hce
        have hcb : (code != 0) = true := by simpa using hwz
        have hjn : jv = none := hj.2 hwz
        subst hjn
        clear hcw hj
        go_wp2_with fail
        refine Calls.mono (HNm.out code w6) ?_
        rintro e w9 ⟨rfl, hw9⟩
        rw [hw9]
        clear hw9
        go_wp2_with fail
        refine Calls.mono (HNm.out code w6) ?_
        rintro e w9 ⟨rfl, hw9⟩
        rw [hw9]
        clear hw9
        go_wp2_with fail
        go_loopw [20, 21] (fun ov iv wr => ∃ (i : Nat) (a : Option Addr) (m cc : Nat) (Z : Nat → Prop), i ≤ nb ∧ iv = .int .i64 (i : Int) ∧ ov = .slice a m cc ∧ m = 512 * i ∧ wr.ownsRow B 5 1 (.slice a m cc) m ((catZ d.read i).map (Value.int .u8)) ∧ Cq Z wr c p room nb i d ∧ (∀ k, Z k → B ≤ k ∧ k < wr.heap.size) ∧ (∀ h, (Value.slice a m cc).ownBlock = some h → ¬ Z h) ∧ Below B w0 wr) (fun _ iv _ => nb - (intOf iv).toNat)
        case atStart => exact ⟨0, none, 0, 0, _, Nat.zero_le _, rfl, rfl, rfl, World.ownsRow_nil _ _ _ _, H6.out.1, H6.out.2.1, (fun h e => by cases e), H6.out.2.2⟩
        case round =>
          clear H6
          obtain ⟨i, a, m, cc, Z, hiN, rfl, rfl, hm, hrow, hCq, hZ, hh, hbt⟩ := hrel
          obtain ⟨f0, f1, f2, f3⟩ := HCell.out wr hbt
          by_cases hi : i < nb
          · have hi' : (i : Int) < (nb : Int) := by omega
            have HR1 := hid (HRe.out i a m cc Z wr hi hm hrow hCq hZ hh hbt)
            clear hrow hCq hZ hh hbt hm HRe HFo
            go_wp2_with fail
            refine Calls.mono HR1.out ?_
            rintro e w7 ⟨g2, cp2, rfl, a', m', cc', w8, hrun, K9⟩
            have HK9 := hid K9
            clear HR1 K9
            go_wp2_with fail
            refine Calls.mono (HNm.out 0 w7) ?_
            rintro e w9 ⟨rfl, hw9⟩
            rw [hw9]
            clear hw9
            go_wp2_with (at_builtin; refine Lib.wpList_append_run _ rfl _ _ _ _ rfl _ _ rfl rfl _ _ (by exact hrun) ?_)
            go_roundw
            case rel =>
              obtain ⟨k1, k2, Z', k3, k4, k5, k6⟩ := HK9.out
              exact ⟨i + 1, a', m', cc', Z', by omega, by go_num, rfl, k1, k2, k3, k4, k5, k6⟩
            case measure => simp [intOf]; omega
          · have hi' : ¬ (i : Int) < (nb : Int) := by omega
            have hie : i = nb := by omega
            subst hie
            rw [← HNB2.out] at hm
            subst hm
            obtain ⟨hb, rfl, HF0⟩ := HFo.out a cc Z wr hrow hCq hZ hh hbt
            have HF1 := hid HF0
            clear HF0 HFo HRe hrow hCq hZ hh hbt
            go_wp2_with fail
            refine Calls.mono HF1.out ?_
            rintro e w7 ⟨rfl, bb7, hT⟩
            clear HF1 f0 f1 f2 f3
            have FIN := hid (HFin.out w7 bb7)
            clear bb7 hT
            go_wp2_with fail
            refine Calls.mono (HNm.out code w7) ?_
            rintro e w9 ⟨rfl, hw9⟩
            rw [hw9]
            clear hw9
            go_wp2_with fail
            exact FIN.out

end Go.Proofs.YtldlejpacgphmaaGreat
