/-
  DiskOwns: the law.
-/
import Derived.Test.YteokekllbpkemaaOw0
namespace Go.Proofs.Yteokekllbpkemaa
open Go.RowKit

theorem Dsk.parts {t : Nat} {κ : Nat → Nat} {w : World} {x m : Nat} (h : Dsk t κ w x m) : x < w.heap.size ∧ ∃ dv rv, w.cell? ⟨x, 0, none⟩ = some dv ∧ w.cell? ⟨x, 1, none⟩ = some rv ∧ Both t κ w dv rv m := by
  obtain ⟨bv, kv, dv, rv, h1, _, _, _, h5⟩ := h
  obtain ⟨N, hN⟩ := h1.1
  exact ⟨hN.lt, dv, rv, hN.dsk.1, hN.dsk.2.1, h5⟩

set_option maxRecDepth 100000 in
set_option maxHeartbeats 8000000 in
theorem owns_law {B : Nat} {w : World} (hB : B ≤ w.heap.size) (nw : Bool) (bl : Int) {a : Option Addr} {n c : Nat} {zs : List Int} (hI : BegIn B w a n c zs) {aS : Option Addr} {nS cS : Nat} {L : List ActD} (hS : ScrIn B w aS nS L) (hm : nS ≤ 1048576) :
    Calls Try.prog 8 #[beginV nw bl (.slice a n c), .slice aS nS cS] w fun e w' => e = .returned (.bool true) ∧ Below B w w' := by
  obtain ⟨W, hW⟩ : ∃ W, W = w.alloc (.cells #[.bool nw, .int .i64 bl, .slice a n c] 24) := ⟨_, rfl⟩
  have bW : Below w.heap.size w W := by rw [hW]; exact (Below.refl _ _).alloc (Nat.le_refl _) _
  have bB := bW.mono hB
  have hBW : B ≤ W.heap.size := Nat.le_trans hB bW.size
  have HI := hid ((hI.below bB).mono hBW)
  have HS := hid ((hS.below bB).mono hBW)
  have HO := hid (open_any 0 (fun _ => 0) W nw bl HI.out (Nat.le_refl _))
  have e0 : W.cell? ⟨w.heap.size, 0, none⟩ = some (.bool nw) ∧ W.cell? ⟨w.heap.size, 1, none⟩ = some (.int .i64 bl) ∧ W.cell? ⟨w.heap.size, 2, none⟩ = some (.slice a n c) := by
    rw [hW]
    exact ⟨cell_new rfl 0 _ rfl, cell_new rfl 1 _ rfl, cell_new rfl 2 _ rfl⟩
  unfold beginV at HO
  have HW := hid hW
  have HbW := hid bB
  obtain ⟨v0, v1, v2⟩ := e0
  clear hI hS hW bW bB
  unfold beginV
  go_enter Try.func8, Try.ntmps8
  go_wp2_with fail
  rw [← HW.out]
  refine Calls.mono HO.out ?_
  rintro e w1 ⟨x, κ1, rfl, hD1, hk1, hb1⟩
  obtain ⟨w2, hw2⟩ : ∃ w2, w2 = w1.alloc (.cells #[.int .i64 0, .int .i64 0, .bool false, .slice none 0 0, .slice none 0 0, .slice none 0 0, .slice none 0 0, .slice none 0 0] 36) := ⟨_, rfl⟩
  obtain ⟨w3, hw3⟩ : ∃ w3, w3 = w2.alloc (.cells #[.int .i64 0, .int .i64 0, .slice none 0 0, .slice none 0 0, .slice none 0 0, .slice none 0 0] 40) := ⟨_, rfl⟩
  have z2 : w2.heap.size = w1.heap.size + 1 := by rw [hw2]; simp
  have HSt : Hid (∃ κ, St W κ w3 x w1.heap.size (w1.heap.size + 1) 0 0 0 0 0 0 0) := by
    have s1 := hb1.size
    have b12 : Below w1.heap.size w1 w2 := by rw [hw2]; exact (Below.refl _ _).alloc (Nat.le_refl _) _
    have b23 : Below w2.heap.size w2 w3 := by rw [hw3]; exact (Below.refl _ _).alloc (Nat.le_refl _) _
    have b13 := b12.trans (b23.mono b12.size)
    have g2 : w2.heap[w1.heap.size]? = some (.cells #[.int .i64 0, .int .i64 0, .bool false, .slice none 0 0, .slice none 0 0, .slice none 0 0, .slice none 0 0, .slice none 0 0] 36 (0, 0)) := by
      rw [hw2]; show (w1.heap.push _)[w1.heap.size]? = _; simp
    have g3 : w3.heap[w1.heap.size + 1]? = some (.cells #[.int .i64 0, .int .i64 0, .slice none 0 0, .slice none 0 0, .slice none 0 0, .slice none 0 0] 40 (0, 0)) := by
      rw [hw3, ← z2]; show (w2.heap.push _)[w2.heap.size]? = _; simp
    refine ⟨fun y => if y < w1.heap.size then κ1 y else if y = w1.heap.size then 10 else if y = w1.heap.size + 1 then 20 else 0, hb1.trans (b13.mono s1), fun y hy => ?_, hD1.keep (Nat.le_refl _) (fun y hy _ => b13.block y hy) (fun y hy _ => if_pos hy), ?_, Ldg.new g3 ?_⟩
    · show (if y < w1.heap.size then κ1 y else _) = 0
      rw [if_pos (by omega)]
      exact hk1 y hy
    · refine (Bok.new (B := W.heap.size) ((b23.block _ (by omega)).trans g2) s1).mono (fun y e => ?_)
      show (if y < w1.heap.size then κ1 y else if y = w1.heap.size then 10 else _) = 10
      rw [if_neg (by omega), if_pos e]
    · show (if w1.heap.size + 1 < w1.heap.size then _ else if w1.heap.size + 1 = w1.heap.size then 10 else if w1.heap.size + 1 = w1.heap.size + 1 then 20 else 0) = 20
      rw [if_neg (by omega), if_neg (by omega), if_pos rfl]
  generalize hbk : w1.heap.size = b at *
  generalize hqk : b + 1 = q at *
  have Hz2 := hid z2
  have Hw := hid (And.intro hw2 hw3)
  have Hbk := hid hbk
  clear HO hD1 hk1 hb1 v0 v1 v2 hw2 hw3 z2
  go_wp2_with fail
  rw [← Hw.out.1, ← Hw.out.2]
  clear hbk hqk Hw Hz2 Hbk
  go_loopw [9] (fun s wt => ∃ i : Nat, i ≤ nS ∧ s = .int .i64 (i : Int) ∧ ∃ κ m cb tb kb cl tl kl, St W κ wt x b q m cb tb kb cl tl kl ∧ m ≤ 2 * i ∧ cb ≤ 2 * i ∧ tb ≤ 540000000 ∧ kb ≤ 30 * i ∧ cl ≤ 8 * i ∧ tl ≤ 4000000 ∧ kl ≤ 12 * i) (fun s _ => nS - (intOf s).toNat)
  case atStart =>
    obtain ⟨κ, h⟩ := HSt.out
    exact ⟨0, Nat.zero_le _, rfl, κ, 0, 0, 0, 0, 0, 0, 0, h, by omega, by omega, by omega, by omega, by omega, by omega, by omega⟩
  case round =>
    clear HSt
    obtain ⟨i, hi, rfl, κ, m, cb, tb, kb, cl, tl, kl, hT, hbm, hbc, hbt, hbk, hlc, hlt, hlk⟩ := hrel
    by_cases hin : i < nS
    · have hSt := HS.out.below hT.bel
      have hlen := hSt.len
      obtain ⟨bs, os, rfl, hbs, hc⟩ := hSt.cel.resolve_left (by omega)
      have hkL : i < L.length := by omega
      have hdk : L[i]? = some L[i] := List.getElem?_eq_getElem hkL
      obtain ⟨q0, q1, q2, q3, q4, q5⟩ := hc i _ hdk
      have hok0 := HS.out.ok L[i] (List.getElem_mem hkL)
      have HAc := hid (hT.act (by omega) (d := L[i]) (hok0.below hT.bel))
      have HC : Hid (∀ wt, Below W.heap.size W wt → (L[i]).ok W.heap.size wt ∧ wt.cell? ⟨bs, os + i * 6, none⟩ = some (.int .i64 L[i].wh) ∧ wt.cell? ⟨bs, os + i * 6 + 1, none⟩ = some (.int .i64 L[i].kd) ∧ wt.cell? ⟨bs, os + i * 6 + 2, none⟩ = some (.int .i64 L[i].at_) ∧ wt.cell? ⟨bs, os + i * 6 + 3, none⟩ = some (.int .i64 L[i].fi) ∧ wt.cell? ⟨bs, os + i * 6 + 4, none⟩ = some (.slice L[i].aR L[i].nR L[i].cR) ∧ wt.cell? ⟨bs, os + i * 6 + 5, none⟩ = some (.slice L[i].aK L[i].nK L[i].cK)) := fun wt hb => by
        have hSt := HS.out.below hb
        obtain ⟨bs', os', e', hbs', hc'⟩ := hSt.cel.resolve_left (by omega)
        obtain ⟨rfl, rfl⟩ : bs = bs' ∧ os = os' := by simpa using e'
        exact ⟨hok0.below hb, hc' i _ hdk⟩
      have hin' : (i : Int) < (nS : Int) := by omega
      clear hSt hT hc hdk hlen hok0
      generalize L[i] = d at *
      clear hkL
      unfold ActD.val actV at HAc
      go_wp2_with fail
      refine Calls.mono HAc.out ?_
      rintro e w4 ⟨lv, κ4, rfl, ⟨al, zl, cz, rfl, hh⟩, hT4⟩
      obtain ⟨ok4, p0, p1, p2, p3, p4, p5⟩ := HC.out w4 hT4.bel
      obtain ⟨tt, htl⟩ := hT4.bok.total
      have H4 := hid (And.intro hT4 hh)
      clear HAc hT4 hh q0 q1 q2 q3 q4 q5 ok4
      by_cases hbig : (30000 : Int) < (tb : Int)
      · go_wp2_with fail
        go_roundw
        case rel => exact ⟨i + 1, by omega, by go_num, κ4, m + 1, cb, tb, kb, cl, tl, kl, H4.out.1, by omega, by omega, by omega, by omega, by omega, by omega, by omega⟩
        case measure => simp [intOf]; omega
      · have HOw := hid (H4.out.1.ownB H4.out.2 (5 * (i : Int)) (by omega) (by omega) (by omega) (by omega) (by omega))
        have hzl : zl.length ≤ 268435456 := by
          rcases H4.out.2 with ⟨_, _, rfl⟩ | ⟨g, _, _, _, _, _, h5⟩
          · simp
          · exact h5
        clear H4 p0 p2 p3 p4 p5
        go_wp2_with fail
        refine Calls.mono HOw.out ?_
        rintro e w5 ⟨rfl, κ5, kb5, hk5, hT5⟩
        have HS5 : Hid (∃ κ m' cb' tb' kb', St W κ w5 x b q m' cb' tb' kb' cl tl kl ∧ m' ≤ 2 * i + 1 ∧ cb' ≤ 2 * i + 1 ∧ tb' ≤ 30000 + 268435456 ∧ kb' ≤ 30 * i + 15) := ⟨κ5, m + 1, cb + 1, tb + zl.length, kb5, hT5, by omega, by omega, by omega, by omega⟩
        obtain ⟨ok5, r0, r1, r2, r3, r4, r5⟩ := HC.out w5 hT5.bel
        have HAc2 := hid (hT5.act (by omega) (d := d) ok5)
        have HT5 := hid hT5
        unfold ActD.val actV at HAc2
        clear HOw hT5 tt htl p1 ok5
        rcases (show d.kd = 1 ∨ d.kd = 9 ∨ d.kd = 10 ∨ (¬ d.kd = 1 ∧ ¬ d.kd = 9 ∧ ¬ d.kd = 10) by omega) with hk | hk | hk | ⟨hk1, hk2, hk3⟩
        case' inl =>
          rw [hk] at HAc2 r1
          go_wp2_with fail
          refine Calls.mono HAc2.out ?_
          rintro e w6 ⟨lv2, κ6, rfl, ⟨al2, zl2, cz2, rfl, hh2⟩, hT6⟩
          have HOw2 := hid (hT6.ownB hh2 (5 * (i : Int) + 1) (by omega) (by omega) (by omega) (by omega) (by omega))
          have hzl2 : zl2.length ≤ 268435456 := by
            rcases hh2 with ⟨_, _, rfl⟩ | ⟨g, _, _, _, _, _, h5⟩
            · simp
            · exact h5
          clear hT6 hh2 r0 r1 r2 r3 r4 r5 HAc2
          go_wp2_with fail
          refine Calls.mono HOw2.out ?_
          rintro e w7 ⟨rfl, κ7, kb7, hk7, hT7⟩
          have HS6 : Hid (∃ κ m' cb' tb' kb', St W κ w7 x b q m' cb' tb' kb' cl tl kl ∧ m' ≤ 2 * i + 2 ∧ cb' ≤ 2 * i + 2 ∧ tb' ≤ 540000000 ∧ kb' ≤ 30 * i + 30) := ⟨κ7, _, _, _, kb7, hT7, by omega, by omega, by omega, by omega⟩
          clear hT7 HOw2
          go_wp2_with fail
        case' inr.inl =>
          rw [hk] at HAc2 r1
          go_wp2_with fail
          refine Calls.mono HAc2.out ?_
          rintro e w6 ⟨lv2, κ6, rfl, ⟨al2, zl2, cz2, rfl, hh2⟩, hT6⟩
          have HOw2 := hid (hT6.ownB hh2 (5 * (i : Int) + 1) (by omega) (by omega) (by omega) (by omega) (by omega))
          have hzl2 : zl2.length ≤ 268435456 := by
            rcases hh2 with ⟨_, _, rfl⟩ | ⟨g, _, _, _, _, _, h5⟩
            · simp
            · exact h5
          clear hT6 hh2 r0 r1 r2 r3 r4 r5 HAc2
          go_wp2_with fail
          refine Calls.mono HOw2.out ?_
          rintro e w7 ⟨rfl, κ7, kb7, hk7, hT7⟩
          have HS6 : Hid (∃ κ m' cb' tb' kb', St W κ w7 x b q m' cb' tb' kb' cl tl kl ∧ m' ≤ 2 * i + 2 ∧ cb' ≤ 2 * i + 2 ∧ tb' ≤ 540000000 ∧ kb' ≤ 30 * i + 30) := ⟨κ7, _, _, _, kb7, hT7, by omega, by omega, by omega, by omega⟩
          clear hT7 HOw2
          go_wp2_with fail
        case' inr.inr.inl =>
          rw [hk] at HAc2 r1
          go_wp2_with fail
          refine Calls.mono HAc2.out ?_
          rintro e w6 ⟨lv2, κ6, rfl, ⟨al2, zl2, cz2, rfl, hh2⟩, hT6⟩
          have HOw2 := hid (hT6.ownB hh2 (5 * (i : Int) + 1) (by omega) (by omega) (by omega) (by omega) (by omega))
          have hzl2 : zl2.length ≤ 268435456 := by
            rcases hh2 with ⟨_, _, rfl⟩ | ⟨g, _, _, _, _, _, h5⟩
            · simp
            · exact h5
          clear hT6 hh2 r0 r1 r2 r3 r4 r5 HAc2
          go_wp2_with fail
          refine Calls.mono HOw2.out ?_
          rintro e w7 ⟨rfl, κ7, kb7, hk7, hT7⟩
          have HS6 : Hid (∃ κ m' cb' tb' kb', St W κ w7 x b q m' cb' tb' kb' cl tl kl ∧ m' ≤ 2 * i + 2 ∧ cb' ≤ 2 * i + 2 ∧ tb' ≤ 540000000 ∧ kb' ≤ 30 * i + 30) := ⟨κ7, _, _, _, kb7, hT7, by omega, by omega, by omega, by omega⟩
          clear hT7 HOw2
          go_wp2_with fail
        case' inr.inr.inr =>
          have HS6 : Hid (∃ κ m' cb' tb' kb', St W κ w5 x b q m' cb' tb' kb' cl tl kl ∧ m' ≤ 2 * i + 2 ∧ cb' ≤ 2 * i + 2 ∧ tb' ≤ 540000000 ∧ kb' ≤ 30 * i + 30) := by
            obtain ⟨κ, m', cb', tb', kb', h1, h2, h3, h4, h5⟩ := HS5.out
            exact ⟨κ, m', cb', tb', kb', h1, by omega, by omega, by omega, by omega⟩
          clear HAc2
          have hb1 : (d.kd == 1) = false := by simp [hk1]
          have hb2 : (d.kd == 9) = false := by simp [hk2]
          have hb3 : (d.kd == 10) = false := by simp [hk3]
          go_wp2_with fail
        all_goals
          clear HC HS5 HT5
          go_loopw [15] (fun s wt => ∃ j : Nat, j ≤ 2 ∧ s = .int .i64 (j : Int) ∧ ∃ κ m' cb' tb' kb' cl' tl' kl', St W κ wt x b q m' cb' tb' kb' cl' tl' kl' ∧ m' ≤ 2 * i + 2 ∧ cb' ≤ 2 * i + 2 ∧ tb' ≤ 540000000 ∧ kb' ≤ 30 * i + 30 ∧ cl' ≤ 8 * i + 4 * j ∧ tl' ≤ 4000000 ∧ kl' ≤ 12 * i + 6 * j) (fun s _ => 2 - (intOf s).toNat)
          case atStart =>
            obtain ⟨κ, m', cb', tb', kb', h1, h2, h3, h4, h5⟩ := HS6.out
            exact ⟨0, by omega, rfl, κ, m', cb', tb', kb', cl, tl, kl, h1, h2, h3, h4, h5, by omega, by omega, by omega⟩
          case round =>
            clear HS6
            obtain ⟨j, hj, rfl, κ8, m8, cb8, tb8, kb8, cl8, tl8, kl8, hT, g1, g2, g3, g4, g5, g6, g7⟩ := hrel
            obtain ⟨hxl, dv, rv, c0, c1, hBo⟩ := hT.dsk.parts
            by_cases hj2 : j < 2
            · have hj2' : (j : Int) < 2 := by omega
              rcases hBo with ⟨rfl, rfl⟩ | ⟨p, r, img, puts, fu, off, nb, rfl, rfl, hDk, hRk, hpl⟩
              · have HT := hid hT
                clear hT c0
                by_cases h7 : (i : Int) % 8 = 7
                · have HL1 := hid (HT.out.holdsL (by omega))
                  go_wp2_with fail
                  refine Calls.mono HL1.out ?_
                  rintro e wa ⟨rfl, κa, hTa⟩
                  have HB1 := hid (hTa.holdsB (by omega))
                  clear HL1 hTa
                  go_wp2_with fail
                  refine Calls.mono HB1.out ?_
                  rintro e wb ⟨rfl, κb, hTb⟩
                  have HTb := hid hTb
                  clear HB1 hTb HT
                  go_wp2_with fail
                  go_roundw
                  case rel => exact ⟨i + 1, by omega, by go_num, κb, m8, cb8, tb8, kb8, cl8, tl8, kl8, HTb.out, by omega, by omega, by omega, by omega, by omega, by omega, by omega⟩
                  case measure => simp [intOf]; omega
                · go_wp2_with fail
                  go_roundw
                  case rel => exact ⟨i + 1, by omega, by go_num, κ8, m8, cb8, tb8, kb8, cl8, tl8, kl8, HT.out, by omega, by omega, by omega, by omega, by omega, by omega, by omega⟩
                  case measure => simp [intOf]; omega
              · have HP := hid (Pending_any hDk (by omega))
                have HT := hid hT
                have HR := hid hRk
                clear hDk hRk hT
                go_wp2_with fail
                refine Calls.mono HP.out ?_
                rintro e w10 ⟨g, rfl, hg, hBg, hb10⟩
                have d1 := (hb10.cell (p := ⟨x, 1, none⟩) hxl).trans c1
                have HRp := hid (fun u : World => fun hbu : Below w10.heap.size w10 u => refPending_any (HR.out.below (hb10.trans (hbu.mono hb10.size))) (by omega))
                have H10 := hid (And.intro hBg hb10)
                have hlp : puts.length ≤ 4194304 := by omega
                clear HP hBg hb10 c0 c1
                go_wp2_with fail
                refine Calls.mono (HRp.out w10 (Below.refl _ _)) ?_
                rintro e w11 ⟨ar, cr, rfl, hrd, hb11⟩
                have hBg1 := H10.out.1.of_block (hb11.block g H10.out.1.lt)
                have ri1 := RdI.of_blk hBg1 hBg1.lt
                rw [List.length_map] at ri1
                have HSI := hid (SameInts_eq w11.heap.size _ _ _ puts.length cr _ w11 (Nat.le_refl _) (by omega) ri1 hrd)
                have H11 := hid (And.intro hBg1 (H10.out.2.trans (hb11.mono H10.out.2.size)))
                clear hrd hb11 hBg1 ri1 H10 HRp d1
                go_wp2_with fail
                refine Calls.mono HSI.out ?_
                rintro e w12 ⟨rfl, hb12⟩
                have hb13 := H11.out.2.trans (hb12.mono H11.out.2.size)
                have hBg2 := H11.out.1.of_block (hb12.block g H11.out.1.lt)
                have hT12 := HT.out.below hb13
                obtain ⟨tl1, tl2⟩ := hT12.ldg.total
                have HT12 := hid hT12
                have hgW : W.heap.size ≤ g := Nat.le_trans HT.out.bel.size hg
                have hzm : (puts.map fun q => (q.1 : Int)).length = puts.length := List.length_map _
                have HLo := hid (fun h15 : tl8 < 1500 => hT12.ownL hBg2 (if_neg (by omega)) hgW (by omega) (by omega) (by omega) (by omega))
                rw [hzm] at HLo
                clear HSI hb12 hb13 hBg2 hT12 H11 HT hzm
                by_cases h15 : (tl8 : Int) < 1500
                · have HLo2 := hid (HLo.out (by omega))
                  clear HLo
                  go_wp2_with fail
                  refine Calls.mono HLo2.out ?_
                  rintro e w14 ⟨rfl, κ14, cl14, kl14, f1, f2, hT14⟩
                  have HT14 := hid hT14
                  clear HLo2 hT14 tl1 tl2 HT12
                  go_wp2_with fail
                  go_roundw
                  case rel => exact ⟨j + 1, by omega, by go_num, κ14, m8, cb8, tb8, kb8, cl14, _, kl14, HT14.out, g1, g2, g3, g4, by omega, by omega, by omega⟩
                  case measure => simp [intOf]; omega
                · clear HLo
                  go_wp2_with fail
                  go_roundw
                  case rel => exact ⟨j + 1, by omega, by go_num, _, m8, cb8, tb8, kb8, cl8, tl8, kl8, HT12.out, g1, g2, g3, g4, by omega, by omega, by omega⟩
                  case measure => simp [intOf]; omega
            · have hj2' : ¬ (j : Int) < 2 := by omega
              have HT := hid hT
              clear hT c0 hBo
              by_cases h7 : (i : Int) % 8 = 7
              · have HL1 := hid (HT.out.holdsL (by omega))
                go_wp2_with fail
                refine Calls.mono HL1.out ?_
                rintro e wa ⟨rfl, κa, hTa⟩
                have HB1 := hid (hTa.holdsB (by omega))
                clear HL1 hTa
                go_wp2_with fail
                refine Calls.mono HB1.out ?_
                rintro e wb ⟨rfl, κb, hTb⟩
                have HTb := hid hTb
                clear HB1 hTb HT
                go_wp2_with fail
                go_roundw
                case rel => exact ⟨i + 1, by omega, by go_num, κb, m8, cb8, tb8, kb8, cl8, tl8, kl8, HTb.out, by omega, by omega, by omega, by omega, by omega, by omega, by omega⟩
                case measure => simp [intOf]; omega
              · go_wp2_with fail
                go_roundw
                case rel => exact ⟨i + 1, by omega, by go_num, κ8, m8, cb8, tb8, kb8, cl8, tl8, kl8, HT.out, by omega, by omega, by omega, by omega, by omega, by omega, by omega⟩
                case measure => simp [intOf]; omega
    · have hin' : ¬ (i : Int) < (nS : Int) := by omega
      have HL1 := hid (hT.holdsL (by omega))
      clear hT
      go_wp2_with fail
      refine Calls.mono HL1.out ?_
      rintro e wa ⟨rfl, κa, hTa⟩
      have HB1 := hid (hTa.holdsB (by omega))
      clear HL1 hTa
      go_wp2_with fail
      refine Calls.mono HB1.out ?_
      rintro e wb ⟨rfl, κb, hTb⟩
      have HTb := hid (HbW.out.trans (hTb.bel.mono hBW))
      clear HB1 hTb
      go_wp2
      go_ret
      exact ⟨rfl, HTb.out⟩

end Go.Proofs.Yteokekllbpkemaa
