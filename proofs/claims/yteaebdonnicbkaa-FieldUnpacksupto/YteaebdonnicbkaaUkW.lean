/-
  FieldUnpacks: the law's walk (function 7).
-/
import Derived.Test.YteaebdonnicbkaaUkV
import Derived.Deep.DeepCutAuto
namespace Go.Proofs.Yteaebdonnicbkaa
open Go.RowKit

theorem InS.new {B q : Nat} {w : World} (h : w.heap[q]? = some (.cells #[.int .i64 0, .int .i64 0, .bool false, .slice none 0 0, .slice none 0 0, .slice none 0 0, .int .i64 0, .slice none 0 0, .slice none 0 0] 67 (0, 0))) (hq : B ≤ q) : InS B (fun x => if x = q then 0 else 200) w q 0 0 ((0 : Nat) : Int) := by
  refine ⟨0, 0, .slice none 0 0, .slice none 0 0, .slice none 0 0, .slice none 0 0, .slice none 0 0, [], [], [], [], [], fun _ => [], fun _ => [], ⟨h, if_pos rfl, hq, World.ownsRow_nil _ _ _ _, (fun g e => by cases e), World.ownsRow_nil _ _ _ _, (fun g e => by cases e), OwI.nil _ _, (fun g e => by cases e), World.ownsRow_nil _ _ _ _, (fun g e => by cases e), OwI.nil _ _, (fun g e => by cases e), fun i h1 h2 => by omega, fun j hj => by omega⟩, fun i hi => by omega, fun j hj => by omega, by omega, by omega, fun i hi => by omega, fun j hj => by omega⟩

set_option maxRecDepth 100000 in
set_option maxHeartbeats 4000000 in
theorem unpacks_walk (a : Option Addr) (m c : Nat) (w : World) (hm : m ≤ 1048576) (h : m = 0 ∨ ∃ b off A N C Z A2 N2 C2 Ws, a = some ⟨b, off, none⟩ ∧ Rea w.heap.size w b off m A N C Z A2 N2 C2 Ws) :
    Calls Try.prog 7 #[.slice a m c] w fun e w' => e = .returned (.bool true) ∧ Below w.heap.size w w' := by
  go_enter Try.func7, Try.ntmps7
  go_wp2_with fail
  refine (awake_any w).mono ?_
  rintro e w1 ⟨rfl, hb1⟩
  obtain ⟨wQ, hwQ⟩ : ∃ wQ, wQ = w1.alloc (.cells #[.int .i64 0, .int .i64 0, .bool false, .slice none 0 0, .slice none 0 0, .slice none 0 0, .int .i64 0, .slice none 0 0, .slice none 0 0] 67) := ⟨_, rfl⟩
  obtain ⟨wL, hwL⟩ : ∃ wL, wL = wQ.alloc (.cells #[.slice none 0 0, .int .i64 0] 48) := ⟨_, rfl⟩
  obtain ⟨wS, hwS⟩ : ∃ wS, wS = wL.alloc (.cells #[.slice none 0 0] 70) := ⟨_, rfl⟩
  have szQ : wQ.heap.size = w1.heap.size + 1 := by rw [hwQ]; simp
  have szL : wL.heap.size = w1.heap.size + 1 + 1 := by rw [hwL]; simp; omega
  have szS : wS.heap.size = w1.heap.size + 1 + 1 + 1 := by rw [hwS]; simp; omega
  have zz := hb1.size
  have St0 : Hid (Stu w.heap.size (fun x => w.heap.size ≤ x) wS (w1.heap.size + 1) (w1.heap.size + 1 + 1) w1.heap.size 0 0 0) := by
    have eQ : wQ.heap[w1.heap.size]? = some (.cells #[.int .i64 0, .int .i64 0, .bool false, .slice none 0 0, .slice none 0 0, .slice none 0 0, .int .i64 0, .slice none 0 0, .slice none 0 0] 67) := by rw [hwQ]; exact alloc_own _ _
    have eL : wL.heap[w1.heap.size + 1]? = some (.cells #[.slice none 0 0, .int .i64 0] 48) := by rw [hwL, ← szQ]; exact alloc_own _ _
    have eS : wS.heap[w1.heap.size + 1 + 1]? = some (.cells #[.slice none 0 0] 70) := by rw [hwS, ← szL]; exact alloc_own _ _
    have eL' : wS.heap[w1.heap.size + 1]? = some (.cells #[.slice none 0 0, .int .i64 0] 48) := by rw [hwS, Below.heap_alloc _ _ _ (by omega)]; exact eL
    have eQ' : wS.heap[w1.heap.size]? = some (.cells #[.int .i64 0, .int .i64 0, .bool false, .slice none 0 0, .slice none 0 0, .slice none 0 0, .int .i64 0, .slice none 0 0, .slice none 0 0] 67) := by rw [hwS, Below.heap_alloc _ _ _ (by omega), hwL, Below.heap_alloc _ _ _ (by omega)]; exact eQ
    refine ⟨.slice none 0 0, .slice none 0 0, _, ⟨⟨0, eL'⟩, .inl rfl⟩, ⟨eS, .inl rfl⟩, InS.new eQ' zz, ?_, ?_, ?_, ?_⟩
    · rintro x (hx | hx) (hy | hy)
      · omega
      · cases hy
      · cases hx
      · cases hx
    · intro x hx hk
      by_cases e : x = w1.heap.size
      · exact ⟨by omega, by omega⟩
      · exact absurd (if_neg e) hk
    · rintro x (hx | hx)
      · exact ⟨if_neg (by omega), by omega, by omega⟩
      · cases hx
    · rintro x (hx | hx)
      · exact ⟨if_neg (by omega), by omega, by omega⟩
      · cases hx
  have Bl0 : Hid (Below w.heap.size w wS) := by
    show Below _ _ _
    rw [hwS, hwL, hwQ]
    exact ((hb1.alloc zz _).alloc (by simp; omega) _).alloc (by simp; omega) _
  clear hb1
  go_wp2_with fail
  rw [← hwQ, ← hwL, ← hwS]
  generalize w1.heap.size = b at *
  have Hh := hid h
  clear h hwQ hwL hwS szQ szL szS zz
  go_loopw [6] (fun i wt => ∃ k cnt tot : Nat, k ≤ m ∧ i = .int .i64 (k : Int) ∧ cnt ≤ 5 * k ∧ tot ≤ 5242880 * k ∧ Stu w.heap.size (fun x => w.heap.size ≤ x) wt (b + 1) (b + 1 + 1) b cnt tot cnt ∧ Below w.heap.size w wt) (fun i _ => m - (intOf i).toNat)
  case atStart => exact ⟨0, 0, 0, by omega, rfl, by omega, by omega, St0.out, Bl0.out⟩
  case round =>
    clear St0 Bl0
    obtain ⟨k, cnt, tot, hk, rfl, hcnt, htot, hSt, hbt⟩ := hrel
    by_cases hkm : k < m
    · obtain ⟨bb, off, A, N, C, Z, A2, N2, C2, Ws, rfl, hC⟩ := Hh.out.resolve_left (by omega)
      have q0 := (hbt.cell (p := ⟨bb, off + k * 2, none⟩) (by exact hC.lt)).trans (hC.c0 k hkm)
      have q1 := (hbt.cell (p := ⟨bb, off + k * 2 + 1, none⟩) (by exact hC.lt)).trans (hC.c1 k hkm)
      have Hnil := hid (hC.nil k hkm)
      have Hnil2 := hid (hC.nil2 k hkm)
      have hcap := hC.cap k hkm
      have hbig := hC.big k hkm
      have hbig2 := hC.big2 k hkm
      have HRd := hid ((hC.rd k hkm).below hbt)
      have HRd2 := hid ((hC.rd2 k hkm).below hbt)
      have Hlt : Hid (bb < wr.heap.size) := Nat.lt_of_lt_of_le hC.lt hbt.size
      have Hbt := hid hbt
      have HSt := hid hSt.cut
      clear hbt hSt hC Hh
      generalize A k = aa at *
      generalize N k = nn at *
      generalize C k = cc at *
      generalize Z k = zz at *
      generalize A2 k = a2 at *
      generalize N2 k = mm at *
      generalize C2 k = c2 at *
      generalize Ws k = ww at *
      go_wp2_with fail
      generalize hwa : wr.alloc (.cells #[.slice aa nn cc, .slice a2 mm c2] 72) = wa at *
      have hsa : wa.heap.size = wr.heap.size + 1 := by rw [← hwa]; simp
      have p0 : wa.cell? ⟨wr.heap.size, 0, none⟩ = some (.slice aa nn cc) := by rw [← hwa]; exact World.cell?_alloc_at _ _ _ _ rfl
      have p1 : wa.cell? ⟨wr.heap.size, 1, none⟩ = some (.slice a2 mm c2) := by rw [← hwa]; exact World.cell?_alloc_at _ _ _ _ rfl
      have K9 : Hid (Rdk ((wa.alloc (.cells #[.slice aa nn cc, .slice a2 mm c2] 72)).alloc (.cells #[.slice aa nn cc, .slice a2 mm c2] 72)).drew wr.heap.size (.slice aa nn cc) (.slice a2 mm c2) ∧
          Rdk ((wa.alloc (.cells #[.slice aa nn cc, .slice a2 mm c2] 72)).alloc (.cells #[.slice aa nn cc, .slice a2 mm c2] 72)).drew (wr.heap.size + 1) (.slice aa nn cc) (.slice a2 mm c2) ∧
          Rdk ((wa.alloc (.cells #[.slice aa nn cc, .slice a2 mm c2] 72)).alloc (.cells #[.slice aa nn cc, .slice a2 mm c2] 72)).drew (wr.heap.size + 1 + 1) (.slice aa nn cc) (.slice a2 mm c2) ∧
          But (fun _ => False) wr ((wa.alloc (.cells #[.slice aa nn cc, .slice a2 mm c2] 72)).alloc (.cells #[.slice aa nn cc, .slice a2 mm c2] 72)).drew) := by
        rw [← hwa]
        obtain ⟨e1, e2, e3⟩ := three_blocks wr (.cells #[.slice aa nn cc, .slice a2 mm c2] 72)
        exact ⟨e1, e2, e3, ((((But.refl _ _).alloc _).alloc _).alloc _).drew⟩
      have Hwa := hid hwa
      clear hwa
      go_cut [8, 9] (fun s8 s9 wx => ∃ px py : Nat, s8 = .pointer (some ⟨px, 0, none⟩) ∧ s9 = .pointer (some ⟨py, 0, none⟩) ∧ (px ≠ py ∧ wr.heap.size < px ∧ wr.heap.size < py) ∧
          (Rdk wx wr.heap.size (.slice aa nn cc) (.slice a2 mm c2) ∧ Rdk wx px (.slice aa nn cc) (.slice a2 mm c2) ∧ Rdk wx py (.slice aa nn cc) (.slice a2 mm c2) ∧ But (fun _ => False) wr wx))
      case first =>
        go_region
        · go_wp2_with fail
          go_meet
          obtain ⟨kc, kx, ky, hu⟩ := K9.out
          exact ⟨wr.heap.size + 1, wr.heap.size + 1 + 1, rfl, rfl, by omega, kc, kx, ky, hu⟩
        · go_wp2_with fail
          go_meet
          obtain ⟨kc, ky, kx, hu⟩ := K9.out
          exact ⟨wr.heap.size + 1 + 1, wr.heap.size + 1, rfl, rfl, by omega, kc, kx, ky, hu⟩
      case rest =>
        obtain ⟨px, py, rfl, rfl, hd, kc, kx, ky, hu⟩ := hcut
        have HD := hid hd
        clear p0 p1 Hwa hsa K9
        have hBw : w.heap.size ≤ wr.heap.size := Hbt.out.size
        obtain ⟨d1, d4, d5⟩ := hd
        have F0 := hid (Thr.start (W0 := w) HSt.out Hbt.out hBw HRd.out HRd2.out (Nat.le_refl _) (Nat.le_of_lt d4) (Nat.le_of_lt d5) kc kx ky hu)
        have c0 := kc.cells.1
        have hYlt : Hid (∀ x, (w.heap.size ≤ x ∧ x < wr.heap.size) → x < wc.heap.size) := fun x hx => by have := hu.size; omega
        have HBw := hid hBw
        clear kc kx ky hu HSt HRd HRd2 hBw d1 d4 d5
        go_wp2_with fail
        refine (turned_any aa nn cc zz wc (by omega) Hnil.out F0.out.rn.rd).mono ?_
        rintro e we ⟨g, cap, rfl, hg, hO, hbe⟩
        have hcapx := Own.fits hO
        have kx := F0.out.kx.keep (hbe.block _ F0.out.kx.lt)
        have x0 := kx.cells.1
        have fx := kx.frozen 0
        have hpy := F0.out.ky.lt
        have F1 := hid (F0.out.turn (Nat.ne_of_gt HD.out.2.1) HD.out.1 hYlt.out hg hO (isB_turn F0.out.rb.2.1) hbe (by have := HBw.out; have := HD.out.2.1; omega))
        have hgy : Hid (g ≠ py) := fun e => by omega
        have hYlt1 : Hid (∀ x, (w.heap.size ≤ x ∧ x < wr.heap.size) → x < (we.setCell ⟨px, 0, none⟩ (.slice (some ⟨g, 0, none⟩) nn cap)).heap.size) := fun x hx => by have h1 := hYlt.out x hx; have h2 := hbe.size; simp [World.setCell]; omega
        have m1 := F1.out.kc.cells.2
        clear kx hO hbe hg F0 c0 hYlt hpy
        go_wp2_with fail
        clear m1 x0 fx
        generalize we.setCell ⟨px, 0, none⟩ (.slice (some ⟨g, 0, none⟩) nn cap) = wf at *
        refine (round_any a2 mm c2 ww wf (by omega) F1.out.rn2.rd).mono ?_
        rintro e wg ⟨g2, cap2, rfl, hg2, hO2, hbg⟩
        have ky := F1.out.ky.keep (hbg.block _ F1.out.ky.lt)
        have y1 := ky.cells.2
        have fy := ky.frozen 1
        have F2 := hid (F1.out.round (Nat.ne_of_gt HD.out.2.2) (Ne.symm HD.out.1) hYlt1.out hg2 hO2 hbg (by have := HBw.out; have := HD.out.2.2; omega) (fun b' off' e _ => by cases e; exact hgy.out))
        have m0 := F2.out.kc.cells.1
        have m1 := F2.out.kc.cells.2
        clear ky hO2 hbg hg2 F1 hYlt1
        go_wp2_with fail
        clear m0 m1 y1 fy
        generalize wg.setCell ⟨py, 1, none⟩ (.slice (some ⟨g2, 0, none⟩) mm cap2) = wh at *
        refine (unpacks_any w.heap.size _ wh (b + 1) (b + 1 + 1) b (cnt) tot (cnt) aa nn cc zz a2 mm c2 (ww) F2.out.bb (by omega) (by omega) (by omega) hbig hbig2 hcap Hnil2.out F2.out.sta F2.out.rn F2.out.rn2).mono ?_
        rintro e v1 ⟨rfl, t1, ht1, hs1, hb1⟩
        have G1 := hid (F2.out.step hs1 hb1)
        have m0 := G1.out.kx.cells.1
        have m1 := G1.out.kx.cells.2
        clear hs1 hb1 F2
        go_wp2_with fail
        clear m0 m1
        refine (unpacks_any w.heap.size _ v1 (b + 1) (b + 1 + 1) b (cnt + 1) t1 (cnt + 1) (some ⟨g, 0, none⟩) nn cap (turn zz) a2 mm c2 (ww) G1.out.bb (by omega) (by omega) (by omega) hbig hbig2 hcapx Hnil2.out G1.out.sta G1.out.rx G1.out.rn2).mono ?_
        rintro e v2 ⟨rfl, t2, ht2, hs2, hb2⟩
        have G2 := hid (G1.out.step hs2 hb2)
        have m0 := G2.out.kc.cells.1
        have m1 := G2.out.kc.cells.2
        clear hs2 hb2 G1
        go_wp2_with fail
        clear m0 m1
        refine (unpacks_any w.heap.size _ v2 (b + 1) (b + 1 + 1) b (cnt + 1 + 1) t2 (cnt + 1 + 1) aa nn cc zz a2 mm c2 (ww) G2.out.bb (by omega) (by omega) (by omega) hbig hbig2 hcap Hnil2.out G2.out.sta G2.out.rn G2.out.rn2).mono ?_
        rintro e v3 ⟨rfl, t3, ht3, hs3, hb3⟩
        have G3 := hid (G2.out.step hs3 hb3)
        have m0 := G3.out.ky.cells.1
        have m1 := G3.out.ky.cells.2
        clear hs3 hb3 G2
        go_wp2_with fail
        clear m0 m1
        refine (unpacks_any w.heap.size _ v3 (b + 1) (b + 1 + 1) b (cnt + 1 + 1 + 1) t3 (cnt + 1 + 1 + 1) aa nn cc zz (some ⟨g2, 0, none⟩) mm cap2 (ww.reverse) G3.out.bb (by omega) (by omega) (by omega) hbig hbig2 hcap (fun h => by cases h) G3.out.sta G3.out.rn G3.out.ry).mono ?_
        rintro e v4 ⟨rfl, t4, ht4, hs4, hb4⟩
        have G4 := hid (G3.out.step hs4 hb4)
        have m0 := G4.out.kc.cells.1
        have m1 := G4.out.kc.cells.2
        clear hs4 hb4 G3
        go_wp2_with fail
        clear m0 m1
        refine (unpacks_any w.heap.size _ v4 (b + 1) (b + 1 + 1) b (cnt + 1 + 1 + 1 + 1) t4 (cnt + 1 + 1 + 1 + 1) aa nn cc zz a2 mm c2 (ww) G4.out.bb (by omega) (by omega) (by omega) hbig hbig2 hcap Hnil2.out G4.out.sta G4.out.rn G4.out.rn2).mono ?_
        rintro e v5 ⟨rfl, t5, ht5, hs5, hb5⟩
        have G5 := hid (G4.out.step hs5 hb5)
        clear hs5 hb5 G4
        go_wp2_with fail
        go_roundw
        case rel => exact ⟨k + 1, cnt + 1 + 1 + 1 + 1 + 1, t5, by omega, by go_num, by omega, by omega, G5.out.sta.cut.mono (fun x hx => hx.1), G5.out.bl⟩
        case measure => simp [intOf]; omega
    · obtain rfl : k = m := by omega
      obtain ⟨bv, sv, κ, s1, s2, s3, s4, s5, s6, s7⟩ := hSt
      have HS := hid (idone_any w.heap.size κ wr b cnt tot cnt (by omega) (by omega) s3)
      have HX : Hid (∀ x, x < wr.heap.size → κ x ≤ 90 → w.heap.size ≤ x) := fun x hx hk => (s5 x hx (by omega)).2
      have Hbt := hid hbt
      clear s1 s2 s3 s4 s5 s6 s7 hbt
      go_wp2_with fail
      refine Calls.mono HS.out ?_
      rintro e w2 ⟨rfl, hb2⟩
      have hb3 := hid (Hbt.out.trans (hb2.below Hbt.out.size (fun x hx h => by have := HX.out x (Nat.lt_of_lt_of_le hx Hbt.out.size) h; omega)))
      clear hb2
      go_wp2
      go_ret
      exact ⟨rfl, hb3.out⟩

end Go.Proofs.Yteaebdonnicbkaa
