/-
  FieldStamps: the law's walk (function 8).
-/
import Derived.Test.YteaebdonnicbkaaStV
import Derived.Deep.DeepCutAuto
namespace Go.Proofs.Yteaebdonnicbkaa
open Go.RowKit

set_option maxRecDepth 100000 in
set_option maxHeartbeats 4000000 in
theorem stamps_walk (a : Option Addr) (m c : Nat) (w : World) (hm : m ≤ 262144) (h : m = 0 ∨ ∃ b off K S A N C Z, a = some ⟨b, off, none⟩ ∧ Cas w.heap.size w b off m K S A N C Z) :
    Calls Try.prog 8 #[.slice a m c] w fun e w' => e = .returned (.bool true) ∧ Below w.heap.size w w' := by
  go_enter Try.func8, Try.ntmps8
  go_wp2_with fail
  refine (awake_any w).mono ?_
  rintro e w1 ⟨rfl, hb1⟩
  obtain ⟨wB, hwB⟩ : ∃ wB, wB = w1.alloc (.cells #[.int .i64 0, .int .i64 0, .bool false, .slice none 0 0, .slice none 0 0, .slice none 0 0, .slice none 0 0, .slice none 0 0] 55) := ⟨_, rfl⟩
  obtain ⟨wL, hwL⟩ : ∃ wL, wL = wB.alloc (.cells #[.slice none 0 0, .int .i64 0] 48) := ⟨_, rfl⟩
  have szB : wB.heap.size = w1.heap.size + 1 := by rw [hwB]; simp
  have szL : wL.heap.size = w1.heap.size + 2 := by rw [hwL]; simp; omega
  have zz := hb1.size
  have St0 : Hid (Sta w.heap.size (fun x => w.heap.size ≤ x) wL (w1.heap.size + 1) w1.heap.size 0 0 0) := by
    have hB0 : Bok w.heap.size (fun x => x = w1.heap.size) wB w1.heap.size 0 0 0 := Bok.new (by rw [hwB]; show (w1.heap.push _)[w1.heap.size]? = _; simp) zz
    have hLn : Lnd wL (w1.heap.size + 1) (.slice none 0 0) 0 := by
      unfold Lnd
      rw [hwL, ← szB]
      show (wB.heap.push _)[wB.heap.size]? = _
      simp
    refine ⟨.slice none 0 0, fun x => x = w1.heap.size, ⟨⟨0, hLn⟩, .inl rfl⟩, ?_, ?_, ?_, ?_⟩
    · refine hB0.but (Y := fun _ => False) ?_ (fun _ _ _ h => h)
      rw [hwL]
      exact (But.refl _ _).alloc _
    · rintro x (hx | hx) e
      · omega
      · cases hx
    · intro x hx; exact ⟨by omega, by omega, by omega⟩
    · rintro x (hx | hx)
      · exact ⟨by omega, by omega⟩
      · cases hx
  have Bl0 : Hid (Below w.heap.size w wL) := by
    show Below _ _ _
    rw [hwL, hwB]
    exact (hb1.alloc zz _).alloc (by simp; omega) _
  clear hb1
  go_wp2_with fail
  rw [← hwB, ← hwL]
  generalize w1.heap.size = b at *
  have Hh := hid h
  clear h hwB hwL szB szL zz
  go_loopw [5] (fun i wt => ∃ k cnt tot nK : Nat, k ≤ m ∧ i = .int .i64 (k : Int) ∧ cnt ≤ 6 * k ∧ tot ≤ 3072 * k ∧ nK ≤ 90 * k ∧ Sta w.heap.size (fun x => w.heap.size ≤ x) wt (b + 1) b cnt tot nK ∧ Below w.heap.size w wt) (fun i _ => m - (intOf i).toNat)
  case atStart => exact ⟨0, 0, 0, 0, by omega, rfl, by omega, by omega, by omega, St0.out, Bl0.out⟩
  case round =>
    clear St0 Bl0
    obtain ⟨k, cnt, tot, nK, hk, rfl, hcnt, htot, hnK, hSt, hbt⟩ := hrel
    by_cases hkm : k < m
    · obtain ⟨bb, off, K, S, A, N, C, Z, rfl, hC⟩ := Hh.out.resolve_left (by omega)
      have q0 := (hbt.cell (p := ⟨bb, off + k * 3, none⟩) (by exact hC.lt)).trans (hC.c0 k hkm)
      have q1 := (hbt.cell (p := ⟨bb, off + k * 3 + 1, none⟩) (by exact hC.lt)).trans (hC.c1 k hkm)
      have q2 := (hbt.cell (p := ⟨bb, off + k * 3 + 2, none⟩) (by exact hC.lt)).trans (hC.c2 k hkm)
      have Hnil := hid (hC.nil k hkm)
      have hbig := hC.big k hkm
      have HRd := hid ((hC.rd k hkm).below hbt)
      have Hlt : Hid (bb < wr.heap.size) := Nat.lt_of_lt_of_le hC.lt hbt.size
      have Hbt := hid hbt
      have HSt := hid hSt.cut
      clear hbt hSt hC Hh
      generalize K k = kk at *
      generalize S k = ss at *
      generalize A k = aa at *
      generalize N k = nn at *
      generalize C k = cc at *
      generalize Z k = zz at *
      go_wp2_with fail
      generalize hwa : wr.alloc (.cells #[.int .i64 kk, .int .i64 ss, .slice aa nn cc] 77) = wa at *
      have hsa : wa.heap.size = wr.heap.size + 1 := by rw [← hwa]; simp
      have p0 : wa.cell? ⟨wr.heap.size, 0, none⟩ = some (.int .i64 kk) := by rw [← hwa]; exact World.cell?_alloc_at _ _ _ _ rfl
      have p1 : wa.cell? ⟨wr.heap.size, 1, none⟩ = some (.int .i64 ss) := by rw [← hwa]; exact World.cell?_alloc_at _ _ _ _ rfl
      have p2 : wa.cell? ⟨wr.heap.size, 2, none⟩ = some (.slice aa nn cc) := by rw [← hwa]; exact World.cell?_alloc_at _ _ _ _ rfl
      have K9 : Hid (Stk (((wa.alloc (.cells #[.int .i64 kk, .int .i64 ss, .slice aa nn cc] 77)).alloc (.cells #[.int .i64 kk, .int .i64 ss, .slice aa nn cc] 77)).alloc (.cells #[.int .i64 kk, .int .i64 ss, .slice aa nn cc] 77)).drew wr.heap.size kk ss (.slice aa nn cc) ∧
          Stk (((wa.alloc (.cells #[.int .i64 kk, .int .i64 ss, .slice aa nn cc] 77)).alloc (.cells #[.int .i64 kk, .int .i64 ss, .slice aa nn cc] 77)).alloc (.cells #[.int .i64 kk, .int .i64 ss, .slice aa nn cc] 77)).drew (wr.heap.size + 1) kk ss (.slice aa nn cc) ∧
          Stk (((wa.alloc (.cells #[.int .i64 kk, .int .i64 ss, .slice aa nn cc] 77)).alloc (.cells #[.int .i64 kk, .int .i64 ss, .slice aa nn cc] 77)).alloc (.cells #[.int .i64 kk, .int .i64 ss, .slice aa nn cc] 77)).drew (wr.heap.size + 1 + 1) kk ss (.slice aa nn cc) ∧
          Stk (((wa.alloc (.cells #[.int .i64 kk, .int .i64 ss, .slice aa nn cc] 77)).alloc (.cells #[.int .i64 kk, .int .i64 ss, .slice aa nn cc] 77)).alloc (.cells #[.int .i64 kk, .int .i64 ss, .slice aa nn cc] 77)).drew (wr.heap.size + 1 + 1 + 1) kk ss (.slice aa nn cc) ∧
          But (fun _ => False) wr (((wa.alloc (.cells #[.int .i64 kk, .int .i64 ss, .slice aa nn cc] 77)).alloc (.cells #[.int .i64 kk, .int .i64 ss, .slice aa nn cc] 77)).alloc (.cells #[.int .i64 kk, .int .i64 ss, .slice aa nn cc] 77)).drew) := by
        rw [← hwa]
        obtain ⟨e1, e2, e3, e4⟩ := four_blocks wr (.cells #[.int .i64 kk, .int .i64 ss, .slice aa nn cc] 77)
        exact ⟨e1, e2, e3, e4, (((((But.refl _ _).alloc _).alloc _).alloc _).alloc _).drew⟩
      have Hwa := hid hwa
      clear hwa
      go_cut [7, 8, 9] (fun s7 s8 s9 wx => ∃ px py pz : Nat, s7 = .pointer (some ⟨px, 0, none⟩) ∧ s8 = .pointer (some ⟨py, 0, none⟩) ∧ s9 = .pointer (some ⟨pz, 0, none⟩) ∧ (px ≠ py ∧ px ≠ pz ∧ py ≠ pz ∧ wr.heap.size < px ∧ wr.heap.size < py ∧ wr.heap.size < pz) ∧
          (Stk wx wr.heap.size kk ss (.slice aa nn cc) ∧ Stk wx px kk ss (.slice aa nn cc) ∧ Stk wx py kk ss (.slice aa nn cc) ∧ Stk wx pz kk ss (.slice aa nn cc) ∧ But (fun _ => False) wr wx))
      case first =>
        go_region
        · go_wp2_with fail
          go_meet
          obtain ⟨kc, kx, ky, kz, hu⟩ := K9.out
          exact ⟨wr.heap.size + 1, wr.heap.size + 1 + 1, wr.heap.size + 1 + 1 + 1, rfl, rfl, rfl, by omega, kc, kx, ky, kz, hu⟩
        · go_wp2_with fail
          go_meet
          obtain ⟨kc, kx, kz, ky, hu⟩ := K9.out
          exact ⟨wr.heap.size + 1, wr.heap.size + 1 + 1 + 1, wr.heap.size + 1 + 1, rfl, rfl, rfl, by omega, kc, kx, ky, kz, hu⟩
        · go_wp2_with fail
          go_meet
          obtain ⟨kc, ky, kx, kz, hu⟩ := K9.out
          exact ⟨wr.heap.size + 1 + 1, wr.heap.size + 1, wr.heap.size + 1 + 1 + 1, rfl, rfl, rfl, by omega, kc, kx, ky, kz, hu⟩
        · go_wp2_with fail
          go_meet
          obtain ⟨kc, ky, kz, kx, hu⟩ := K9.out
          exact ⟨wr.heap.size + 1 + 1 + 1, wr.heap.size + 1, wr.heap.size + 1 + 1, rfl, rfl, rfl, by omega, kc, kx, ky, kz, hu⟩
        · go_wp2_with fail
          go_meet
          obtain ⟨kc, kz, kx, ky, hu⟩ := K9.out
          exact ⟨wr.heap.size + 1 + 1, wr.heap.size + 1 + 1 + 1, wr.heap.size + 1, rfl, rfl, rfl, by omega, kc, kx, ky, kz, hu⟩
        · go_wp2_with fail
          go_meet
          obtain ⟨kc, kz, ky, kx, hu⟩ := K9.out
          exact ⟨wr.heap.size + 1 + 1 + 1, wr.heap.size + 1 + 1, wr.heap.size + 1, rfl, rfl, rfl, by omega, kc, kx, ky, kz, hu⟩
      case rest =>
        obtain ⟨px, py, pz, rfl, rfl, rfl, hd, kc, kx, ky, kz, hu⟩ := hcut
        have HD := hid hd
        clear hd p0 p1 p2 Hwa hsa K9
        have hBw : w.heap.size ≤ wr.heap.size := Hbt.out.size
        obtain ⟨d1, d2, d3, d4, d5, d6⟩ := HD.out
        have F0 := hid (Four.start (W0 := w) (bits .xor .i64 kk 1) (bits .xor .i64 ss 1) HSt.out Hbt.out hBw HRd.out (Nat.le_refl _) (Nat.le_of_lt d4) (Nat.le_of_lt d5) (Nat.le_of_lt d6) (Nat.ne_of_lt d5) (Nat.ne_of_lt d6) d1 d2 d3 kc kx ky kz hu)
        have c0 := kc.cells.1
        have y0 := ky.cells.1
        have fy := ky.frozen 0
        have c1 := (kc.off (q := py) (j := 0) (Nat.ne_of_lt d5) (.int .i64 (bits .xor .i64 kk 1))).cells.2.1
        have z1 := (kz.off (q := py) (j := 0) (Ne.symm d3) (.int .i64 (bits .xor .i64 kk 1))).cells.2.1
        have fz := (kz.off (q := py) (j := 0) (Ne.symm d3) (.int .i64 (bits .xor .i64 kk 1))).frozen 1
        have c2 := F0.out.kc.cells.2.2
        have e0 := F0.out.kc.cells.1
        have e1 := F0.out.kc.cells.2.1
        have HP := hid (And.intro hBw (And.intro d1 (And.intro d2 d4)))
        have HS9 := hid hu.size
        clear kc kx ky kz hu HSt HRd d1 d2 d3 d4 d5 d6 HD
        by_cases h994 : 994 < nn
        · have h994' : (994 : Int) < (nn : Int) := by omega
          go_wp2_with fail
          clear c0 y0 fy c1 z1 fz c2 e0 e1
          generalize ((wc.setCell ⟨py, 0, none⟩ (.int .i64 (bits .xor .i64 kk 1))).setCell ⟨pz, 1, none⟩ (.int .i64 (bits .xor .i64 ss 1))) = wd at *
          refine (stamps_any w.heap.size _ wd (b + 1) b cnt tot nK kk ss aa nn cc zz F0.out.bb (by omega) (by omega) (by omega) hbig Hnil.out F0.out.sta F0.out.rn).mono ?_
          rintro e v1 ⟨rfl, t1, n1, ht1, hn1, hs1, hb1⟩
          have G1 := hid (F0.out.step hs1 hb1)
          have m0 := G1.out.ky.cells.1
          have m1 := G1.out.ky.cells.2.1
          have m2 := G1.out.ky.cells.2.2
          clear hs1 hb1 F0
          go_wp2_with fail
          clear m0 m1 m2
          refine (stamps_any w.heap.size _ v1 (b + 1) b (cnt + 1) t1 n1 (bits .xor .i64 kk 1) ss aa nn cc zz G1.out.bb (by omega) (by omega) (by omega) hbig Hnil.out G1.out.sta G1.out.rn).mono ?_
          rintro e v2 ⟨rfl, t2, n2, ht2, hn2, hs2, hb2⟩
          have G2 := hid (G1.out.step hs2 hb2)
          clear hs2 hb2 G1
          go_wp2_with fail
          go_roundw
          case rel => exact ⟨k + 1, cnt + 1 + 1, t2, n2, by omega, by go_num, by omega, by omega, by omega, G2.out.sta.cut.mono (fun x hx => hx.1), G2.out.bl⟩
          case measure => simp [intOf]; omega
        · have h994' : ¬ ((994 : Int) < (nn : Int)) := by omega
          go_wp2_with fail
          clear c0 y0 fy c1 z1 fz c2 e0 e1
          have hYlt : Hid (∀ x, (w.heap.size ≤ x ∧ x < wr.heap.size) → x < ((wc.setCell ⟨py, 0, none⟩ (.int .i64 (bits .xor .i64 kk 1))).setCell ⟨pz, 1, none⟩ (.int .i64 (bits .xor .i64 ss 1))).heap.size) := fun x hx => by have := HS9.out; simp [World.setCell]; omega
          generalize ((wc.setCell ⟨py, 0, none⟩ (.int .i64 (bits .xor .i64 kk 1))).setCell ⟨pz, 1, none⟩ (.int .i64 (bits .xor .i64 ss 1))) = wd at *
          refine (turned_any aa nn cc zz wd (by omega) Hnil.out F0.out.rn.rd).mono ?_
          rintro e we ⟨g, cap, rfl, hg, hO, hbe⟩
          obtain ⟨hBw, d1, d2, d4⟩ := HP.out
          have kx := F0.out.kx.keep (hbe.block _ F0.out.kx.lt)
          have x2 := kx.cells.2.2
          have fx := kx.frozen 2
          have F1 := hid (F0.out.turn (Nat.ne_of_gt d4) d1 d2 hYlt.out hg hO (isB_turn F0.out.rb.2.1) hbe (by omega))
          have m0 := F1.out.kc.cells.1
          have m1 := F1.out.kc.cells.2.1
          have m2 := F1.out.kc.cells.2.2
          clear kx hO hbe hg F0 d1 d2 d4 hBw hYlt
          go_wp2_with fail
          clear m0 m1 m2 x2 fx
          generalize we.setCell ⟨px, 2, none⟩ (.slice (some ⟨g, 0, none⟩) nn cap) = wf at *
          refine (stamps_any w.heap.size _ wf (b + 1) b cnt tot nK kk ss aa nn cc zz F1.out.bb (by omega) (by omega) (by omega) hbig Hnil.out F1.out.sta F1.out.rn).mono ?_
          rintro e v1 ⟨rfl, t1, n1, ht1, hn1, hs1, hb1⟩
          have G1 := hid (F1.out.step hs1 hb1)
          have m0 := G1.out.kx.cells.1
          have m1 := G1.out.kx.cells.2.1
          have m2 := G1.out.kx.cells.2.2
          clear hs1 hb1 F1
          go_wp2_with fail
          clear m0 m1 m2
          refine (stamps_any w.heap.size _ v1 (b + 1) b (cnt + 1) t1 n1 kk ss (some ⟨g, 0, none⟩) nn cap (turn zz) G1.out.bb (by omega) (by omega) (by omega) hbig (fun h => by cases h) G1.out.sta G1.out.rx).mono ?_
          rintro e v2 ⟨rfl, t2, n2, ht2, hn2, hs2, hb2⟩
          have G2 := hid (G1.out.step hs2 hb2)
          have m0 := G2.out.kc.cells.1
          have m1 := G2.out.kc.cells.2.1
          have m2 := G2.out.kc.cells.2.2
          clear hs2 hb2 G1
          go_wp2_with fail
          clear m0 m1 m2
          refine (stamps_any w.heap.size _ v2 (b + 1) b (cnt + 1 + 1) t2 n2 kk ss aa nn cc zz G2.out.bb (by omega) (by omega) (by omega) hbig Hnil.out G2.out.sta G2.out.rn).mono ?_
          rintro e v3 ⟨rfl, t3, n3, ht3, hn3, hs3, hb3⟩
          have G3 := hid (G2.out.step hs3 hb3)
          have m0 := G3.out.ky.cells.1
          have m1 := G3.out.ky.cells.2.1
          have m2 := G3.out.ky.cells.2.2
          clear hs3 hb3 G2
          go_wp2_with fail
          clear m0 m1 m2
          refine (stamps_any w.heap.size _ v3 (b + 1) b (cnt + 1 + 1 + 1) t3 n3 (bits .xor .i64 kk 1) ss aa nn cc zz G3.out.bb (by omega) (by omega) (by omega) hbig Hnil.out G3.out.sta G3.out.rn).mono ?_
          rintro e v4 ⟨rfl, t4, n4, ht4, hn4, hs4, hb4⟩
          have G4 := hid (G3.out.step hs4 hb4)
          have m0 := G4.out.kz.cells.1
          have m1 := G4.out.kz.cells.2.1
          have m2 := G4.out.kz.cells.2.2
          clear hs4 hb4 G3
          go_wp2_with fail
          clear m0 m1 m2
          refine (stamps_any w.heap.size _ v4 (b + 1) b (cnt + 1 + 1 + 1 + 1) t4 n4 kk (bits .xor .i64 ss 1) aa nn cc zz G4.out.bb (by omega) (by omega) (by omega) hbig Hnil.out G4.out.sta G4.out.rn).mono ?_
          rintro e v5 ⟨rfl, t5, n5, ht5, hn5, hs5, hb5⟩
          have G5 := hid (G4.out.step hs5 hb5)
          have m0 := G5.out.kc.cells.1
          have m1 := G5.out.kc.cells.2.1
          have m2 := G5.out.kc.cells.2.2
          clear hs5 hb5 G4
          go_wp2_with fail
          clear m0 m1 m2
          refine (stamps_any w.heap.size _ v5 (b + 1) b (cnt + 1 + 1 + 1 + 1 + 1) t5 n5 kk ss aa nn cc zz G5.out.bb (by omega) (by omega) (by omega) hbig Hnil.out G5.out.sta G5.out.rn).mono ?_
          rintro e v6 ⟨rfl, t6, n6, ht6, hn6, hs6, hb6⟩
          have G6 := hid (G5.out.step hs6 hb6)
          clear hs6 hb6 G5
          go_wp2_with fail
          go_roundw
          case rel => exact ⟨k + 1, cnt + 1 + 1 + 1 + 1 + 1 + 1, t6, n6, by omega, by go_num, by omega, by omega, by omega, G6.out.sta.cut.mono (fun x hx => hx.1), G6.out.bl⟩
          case measure => simp [intOf]; omega
    · obtain rfl : k = m := by omega
      obtain ⟨bv, X, s1, s2, s3, s4, s5⟩ := hSt
      have HS := hid (settle_any w.heap.size X wr b cnt tot nK hbt.size (by omega) (by omega) (by omega) s2)
      have HX : Hid (∀ x, X x → w.heap.size ≤ x) := fun x hx => (s4 x hx).2.1
      have Hbt := hid hbt
      clear s1 s2 s3 s4 s5 hbt
      go_wp2_with fail
      refine Calls.mono HS.out ?_
      rintro e w2 ⟨rfl, hb2⟩
      have hb3 := hid (Hbt.out.trans (hb2.below Hbt.out.size (fun x hx h => by have := HX.out x h; omega)))
      clear hb2
      go_wp2
      go_ret
      exact ⟨rfl, hb3.out⟩

end Go.Proofs.Yteaebdonnicbkaa
