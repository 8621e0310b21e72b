/-
  syntax: mayBe, one depth.
-/
import Derived.Test.YtbllaacbeagljaaGreatDoorSy8
namespace Go.Proofs.YtbllaacbeagljaaGreatDoor
open Go.RowKit

set_option maxRecDepth 100000 in
set_option maxHeartbeats 8000000 in
theorem mayBe_step (f : Nat) (hf : f < 64) (ih : MbS f) : MbS (f + 1) := by
  intro lb d r wi t D a l c w hL hlb hG hK hB hl
  obtain ⟨rfl, hlm⟩ := hK.len
  obtain ⟨PO, hPO⟩ : ∃ PO, PO = MbQ lb d (mbN (f + 1) r wi t) w := ⟨_, rfl⟩
  rw [← hPO]
  have HPO := hid hPO
  clear hPO
  obtain ⟨dp, hdp⟩ : ∃ dp : Int, dp = 65 - ((f + 1 : Nat) : Int) := ⟨_, rfl⟩
  rw [← hdp]
  have hdp1 : ¬ 64 < dp := by omega
  have hdp1' : dp ≤ 64 := by omega
  have hdp0 : 0 < dp := by omega
  have HD := hid hdp
  have HIH := hid ih
  have HT1 := fun u => hid (takes_any r t.k t.n t.at_ t.tx a t.kids.length c u hB hl)
  have HT2 := fun u => hid (textMayBe_any t.k t.n t.at_ t.tx a t.kids.length c u hB hl)
  have HT3 := fun u => hid (number_any t.k t.n t.at_ (strOfNums t.tx) a t.kids.length c u)
  obtain ⟨W1, hW1⟩ : ∃ W1, W1 = (w.alloc (.cells (ncs t.k (strOfNums t.tx) t.n t.at_ a t.kids.length c) 25)).alloc (.cells #[.int .i64 r, .int .i64 dp, .bool wi] 144) := ⟨_, rfl⟩
  obtain ⟨b, hb⟩ : ∃ b, b = w.heap.size := ⟨_, rfl⟩
  have bl1 : Below w.heap.size w W1 := by rw [hW1]; exact below2 _ _ _
  have cs1 : Cs W1 b 25 (ncs t.k (strOfNums t.tx) t.n t.at_ a t.kids.length c) := by rw [hW1, hb]; exact heap2 _ _ _
  have cs2 : Cs W1 (b + 1) 144 #[.int .i64 r, .int .i64 dp, .bool wi] := by rw [hW1, hb]; simpa using Cs.new (w.alloc (.cells (ncs t.k (strOfNums t.tx) t.n t.at_ a t.kids.length c) 25)) 144 #[.int .i64 r, .int .i64 dp, .bool wi]
  have sz1 : W1.heap.size = b + 2 := by rw [hW1, hb]; simp
  have H101 := hid (placeKids_any r dp t.k wi W1 (hG.next bl1))
  have HW1 := hid hW1
  have Hb := hid hb
  have HL := hid hL
  have HG := hid hG
  have HK := hid hK
  have BL1 := hid bl1
  have HC1 := hid cs1
  have HC2 := hid cs2
  have HS1 := hid sz1
  have hq3 := (kdP_len wi t.k).1
  have HONE : Hid (oneB f r wi t = (takesB r t.k t.tx && textB t.k t.tx && numB t.k t.n && cntB (kdP wi t.k) t.kids.length && (f == 0 || partsB t.kids))) := hid rfl
  have HPOS := fun h => hid (kdP_pos (wi := wi) (k := t.k) (n := t.kids.length) h)
  have HMB : Hid (oneB f r wi t = true → mbN (f + 1) r wi t = mbAll (fun i s => mbN f (rolAt (kdP wi t.k) i) (wi || t.k == 12) s) 0 t.kids) := fun h => by show (if oneB f r wi t = true then _ else _) = _; rw [if_pos h]
  have hlbw : lb < b := by rw [hb]; exact hL.lt
  have HBt := hid hB
  clear hL hG hK bl1 cs1 cs2 sz1 hW1 hb hdp ih hB hl
  obtain ⟨q, hq⟩ : ∃ q, q = kdP wi t.k := ⟨_, rfl⟩
  rw [← hq] at HONE hq3 HMB
  have HT4 := fun (a' : Option Addr) u => hid (kidsMay_any q a' t.kids.length u)
  have HQ := hid hq
  have HT5 := fun (w0 : World) (h : KR (fun x => x = lb) w0 D a t.kids.length t.kids) => hid (parts_any t a t.kids.length c w0 h)
  generalize takesB r t.k t.tx = t1 at *
  generalize textB t.k t.tx = t2 at *
  generalize numB t.k t.n = t3 at *
  generalize ht4 : cntB q t.kids.length = t4 at *
  generalize ht5 : partsB t.kids = t5 at *
  have HTF := hid (fun (h : oneB f r wi t = false) w' (hb : Below w.heap.size w w') => mb_fail h HL.out hb)
  rw [← HPO.out] at HTF
  obtain ⟨k, tx, n, at_, ks⟩ := t
  simp only at *
  generalize strOfNums tx = S at *
  go_enter Tryz.func71, Tryz.ntmps71
  go_wp2_with fail
  rw [← HW1.out, ← Hb.out]
  refine Calls.mono H101.out ?_
  rintro e w2 ⟨⟨v, rfl, a7, rfl, hrow⟩, hb2⟩
  rw [← HQ.out] at hrow ⊢
  have cs1 := HC1.out.next hb2
  have cs2 := HC2.out.next hb2
  have lt1 := cs1.lt
  have lt2 := cs2.lt
  obtain ⟨x20, x21, x22, x23, x24⟩ := cs1.five
  obtain ⟨y20, y21, y22⟩ := cs2.three
  obtain ⟨b7, hb7⟩ : ∃ b7, b7 = w2.heap.size := ⟨_, rfl⟩
  obtain ⟨W3, hW3⟩ : ∃ W3, W3 = w2.alloc (.cells #[.slice a7 q.1.length q.1.length, .int .i64 q.2.1, .bool q.2.2] 189) := ⟨_, rfl⟩
  have bl3 : Below w2.heap.size w2 W3 := by rw [hW3]; exact below1 _ _
  have BX3 : Hid (Bx W3 b b7 (ncs k S n at_ a ks.length c) #[.int .i64 r, .int .i64 dp, .bool wi] #[.slice a7 q.1.length q.1.length, .int .i64 q.2.1, .bool q.2.2]) := hid ⟨cs1.next bl3, cs2.next bl3, by rw [hW3, hb7]; exact Cs.new _ _ _⟩
  have bl02 := BL1.out.trans (hb2.mono BL1.out.size)
  have BL3 := hid (bl02.trans (bl3.mono bl02.size))
  have HKD : Hid (Kd (b + 2) W3 (.agg #[.slice a7 q.1.length q.1.length, .int .i64 q.2.1, .bool q.2.2]) q) := by
    have : Kd W1.heap.size w2 (.agg #[.slice a7 q.1.length q.1.length, .int .i64 q.2.1, .bool q.2.2]) q := ⟨a7, rfl, hrow⟩
    rw [HS1.out] at this
    exact this.next bl3
  have HW3 := hid hW3
  have HB7 := hid hb7
  have hlb2 : ¬ lb = b7 := by omega
  clear hrow hb2 cs1 cs2 bl3 bl02 hW3 hb7 H101 HC1 HC2
  obtain ⟨rs, le, op⟩ := q
  simp only at *
  generalize hrl : rs.length = L at *
  have HT4 := HT4 a7
  by_cases h1 : t1 = false
  · subst h1
    have HF := hid (HTF.out (by rw [HONE.out]; simp))
    clear HTF HONE
    go_wp2_with fail
    rw [← HW3.out, ← HB7.out]
    go_wp2_with (first | (go_at_call 102; refine (HT1 _).out.mono ?_; rintro e w4 ⟨rfl, hb4⟩; have BX4 := hid (BX3.out.next hb4); have BL4 := hid (BL3.out.trans (hb4.mono BL3.out.size)); obtain ⟨x40, x41, x42, x43, x44⟩ := BX4.out.nd.five; obtain ⟨y40, y41, y42⟩ := BX4.out.pl.three; obtain ⟨z40, z41, z42⟩ := BX4.out.kd.three; clear hb4))
    exact HF.out _ BL4.out
  obtain rfl : t1 = true := by simpa using h1
  clear h1
  by_cases h2 : t2 = false
  · subst h2
    have HF := hid (HTF.out (by rw [HONE.out]; simp))
    clear HTF HONE
    go_wp2_with fail
    rw [← HW3.out, ← HB7.out]
    go_wp2_with (first | (go_at_call 102; refine (HT1 _).out.mono ?_; rintro e w4 ⟨rfl, hb4⟩; have BX4 := hid (BX3.out.next hb4); have BL4 := hid (BL3.out.trans (hb4.mono BL3.out.size)); obtain ⟨x40, x41, x42, x43, x44⟩ := BX4.out.nd.five; obtain ⟨y40, y41, y42⟩ := BX4.out.pl.three; obtain ⟨z40, z41, z42⟩ := BX4.out.kd.three; clear hb4) | (go_at_call 103; refine (HT2 _).out.mono ?_; rintro e w5 ⟨rfl, hb5⟩; have BX5 := hid (BX4.out.next hb5); have BL5 := hid (BL4.out.trans (hb5.mono BL4.out.size)); obtain ⟨x50, x51, x52, x53, x54⟩ := BX5.out.nd.five; obtain ⟨y50, y51, y52⟩ := BX5.out.pl.three; obtain ⟨z50, z51, z52⟩ := BX5.out.kd.three; clear hb5))
    exact HF.out _ BL5.out
  obtain rfl : t2 = true := by simpa using h2
  clear h2
  by_cases h3 : t3 = false
  · subst h3
    have HF := hid (HTF.out (by rw [HONE.out]; simp))
    clear HTF HONE
    go_wp2_with fail
    rw [← HW3.out, ← HB7.out]
    go_wp2_with (first | (go_at_call 102; refine (HT1 _).out.mono ?_; rintro e w4 ⟨rfl, hb4⟩; have BX4 := hid (BX3.out.next hb4); have BL4 := hid (BL3.out.trans (hb4.mono BL3.out.size)); obtain ⟨x40, x41, x42, x43, x44⟩ := BX4.out.nd.five; obtain ⟨y40, y41, y42⟩ := BX4.out.pl.three; obtain ⟨z40, z41, z42⟩ := BX4.out.kd.three; clear hb4) | (go_at_call 103; refine (HT2 _).out.mono ?_; rintro e w5 ⟨rfl, hb5⟩; have BX5 := hid (BX4.out.next hb5); have BL5 := hid (BL4.out.trans (hb5.mono BL4.out.size)); obtain ⟨x50, x51, x52, x53, x54⟩ := BX5.out.nd.five; obtain ⟨y50, y51, y52⟩ := BX5.out.pl.three; obtain ⟨z50, z51, z52⟩ := BX5.out.kd.three; clear hb5) | (go_at_call 104; refine (HT3 _).out.mono ?_; rintro e w6 ⟨rfl, hb6⟩; have BX6 := hid (BX5.out.next hb6); have BL6 := hid (BL5.out.trans (hb6.mono BL5.out.size)); obtain ⟨x60, x61, x62, x63, x64⟩ := BX6.out.nd.five; obtain ⟨y60, y61, y62⟩ := BX6.out.pl.three; obtain ⟨z60, z61, z62⟩ := BX6.out.kd.three; clear hb6))
    exact HF.out _ BL6.out
  obtain rfl : t3 = true := by simpa using h3
  clear h3
  by_cases h4 : t4 = false
  · subst h4
    have HF := hid (HTF.out (by rw [HONE.out]; simp))
    clear HTF HONE
    go_wp2_with fail
    rw [← HW3.out, ← HB7.out]
    go_wp2_with (first | (go_at_call 102; refine (HT1 _).out.mono ?_; rintro e w4 ⟨rfl, hb4⟩; have BX4 := hid (BX3.out.next hb4); have BL4 := hid (BL3.out.trans (hb4.mono BL3.out.size)); obtain ⟨x40, x41, x42, x43, x44⟩ := BX4.out.nd.five; obtain ⟨y40, y41, y42⟩ := BX4.out.pl.three; obtain ⟨z40, z41, z42⟩ := BX4.out.kd.three; clear hb4) | (go_at_call 103; refine (HT2 _).out.mono ?_; rintro e w5 ⟨rfl, hb5⟩; have BX5 := hid (BX4.out.next hb5); have BL5 := hid (BL4.out.trans (hb5.mono BL4.out.size)); obtain ⟨x50, x51, x52, x53, x54⟩ := BX5.out.nd.five; obtain ⟨y50, y51, y52⟩ := BX5.out.pl.three; obtain ⟨z50, z51, z52⟩ := BX5.out.kd.three; clear hb5) | (go_at_call 104; refine (HT3 _).out.mono ?_; rintro e w6 ⟨rfl, hb6⟩; have BX6 := hid (BX5.out.next hb6); have BL6 := hid (BL5.out.trans (hb6.mono BL5.out.size)); obtain ⟨x60, x61, x62, x63, x64⟩ := BX6.out.nd.five; obtain ⟨y60, y61, y62⟩ := BX6.out.pl.three; obtain ⟨z60, z61, z62⟩ := BX6.out.kd.three; clear hb6) | (go_at_call 105; refine (HT4 _).out.mono ?_; rintro e w7 ⟨rfl, hb7⟩; have BX7 := hid (BX6.out.next hb7); have BL7 := hid (BL6.out.trans (hb7.mono BL6.out.size)); obtain ⟨x70, x71, x72, x73, x74⟩ := BX7.out.nd.five; obtain ⟨y70, y71, y72⟩ := BX7.out.pl.three; obtain ⟨z70, z71, z72⟩ := BX7.out.kd.three; clear hb7))
    exact HF.out _ BL7.out
  obtain rfl : t4 = true := by simpa using h4
  clear h4
  have KD3 := HKD
  cases wi with
  | true =>
    by_cases hf0 : f = 0
    · have hdp2 : ¬ dp < 64 := by have := HD.out; omega
      have hdp2' : decide (dp < 64) = false := by simpa using hdp2
      subst hf0
      go_wp2_with fail
      rw [← HW3.out, ← HB7.out]
      go_wp2_with (first | (go_at_call 102; refine (HT1 _).out.mono ?_; rintro e w4 ⟨rfl, hb4⟩; have BX4 := hid (BX3.out.next hb4); have BL4 := hid (BL3.out.trans (hb4.mono BL3.out.size)); have KD4 := hid (KD3.out.next hb4); obtain ⟨x40, x41, x42, x43, x44⟩ := BX4.out.nd.five; obtain ⟨y40, y41, y42⟩ := BX4.out.pl.three; obtain ⟨z40, z41, z42⟩ := BX4.out.kd.three; clear hb4) | (go_at_call 103; refine (HT2 _).out.mono ?_; rintro e w5 ⟨rfl, hb5⟩; have BX5 := hid (BX4.out.next hb5); have BL5 := hid (BL4.out.trans (hb5.mono BL4.out.size)); have KD5 := hid (KD4.out.next hb5); obtain ⟨x50, x51, x52, x53, x54⟩ := BX5.out.nd.five; obtain ⟨y50, y51, y52⟩ := BX5.out.pl.three; obtain ⟨z50, z51, z52⟩ := BX5.out.kd.three; clear hb5) | (go_at_call 104; refine (HT3 _).out.mono ?_; rintro e w6 ⟨rfl, hb6⟩; have BX6 := hid (BX5.out.next hb6); have BL6 := hid (BL5.out.trans (hb6.mono BL5.out.size)); have KD6 := hid (KD5.out.next hb6); obtain ⟨x60, x61, x62, x63, x64⟩ := BX6.out.nd.five; obtain ⟨y60, y61, y62⟩ := BX6.out.pl.three; obtain ⟨z60, z61, z62⟩ := BX6.out.kd.three; clear hb6) | (go_at_call 105; refine (HT4 _).out.mono ?_; rintro e w7 ⟨rfl, hb7⟩; have BX7 := hid (BX6.out.next hb7); have BL7 := hid (BL6.out.trans (hb7.mono BL6.out.size)); have KD7 := hid (KD6.out.next hb7); obtain ⟨x70, x71, x72, x73, x74⟩ := BX7.out.nd.five; obtain ⟨y70, y71, y72⟩ := BX7.out.pl.three; obtain ⟨z70, z71, z72⟩ := BX7.out.kd.three; clear hb7))
      have HRR := hid (HMB.out (by rw [HONE.out]; simp))
      simp only [Bool.true_or] at HRR
      clear HTF HONE HMB
      clear x40 x41 x42 x43 x44 y40 y41 y42 z40 z41 z42 x50 x51 x52 x53 x54 y50 y51 y52 z50 z51 z52 x60 x61 x62 x63 x64 y60 y61 y62 z60 z61 z62 x70 x71 x72 x73 x74 y70 y71 y72 z70 z71 z72 HT1 HT2 HT3 HT4 HT5
      obtain ⟨R, hR⟩ : ∃ R, R = mbN (0 + 1) r true ⟨k, tx, n, at_, ks⟩ := ⟨_, rfl⟩
      rw [← hR] at HRR HPO
      obtain ⟨G, hG⟩ : ∃ G : Nat → Nd → Bool × Bool, G = fun i s => mbN 0 (rolAt (rs, le, op) i) true s := ⟨_, rfl⟩
      rw [← hG] at HRR
      have HGG := hid hG
      clear hR hG
      go_loopw [62] (fun iv wr => ∃ i : Nat, iv = .int .i64 (i : Int) ∧ i ≤ ks.length ∧ Bx wr b b7 (ncs k S n at_ a ks.length c) #[.int .i64 r, .int .i64 dp, .bool true] #[.slice a7 L L, .int .i64 le, .bool op] ∧ MbI lb d R G ks w i wr ∧ Kd (b + 2) wr (.agg #[.slice a7 L L, .int .i64 le, .bool op]) (rs, le, op)) (fun iv _ => ks.length - (intOf iv).toNat)
      case atStart =>
        have hbl := BL7.out
        exact ⟨0, rfl, Nat.zero_le _, BX7.out, ⟨d, HL.out.next hbl, by rw [HRR.out]; rfl, fun _ => by rw [HRR.out]; rfl, But.of_below hbl⟩, KD7.out⟩
      case round =>
        obtain ⟨i, rfl, hi, hBX, hI, hKd⟩ := hrel
        clear BX7 BL7 KD7 HRR
        by_cases hin : i < ks.length
        · have hin' : (i : Int) < (ks.length : Int) := by omega
          obtain ⟨d', hLk, hR1, hR2, hBut⟩ := hI
          rw [mbAll_step hin] at hR1 hR2
          have hKw := HK.out.but hBut
          cases D with
          | zero => have := hKw.1; omega
          | succ D =>
            obtain ⟨_, _, hrow⟩ := hKw
            obtain ⟨g, o, a', l', c', rfl, hgx, hgl, ⟨m0, m1, m2, m3, m4⟩, ⟨hBk, hlk⟩, hKk⟩ := hrow i hin
            obtain ⟨W9, hW9⟩ : ∃ W9, W9 = wr.alloc (.cells (ncs ks[i].k (strOfNums ks[i].tx) ks[i].n ks[i].at_ a' l' c') 25) := ⟨_, rfl⟩
            obtain ⟨b10, hb10⟩ : ∃ b10, b10 = wr.heap.size := ⟨_, rfl⟩
            have bl9 : Below wr.heap.size wr W9 := by rw [hW9]; exact below1 _ _
            have hBX9 := hBX.next bl9
            have hN9 : Cs W9 b10 25 (ncs ks[i].k (strOfNums ks[i].tx) ks[i].n ks[i].at_ a' l' c') := by rw [hW9, hb10]; exact Cs.new _ _ _
            have hL9 := hLk.next bl9
            have hG9 := (HG.out.but hBut (by omega)).next bl9
            have hK9 := hKk.next bl9
            have hD9 := hKd.next bl9
            have hlbr := hLk.lt
            have hbu9 := hBut.trans (But.of_below bl9)
            have HBX9 := hid hBX9
            have HN9 := hid hN9
            have H107 := hid (kidsRole_any (rs, le, op) a7 i W9.drew (by simp only [hrl]; exact hD9) (by simp only [hrl]; have := (HPOS (by have := HQ.out; rw [← this]; exact ht4)).out (by omega); have e := HQ.out; rw [← e] at this; simp only [hrl] at this; exact this) (by simp only [hrl]; exact hq3))
            simp only [hrl] at H107
            have H71 : Hid (∀ w10, Below W9.drew.heap.size W9.drew w10 → Calls Tryz.prog 71 #[.pointer (some ⟨lb, 0, none⟩), .agg (ncs ks[i].k (strOfNums ks[i].tx) ks[i].n ks[i].at_ a' l' c'), .agg #[.int .i64 (rolAt (rs, le, op) i), .int .i64 (65 - ((0 : Nat) : Int)), .bool true]] w10 (MbQ lb d' (G i ks[i]) w10)) := hid fun w10 hw => by
              have hb' : Below W9.heap.size W9 w10 := ⟨hw.os, hw.tape, hw.output, hw.size, hw.block⟩
              rw [HGG.out]
              exact HIH.out lb d' (rolAt (rs, le, op) i) true ks[i] D a' l' c' w10 (hL9.next hb') hlb (hG9.next hb') (hK9.next hb') hBk hlk
            have HBU := hid hbu9
            have HR1 := hid hR1
            have HR2 := hid hR2
            have HKD9 := hid hD9
            obtain ⟨dq, hdq⟩ : ∃ dq : Int, dq = 65 - ((0 : Nat) : Int) := ⟨_, rfl⟩
            rw [← hdq] at H71
            have hwr : IntKind.i64.wrap (dp + 1) = dq := by rw [hdq, show dp + 1 = 65 - ((0 : Nat) : Int) by have := HD.out; omega]; rw [IntKind.wrap_i64]; omega
            have HB10 := hid hb10
            have HW9 := hid hW9
            have nl1 : ¬ b = lb := by omega
            have nl2 : ¬ b + 1 = lb := by omega
            have nl3 : ¬ b7 = lb := by omega
            have nl4 : ¬ b10 = lb := by omega
            generalize G i ks[i] = X at *
            generalize rolAt (rs, le, op) i = ro at *
            generalize strOfNums ks[i].tx = Sk at *
            generalize ks[i].k = kk at *
            generalize ks[i].n = kn at *
            generalize ks[i].at_ = ka at *
            clear hrow hBX hLk hR1 hR2 hBut hKd hKk hBk hlk bl9 hBX9 hN9 hL9 hG9 hK9 hD9 hbu9 hdq hb10 hW9
            obtain ⟨u0, u1, u2, u3, u4⟩ := HN9.out.five
            obtain ⟨v0, v1, v2⟩ := HBX9.out.kd.three
            obtain ⟨p0, p1, p2⟩ := HBX9.out.pl.three
            obtain ⟨X1, X2⟩ := X
            simp only at *
            go_wp2_with fail
            rw [← HW9.out, ← HB10.out]
            go_region_held3 (fun w' => (w'.cell? ⟨b10, 0, none⟩ = some (.int .i64 kk) ∧ w'.cell? ⟨b10, 1, none⟩ = some (.string Sk) ∧ w'.cell? ⟨b10, 2, none⟩ = some (.int .i64 kn) ∧ w'.cell? ⟨b10, 3, none⟩ = some (.int .i64 ka) ∧ w'.cell? ⟨b10, 4, none⟩ = some (.slice a' l' c')) ∧ (w'.cell? ⟨b7, 0, none⟩ = some (.slice a7 L L) ∧ w'.cell? ⟨b7, 1, none⟩ = some (.int .i64 le) ∧ w'.cell? ⟨b7, 2, none⟩ = some (.bool op)) ∧ w'.cell? ⟨b + 1, 1, none⟩ = some (.int .i64 dp)) (first | (exact ⟨⟨by assumption, by assumption, by assumption, by assumption, by assumption⟩, ⟨by assumption, by assumption, by assumption⟩, by assumption⟩) | go_keep) (first
              | (go_at_call 107; refine Calls.mono H107.out ?_; rintro e w10 ⟨rfl, hb10⟩; have HC10 := hid hb10; have HE10 : Hid (Below W9.heap.size W9 w10) := hid ⟨hb10.os, hb10.tape, hb10.output, hb10.size, hb10.block⟩; have HN10 := hid (HN9.out.next HE10.out); have HBX10 := hid (HBX9.out.next HE10.out); obtain ⟨u00, u01, u02, u03, u04⟩ := HN10.out.five; obtain ⟨v00, v01, v02⟩ := HBX10.out.kd.three; obtain ⟨p00, p01, p02⟩ := HBX10.out.pl.three; clear hb10)
              | (go_at_call 71; refine Calls.mono (H71.out _ HC10.out) ?_; rintro e w11 ⟨rfl, hd2, hbu2⟩; have HD2 := hid hd2; have HBU2 := hid hbu2; have HBX11 := hid (HBX10.out.but hbu2 nl1 nl2 nl3); obtain ⟨u10, u11, u12, u13, u14⟩ := (HN10.out.but hbu2 nl4).five; obtain ⟨v10, v11, v12⟩ := HBX11.out.kd.three; obtain ⟨p10, p11, p12⟩ := HBX11.out.pl.three; clear hd2 hbu2))
            have hbw := (HBU.out.trans (But.of_below HE10.out)).trans HBU2.out
            obtain ⟨d2, hd2, he2⟩ := HD2.out
            have HK11 := hid ((HKD9.out.next HE10.out).but HBU2.out (fun g' hg' e => by omega))
            cases X1 with
            | false =>
              have HF : Hid (MbQ lb d R w (.returned (.bool false)) w11) := hid ⟨by rw [HR1.out]; rfl, ⟨d2, hd2, fun q => by rw [HR1.out] at q; cases q⟩, hbw⟩
              clear hbw hd2 he2 HR1 HR2 HK11
              go_wp2_with fail
              show PO (.returned (.bool false)) _
              rw [HPO.out]
              exact HF.out
            | true =>
              have HF : Hid (MbI lb d R G ks w (i + 1) w11) := hid ⟨d2, hd2, by rw [HR1.out]; rfl, fun q => by rw [HR2.out q, he2 rfl]; simp [Bool.or_assoc], hbw⟩
              clear hbw hd2 he2 HR1 HR2
              go_wp2_with fail
              exact ⟨⟨i + 1, by go_num, by omega, HBX11.out, HF.out, HK11.out⟩, by simp [intOf]; omega⟩
        · have hin' : ¬ (i : Int) < (ks.length : Int) := by omega
          obtain ⟨d', hLk, hR1, hR2, hBut⟩ := hI
          have e : ks.drop i = [] := List.drop_eq_nil_of_le (by omega)
          rw [e] at hR1 hR2
          have HF : Hid (MbQ lb d R w (.returned (.bool true)) wr) := hid ⟨by rw [hR1]; rfl, ⟨d', hLk, fun q => by rw [hR2 q]; simp [mbAll]⟩, hBut⟩
          clear hBX hKd hLk hR1 hR2 hBut e
          go_wp2_with fail
          show PO (.returned (.bool true)) _
          rw [HPO.out]
          exact HF.out

    have hdp2 : dp < 64 := by have := HD.out; omega
    have hf0' : (f == 0) = false := by simpa using hf0
    by_cases h5 : t5 = false
    · subst h5
      have HF := hid (HTF.out (by rw [HONE.out, hf0']; simp))
      clear HTF HONE
      go_wp2_with fail
      rw [← HW3.out, ← HB7.out]
      go_wp2_with (first | (go_at_call 102; refine (HT1 _).out.mono ?_; rintro e w4 ⟨rfl, hb4⟩; have BX4 := hid (BX3.out.next hb4); have BL4 := hid (BL3.out.trans (hb4.mono BL3.out.size)); have KD4 := hid (KD3.out.next hb4); obtain ⟨x40, x41, x42, x43, x44⟩ := BX4.out.nd.five; obtain ⟨y40, y41, y42⟩ := BX4.out.pl.three; obtain ⟨z40, z41, z42⟩ := BX4.out.kd.three; clear hb4) | (go_at_call 103; refine (HT2 _).out.mono ?_; rintro e w5 ⟨rfl, hb5⟩; have BX5 := hid (BX4.out.next hb5); have BL5 := hid (BL4.out.trans (hb5.mono BL4.out.size)); have KD5 := hid (KD4.out.next hb5); obtain ⟨x50, x51, x52, x53, x54⟩ := BX5.out.nd.five; obtain ⟨y50, y51, y52⟩ := BX5.out.pl.three; obtain ⟨z50, z51, z52⟩ := BX5.out.kd.three; clear hb5) | (go_at_call 104; refine (HT3 _).out.mono ?_; rintro e w6 ⟨rfl, hb6⟩; have BX6 := hid (BX5.out.next hb6); have BL6 := hid (BL5.out.trans (hb6.mono BL5.out.size)); have KD6 := hid (KD5.out.next hb6); obtain ⟨x60, x61, x62, x63, x64⟩ := BX6.out.nd.five; obtain ⟨y60, y61, y62⟩ := BX6.out.pl.three; obtain ⟨z60, z61, z62⟩ := BX6.out.kd.three; clear hb6) | (go_at_call 105; refine (HT4 _).out.mono ?_; rintro e w7 ⟨rfl, hb7⟩; have BX7 := hid (BX6.out.next hb7); have BL7 := hid (BL6.out.trans (hb7.mono BL6.out.size)); have KD7 := hid (KD6.out.next hb7); obtain ⟨x70, x71, x72, x73, x74⟩ := BX7.out.nd.five; obtain ⟨y70, y71, y72⟩ := BX7.out.pl.three; obtain ⟨z70, z71, z72⟩ := BX7.out.kd.three; clear hb7) | (go_at_call 106; refine (HT5 _ (HK.out.next BL7.out)).out.mono ?_; rintro e w8 ⟨rfl, hb8⟩; have BX8 := hid (BX7.out.next hb8); have BL8 := hid (BL7.out.trans (hb8.mono BL7.out.size)); have KD8 := hid (KD7.out.next hb8); obtain ⟨x80, x81, x82, x83, x84⟩ := BX8.out.nd.five; obtain ⟨y80, y81, y82⟩ := BX8.out.pl.three; obtain ⟨z80, z81, z82⟩ := BX8.out.kd.three; clear hb8))
      exact HF.out _ BL8.out
    obtain rfl : t5 = true := by simpa using h5
    clear h5 ht5
    go_wp2_with fail
    rw [← HW3.out, ← HB7.out]
    go_wp2_with (first | (go_at_call 102; refine (HT1 _).out.mono ?_; rintro e w4 ⟨rfl, hb4⟩; have BX4 := hid (BX3.out.next hb4); have BL4 := hid (BL3.out.trans (hb4.mono BL3.out.size)); have KD4 := hid (KD3.out.next hb4); obtain ⟨x40, x41, x42, x43, x44⟩ := BX4.out.nd.five; obtain ⟨y40, y41, y42⟩ := BX4.out.pl.three; obtain ⟨z40, z41, z42⟩ := BX4.out.kd.three; clear hb4) | (go_at_call 103; refine (HT2 _).out.mono ?_; rintro e w5 ⟨rfl, hb5⟩; have BX5 := hid (BX4.out.next hb5); have BL5 := hid (BL4.out.trans (hb5.mono BL4.out.size)); have KD5 := hid (KD4.out.next hb5); obtain ⟨x50, x51, x52, x53, x54⟩ := BX5.out.nd.five; obtain ⟨y50, y51, y52⟩ := BX5.out.pl.three; obtain ⟨z50, z51, z52⟩ := BX5.out.kd.three; clear hb5) | (go_at_call 104; refine (HT3 _).out.mono ?_; rintro e w6 ⟨rfl, hb6⟩; have BX6 := hid (BX5.out.next hb6); have BL6 := hid (BL5.out.trans (hb6.mono BL5.out.size)); have KD6 := hid (KD5.out.next hb6); obtain ⟨x60, x61, x62, x63, x64⟩ := BX6.out.nd.five; obtain ⟨y60, y61, y62⟩ := BX6.out.pl.three; obtain ⟨z60, z61, z62⟩ := BX6.out.kd.three; clear hb6) | (go_at_call 105; refine (HT4 _).out.mono ?_; rintro e w7 ⟨rfl, hb7⟩; have BX7 := hid (BX6.out.next hb7); have BL7 := hid (BL6.out.trans (hb7.mono BL6.out.size)); have KD7 := hid (KD6.out.next hb7); obtain ⟨x70, x71, x72, x73, x74⟩ := BX7.out.nd.five; obtain ⟨y70, y71, y72⟩ := BX7.out.pl.three; obtain ⟨z70, z71, z72⟩ := BX7.out.kd.three; clear hb7) | (go_at_call 106; refine (HT5 _ (HK.out.next BL7.out)).out.mono ?_; rintro e w8 ⟨rfl, hb8⟩; have BX8 := hid (BX7.out.next hb8); have BL8 := hid (BL7.out.trans (hb8.mono BL7.out.size)); have KD8 := hid (KD7.out.next hb8); obtain ⟨x80, x81, x82, x83, x84⟩ := BX8.out.nd.five; obtain ⟨y80, y81, y82⟩ := BX8.out.pl.three; obtain ⟨z80, z81, z82⟩ := BX8.out.kd.three; clear hb8))
    have HRR := hid (HMB.out (by rw [HONE.out]; simp))
    simp only [Bool.true_or] at HRR
    clear HTF HONE HMB
    clear x40 x41 x42 x43 x44 y40 y41 y42 z40 z41 z42 x50 x51 x52 x53 x54 y50 y51 y52 z50 z51 z52 x60 x61 x62 x63 x64 y60 y61 y62 z60 z61 z62 x70 x71 x72 x73 x74 y70 y71 y72 z70 z71 z72 x80 x81 x82 x83 x84 y80 y81 y82 z80 z81 z82 HT1 HT2 HT3 HT4 HT5
    obtain ⟨R, hR⟩ : ∃ R, R = mbN (f + 1) r true ⟨k, tx, n, at_, ks⟩ := ⟨_, rfl⟩
    rw [← hR] at HRR HPO
    obtain ⟨G, hG⟩ : ∃ G : Nat → Nd → Bool × Bool, G = fun i s => mbN f (rolAt (rs, le, op) i) true s := ⟨_, rfl⟩
    rw [← hG] at HRR
    have HGG := hid hG
    clear hR hG
    go_loopw [62] (fun iv wr => ∃ i : Nat, iv = .int .i64 (i : Int) ∧ i ≤ ks.length ∧ Bx wr b b7 (ncs k S n at_ a ks.length c) #[.int .i64 r, .int .i64 dp, .bool true] #[.slice a7 L L, .int .i64 le, .bool op] ∧ MbI lb d R G ks w i wr ∧ Kd (b + 2) wr (.agg #[.slice a7 L L, .int .i64 le, .bool op]) (rs, le, op)) (fun iv _ => ks.length - (intOf iv).toNat)
    case atStart =>
      have hbl := BL8.out
      exact ⟨0, rfl, Nat.zero_le _, BX8.out, ⟨d, HL.out.next hbl, by rw [HRR.out]; rfl, fun _ => by rw [HRR.out]; rfl, But.of_below hbl⟩, KD8.out⟩
    case round =>
      obtain ⟨i, rfl, hi, hBX, hI, hKd⟩ := hrel
      clear BX8 BL8 KD8 HRR
      by_cases hin : i < ks.length
      · have hin' : (i : Int) < (ks.length : Int) := by omega
        obtain ⟨d', hLk, hR1, hR2, hBut⟩ := hI
        rw [mbAll_step hin] at hR1 hR2
        have hKw := HK.out.but hBut
        cases D with
        | zero => have := hKw.1; omega
        | succ D =>
          obtain ⟨_, _, hrow⟩ := hKw
          obtain ⟨g, o, a', l', c', rfl, hgx, hgl, ⟨m0, m1, m2, m3, m4⟩, ⟨hBk, hlk⟩, hKk⟩ := hrow i hin
          obtain ⟨W9, hW9⟩ : ∃ W9, W9 = wr.alloc (.cells (ncs ks[i].k (strOfNums ks[i].tx) ks[i].n ks[i].at_ a' l' c') 25) := ⟨_, rfl⟩
          obtain ⟨b10, hb10⟩ : ∃ b10, b10 = wr.heap.size := ⟨_, rfl⟩
          have bl9 : Below wr.heap.size wr W9 := by rw [hW9]; exact below1 _ _
          have hBX9 := hBX.next bl9
          have hN9 : Cs W9 b10 25 (ncs ks[i].k (strOfNums ks[i].tx) ks[i].n ks[i].at_ a' l' c') := by rw [hW9, hb10]; exact Cs.new _ _ _
          have hL9 := hLk.next bl9
          have hG9 := (HG.out.but hBut (by omega)).next bl9
          have hK9 := hKk.next bl9
          have hD9 := hKd.next bl9
          have hlbr := hLk.lt
          have hbu9 := hBut.trans (But.of_below bl9)
          have HBX9 := hid hBX9
          have HN9 := hid hN9
          have H107 := hid (kidsRole_any (rs, le, op) a7 i W9.drew (by simp only [hrl]; exact hD9) (by simp only [hrl]; have := (HPOS (by have := HQ.out; rw [← this]; exact ht4)).out (by omega); have e := HQ.out; rw [← e] at this; simp only [hrl] at this; exact this) (by simp only [hrl]; exact hq3))
          simp only [hrl] at H107
          have H71 : Hid (∀ w10, Below W9.drew.heap.size W9.drew w10 → Calls Tryz.prog 71 #[.pointer (some ⟨lb, 0, none⟩), .agg (ncs ks[i].k (strOfNums ks[i].tx) ks[i].n ks[i].at_ a' l' c'), .agg #[.int .i64 (rolAt (rs, le, op) i), .int .i64 (65 - (f : Int)), .bool true]] w10 (MbQ lb d' (G i ks[i]) w10)) := hid fun w10 hw => by
            have hb' : Below W9.heap.size W9 w10 := ⟨hw.os, hw.tape, hw.output, hw.size, hw.block⟩
            rw [HGG.out]
            exact HIH.out lb d' (rolAt (rs, le, op) i) true ks[i] D a' l' c' w10 (hL9.next hb') hlb (hG9.next hb') (hK9.next hb') hBk hlk
          have HBU := hid hbu9
          have HR1 := hid hR1
          have HR2 := hid hR2
          have HKD9 := hid hD9
          obtain ⟨dq, hdq⟩ : ∃ dq : Int, dq = 65 - (f : Int) := ⟨_, rfl⟩
          rw [← hdq] at H71
          have hwr : IntKind.i64.wrap (dp + 1) = dq := by rw [hdq, show dp + 1 = 65 - (f : Int) by have := HD.out; omega]; rw [IntKind.wrap_i64]; omega
          have HB10 := hid hb10
          have HW9 := hid hW9
          have nl1 : ¬ b = lb := by omega
          have nl2 : ¬ b + 1 = lb := by omega
          have nl3 : ¬ b7 = lb := by omega
          have nl4 : ¬ b10 = lb := by omega
          generalize G i ks[i] = X at *
          generalize rolAt (rs, le, op) i = ro at *
          generalize strOfNums ks[i].tx = Sk at *
          generalize ks[i].k = kk at *
          generalize ks[i].n = kn at *
          generalize ks[i].at_ = ka at *
          clear hrow hBX hLk hR1 hR2 hBut hKd hKk hBk hlk bl9 hBX9 hN9 hL9 hG9 hK9 hD9 hbu9 hdq hb10 hW9
          obtain ⟨u0, u1, u2, u3, u4⟩ := HN9.out.five
          obtain ⟨v0, v1, v2⟩ := HBX9.out.kd.three
          obtain ⟨p0, p1, p2⟩ := HBX9.out.pl.three
          obtain ⟨X1, X2⟩ := X
          simp only at *
          go_wp2_with fail
          rw [← HW9.out, ← HB10.out]
          go_region_held3 (fun w' => (w'.cell? ⟨b10, 0, none⟩ = some (.int .i64 kk) ∧ w'.cell? ⟨b10, 1, none⟩ = some (.string Sk) ∧ w'.cell? ⟨b10, 2, none⟩ = some (.int .i64 kn) ∧ w'.cell? ⟨b10, 3, none⟩ = some (.int .i64 ka) ∧ w'.cell? ⟨b10, 4, none⟩ = some (.slice a' l' c')) ∧ (w'.cell? ⟨b7, 0, none⟩ = some (.slice a7 L L) ∧ w'.cell? ⟨b7, 1, none⟩ = some (.int .i64 le) ∧ w'.cell? ⟨b7, 2, none⟩ = some (.bool op)) ∧ w'.cell? ⟨b + 1, 1, none⟩ = some (.int .i64 dp)) (first | (exact ⟨⟨by assumption, by assumption, by assumption, by assumption, by assumption⟩, ⟨by assumption, by assumption, by assumption⟩, by assumption⟩) | go_keep) (first
            | (go_at_call 107; refine Calls.mono H107.out ?_; rintro e w10 ⟨rfl, hb10⟩; have HC10 := hid hb10; have HE10 : Hid (Below W9.heap.size W9 w10) := hid ⟨hb10.os, hb10.tape, hb10.output, hb10.size, hb10.block⟩; have HN10 := hid (HN9.out.next HE10.out); have HBX10 := hid (HBX9.out.next HE10.out); obtain ⟨u00, u01, u02, u03, u04⟩ := HN10.out.five; obtain ⟨v00, v01, v02⟩ := HBX10.out.kd.three; obtain ⟨p00, p01, p02⟩ := HBX10.out.pl.three; clear hb10)
            | (go_at_call 71; refine Calls.mono (H71.out _ HC10.out) ?_; rintro e w11 ⟨rfl, hd2, hbu2⟩; have HD2 := hid hd2; have HBU2 := hid hbu2; have HBX11 := hid (HBX10.out.but hbu2 nl1 nl2 nl3); obtain ⟨u10, u11, u12, u13, u14⟩ := (HN10.out.but hbu2 nl4).five; obtain ⟨v10, v11, v12⟩ := HBX11.out.kd.three; obtain ⟨p10, p11, p12⟩ := HBX11.out.pl.three; clear hd2 hbu2))
          have hbw := (HBU.out.trans (But.of_below HE10.out)).trans HBU2.out
          obtain ⟨d2, hd2, he2⟩ := HD2.out
          have HK11 := hid ((HKD9.out.next HE10.out).but HBU2.out (fun g' hg' e => by omega))
          cases X1 with
          | false =>
            have HF : Hid (MbQ lb d R w (.returned (.bool false)) w11) := hid ⟨by rw [HR1.out]; rfl, ⟨d2, hd2, fun q => by rw [HR1.out] at q; cases q⟩, hbw⟩
            clear hbw hd2 he2 HR1 HR2 HK11
            go_wp2_with fail
            show PO (.returned (.bool false)) _
            rw [HPO.out]
            exact HF.out
          | true =>
            have HF : Hid (MbI lb d R G ks w (i + 1) w11) := hid ⟨d2, hd2, by rw [HR1.out]; rfl, fun q => by rw [HR2.out q, he2 rfl]; simp [Bool.or_assoc], hbw⟩
            clear hbw hd2 he2 HR1 HR2
            go_wp2_with fail
            exact ⟨⟨i + 1, by go_num, by omega, HBX11.out, HF.out, HK11.out⟩, by simp [intOf]; omega⟩
      · have hin' : ¬ (i : Int) < (ks.length : Int) := by omega
        obtain ⟨d', hLk, hR1, hR2, hBut⟩ := hI
        have e : ks.drop i = [] := List.drop_eq_nil_of_le (by omega)
        rw [e] at hR1 hR2
        have HF : Hid (MbQ lb d R w (.returned (.bool true)) wr) := hid ⟨by rw [hR1]; rfl, ⟨d', hLk, fun q => by rw [hR2 q]; simp [mbAll]⟩, hBut⟩
        clear hBX hKd hLk hR1 hR2 hBut e
        go_wp2_with fail
        show PO (.returned (.bool true)) _
        rw [HPO.out]
        exact HF.out

  | false =>
    by_cases hf0 : f = 0
    · have hdp2 : ¬ dp < 64 := by have := HD.out; omega
      have hdp2' : decide (dp < 64) = false := by simpa using hdp2
      subst hf0
      go_wp2_with fail
      rw [← HW3.out, ← HB7.out]
      go_wp2_with (first | (go_at_call 102; refine (HT1 _).out.mono ?_; rintro e w4 ⟨rfl, hb4⟩; have BX4 := hid (BX3.out.next hb4); have BL4 := hid (BL3.out.trans (hb4.mono BL3.out.size)); have KD4 := hid (KD3.out.next hb4); obtain ⟨x40, x41, x42, x43, x44⟩ := BX4.out.nd.five; obtain ⟨y40, y41, y42⟩ := BX4.out.pl.three; obtain ⟨z40, z41, z42⟩ := BX4.out.kd.three; clear hb4) | (go_at_call 103; refine (HT2 _).out.mono ?_; rintro e w5 ⟨rfl, hb5⟩; have BX5 := hid (BX4.out.next hb5); have BL5 := hid (BL4.out.trans (hb5.mono BL4.out.size)); have KD5 := hid (KD4.out.next hb5); obtain ⟨x50, x51, x52, x53, x54⟩ := BX5.out.nd.five; obtain ⟨y50, y51, y52⟩ := BX5.out.pl.three; obtain ⟨z50, z51, z52⟩ := BX5.out.kd.three; clear hb5) | (go_at_call 104; refine (HT3 _).out.mono ?_; rintro e w6 ⟨rfl, hb6⟩; have BX6 := hid (BX5.out.next hb6); have BL6 := hid (BL5.out.trans (hb6.mono BL5.out.size)); have KD6 := hid (KD5.out.next hb6); obtain ⟨x60, x61, x62, x63, x64⟩ := BX6.out.nd.five; obtain ⟨y60, y61, y62⟩ := BX6.out.pl.three; obtain ⟨z60, z61, z62⟩ := BX6.out.kd.three; clear hb6) | (go_at_call 105; refine (HT4 _).out.mono ?_; rintro e w7 ⟨rfl, hb7⟩; have BX7 := hid (BX6.out.next hb7); have BL7 := hid (BL6.out.trans (hb7.mono BL6.out.size)); have KD7 := hid (KD6.out.next hb7); obtain ⟨x70, x71, x72, x73, x74⟩ := BX7.out.nd.five; obtain ⟨y70, y71, y72⟩ := BX7.out.pl.three; obtain ⟨z70, z71, z72⟩ := BX7.out.kd.three; clear hb7))
      have HRR := hid (HMB.out (by rw [HONE.out]; simp))
      simp only [Bool.false_or] at HRR
      clear HTF HONE HMB
      clear x40 x41 x42 x43 x44 y40 y41 y42 z40 z41 z42 x50 x51 x52 x53 x54 y50 y51 y52 z50 z51 z52 x60 x61 x62 x63 x64 y60 y61 y62 z60 z61 z62 x70 x71 x72 x73 x74 y70 y71 y72 z70 z71 z72 HT1 HT2 HT3 HT4 HT5
      obtain ⟨R, hR⟩ : ∃ R, R = mbN (0 + 1) r false ⟨k, tx, n, at_, ks⟩ := ⟨_, rfl⟩
      rw [← hR] at HRR HPO
      obtain ⟨G, hG⟩ : ∃ G : Nat → Nd → Bool × Bool, G = fun i s => mbN 0 (rolAt (rs, le, op) i) (k == 12) s := ⟨_, rfl⟩
      rw [← hG] at HRR
      have HGG := hid hG
      clear hR hG
      go_loopw [62] (fun iv wr => ∃ i : Nat, iv = .int .i64 (i : Int) ∧ i ≤ ks.length ∧ Bx wr b b7 (ncs k S n at_ a ks.length c) #[.int .i64 r, .int .i64 dp, .bool false] #[.slice a7 L L, .int .i64 le, .bool op] ∧ MbI lb d R G ks w i wr ∧ Kd (b + 2) wr (.agg #[.slice a7 L L, .int .i64 le, .bool op]) (rs, le, op)) (fun iv _ => ks.length - (intOf iv).toNat)
      case atStart =>
        have hbl := BL7.out
        exact ⟨0, rfl, Nat.zero_le _, BX7.out, ⟨d, HL.out.next hbl, by rw [HRR.out]; rfl, fun _ => by rw [HRR.out]; rfl, But.of_below hbl⟩, KD7.out⟩
      case round =>
        obtain ⟨i, rfl, hi, hBX, hI, hKd⟩ := hrel
        clear BX7 BL7 KD7 HRR
        by_cases hin : i < ks.length
        · have hin' : (i : Int) < (ks.length : Int) := by omega
          obtain ⟨d', hLk, hR1, hR2, hBut⟩ := hI
          rw [mbAll_step hin] at hR1 hR2
          have hKw := HK.out.but hBut
          cases D with
          | zero => have := hKw.1; omega
          | succ D =>
            obtain ⟨_, _, hrow⟩ := hKw
            obtain ⟨g, o, a', l', c', rfl, hgx, hgl, ⟨m0, m1, m2, m3, m4⟩, ⟨hBk, hlk⟩, hKk⟩ := hrow i hin
            obtain ⟨W9, hW9⟩ : ∃ W9, W9 = wr.alloc (.cells (ncs ks[i].k (strOfNums ks[i].tx) ks[i].n ks[i].at_ a' l' c') 25) := ⟨_, rfl⟩
            obtain ⟨b10, hb10⟩ : ∃ b10, b10 = wr.heap.size := ⟨_, rfl⟩
            have bl9 : Below wr.heap.size wr W9 := by rw [hW9]; exact below1 _ _
            have hBX9 := hBX.next bl9
            have hN9 : Cs W9 b10 25 (ncs ks[i].k (strOfNums ks[i].tx) ks[i].n ks[i].at_ a' l' c') := by rw [hW9, hb10]; exact Cs.new _ _ _
            have hL9 := hLk.next bl9
            have hG9 := (HG.out.but hBut (by omega)).next bl9
            have hK9 := hKk.next bl9
            have hD9 := hKd.next bl9
            have hlbr := hLk.lt
            have hbu9 := hBut.trans (But.of_below bl9)
            have HBX9 := hid hBX9
            have HN9 := hid hN9
            have H107 := hid (kidsRole_any (rs, le, op) a7 i W9.drew (by simp only [hrl]; exact hD9) (by simp only [hrl]; have := (HPOS (by have := HQ.out; rw [← this]; exact ht4)).out (by omega); have e := HQ.out; rw [← e] at this; simp only [hrl] at this; exact this) (by simp only [hrl]; exact hq3))
            simp only [hrl] at H107
            have H71 : Hid (∀ w10, Below W9.drew.heap.size W9.drew w10 → Calls Tryz.prog 71 #[.pointer (some ⟨lb, 0, none⟩), .agg (ncs ks[i].k (strOfNums ks[i].tx) ks[i].n ks[i].at_ a' l' c'), .agg #[.int .i64 (rolAt (rs, le, op) i), .int .i64 (65 - ((0 : Nat) : Int)), .bool (k == 12)]] w10 (MbQ lb d' (G i ks[i]) w10)) := hid fun w10 hw => by
              have hb' : Below W9.heap.size W9 w10 := ⟨hw.os, hw.tape, hw.output, hw.size, hw.block⟩
              rw [HGG.out]
              exact HIH.out lb d' (rolAt (rs, le, op) i) (k == 12) ks[i] D a' l' c' w10 (hL9.next hb') hlb (hG9.next hb') (hK9.next hb') hBk hlk
            have HBU := hid hbu9
            have HR1 := hid hR1
            have HR2 := hid hR2
            have HKD9 := hid hD9
            obtain ⟨dq, hdq⟩ : ∃ dq : Int, dq = 65 - ((0 : Nat) : Int) := ⟨_, rfl⟩
            rw [← hdq] at H71
            have hwr : IntKind.i64.wrap (dp + 1) = dq := by rw [hdq, show dp + 1 = 65 - ((0 : Nat) : Int) by have := HD.out; omega]; rw [IntKind.wrap_i64]; omega
            have HB10 := hid hb10
            have HW9 := hid hW9
            have nl1 : ¬ b = lb := by omega
            have nl2 : ¬ b + 1 = lb := by omega
            have nl3 : ¬ b7 = lb := by omega
            have nl4 : ¬ b10 = lb := by omega
            generalize G i ks[i] = X at *
            generalize rolAt (rs, le, op) i = ro at *
            generalize strOfNums ks[i].tx = Sk at *
            generalize ks[i].k = kk at *
            generalize ks[i].n = kn at *
            generalize ks[i].at_ = ka at *
            clear hrow hBX hLk hR1 hR2 hBut hKd hKk hBk hlk bl9 hBX9 hN9 hL9 hG9 hK9 hD9 hbu9 hdq hb10 hW9
            obtain ⟨u0, u1, u2, u3, u4⟩ := HN9.out.five
            obtain ⟨v0, v1, v2⟩ := HBX9.out.kd.three
            obtain ⟨p0, p1, p2⟩ := HBX9.out.pl.three
            obtain ⟨X1, X2⟩ := X
            simp only at *
            go_wp2_with fail
            rw [← HW9.out, ← HB10.out]
            go_region_held3 (fun w' => (w'.cell? ⟨b10, 0, none⟩ = some (.int .i64 kk) ∧ w'.cell? ⟨b10, 1, none⟩ = some (.string Sk) ∧ w'.cell? ⟨b10, 2, none⟩ = some (.int .i64 kn) ∧ w'.cell? ⟨b10, 3, none⟩ = some (.int .i64 ka) ∧ w'.cell? ⟨b10, 4, none⟩ = some (.slice a' l' c')) ∧ (w'.cell? ⟨b7, 0, none⟩ = some (.slice a7 L L) ∧ w'.cell? ⟨b7, 1, none⟩ = some (.int .i64 le) ∧ w'.cell? ⟨b7, 2, none⟩ = some (.bool op)) ∧ w'.cell? ⟨b + 1, 1, none⟩ = some (.int .i64 dp)) (first | (exact ⟨⟨by assumption, by assumption, by assumption, by assumption, by assumption⟩, ⟨by assumption, by assumption, by assumption⟩, by assumption⟩) | go_keep) (first
              | (go_at_call 107; refine Calls.mono H107.out ?_; rintro e w10 ⟨rfl, hb10⟩; have HC10 := hid hb10; have HE10 : Hid (Below W9.heap.size W9 w10) := hid ⟨hb10.os, hb10.tape, hb10.output, hb10.size, hb10.block⟩; have HN10 := hid (HN9.out.next HE10.out); have HBX10 := hid (HBX9.out.next HE10.out); obtain ⟨u00, u01, u02, u03, u04⟩ := HN10.out.five; obtain ⟨v00, v01, v02⟩ := HBX10.out.kd.three; obtain ⟨p00, p01, p02⟩ := HBX10.out.pl.three; clear hb10)
              | (go_at_call 71; refine Calls.mono (H71.out _ HC10.out) ?_; rintro e w11 ⟨rfl, hd2, hbu2⟩; have HD2 := hid hd2; have HBU2 := hid hbu2; have HBX11 := hid (HBX10.out.but hbu2 nl1 nl2 nl3); obtain ⟨u10, u11, u12, u13, u14⟩ := (HN10.out.but hbu2 nl4).five; obtain ⟨v10, v11, v12⟩ := HBX11.out.kd.three; obtain ⟨p10, p11, p12⟩ := HBX11.out.pl.three; clear hd2 hbu2))
            have hbw := (HBU.out.trans (But.of_below HE10.out)).trans HBU2.out
            obtain ⟨d2, hd2, he2⟩ := HD2.out
            have HK11 := hid ((HKD9.out.next HE10.out).but HBU2.out (fun g' hg' e => by omega))
            cases X1 with
            | false =>
              have HF : Hid (MbQ lb d R w (.returned (.bool false)) w11) := hid ⟨by rw [HR1.out]; rfl, ⟨d2, hd2, fun q => by rw [HR1.out] at q; cases q⟩, hbw⟩
              clear hbw hd2 he2 HR1 HR2 HK11
              go_wp2_with fail
              show PO (.returned (.bool false)) _
              rw [HPO.out]
              exact HF.out
            | true =>
              have HF : Hid (MbI lb d R G ks w (i + 1) w11) := hid ⟨d2, hd2, by rw [HR1.out]; rfl, fun q => by rw [HR2.out q, he2 rfl]; simp [Bool.or_assoc], hbw⟩
              clear hbw hd2 he2 HR1 HR2
              go_wp2_with fail
              exact ⟨⟨i + 1, by go_num, by omega, HBX11.out, HF.out, HK11.out⟩, by simp [intOf]; omega⟩
        · have hin' : ¬ (i : Int) < (ks.length : Int) := by omega
          obtain ⟨d', hLk, hR1, hR2, hBut⟩ := hI
          have e : ks.drop i = [] := List.drop_eq_nil_of_le (by omega)
          rw [e] at hR1 hR2
          have HF : Hid (MbQ lb d R w (.returned (.bool true)) wr) := hid ⟨by rw [hR1]; rfl, ⟨d', hLk, fun q => by rw [hR2 q]; simp [mbAll]⟩, hBut⟩
          clear hBX hKd hLk hR1 hR2 hBut e
          go_wp2_with fail
          show PO (.returned (.bool true)) _
          rw [HPO.out]
          exact HF.out

    have hdp2 : dp < 64 := by have := HD.out; omega
    have hf0' : (f == 0) = false := by simpa using hf0
    by_cases h5 : t5 = false
    · subst h5
      have HF := hid (HTF.out (by rw [HONE.out, hf0']; simp))
      clear HTF HONE
      go_wp2_with fail
      rw [← HW3.out, ← HB7.out]
      go_wp2_with (first | (go_at_call 102; refine (HT1 _).out.mono ?_; rintro e w4 ⟨rfl, hb4⟩; have BX4 := hid (BX3.out.next hb4); have BL4 := hid (BL3.out.trans (hb4.mono BL3.out.size)); have KD4 := hid (KD3.out.next hb4); obtain ⟨x40, x41, x42, x43, x44⟩ := BX4.out.nd.five; obtain ⟨y40, y41, y42⟩ := BX4.out.pl.three; obtain ⟨z40, z41, z42⟩ := BX4.out.kd.three; clear hb4) | (go_at_call 103; refine (HT2 _).out.mono ?_; rintro e w5 ⟨rfl, hb5⟩; have BX5 := hid (BX4.out.next hb5); have BL5 := hid (BL4.out.trans (hb5.mono BL4.out.size)); have KD5 := hid (KD4.out.next hb5); obtain ⟨x50, x51, x52, x53, x54⟩ := BX5.out.nd.five; obtain ⟨y50, y51, y52⟩ := BX5.out.pl.three; obtain ⟨z50, z51, z52⟩ := BX5.out.kd.three; clear hb5) | (go_at_call 104; refine (HT3 _).out.mono ?_; rintro e w6 ⟨rfl, hb6⟩; have BX6 := hid (BX5.out.next hb6); have BL6 := hid (BL5.out.trans (hb6.mono BL5.out.size)); have KD6 := hid (KD5.out.next hb6); obtain ⟨x60, x61, x62, x63, x64⟩ := BX6.out.nd.five; obtain ⟨y60, y61, y62⟩ := BX6.out.pl.three; obtain ⟨z60, z61, z62⟩ := BX6.out.kd.three; clear hb6) | (go_at_call 105; refine (HT4 _).out.mono ?_; rintro e w7 ⟨rfl, hb7⟩; have BX7 := hid (BX6.out.next hb7); have BL7 := hid (BL6.out.trans (hb7.mono BL6.out.size)); have KD7 := hid (KD6.out.next hb7); obtain ⟨x70, x71, x72, x73, x74⟩ := BX7.out.nd.five; obtain ⟨y70, y71, y72⟩ := BX7.out.pl.three; obtain ⟨z70, z71, z72⟩ := BX7.out.kd.three; clear hb7) | (go_at_call 106; refine (HT5 _ (HK.out.next BL7.out)).out.mono ?_; rintro e w8 ⟨rfl, hb8⟩; have BX8 := hid (BX7.out.next hb8); have BL8 := hid (BL7.out.trans (hb8.mono BL7.out.size)); have KD8 := hid (KD7.out.next hb8); obtain ⟨x80, x81, x82, x83, x84⟩ := BX8.out.nd.five; obtain ⟨y80, y81, y82⟩ := BX8.out.pl.three; obtain ⟨z80, z81, z82⟩ := BX8.out.kd.three; clear hb8))
      exact HF.out _ BL8.out
    obtain rfl : t5 = true := by simpa using h5
    clear h5 ht5
    go_wp2_with fail
    rw [← HW3.out, ← HB7.out]
    go_wp2_with (first | (go_at_call 102; refine (HT1 _).out.mono ?_; rintro e w4 ⟨rfl, hb4⟩; have BX4 := hid (BX3.out.next hb4); have BL4 := hid (BL3.out.trans (hb4.mono BL3.out.size)); have KD4 := hid (KD3.out.next hb4); obtain ⟨x40, x41, x42, x43, x44⟩ := BX4.out.nd.five; obtain ⟨y40, y41, y42⟩ := BX4.out.pl.three; obtain ⟨z40, z41, z42⟩ := BX4.out.kd.three; clear hb4) | (go_at_call 103; refine (HT2 _).out.mono ?_; rintro e w5 ⟨rfl, hb5⟩; have BX5 := hid (BX4.out.next hb5); have BL5 := hid (BL4.out.trans (hb5.mono BL4.out.size)); have KD5 := hid (KD4.out.next hb5); obtain ⟨x50, x51, x52, x53, x54⟩ := BX5.out.nd.five; obtain ⟨y50, y51, y52⟩ := BX5.out.pl.three; obtain ⟨z50, z51, z52⟩ := BX5.out.kd.three; clear hb5) | (go_at_call 104; refine (HT3 _).out.mono ?_; rintro e w6 ⟨rfl, hb6⟩; have BX6 := hid (BX5.out.next hb6); have BL6 := hid (BL5.out.trans (hb6.mono BL5.out.size)); have KD6 := hid (KD5.out.next hb6); obtain ⟨x60, x61, x62, x63, x64⟩ := BX6.out.nd.five; obtain ⟨y60, y61, y62⟩ := BX6.out.pl.three; obtain ⟨z60, z61, z62⟩ := BX6.out.kd.three; clear hb6) | (go_at_call 105; refine (HT4 _).out.mono ?_; rintro e w7 ⟨rfl, hb7⟩; have BX7 := hid (BX6.out.next hb7); have BL7 := hid (BL6.out.trans (hb7.mono BL6.out.size)); have KD7 := hid (KD6.out.next hb7); obtain ⟨x70, x71, x72, x73, x74⟩ := BX7.out.nd.five; obtain ⟨y70, y71, y72⟩ := BX7.out.pl.three; obtain ⟨z70, z71, z72⟩ := BX7.out.kd.three; clear hb7) | (go_at_call 106; refine (HT5 _ (HK.out.next BL7.out)).out.mono ?_; rintro e w8 ⟨rfl, hb8⟩; have BX8 := hid (BX7.out.next hb8); have BL8 := hid (BL7.out.trans (hb8.mono BL7.out.size)); have KD8 := hid (KD7.out.next hb8); obtain ⟨x80, x81, x82, x83, x84⟩ := BX8.out.nd.five; obtain ⟨y80, y81, y82⟩ := BX8.out.pl.three; obtain ⟨z80, z81, z82⟩ := BX8.out.kd.three; clear hb8))
    have HRR := hid (HMB.out (by rw [HONE.out]; simp))
    simp only [Bool.false_or] at HRR
    clear HTF HONE HMB
    clear x40 x41 x42 x43 x44 y40 y41 y42 z40 z41 z42 x50 x51 x52 x53 x54 y50 y51 y52 z50 z51 z52 x60 x61 x62 x63 x64 y60 y61 y62 z60 z61 z62 x70 x71 x72 x73 x74 y70 y71 y72 z70 z71 z72 x80 x81 x82 x83 x84 y80 y81 y82 z80 z81 z82 HT1 HT2 HT3 HT4 HT5
    obtain ⟨R, hR⟩ : ∃ R, R = mbN (f + 1) r false ⟨k, tx, n, at_, ks⟩ := ⟨_, rfl⟩
    rw [← hR] at HRR HPO
    obtain ⟨G, hG⟩ : ∃ G : Nat → Nd → Bool × Bool, G = fun i s => mbN f (rolAt (rs, le, op) i) (k == 12) s := ⟨_, rfl⟩
    rw [← hG] at HRR
    have HGG := hid hG
    clear hR hG
    go_loopw [62] (fun iv wr => ∃ i : Nat, iv = .int .i64 (i : Int) ∧ i ≤ ks.length ∧ Bx wr b b7 (ncs k S n at_ a ks.length c) #[.int .i64 r, .int .i64 dp, .bool false] #[.slice a7 L L, .int .i64 le, .bool op] ∧ MbI lb d R G ks w i wr ∧ Kd (b + 2) wr (.agg #[.slice a7 L L, .int .i64 le, .bool op]) (rs, le, op)) (fun iv _ => ks.length - (intOf iv).toNat)
    case atStart =>
      have hbl := BL8.out
      exact ⟨0, rfl, Nat.zero_le _, BX8.out, ⟨d, HL.out.next hbl, by rw [HRR.out]; rfl, fun _ => by rw [HRR.out]; rfl, But.of_below hbl⟩, KD8.out⟩
    case round =>
      obtain ⟨i, rfl, hi, hBX, hI, hKd⟩ := hrel
      clear BX8 BL8 KD8 HRR
      by_cases hin : i < ks.length
      · have hin' : (i : Int) < (ks.length : Int) := by omega
        obtain ⟨d', hLk, hR1, hR2, hBut⟩ := hI
        rw [mbAll_step hin] at hR1 hR2
        have hKw := HK.out.but hBut
        cases D with
        | zero => have := hKw.1; omega
        | succ D =>
          obtain ⟨_, _, hrow⟩ := hKw
          obtain ⟨g, o, a', l', c', rfl, hgx, hgl, ⟨m0, m1, m2, m3, m4⟩, ⟨hBk, hlk⟩, hKk⟩ := hrow i hin
          obtain ⟨W9, hW9⟩ : ∃ W9, W9 = wr.alloc (.cells (ncs ks[i].k (strOfNums ks[i].tx) ks[i].n ks[i].at_ a' l' c') 25) := ⟨_, rfl⟩
          obtain ⟨b10, hb10⟩ : ∃ b10, b10 = wr.heap.size := ⟨_, rfl⟩
          have bl9 : Below wr.heap.size wr W9 := by rw [hW9]; exact below1 _ _
          have hBX9 := hBX.next bl9
          have hN9 : Cs W9 b10 25 (ncs ks[i].k (strOfNums ks[i].tx) ks[i].n ks[i].at_ a' l' c') := by rw [hW9, hb10]; exact Cs.new _ _ _
          have hL9 := hLk.next bl9
          have hG9 := (HG.out.but hBut (by omega)).next bl9
          have hK9 := hKk.next bl9
          have hD9 := hKd.next bl9
          have hlbr := hLk.lt
          have hbu9 := hBut.trans (But.of_below bl9)
          have HBX9 := hid hBX9
          have HN9 := hid hN9
          have H107 := hid (kidsRole_any (rs, le, op) a7 i W9.drew (by simp only [hrl]; exact hD9) (by simp only [hrl]; have := (HPOS (by have := HQ.out; rw [← this]; exact ht4)).out (by omega); have e := HQ.out; rw [← e] at this; simp only [hrl] at this; exact this) (by simp only [hrl]; exact hq3))
          simp only [hrl] at H107
          have H71 : Hid (∀ w10, Below W9.drew.heap.size W9.drew w10 → Calls Tryz.prog 71 #[.pointer (some ⟨lb, 0, none⟩), .agg (ncs ks[i].k (strOfNums ks[i].tx) ks[i].n ks[i].at_ a' l' c'), .agg #[.int .i64 (rolAt (rs, le, op) i), .int .i64 (65 - (f : Int)), .bool (k == 12)]] w10 (MbQ lb d' (G i ks[i]) w10)) := hid fun w10 hw => by
            have hb' : Below W9.heap.size W9 w10 := ⟨hw.os, hw.tape, hw.output, hw.size, hw.block⟩
            rw [HGG.out]
            exact HIH.out lb d' (rolAt (rs, le, op) i) (k == 12) ks[i] D a' l' c' w10 (hL9.next hb') hlb (hG9.next hb') (hK9.next hb') hBk hlk
          have HBU := hid hbu9
          have HR1 := hid hR1
          have HR2 := hid hR2
          have HKD9 := hid hD9
          obtain ⟨dq, hdq⟩ : ∃ dq : Int, dq = 65 - (f : Int) := ⟨_, rfl⟩
          rw [← hdq] at H71
          have hwr : IntKind.i64.wrap (dp + 1) = dq := by rw [hdq, show dp + 1 = 65 - (f : Int) by have := HD.out; omega]; rw [IntKind.wrap_i64]; omega
          have HB10 := hid hb10
          have HW9 := hid hW9
          have nl1 : ¬ b = lb := by omega
          have nl2 : ¬ b + 1 = lb := by omega
          have nl3 : ¬ b7 = lb := by omega
          have nl4 : ¬ b10 = lb := by omega
          generalize G i ks[i] = X at *
          generalize rolAt (rs, le, op) i = ro at *
          generalize strOfNums ks[i].tx = Sk at *
          generalize ks[i].k = kk at *
          generalize ks[i].n = kn at *
          generalize ks[i].at_ = ka at *
          clear hrow hBX hLk hR1 hR2 hBut hKd hKk hBk hlk bl9 hBX9 hN9 hL9 hG9 hK9 hD9 hbu9 hdq hb10 hW9
          obtain ⟨u0, u1, u2, u3, u4⟩ := HN9.out.five
          obtain ⟨v0, v1, v2⟩ := HBX9.out.kd.three
          obtain ⟨p0, p1, p2⟩ := HBX9.out.pl.three
          obtain ⟨X1, X2⟩ := X
          simp only at *
          go_wp2_with fail
          rw [← HW9.out, ← HB10.out]
          go_region_held3 (fun w' => (w'.cell? ⟨b10, 0, none⟩ = some (.int .i64 kk) ∧ w'.cell? ⟨b10, 1, none⟩ = some (.string Sk) ∧ w'.cell? ⟨b10, 2, none⟩ = some (.int .i64 kn) ∧ w'.cell? ⟨b10, 3, none⟩ = some (.int .i64 ka) ∧ w'.cell? ⟨b10, 4, none⟩ = some (.slice a' l' c')) ∧ (w'.cell? ⟨b7, 0, none⟩ = some (.slice a7 L L) ∧ w'.cell? ⟨b7, 1, none⟩ = some (.int .i64 le) ∧ w'.cell? ⟨b7, 2, none⟩ = some (.bool op)) ∧ w'.cell? ⟨b + 1, 1, none⟩ = some (.int .i64 dp)) (first | (exact ⟨⟨by assumption, by assumption, by assumption, by assumption, by assumption⟩, ⟨by assumption, by assumption, by assumption⟩, by assumption⟩) | go_keep) (first
            | (go_at_call 107; refine Calls.mono H107.out ?_; rintro e w10 ⟨rfl, hb10⟩; have HC10 := hid hb10; have HE10 : Hid (Below W9.heap.size W9 w10) := hid ⟨hb10.os, hb10.tape, hb10.output, hb10.size, hb10.block⟩; have HN10 := hid (HN9.out.next HE10.out); have HBX10 := hid (HBX9.out.next HE10.out); obtain ⟨u00, u01, u02, u03, u04⟩ := HN10.out.five; obtain ⟨v00, v01, v02⟩ := HBX10.out.kd.three; obtain ⟨p00, p01, p02⟩ := HBX10.out.pl.three; clear hb10)
            | (go_at_call 71; refine Calls.mono (H71.out _ HC10.out) ?_; rintro e w11 ⟨rfl, hd2, hbu2⟩; have HD2 := hid hd2; have HBU2 := hid hbu2; have HBX11 := hid (HBX10.out.but hbu2 nl1 nl2 nl3); obtain ⟨u10, u11, u12, u13, u14⟩ := (HN10.out.but hbu2 nl4).five; obtain ⟨v10, v11, v12⟩ := HBX11.out.kd.three; obtain ⟨p10, p11, p12⟩ := HBX11.out.pl.three; clear hd2 hbu2))
          have hbw := (HBU.out.trans (But.of_below HE10.out)).trans HBU2.out
          obtain ⟨d2, hd2, he2⟩ := HD2.out
          have HK11 := hid ((HKD9.out.next HE10.out).but HBU2.out (fun g' hg' e => by omega))
          cases X1 with
          | false =>
            have HF : Hid (MbQ lb d R w (.returned (.bool false)) w11) := hid ⟨by rw [HR1.out]; rfl, ⟨d2, hd2, fun q => by rw [HR1.out] at q; cases q⟩, hbw⟩
            clear hbw hd2 he2 HR1 HR2 HK11
            go_wp2_with fail
            show PO (.returned (.bool false)) _
            rw [HPO.out]
            exact HF.out
          | true =>
            have HF : Hid (MbI lb d R G ks w (i + 1) w11) := hid ⟨d2, hd2, by rw [HR1.out]; rfl, fun q => by rw [HR2.out q, he2 rfl]; simp [Bool.or_assoc], hbw⟩
            clear hbw hd2 he2 HR1 HR2
            go_wp2_with fail
            exact ⟨⟨i + 1, by go_num, by omega, HBX11.out, HF.out, HK11.out⟩, by simp [intOf]; omega⟩
      · have hin' : ¬ (i : Int) < (ks.length : Int) := by omega
        obtain ⟨d', hLk, hR1, hR2, hBut⟩ := hI
        have e : ks.drop i = [] := List.drop_eq_nil_of_le (by omega)
        rw [e] at hR1 hR2
        have HF : Hid (MbQ lb d R w (.returned (.bool true)) wr) := hid ⟨by rw [hR1]; rfl, ⟨d', hLk, fun q => by rw [hR2 q]; simp [mbAll]⟩, hBut⟩
        clear hBX hKd hLk hR1 hR2 hBut e
        go_wp2_with fail
        show PO (.returned (.bool true)) _
        rw [HPO.out]
        exact HF.out


end Go.Proofs.YtbllaacbeagljaaGreatDoor
