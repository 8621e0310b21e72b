/-
  LexPlaces: the law.
-/
import Derived.Test.YtoifmiloaefanaaTl2
import Derived.Test.YtoifmiloaefanaaLp0
namespace Go.Proofs.Ytoifmiloaefanaa
open Go.RowKit

theorem Tokens_all (a : Option Addr) (n c : Nat) (zs : List Int) (w : World) (hR : Rd w.heap.size w a n zs) : Calls Try.prog 5 #[.slice a n c] w (TkQ zs w.heap.size w) := by
  by_cases q : n ≤ 65536
  · exact Tokens_any a n c zs w q hR
  · exact Tokens_long a n c zs w (by omega) hR.1
theorem lex_xs : (lexP [120, 59]).2.2 = 0 ∧ (lexP [120, 59]).1.length = 2 := by constructor <;> rfl
theorem rd_cut {B : Nat} {w : World} {b off n : Nat} {zs : List Int} (h : Rd B w (some ⟨b, off, none⟩) n zs) (p q : Nat) (hpq : p ≤ q) (hq : q ≤ n) : Rd B w (some ⟨b, off + p, none⟩) (q - p) (subL zs p q) := by
  obtain ⟨h1, h2, h3⟩ := h
  have hl : (subL zs p q).length = q - p := sub_len (by omega)
  refine ⟨hl, isB_sub h2 _ _, ?_⟩
  by_cases h0 : q - p = 0
  · exact .inl h0
  rcases h3 with h3 | ⟨b', off', e, hb, hc⟩
  · omega
  · simp at e
    obtain ⟨rfl, rfl⟩ := e
    refine .inr ⟨b, off + p, rfl, hb, fun t ht => ?_⟩
    rw [Nat.add_assoc, hc (p + t) (by omega), subL_at (by omega) ht]
theorem lexP_form (zs : List Int) : (lexP zs).2.2 ≠ 0 → (lexP zs).1 = [] := by
  unfold lexP
  split
  · intro _; rfl
  · exact (lexF_form _ _ _ _).2

theorem lexF_few : ∀ (f : Nat) (zs : List Int) (k c : Nat), c ≤ 16384 → (lexF f zs k c).1.length + c ≤ 16384
  | 0, _, _, c, h => by simp [lexF]; exact h
  | f + 1, zs, k, c, h => by
    simp only [lexF]
    split
    · simpa using h
    split
    · rename_i q1
      have hc : c ≠ 16384 := fun e => by unfold nxtA at q1; rw [if_pos e] at q1; cases q1
      have ih := lexF_few f zs (nxtA zs (skA false zs k) c).2.1 (c + 1) (by omega)
      unfold fin
      split
      · simp; omega
      · simpa using h
    · simpa using h
theorem lexP_few (zs : List Int) : (lexP zs).1.length ≤ 16384 := by
  unfold lexP
  split
  · simp
  · exact lexF_few _ zs 0 0 (by decide)
theorem cat34 (l : List Int) : ((⟨#[34]⟩ : ByteArray) ++ strOfNums l ++ (⟨#[34]⟩ : ByteArray)) = strOfNums (34 :: (l ++ [34])) := by
  apply ByteArray.ext
  simp [strOfNums]

/-- the first two calls -/
def PwC (zs : List Int) (args : Array Value) (w : World) (Q : Value → World → Prop) : Prop :=
  Calls Try.prog 5 args w fun e w1 => ∃ ua uc, e = .returned (.tuple #[.slice ua (lexP zs).1.length uc, .int .i64 ((lexP zs).2.1 : Int), .int .i64 (lexP zs).2.2]) ∧
    Calls Try.prog 5 #[.slice (some ⟨w1.heap.size, 0, none⟩) 2 2] (w1.alloc (.cells #[.int .u8 120, .int .u8 59] 5 (2, 3))) fun e w3 => ∃ va vc, e = .returned (.tuple #[.slice va 2 vc, .int .i64 0, .int .i64 0]) ∧ Q (.slice ua (lexP zs).1.length uc) w3
theorem pwC_any {a : Option Addr} {n c : Nat} {zs : List Int} {w : World} (hR : Rd w.heap.size w a n zs) : PwC zs #[.slice a n c] w fun u w3 => OwT w.heap.size w3 u (lexP zs).1 ∧ Below w.heap.size w w3 := by
  refine (Tokens_all a n c zs w hR).mono ?_
  rintro e w1 ⟨u, rfl, h1, h2⟩
  obtain ⟨ua, uc, rfl⟩ := h1.form
  refine ⟨ua, uc, rfl, ?_⟩
  obtain ⟨W, hW⟩ : ∃ W, W = w1.alloc (.cells #[.int .u8 120, .int .u8 59] 5 (2, 3)) := ⟨_, rfl⟩
  have hg : W.heap[w1.heap.size]? = some (.cells #[.int .u8 120, .int .u8 59] 5 (2, 3)) := by rw [hW]; exact heap_new _ _
  have bW : Below w1.heap.size w1 W := by rw [hW]; exact below1 _ _
  rw [← hW]
  refine (Tokens_all (some ⟨w1.heap.size, 0, none⟩) 2 2 [120, 59] W ⟨rfl, by intro z hz; simp at hz; omega, .inr ⟨w1.heap.size, 0, rfl, (Array.getElem?_eq_some_iff.1 hg).1, fun t ht => ?_⟩⟩).mono ?_
  · rcases (show t = 0 ∨ t = 1 by omega) with rfl | rfl <;> simp [World.cell?, hg]
  · rintro e w3 ⟨v, rfl, h3, h4⟩
    obtain ⟨va, vc, rfl⟩ := h3.form
    have z1 := bW.size
    have z0 := h2.size
    refine ⟨va, vc, ?_, (h1.next bW).next h4, (h2.trans (bW.mono z0)).trans (h4.mono (by omega))⟩
    rw [lex_xs.1, lex_xs.2, show (lexP [120, 59]).2.1 = 0 from rfl]
    rfl

theorem OwT.some {B : Nat} {w : World} {ua : Option Addr} {m uc : Nat} {ts : List Tk} (h : OwT B w (.slice ua m uc) ts) (h0 : 0 < ts.length) : ∃ g, ua = Option.some ⟨g, 0, none⟩ ∧ B ≤ g ∧ g < w.heap.size := by
  have h' := h
  rcases h.2 with ⟨e, q⟩ | ⟨g, cap, cur, e, hb, hh, _⟩
  · omega
  · simp at e
    obtain ⟨rfl, rfl, rfl⟩ := e
    exact ⟨g, rfl, hb, (Array.getElem?_eq_some_iff.1 hh).1⟩
theorem OwT.cell4 {B : Nat} {w : World} {g m uc : Nat} {ts : List Tk} (h : OwT B w (.slice (Option.some ⟨g, 0, none⟩) m uc) ts) (hm : m = ts.length) (j : Nat) (hj : j < ts.length) : w.cell? ⟨g, j * 4, none⟩ = Option.some (.int .i64 ts[j].k) ∧ w.cell? ⟨g, j * 4 + 1, none⟩ = Option.some (.string (strOfNums ts[j].tx)) ∧ w.cell? ⟨g, j * 4 + 2, none⟩ = Option.some (.int .i64 ts[j].n) ∧ w.cell? ⟨g, j * 4 + 3, none⟩ = Option.some (.int .i64 ts[j].a) := by
  subst hm
  have hl := flatT_len ts
  have k : ∀ i, i < 4 → ∀ v, (cellsT ts[j])[i]? = Option.some v → w.cell? ⟨g, j * 4 + i, none⟩ = Option.some v := fun i hi v hv => by
    have h2 := World.ownsRow.cellAt h (j * 4 + i) (by omega)
    rw [h2]
    exact (flatT_at ts j hj i hi).trans hv
  exact ⟨k 0 (by decide) _ rfl, k 1 (by decide) _ rfl, k 2 (by decide) _ rfl, k 3 (by decide) _ rfl⟩

set_option maxRecDepth 100000 in
set_option maxHeartbeats 4000000 in
theorem places_law (a : Option Addr) (n c : Nat) (zs : List Int) (w : World) (hcap : n ≤ c) (hR : Rd w.heap.size w a n zs) :
    Calls Try.prog 3 #[.slice a n c] w fun e w' => e = .returned (.bool true) ∧ Below w.heap.size w w' := by
  have HC := hid (pwC_any (c := c) hR)
  have hzl := hR.1
  have hle := lexP_le zs
  have hlong : (lexP zs).2.2 = 0 ∨ (lexP zs).2.2 = 181 → n ≤ 65536 := fun h => by
    unfold lexP at h
    by_cases q : 65536 < zs.length
    · rw [if_pos q] at h
      rcases h with h | h <;> cases h
    · omega
  have kc := fun (w : World) (C : Array Value) (n c : Nat) => Lib.run_convert_bytes_const (P := Try.prog) w 22 5 C n c Try.underlying22 Try.underlying5
  unfold PwC at HC
  obtain ⟨L, hL⟩ : ∃ L, L = lexP zs := ⟨_, rfl⟩
  rw [← hL] at HC hle
  by_cases q1 : L.2.2 = 181
  · have hn := hlong (.inr (by rw [← hL]; exact q1))
    clear hlong
    have hb := lexP_byte (zs := zs) (by rw [← hL]; exact q1)
    rw [← hL] at hb
    obtain ⟨p, hp⟩ : ∃ p, p = L.2.1 := ⟨_, rfl⟩
    rw [← hp] at HC hb
    rw [q1] at HC
    have hpn : p < n := by omega
    have HT : Hid (∀ w3, Below w.heap.size w w3 → Calls Try.prog 5 #[.slice a p c] w3 fun e w4 => ∃ xa xn xc pl, e = .returned (.tuple #[.slice xa xn xc, .int .i64 pl, .int .i64 0]) ∧ Below w.heap.size w w4) := fun w3 h3 => by
      have h3' := hR.below h3
      have hR2 : Rd w3.heap.size w3 a p (zs.take p) := by
        obtain ⟨r1, r2, r3⟩ := h3'
        refine ⟨by simp; omega, Pl.isB_take r2 _, ?_⟩
        rcases r3 with r3 | ⟨b', off', e, hb', hc⟩
        · omega
        · refine .inr ⟨b', off', e, by have := h3.size; omega, fun t ht => ?_⟩
          rw [hc t (by omega), tk_getD ht]
      refine (Tokens_all a p c (zs.take p) w3 hR2).mono ?_
      rintro e w4 ⟨x, rfl, h5, h6⟩
      obtain ⟨xa, xc, rfl⟩ := h5.form
      rw [hb.2]
      exact ⟨xa, _, xc, _, rfl, h3.trans (h6.mono h3.size)⟩
    have hpc : (p : Int) ≤ (c : Int) := by omega
    have hp0 : (0 : Int) ≤ (p : Int) := by omega
    have hpn' : (p : Int) < (n : Int) := by omega
    clear hR hL q1 hb hp hle
    generalize L.1.length = un at *
    go_enter Try.func3, Try.ntmps3
    go_wp2_with fail
    refine Calls.mono HC.out ?_
    rintro e w1 ⟨ua, uc, rfl, h⟩
    have H5 := hid h
    clear h HC
    go_wp2_with fail
    refine Calls.mono H5.out ?_
    rintro e w3 ⟨va, vc, rfl, h1, h2⟩
    have H2 := hid (HT.out w3 h2)
    clear h1 h2 H5 HT
    go_wp2_with (first | (go_at_call 6; with_reducible refine (num_any _ _).mono ?_; rintro e w8 ⟨rfl, rfl⟩) | (go_at_call 5; with_reducible refine Calls.mono H2.out ?_; rintro e w4 ⟨xa, xn, xc, pl, rfl, h6⟩; have H6 := hid h6; clear h6))
    go_ret
    exact ⟨rfl, H6.out⟩
  by_cases q2 : L.2.2 = 0
  · have hn := hlong (.inl (by rw [← hL]; exact q2))
    clear hlong
    have hpl := lexP_plc (zs := zs) (by rw [← hL]; exact q2)
    rw [← hL] at hpl
    rw [q2] at HC
    have HPL := hid hpl
    have HR := hid hR
    obtain ⟨p, hp⟩ : ∃ p, p = L.2.1 := ⟨_, rfl⟩
    rw [← hp] at HC
    obtain ⟨ts, hts⟩ : ∃ ts, ts = L.1 := ⟨_, rfl⟩
    rw [← hts] at HC HPL
    have hfew : ts.length ≤ 16384 := by rw [hts, hL]; exact lexP_few zs
    clear hpl hR hL q1 q2 hp hts hle
    go_enter Try.func3, Try.ntmps3
    go_wp2_with fail
    refine Calls.mono HC.out ?_
    rintro e w1 ⟨ua, uc, rfl, h⟩
    have H5 := hid h
    clear h HC
    go_wp2_with fail
    refine Calls.mono H5.out ?_
    rintro e w3 ⟨va, vc, rfl, h1, h2⟩
    have H1 := hid h1
    have H2 := hid h2
    clear h1 h2 H5
    go_wp2_with (first | (go_at_call 6; with_reducible refine (num_any _ _).mono ?_; rintro e w8 ⟨rfl, rfl⟩))
    go_loopw [12, 13] (fun ev iv wr => ∃ (j en : Nat), iv = .int .i64 (j : Int) ∧ ev = .int .i64 (en : Int) ∧ j ≤ ts.length ∧ en ≤ zs.length ∧ Plc zs en (ts.drop j) ∧ OwT w.heap.size wr (.slice ua ts.length uc) ts ∧ Below w.heap.size w wr) (fun _ iv _ => ts.length - (intOf iv).toNat)
    case atStart => exact ⟨0, 0, rfl, rfl, Nat.zero_le _, Nat.zero_le _, HPL.out, H1.out, H2.out⟩
    case round =>
      clear HPL H1 H2
      obtain ⟨j, en, rfl, rfl, hj, hen, hpl, hO, hB⟩ := hrel
      by_cases hjl : j < ts.length
      · obtain ⟨g, rfl, hg0, hg1⟩ := hO.some (by omega)
        obtain ⟨t0, t1, t2, t3⟩ := hO.cell4 rfl j hjl
        rw [List.drop_eq_getElem_cons hjl] at hpl
        obtain ⟨pp, hpe, hfit, hpn⟩ := hpl
        have HNX : Hid (∀ o, Plc zs (endT ts[j] pp) (ts.drop (j + 1)) ∧ OwT w.heap.size (wr.alloc o) (.slice (some ⟨g, 0, none⟩) ts.length uc) ts ∧ Below w.heap.size w (wr.alloc o)) := fun o => ⟨hpn, hO.next (below1 _ _), hB.trans ((below1 _ _).mono hB.size)⟩
        obtain ⟨f1, f2, f3, f4, f5, f6, f7⟩ := hfit
        have hRw := HR.out.below hB
        obtain ⟨b0, off, rfl, hb0, hcell⟩ : ∃ b0 off, a = some ⟨b0, off, none⟩ ∧ b0 < w.heap.size ∧ True := by
          rcases hRw.2.2 with z | ⟨b0, off, e, hb0, _⟩
          · omega
          · exact ⟨b0, off, e, hb0, trivial⟩
        have HCV : Hid (∀ o q, pp ≤ q → q ≤ n → (convert 22 9 (.slice (some ⟨b0, off + pp, none⟩) (q - pp) (c - pp))).run Try.prog (wr.alloc o) = .ok (.string (strOfNums (subL zs pp q))) (wr.alloc o)) := fun o q h1 h2 => by
          have hbo : Below w.heap.size w (wr.alloc o) := hB.trans ((below1 _ _).mono hB.size)
          exact conv_str (rd_cut (HR.out.below hbo) pp q h1 h2) (c - pp)
        have hjl' : (j : Int) < (ts.length : Int) := by omega
        generalize ts[j] = t at *
        obtain ⟨tk, tl, tn, ta⟩ := t
        simp only at f1 f3 f4 f5 f6 f7 t0 t1 t2 t3
        subst f1
        have hUs := str_size tl
        have e1 : (en : Int) ≤ (pp : Int) := by omega
        have e2 : (pp : Int) < (n : Int) := by omega
        have e3 : (pp : Int) ≤ (c : Int) := by omega
        have e4 : ¬ c = pp := by omega
        clear hO hB hRw hcell hpn
        rcases (show (tk = 1 ∨ tk = 4) ∨ tk = 2 ∨ tk = 3 by omega) with q | rfl | rfl
        · have g5 := f5 q
          have e5 : pp + tl.length ≤ n := by unfold endT at f3; simp only at f3; omega
          have hend : endT ⟨tk, tl, tn, pp⟩ pp = pp + tl.length := by unfold endT; rcases q with rfl | rfl <;> simp
          have hcv := fun o => HCV.out o (pp + tl.length) (by omega) e5
          rw [g5, show pp + tl.length - pp = tl.length by omega] at hcv
          rw [hend] at HNX
          have e6 : (pp : Int) + (tl.length : Int) ≤ (n : Int) := by omega
          have e7 : (pp : Int) + (tl.length : Int) ≤ (c : Int) := by omega
          clear f5 f6 f7 g5 HCV hend f3 f4
          generalize strOfNums tl = U at *
          rcases q with rfl | rfl
          all_goals
            go_wp2
            refine ⟨⟨j + 1, pp + tl.length, by go_num, by rw [Int.natCast_add], by omega, by omega, (HNX.out (.cells #[] 0)).1, (HNX.out _).2.1, (HNX.out _).2.2⟩, by simp [intOf]; omega⟩
        · have g6 := f6 rfl
          have e5 : pp + tl.length + 2 ≤ n := by unfold endT at f3; simp at f3; omega
          have hend : endT ⟨2, tl, tn, pp⟩ pp = pp + tl.length + 2 := by unfold endT; simp
          have hcv := fun o => HCV.out o (pp + tl.length + 2) (by omega) e5
          rw [g6, show pp + tl.length + 2 - pp = 1 + tl.length + 1 by omega, ← cat34] at hcv
          rw [hend] at HNX
          have e6 : (pp : Int) + (tl.length : Int) + 2 ≤ (n : Int) := by omega
          have e7 : (pp : Int) + (tl.length : Int) + 2 ≤ (c : Int) := by omega
          clear f5 f6 f7 g6 HCV hend f3 f4
          generalize strOfNums tl = U at *
          go_wp2
          refine ⟨⟨j + 1, pp + tl.length + 2, by go_num, by rw [Int.natCast_add, Int.natCast_add]; rfl, by omega, by omega, (HNX.out (.cells #[] 0)).1, (HNX.out _).2.1, (HNX.out _).2.2⟩, by simp [intOf]; omega⟩
        · obtain ⟨rfl, z0, z1⟩ := f7 rfl
          have hend : endT ⟨3, [], tn, pp⟩ pp = pp + 1 := by unfold endT; simp
          have hcv := fun o => HCV.out o (pp + 1) (by omega) (by omega)
          rw [sub_cons (by omega) (by omega), show subL zs (pp + 1) (pp + 1) = [] by (unfold subL; simp), show pp + 1 - pp = 1 by omega] at hcv
          rw [hend] at HNX
          have e6 : (pp : Int) + 1 ≤ (n : Int) := by omega
          have e7 : (pp : Int) + 1 ≤ (c : Int) := by omega
          have hU1 := str_size [zs.getD pp 0]
          clear f5 f6 f7 HCV hend f3 f4
          generalize zs.getD pp 0 = z at *
          have hz10 : z = 48 ∨ z = 49 ∨ z = 50 ∨ z = 51 ∨ z = 52 ∨ z = 53 ∨ z = 54 ∨ z = 55 ∨ z = 56 ∨ z = 57 := by omega
          have hb1 : Op.bytesLess (strOfNums [z]).toList [48] = false := by rcases hz10 with rfl | rfl | rfl | rfl | rfl | rfl | rfl | rfl | rfl | rfl <;> (rw [Lib.strOfNums_toList]; decide)
          have hb2 : Op.bytesLess (strOfNums [z]).toList [57] = true ∨ Op.bytesLess (strOfNums [z]).toList [57] = false ∧ ((strOfNums [z]).toList == ([57] : List UInt8)) = true := by rcases hz10 with rfl | rfl | rfl | rfl | rfl | rfl | rfl | rfl | rfl | rfl <;> (rw [Lib.strOfNums_toList]; decide)
          clear hz10
          generalize strOfNums [z] = U at *
          rcases hb2 with h57 | ⟨h57, h57e⟩
          all_goals
            go_wp2
            refine ⟨⟨j + 1, pp + 1, by go_num, by rw [Int.natCast_add]; rfl, by omega, by omega, (HNX.out (.cells #[] 0)).1, (HNX.out _).2.1, (HNX.out _).2.2⟩, by simp [intOf]; omega⟩
      · have hjl' : ¬ (j : Int) < (ts.length : Int) := by omega
        have HBB := hid hB
        clear hpl hO hB
        go_wp2
        go_ret
        exact ⟨rfl, HBB.out⟩
  · clear hlong
    have hf := lexP_form zs (by rw [← hL]; exact q2)
    rw [← hL] at hf
    rw [hf] at HC
    obtain ⟨p, hp⟩ : ∃ p, p = L.2.1 := ⟨_, rfl⟩
    obtain ⟨ec, hec⟩ : ∃ ec, ec = L.2.2 := ⟨_, rfl⟩
    rw [← hp] at HC hle
    rw [← hec] at HC q1 q2
    have hpn' : (p : Int) ≤ (n : Int) := by omega
    have hp0 : (0 : Int) ≤ (p : Int) := by omega
    clear hR hL hf hp hec hle
    go_enter Try.func3, Try.ntmps3
    go_wp2_with fail
    refine Calls.mono HC.out ?_
    rintro e w1 ⟨ua, uc, rfl, h⟩
    have H5 := hid h
    clear h HC
    go_wp2_with fail
    refine Calls.mono H5.out ?_
    rintro e w3 ⟨va, vc, rfl, h1, h2⟩
    have H2 := hid h2
    clear h1 h2 H5
    go_wp2_with (first | (go_at_call 6; with_reducible refine (num_any _ _).mono ?_; rintro e w8 ⟨rfl, rfl⟩))
    go_ret
    exact ⟨rfl, H2.out⟩

end Go.Proofs.Ytoifmiloaefanaa
