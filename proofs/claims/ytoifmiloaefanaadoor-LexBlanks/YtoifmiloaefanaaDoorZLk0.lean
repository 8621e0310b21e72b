import Derived.Test.YtoifmiloaefanaaDoorZFa0
import Derived.Test.YtoifmiloaefanaaDoorZTl2
/-
  LexBack: the law.
-/
namespace Go.Proofs.YtoifmiloaefanaaDoor
open Go.RowKit

theorem jnL_bound (B : Nat) : ∀ (ls : List (List Int)), (∀ l ∈ ls, l.length ≤ B) → (jnL ls).length ≤ ls.length * (B + 1)
  | [], _ => by simp [jnL]
  | [l], h => by
    have := h l (by simp)
    simp [jnL]
    omega
  | l :: m :: r, h => by
    have ih := jnL_bound B (m :: r) (fun x hx => h x (by simp at hx ⊢; exact .inr hx))
    have h1 := h l (by simp)
    have e : jnL (l :: m :: r) = l ++ 32 :: jnL (m :: r) := rfl
    rw [e, List.length_append, List.length_cons, List.length_cons, Nat.succ_mul]
    omega
/-- a fair token -/
def FrT (t : Tk) : Prop := mayT t = true ∧ TkH t ∧ t.tx.length ≤ 600000
theorem fr_bound {ts : List Tk} (h : ∀ t ∈ ts, FrT t) (hn : ts.length ≤ 1048576) (j : Nat) : (jnL ((ts.map wrT).take j)).length ≤ 1099511627776 := by
  have h1 := jnL_bound 600013 ((ts.map wrT).take j) (fun l hl => by
    obtain ⟨t, ht, rfl⟩ := List.mem_map.1 (List.mem_of_mem_take hl)
    obtain ⟨a, _, c⟩ := h t ht
    have := (wrT_len a).2
    omega)
  have h2 : ((ts.map wrT).take j).length ≤ 1048576 := by
    rw [List.length_take, List.length_map]
    omega
  have h3 := Nat.mul_le_mul_right (600013 + 1) h2
  omega
theorem Rd.ofConv {w W : World} {zs : List Int} (hB : Pl.isB zs) (c1 : ∀ j, j < zs.length → W.cell? ⟨w.heap.size, j, none⟩ = some (.int .u8 (zs.getD j 0))) : Rd W.heap.size W (some ⟨w.heap.size, 0, none⟩) zs.length zs := by
  refine ⟨rfl, hB, ?_⟩
  by_cases hz : zs.length = 0
  · exact .inl hz
  · refine .inr ⟨w.heap.size, 0, rfl, ?_, fun t ht => by rw [Nat.zero_add]; exact c1 t ht⟩
    have := c1 0 (by omega)
    by_cases q : w.heap.size < W.heap.size
    · exact q
    · exfalso
      simp only [World.cell?] at this
      rw [Array.getElem?_eq_none (by omega)] at this
      cases this
def LbI (w : World) (n : Nat) (sv iv : Value) (wr : World) : Prop := ∃ (j : Nat) (ua : Option Addr) (uc : Nat) (ts : List Tk), iv = .int .i64 (j : Int) ∧ sv = .slice ua j uc ∧ ts.length = j ∧ j ≤ n ∧ OwT w.heap.size wr sv ts ∧ (∀ t ∈ ts, FrT t) ∧ Below w.heap.size w wr
/-- the calls, all well -/
def LbC (w : World) (ua : Option Addr) (n uc : Nat) (wr : World) : Prop := Calls Tryd.prog 9 #[.slice ua n uc] wr fun e w1 => ∃ (S : ByteArray) (cv : Nat) (W3 : World), e = .returned (.tuple #[.string S, .int .i64 0]) ∧ (convert 9 22 (.string S)).run Tryd.prog w1 = .ok (.slice (some ⟨w1.heap.size, 0, none⟩) S.size cv) W3 ∧
  Calls Tryd.prog 7 #[.slice (some ⟨w1.heap.size, 0, none⟩) S.size cv] W3 fun e w4 => ∃ ba bc, e = .returned (.tuple #[.slice ba n bc, .int .i64 0, .int .i64 0]) ∧
  Calls Tryd.prog 12 #[.slice ba n bc, .slice ua n uc] w4 fun e w5 => e = .returned (.bool true) ∧ Calls Tryd.prog 9 #[.slice ba n bc] w5 fun e w6 => e = .returned (.tuple #[.string S, .int .i64 0]) ∧
  Calls Tryd.prog 11 #[.slice ua n uc] w6 fun e w7 => e = .returned (.int .i64 (S.size : Int)) ∧ Below w.heap.size w w7
theorem untQ_may {ts : List Tk} (hn : ts.length ≤ 16384) (h : ∀ t ∈ ts, mayT t = true) : untQ ts = jnQ (ts.map wrT) := untQ_yes (by omega) (fun i hi => h _ (List.getElem_mem hi))
theorem lbc_any {w wr : World} {ua : Option Addr} {n uc : Nat} {ts : List Tk} (hn : ts.length = n) (h1 : n ≤ 16384) (hO : OwT w.heap.size wr (.slice ua n uc) ts) (hf : ∀ t ∈ ts, FrT t) (hG : GT w) (hb : Below w.heap.size w wr) (hl : (jnL (ts.map wrT)).length ≤ 65536) : LbC w ua n uc wr := by
  have hmy : ∀ t ∈ ts, mayT t = true := fun t ht => (hf t ht).1
  have hq : untQ ts = (jnL (ts.map wrT), 0) := by
    rw [untQ_may (by omega) hmy]
    unfold jnQ
    rw [if_neg (by omega)]
  have z0 := hb.size
  refine (Untoken_all ua n uc ts wr hn (hO.rd hn.symm) (hG.next hb) (fun t ht => (hf t ht).2.1.g)).mono ?_
  rintro e w1 ⟨rfl, b1⟩
  rw [hq]
  have z1 := b1.size
  have hB : Pl.isB (jnL (ts.map wrT)) := isB_jnL _ (fun l hl => by
    obtain ⟨t, ht, rfl⟩ := List.mem_map.1 hl
    exact isB_wrT (hf t ht).1 (hf t ht).2.1.1)
  obtain ⟨us, hus1, hus2⟩ := lex_back ts hmy (by omega) hl
  have hzw : (jnL (ts.map wrT)) = (jnL (us.map wrT)) := by rw [strip_wr hus2]
  have hul : us.length = n := by
    have := congrArg List.length hus2
    simp at this
    omega
  have huq : untQ us = (jnL (ts.map wrT), 0) := by
    rw [untQ_may (by omega) (strip_may hus2 hmy), strip_wr hus2]
    unfold jnQ
    rw [if_neg (by omega)]
  obtain ⟨zs, hzs⟩ : ∃ zs, zs = jnL (ts.map wrT) := ⟨_, rfl⟩
  rw [← hzs] at hB hus1 huq hl ⊢
  obtain ⟨W3, cv, e3, c3, b3⟩ := conv_bytes zs hB w1
  have hsz := str_size zs
  have z3 := b3.size
  rw [← hsz] at e3
  refine ⟨strOfNums zs, cv, W3, rfl, e3, ?_⟩
  have hT := Tokens_any (some ⟨w1.heap.size, 0, none⟩) zs.length cv zs W3 (by omega) (Rd.ofConv hB c3)
  rw [← hsz] at hT
  refine hT.mono ?_
  rintro e w4 ⟨u, rfl, hu, b4⟩
  rw [hus1] at hu ⊢
  obtain ⟨ba, bc, rfl⟩ := hu.form
  simp only at hu ⊢
  rw [hul] at hu ⊢
  refine ⟨ba, bc, rfl, ?_⟩
  have z4 := b4.size
  have bw4 : Below w.heap.size w w4 := ((hb.trans (b1.mono z0)).trans (b3.mono (by omega))).trans (b4.mono (by omega))
  have hO4 : OwT w.heap.size w4 (.slice ua n uc) ts := ((hO.next b1).next b3).next b4
  refine (alike_yes ba ua n bc uc us ts w4 hul hn hus2 (hu.rd hul.symm) (hO4.rd hn.symm) (by omega)).mono ?_
  rintro e w5 ⟨rfl, b5⟩
  have z5 := b5.size
  refine ⟨rfl, ?_⟩
  have bw5 := bw4.trans (b5.mono (by omega))
  have hfu : ∀ t ∈ us, TkG t := fun t ht => by
    have : strip t ∈ ts.map strip := by rw [← hus2]; exact List.mem_map.2 ⟨t, ht, rfl⟩
    obtain ⟨v, hv, e⟩ := List.mem_map.1 this
    have h9 := (hf v hv).2.1.g
    have e1 : TkG (strip v) := h9
    rw [e] at e1
    exact e1
  refine (Untoken_all ba n bc us w5 hul ((hu.next b5).rd hul.symm) (hG.next bw5) hfu).mono ?_
  rintro e w6 ⟨rfl, b6⟩
  rw [huq]
  refine ⟨rfl, ?_⟩
  refine (weight_any ua n uc ts w6 hn (by omega) (((hO4.next b5).next b6).rd hn.symm) hmy (fun j _ => fr_bound hf (by omega) j) (fun t ht => by have := (hf t ht).2.2; omega)).mono ?_
  rintro e w7 ⟨rfl, rfl⟩
  rw [← hzs, hsz]
  exact ⟨rfl, bw5.trans (b6.mono (by omega))⟩

set_option maxRecDepth 100000 in
set_option maxHeartbeats 4000000 in
theorem back_law (a : Option Addr) (n c : Nat) (rs : List Tk) (w : World) (hn : rs.length = n) (hN : n ≤ 1048576) (hG : GT w) (hO : TkO w a c rs) (hh : ∀ t ∈ rs, TkH t) :
    Calls Tryd.prog 4 #[.slice a n c] w fun e w' => e = .returned (.bool true) ∧ Below w.heap.size w w' := by
  have HO := hid hO
  have HH := hid hh
  have HG := hid hG
  have H0 : Hid (LbI w n (.slice none 0 0) (.int .i64 0) w) := ⟨0, none, 0, [], rfl, rfl, rfl, Nat.zero_le _, OwT.nil _ _, fun t ht => by simp at ht, Below.refl _ _⟩
  clear hO hh hG
  go_enter Tryd.func4, Tryd.ntmps4
  go_wp2_with fail
  go_loopw [3, 4] (fun sv iv wr => LbI w n sv iv wr) (fun _ iv _ => n - (intOf iv).toNat)
  case atStart => exact H0.out
  case round =>
    clear H0
    obtain ⟨j, ua, uc, ts, rfl, rfl, hl, hj, hOw, hf, hBe⟩ := hrel
    by_cases hjn : j < n
    · have hjn' : (j : Int) < (n : Int) := by omega
      have hjt : j < rs.length := by omega
      obtain ⟨g0, off, rfl, _, hcs⟩ := (HO.out.next hBe).resolve_left (by rintro (⟨_, _, e⟩ | ⟨_, _, e⟩) <;> (rw [e] at hjt; simp at hjt))
      have cc4 : ∀ i, i < 4 → ∀ v, (cellsT rs[j])[i]? = some v → wr.cell? ⟨g0, off + (j * 4 + i), none⟩ = some v := fun i hi v hv => hcs _ _ ((flatT_at rs j hjt i hi).trans hv)
      have s0 : wr.cell? ⟨g0, off + j * 4, none⟩ = some (.int .i64 rs[j].k) := cc4 0 (by decide) _ rfl
      have s1 : wr.cell? ⟨g0, off + j * 4 + 1, none⟩ = some (.string (strOfNums rs[j].tx)) := cc4 1 (by decide) _ rfl
      have s2 : wr.cell? ⟨g0, off + j * 4 + 2, none⟩ = some (.int .i64 rs[j].n) := cc4 2 (by decide) _ rfl
      have s3 : wr.cell? ⟨g0, off + j * 4 + 3, none⟩ = some (.int .i64 rs[j].a) := cc4 3 (by decide) _ rfl
      have hbx := (HH.out _ (List.getElem_mem hjt)).2.1
      have HF : Hid (Calls Tryd.prog 10 #[tokV rs[j]] wr fun e w1 => ∃ (k' : Int) (S' : ByteArray) (n' a' : Int) (v2 : Value) (w2 : World), e = .returned (.agg (tcs k' S' n' a')) ∧ (Builtin.append_ #[23, 23] 23 #[.slice ua j uc, .slice (some ⟨w1.heap.size, 0, none⟩) 1 1]).run Tryd.prog (w1.alloc (.cells (tcs k' S' n' a') 29)) = .ok v2 w2 ∧ ∀ iv, iv = .int .i64 ((j : Int) + 1) → LbI w n v2 iv w2) := by
        refine (fair_any rs[j] wr (by omega)).mono ?_
        rintro e w1 ⟨u, rfl, q1, q2, q3, q4⟩
        have z0 := hBe.size
        have z1 := q4.size
        obtain ⟨v2, w2, hr, k1, k2⟩ := OwT.push 23 ((hOw.next q4).next (below1 w1 (.cells (cellsT u).toArray 29))) u (heap_new _ _) (by omega) (by simp; omega)
        obtain ⟨a2, c2, rfl⟩ := k1.form
        refine ⟨u.k, strOfNums u.tx, u.n, u.a, _, w2, rfl, hr, fun iv hiv => ⟨j + 1, a2, c2, ts ++ [u], by rw [hiv, Int.natCast_add]; rfl, by rw [List.length_append, hl]; rfl, by simp [hl], by omega, k1, fun t ht => ?_, ?_⟩⟩
        · rcases List.mem_append.1 ht with ht | ht
          · exact hf t ht
          · simp at ht; subst ht; exact ⟨q1, q2, q3⟩
        · exact ((hBe.trans (q4.mono z0)).trans ((below1 _ _).mono (by omega))).trans (k2.below (by simp; omega) (fun g hg => (own_blk hOw hg).1))
      clear hcs cc4 hBe hOw hf
      generalize rs[j] = t at *
      obtain ⟨tk, tl, tn, ta⟩ := t
      simp only [tokV] at s0 s1 s2 s3 HF
      generalize strOfNums tl = U at *
      go_wp2_with fail
      refine Calls.mono HF.out ?_
      rintro e w1 ⟨k', S', n', a', v2, w2, rfl, hr, h⟩
      have HE := hid h
      clear h HF
      go_wp2_with (at_builtin; refine Lib.wpList_append_run _ rfl _ _ _ _ rfl _ _ rfl rfl _ _ hr ?_)
      exact ⟨HE.out _ rfl, by simp [intOf]; omega⟩
    · obtain rfl : j = n := by omega
      have hjn' : ¬ (j : Int) < (j : Int) := by omega
      have hmy : ∀ t ∈ ts, mayT t = true := fun t ht => (hf t ht).1
      by_cases hmany : 16384 < j
      · have hmany' : (16384 : Int) < (j : Int) := by omega
        have HU : Hid (Calls Tryd.prog 9 #[.slice ua j uc] wr fun e w1 => e = .returned (.tuple #[.string ⟨#[]⟩, .int .i64 184]) ∧ Below w.heap.size w w1) := by
          refine (Untoken_all ua j uc ts wr hl (hOw.rd hl.symm) (HG.out.next hBe) (fun t ht => (hf t ht).2.1.g)).mono ?_
          rintro e w1 ⟨rfl, b1⟩
          refine ⟨?_, hBe.trans (b1.mono hBe.size)⟩
          unfold untQ
          rw [if_pos (by omega)]
          rfl
        clear hBe hOw hf hmy
        go_wp2_with fail
        refine Calls.mono HU.out ?_
        rintro e w1 ⟨rfl, h⟩
        have HB := hid h
        have H8 := hid (num_any 184 w1)
        clear h HU
        go_wp2_with (go_at_call 8; refine Calls.mono H8.out ?_; rintro e w2 ⟨rfl, rfl⟩)
        go_ret
        exact ⟨rfl, HB.out⟩
      · have hmany' : ¬ (16384 : Int) < (j : Int) := by omega
        by_cases hlong : 65536 < (jnL (ts.map wrT)).length
        · have HU : Hid (Calls Tryd.prog 9 #[.slice ua j uc] wr fun e w1 => e = .returned (.tuple #[.string ⟨#[]⟩, .int .i64 180]) ∧ Calls Tryd.prog 11 #[.slice ua j uc] w1 fun e w2 => ∃ L : Int, e = .returned (.int .i64 L) ∧ 65536 < L ∧ Below w.heap.size w w2) := by
            refine (Untoken_all ua j uc ts wr hl (hOw.rd hl.symm) (HG.out.next hBe) (fun t ht => (hf t ht).2.1.g)).mono ?_
            rintro e w1 ⟨rfl, b1⟩
            refine ⟨?_, ?_⟩
            · rw [untQ_may (by omega) hmy]
              unfold jnQ
              rw [if_pos hlong]
              rfl
            · refine (weight_any ua j uc ts w1 hl (by omega) ((hOw.next b1).rd hl.symm) hmy (fun j _ => fr_bound hf (by omega) j) (fun t ht => by have := (hf t ht).2.2; omega)).mono ?_
              rintro e w2 ⟨rfl, rfl⟩
              exact ⟨_, rfl, by omega, hBe.trans (b1.mono hBe.size)⟩
          clear hBe hOw hf hmy hlong
          go_wp2_with fail
          refine Calls.mono HU.out ?_
          rintro e w1 ⟨rfl, h⟩
          have HW := hid h
          have H8 := hid (num_any 180 w1)
          have hdj : decide ((16384 : Int) < (j : Int)) = false := by simpa using hmany'
          clear h HU
          go_wp2_with (go_at_call 8; refine Calls.mono H8.out ?_; rintro e w2 ⟨rfl, rfl⟩)
          refine Calls.mono HW.out ?_
          rintro e w2 ⟨L, rfl, hL, h⟩
          have HB := hid h
          clear h HW
          go_wp2_with fail
          go_ret
          exact ⟨rfl, HB.out⟩
        · have HC := hid (lbc_any hl (by omega) hOw hf HG.out hBe (by omega))
          clear hBe hOw hf hmy hlong
          go_wp2_with fail
          refine Calls.mono HC.out ?_
          rintro e w1 ⟨S, cv, W3, rfl, hcv, h⟩
          have H7 := hid h
          have H8 := hid (num_any 0 w1)
          clear h HC
          go_wp2_with (go_at_call 8; refine Calls.mono H8.out ?_; rintro e w2 ⟨rfl, rfl⟩)
          refine Calls.mono H7.out ?_
          rintro e w4 ⟨ba, bc, rfl, h⟩
          have H12 := hid h
          have H8b := hid (num_any 0 w4)
          clear h H7 H8
          go_wp2_with (go_at_call 8; refine Calls.mono H8b.out ?_; rintro e w2 ⟨rfl, rfl⟩)
          refine Calls.mono H12.out ?_
          rintro e w5 ⟨rfl, h⟩
          have H9 := hid h
          clear h H12 H8b
          go_wp2_with fail
          refine Calls.mono H9.out ?_
          rintro e w6 ⟨rfl, h⟩
          have H11 := hid h
          have H8c := hid (num_any 0 w6)
          have hs : (S.toList == S.toList) = true := by simp
          clear h H9
          go_wp2_with (go_at_call 8; refine Calls.mono H8c.out ?_; rintro e w2 ⟨rfl, rfl⟩)
          refine Calls.mono H11.out ?_
          rintro e w7 ⟨rfl, h⟩
          have HB := hid h
          have he : ((S.size : Int) == (S.size : Int)) = true := by simp
          clear h H11
          go_wp2_with fail
          go_ret
          exact ⟨rfl, HB.out⟩

end Go.Proofs.YtoifmiloaefanaaDoor
