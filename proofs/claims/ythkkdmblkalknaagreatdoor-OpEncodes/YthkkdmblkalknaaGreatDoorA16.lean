import Derived.Test.YthkkdmblkalknaaGreatDoorA15
/-
  OpOneForm: the calls behind its first loop.
-/
namespace Go.Proofs.YthkkdmblkalknaaGreatDoor
open Go.RowKit

theorem RdO.isB {B : Nat} {w : World} {x : Option Addr} {os : List PO} (h : RdO B w x os) : ∀ o ∈ os, Pl.isB o.da := by
  intro o ho
  obtain ⟨i, hi, rfl⟩ := List.getElem_of_mem ho
  rcases h.2 with e | ⟨b, off, _, _, hc⟩
  · rw [e] at hi; simp at hi
  · obtain ⟨a, c, _, r, _⟩ := hc i hi
    exact r.2.1
theorem ckA_all0 : ∀ (os : List PO), (∀ o ∈ os, o.ck = 0) → ckA os = 0
  | [], _ => rfl
  | o :: r, h => by
    unfold ckA
    rw [if_pos (h o (by simp)), ckA_all0 r (fun q hq => h q (by simp [hq]))]
theorem Ow.rdc {B : Nat} {w : World} {v : Value} {zs : List Int} (h : Ow B w v zs) (hb : Pl.isB zs) : RdC w.heap.size w v zs := by
  obtain ⟨a, c, rfl, h1, h2, h3⟩ := h.rd hb
  refine ⟨hb, ?_⟩
  cases a with
  | none =>
    have := h2.2.2
    rcases this with e | ⟨_, _, e, _⟩
    · rw [h3 rfl, e]
      exact .inl ⟨rfl, List.eq_nil_of_length_eq_zero e⟩
    · cases e
  | some ad =>
    rcases h.2 with ⟨e, _⟩ | ⟨g, cap, cur, e, _⟩
    · cases e
    · cases e
      refine .inr ⟨g, 0, c, rfl, h1, h.lt g rfl, fun t ht => ?_⟩
      rcases h2.2.2 with q | ⟨b, off, e2, _, hc⟩
      · omega
      · cases e2
        exact hc t ht
/-- the calls on the good ones -/
def OfC (gv : Value) (n L : Nat) (S : ByteArray) (W : World) (Q : World → Option Addr → Nat → Prop) : Prop :=
  Calls Tryz.prog 14 #[gv] W fun e w1 => ∃ a1 c1, e = .returned (.slice a1 n c1) ∧
    Calls Tryz.prog 12 #[.slice a1 n c1] w1 fun e w2 => ∃ ba bc, e = .returned (.tuple #[.slice ba L bc, .int .i64 0]) ∧
    Calls Tryz.prog 14 #[gv] w2 fun e w3 => ∃ a2 c2, e = .returned (.slice a2 n c2) ∧
    Calls Tryz.prog 15 #[.slice a2 n c2] w3 fun e w4 => e = .returned (.tuple #[.string S, .int .i64 0]) ∧
    Calls Tryz.prog 17 #[.slice ba L bc] w4 fun e w5 => ∃ da dc, e = .returned (.slice da L dc) ∧
    Calls Tryz.prog 16 #[.slice da L dc] w5 fun e w6 => ∃ xa xc, e = .returned (.tuple #[.slice xa n xc, .int .i64 0]) ∧
    Calls Tryz.prog 18 #[.string S] w6 fun e w7 => ∃ ya yc, e = .returned (.tuple #[.slice ya n yc, .int .i64 0, .int .i64 0]) ∧
    Calls Tryz.prog 19 #[.slice xa n xc, gv] w7 fun e w8 => e = .returned (.bool true) ∧
    Calls Tryz.prog 19 #[.slice ya n yc, gv] w8 fun e w9 => e = .returned (.bool true) ∧ Q w9 ba bc
set_option maxRecDepth 100000 in
theorem ofC_any {W : World} {ga : Option Addr} {gc : Nat} {gs : List PO} (hG : GT W) (hl : gs.length ≤ 16777216) (hR : RdO W.heap.size W ga gs) (hck : ∀ o ∈ gs, o.ck = 0) (he : (encL gs).length ≤ 16777216) (hp : (prtL gs).length ≤ 16777216) :
    OfC (.slice ga gs.length gc) gs.length (encL gs).length ⟨(prtL gs).toArray⟩ W fun w9 ba bc => Below W.heap.size W w9 ∧ Ow W.heap.size w9 (.slice ba (encL gs).length bc) (encL gs) := by
  have hok := hR.1
  have hB := hR.isB
  have hk0 := ckA_all0 gs hck
  have hbe : Pl.isB (encL gs) := by
    intro z hz
    obtain ⟨o, ho, hz⟩ := List.mem_flatMap.1 hz
    exact isB_encO (hck o ho) (hB o ho) z hz
  refine (CopyOps_any ga gc gs W hl hR).mono ?_
  rintro e w1 ⟨u1, vs1, rfl, o1, b1⟩
  obtain ⟨a1, c1, rfl, _, r1, _⟩ := o1.rdo hok hB
  have z1 := b1.size
  refine ⟨a1, c1, rfl, (Encode_any a1 c1 gs w1 hl (by omega) (hG.next b1) r1).mono ?_⟩
  rintro e w2 ⟨v2, rfl, o2, b2⟩
  rw [hk0, if_pos rfl] at o2
  obtain ⟨ba, bc, rfl⟩ := o2.form
  rw [hk0]
  have b12 : Below W.heap.size W w2 := b1.trans (b2.mono z1)
  have z2 := b12.size
  refine ⟨ba, bc, rfl, (CopyOps_any ga gc gs w2 hl ((hR.below b12).mono z2)).mono ?_⟩
  rintro e w3 ⟨u3, vs3, rfl, o3, b3⟩
  obtain ⟨a2, c2, rfl, _, r3, _⟩ := o3.rdo hok hB
  have b13 : Below W.heap.size W w3 := b12.trans (b3.mono z2)
  have z3 := b13.size
  refine ⟨a2, c2, rfl, (Print_any a2 c2 gs w3 hl (by omega) (hG.next b13) r3).mono ?_⟩
  rintro e w4 ⟨rfl, b4⟩
  rw [hk0, if_pos rfl]
  have b14 : Below W.heap.size W w4 := b13.trans (b4.mono z3)
  have z4 := b14.size
  have b24 : Below w2.heap.size w2 w4 := b3.trans (b4.mono b3.size)
  have o24 := o2.next b24
  obtain ⟨ba', bc', eb, hbc, rb, nb⟩ := o24.rd hbe
  cases eb
  refine ⟨rfl, (CopyBytes_any ba _ bc (encL gs) w4 rb nb he (Nat.le_refl _)).mono ?_⟩
  rintro e w5 ⟨v5, rfl, o5, b5⟩
  have b15 : Below W.heap.size W w5 := b14.trans (b5.mono z4)
  have z5 := b15.size
  have rc5 := o5.rdc hbe
  obtain ⟨da, dc, rfl⟩ := o5.form
  refine ⟨da, dc, rfl, (Decode_any _ (encL gs) w5 (hG.next b15) he rc5).mono ?_⟩
  rintro e w6 ⟨u6, vs6, rfl, o6, b6⟩
  rw [dcd_enc hck] at o6 ⊢
  simp only at o6 ⊢
  obtain ⟨xa, xc, rfl, _, r6, _⟩ := o6.rdo hok hB
  have b16 : Below W.heap.size W w6 := b15.trans (b6.mono z5)
  have z6 := b16.size
  have hsz : (⟨(prtL gs).toArray⟩ : ByteArray).size ≤ 16777216 := by show (prtL gs).toArray.size ≤ _; rw [List.size_toArray]; exact hp
  refine ⟨xa, xc, rfl, (Parse_any ⟨(prtL gs).toArray⟩ w6 (hG.next b16) hsz).mono ?_⟩
  rintro e w7 ⟨u7, vs7, rfl, o7, b7⟩
  rw [prs_prt hck hB] at o7 ⊢
  simp only at o7 ⊢
  obtain ⟨ya, yc, rfl, _, r7, _⟩ := o7.rdo hok hB
  have b17 : Below W.heap.size W w7 := b16.trans (b7.mono z6)
  have z7 := b17.size
  refine ⟨ya, yc, rfl, (SameOps_same xa ga xc gc gs w7 hl ((r6.below b7).mono b7.size) ((hR.below b17).mono z7)).mono ?_⟩
  rintro e w8 ⟨rfl, b8⟩
  have b18 : Below W.heap.size W w8 := b17.trans (b8.mono z7)
  have z8 := b18.size
  refine ⟨rfl, (SameOps_same ya ga yc gc gs w8 hl ((r7.below b8).mono b8.size) ((hR.below b18).mono z8)).mono ?_⟩
  rintro e w9 ⟨rfl, b9⟩
  have b19 : Below W.heap.size W w9 := b18.trans (b9.mono z8)
  have b29 : Below w2.heap.size w2 w9 := b24.trans ((b5.trans ((b6.trans ((b7.trans ((b8.trans (b9.mono b8.size)).mono b7.size)).mono b6.size)).mono b5.size)).mono b24.size)
  exact ⟨rfl, b19, (o2.next b29).mono z1⟩

end Go.Proofs.YthkkdmblkalknaaGreatDoor
/-
  OpOneForm: any bytes, any text.
-/
namespace Go.Proofs.YthkkdmblkalknaaGreatDoor
open Go.RowKit

theorem ck_okO {o : PO} (h : o.ck = 0) : okO o := by
  have q := ck_ok (show ckO o.k o.nm o.ot o.fr o.to o.da.length = 0 from h)
  have := q.k1
  have := q.k2
  have := q.nm
  have := q.ot
  have := q.f0
  have := q.f1
  have := q.t0
  have := q.t1
  have := q.n
  exact ⟨by omega, by omega, by omega, by omega, by omega, by omega, by omega, by omega, by omega⟩
set_option maxRecDepth 100000 in
theorem da_isB {o : PO} (h : o.ck = 0) (hb : Pl.isB (encO o)) : Pl.isB o.da := by
  obtain ⟨m, hF⟩ := ck_f h
  rw [encO_eq hF.fit] at hb
  by_cases hm : m = 8
  · subst hm
    intro z hz
    refine hb z ?_
    simp only [encK, List.mem_append]
    exact .inr (.inr (.inr hz))
  · rw [hF.e5 (by unfold uD; simpa using hm)]
    intro z hz
    cases hz
theorem encL_isB {os : List PO} (h : ∀ o ∈ os, o.ck = 0) (hb : Pl.isB (encL os)) : ∀ o ∈ os, Pl.isB o.da := fun o ho => da_isB (h o ho) fun z hz => hb z (List.mem_flatMap.2 ⟨o, ho, hz⟩)
theorem encL_many : ∀ (os : List PO), (∀ o ∈ os, o.ck = 0) → os.length ≤ (encL os).length
  | [], _ => by simp
  | o :: os, h => by
    have := encL_many os (fun q hq => h q (by simp [hq]))
    have := encO_ne (h o (by simp))
    rw [encL_cons, List.length_append, List.length_cons]
    omega
theorem decA_nil : ∀ (n : Nat) (s : St) (acc : List PO), (decA n s acc).2 ≠ 0 → (decA n s acc).1 = []
  | 0, s, acc, h => absurd rfl h
  | n + 1, s, acc, h => by
    unfold decA at h ⊢
    split
    · rename_i h0; rw [if_pos h0] at h; exact absurd rfl h
    · rename_i h0
      rw [if_neg h0] at h
      split
      · rename_i h1; rw [if_pos h1] at h; exact decA_nil n _ _ h
      · rfl
theorem dcd_ok {zs : List Int} (hb : Pl.isB zs) : (∀ o ∈ (dcd zs).1, o.ck = 0) ∧ (dcd zs).1.length ≤ zs.length ∧ (encL (dcd zs).1).length ≤ zs.length ∧ (∀ o ∈ (dcd zs).1, Pl.isB o.da) := by
  by_cases h : (dcd zs).2 = 0
  · obtain ⟨e1, e2⟩ := enc_dcd hb h
    have h1 : ∀ o ∈ (dcd zs).1, o.ck = 0 := fun o ho => (e2 o ho).1
    have h2 := encL_many _ h1
    rw [e1] at h2 ⊢
    exact ⟨h1, h2, Nat.le_refl _, encL_isB h1 (by rw [e1]; exact hb)⟩
  · have e : (dcd zs).1 = [] := decA_nil _ _ _ h
    rw [e]
    exact ⟨by simp, by simp, by simp [encL], by simp⟩
/-- any bytes -/
def OfD (a : Option Addr) (n c : Nat) (W : World) (Q : World → Prop) : Prop :=
  Calls Tryz.prog 17 #[.slice a n c] W fun e w1 => ∃ pa pc, e = .returned (.slice pa n pc) ∧
    Calls Tryz.prog 16 #[.slice pa n pc] w1 fun e w2 => ∃ za zn zc I, e = .returned (.tuple #[.slice za zn zc, .int .i64 I]) ∧
    Calls Tryz.prog 12 #[.slice za zn zc] w2 fun e w3 => ∃ ga gn gc, e = .returned (.tuple #[.slice ga gn gc, .int .i64 0]) ∧ (I = 0 → Calls Tryz.prog 20 #[.slice ga gn gc, .slice a n c] w3 fun e w4 => e = .returned (.bool true) ∧ w4 = w3) ∧ Q w3
theorem ofD_any {D : Nat} {W : World} {a : Option Addr} {n c : Nat} {zs : List Int} (hG : GT W) (hD : D ≤ W.heap.size) (hR : Rd D W a n zs) (ha : a = none → c = 0) (hn : n ≤ 16777216) : OfD a n c W fun w3 => Below W.heap.size W w3 := by
  have hzl : zs.length = n := hR.1
  have hb : Pl.isB zs := hR.2.1
  obtain ⟨d1, d2, d3, d4⟩ := dcd_ok hb
  refine (CopyBytes_any a n c zs W hR ha hn hD).mono ?_
  rintro e w1 ⟨v1, rfl, o1, b1⟩
  have rc1 := o1.rdc hb
  obtain ⟨pa, pc, rfl⟩ := o1.form
  rw [hzl] at rc1 ⊢
  have z1 := b1.size
  refine ⟨pa, pc, rfl, (Decode_any _ zs w1 (hG.next b1) (by omega) rc1).mono ?_⟩
  rintro e w2 ⟨u2, vs2, rfl, o2, b2⟩
  obtain ⟨za, zc, rfl, _, r2, _⟩ := o2.rdo (fun o ho => ck_okO (d1 o ho)) d4
  have b12 : Below W.heap.size W w2 := b1.trans (b2.mono z1)
  have z2 := b12.size
  refine ⟨za, _, zc, (dcd zs).2, rfl, (Encode_any za zc (dcd zs).1 w2 (by omega) (by omega) (hG.next b12) r2).mono ?_⟩
  rintro e w3 ⟨v3, rfl, o3, b3⟩
  rw [ckA_all0 _ d1, if_pos rfl] at o3
  obtain ⟨ga, gc, rfl⟩ := o3.form
  have b13 : Below W.heap.size W w3 := b12.trans (b3.mono z2)
  rw [ckA_all0 _ d1]
  refine ⟨ga, _, gc, rfl, fun hI => ?_, b13⟩
  have e1 := (enc_dcd hb hI).1
  rw [e1] at o3 ⊢
  obtain ⟨ga', gc', eg, _, r3, _⟩ := o3.rd hb
  cases eg
  rw [hzl] at r3 ⊢
  exact SameBytes_same ga a n gc c zs w3 r3 (hR.below (b13.mono hD))
/-! ### texts -/
theorem hexB_isB (s : ByteArray) : Pl.isB (hexB s) := by
  unfold hexB
  split
  · rename_i h
    unfold okHex at h
    simp only [Bool.and_eq_true, decide_eq_true_eq, List.all_eq_true] at h
    have hl : s.data.toList.length = 1024 := by rw [Array.length_toList]; exact h.1
    intro z hz
    unfold unh at hz
    obtain ⟨j, hj, rfl⟩ := List.mem_map.1 hz
    have hj' := List.mem_range.1 hj
    rw [if_pos (by omega)]
    have k : ∀ i, i < 1024 → 0 ≤ hv (s.data.toList.getD i 0) ∧ hv (s.data.toList.getD i 0) < 16 := fun i hi => by
      refine ⟨?_, (hv_bd _).2⟩
      rw [List.getD_eq_getElem?_getD, List.getElem?_eq_getElem (by omega)]
      exact h.2 _ (List.getElem_mem _)
    have k1 := k (2 * j) (by omega)
    have k2 := k (2 * j + 1) (by omega)
    omega
  · intro z hz; cases hz
theorem takeP_isB {o : PO} (h : Pl.isB o.da) (x t : ByteArray) : Pl.isB (takeP o x t).1.da := by
  unfold takeP
  repeat' split
  all_goals first | exact h | exact hexB_isB t
theorem takeL_isB : ∀ (l : List (ByteArray × ByteArray)) (o q : PO), Pl.isB o.da → takeL l o = some q → Pl.isB q.da
  | [], o, q, h, e => by simp [takeL] at e; rw [← e]; exact h
  | p :: r, o, q, h, e => by
    unfold takeL at e
    split at e
    · exact takeL_isB r _ q (takeP_isB h _ _) e
    · cases e
theorem lineP_isB (s : ByteArray) : Pl.isB (lineP s).1.da := by
  have h0 : Pl.isB PO0.da := fun z hz => by cases hz
  unfold lineP
  split
  · exact h0
  · split
    · exact h0
    · cases ht : takeL ((wordsOf (kd ((pieces s).getD 0 cE))).zip (pieces s)) (kind0 (kd ((pieces s).getD 0 cE))) with
      | none => exact h0
      | some o => exact takeL_isB _ _ o (fun z hz => by cases hz) ht
theorem prsL_nil : ∀ (ls : List ByteArray) (n : Nat) (acc : List PO), (prsL n ls acc).2.2 ≠ 0 → (prsL n ls acc).1 = []
  | [], _, _, h => absurd rfl h
  | x :: ls, n, acc, h => by
    unfold prsL at h ⊢
    split
    · rename_i hx; rw [if_pos hx] at h; exact prsL_nil ls _ _ h
    · rfl
theorem prs_ok (s : ByteArray) : (∀ o ∈ (prs s).1, o.ck = 0) ∧ (prs s).1.length ≤ s.size ∧ (prtL (prs s).1).length ≤ s.size ∧ (∀ o ∈ (prs s).1, Pl.isB o.da) := by
  by_cases h : (prs s).2.2 = 0
  · obtain ⟨e1, e2⟩ := prt_prs h
    have hall := prsL_zero (linesB s) 0 [] h
    have e : (prs s).1 = (linesB s).map (fun l => (lineP l).1) := by unfold prs; rw [prsL_ok _ 0 [] hall]; rfl
    refine ⟨e2, ?_, by rw [e1, Array.length_toList]; exact Nat.le_refl _, ?_⟩
    · rw [e, List.length_map]
      exact linesB_len s.size s (Nat.le_refl _)
    · rw [e]
      intro o ho
      obtain ⟨l, _, rfl⟩ := List.mem_map.1 ho
      exact lineP_isB l
  · have e : (prs s).1 = [] := prsL_nil _ _ _ h
    rw [e]
    exact ⟨by simp, by simp, by simp [prtL], by simp⟩
/-- any text -/
def OfT (s : ByteArray) (W : World) (Q : World → Prop) : Prop :=
  Calls Tryz.prog 18 #[.string s] W fun e w1 => ∃ ua un uc K I, e = .returned (.tuple #[.slice ua un uc, .int .i64 K, .int .i64 I]) ∧
    Calls Tryz.prog 15 #[.slice ua un uc] w1 fun e w2 => ∃ S, e = .returned (.tuple #[.string S, .int .i64 0]) ∧ (I = 0 → S = s) ∧ Q w2
theorem ofT_any {W : World} {s : ByteArray} (hG : GT W) (hs : s.size ≤ 16777216) : OfT s W fun w2 => Below W.heap.size W w2 := by
  obtain ⟨d1, d2, d3, d4⟩ := prs_ok s
  refine (Parse_any s W hG hs).mono ?_
  rintro e w1 ⟨u1, vs1, rfl, o1, b1⟩
  obtain ⟨ua, uc, rfl, _, r1, _⟩ := o1.rdo (fun o ho => ck_okO (d1 o ho)) d4
  refine ⟨ua, _, uc, _, (prs s).2.2, rfl, (Print_any ua uc (prs s).1 w1 (by omega) (by omega) (hG.next b1) r1).mono ?_⟩
  rintro e w2 ⟨rfl, b2⟩
  rw [ckA_all0 _ d1, if_pos rfl]
  refine ⟨_, rfl, fun hI => ?_, b1.trans (b2.mono b1.size)⟩
  exact ba_ext (by rw [List.toList_toArray]; exact (prt_prs hI).1)

end Go.Proofs.YthkkdmblkalknaaGreatDoor
/-
  OpOneForm: the list that is cut short.
-/
namespace Go.Proofs.YthkkdmblkalknaaGreatDoor
open Go.RowKit

theorem ends_lt {gs : List PO} (h : ∀ o ∈ gs, o.ck = 0) : ∀ (i j : Nat), i < j → j ≤ gs.length → ends gs i < ends gs j
  | i, 0, hij, _ => by omega
  | i, j + 1, hij, hj => by
    have e := ends_succ gs j (by omega)
    have p := encO_ne (h gs[j] (List.getElem_mem _))
    by_cases q : i = j
    · subst q; omega
    · have := ends_lt h i j (by omega) (by omega)
      omega
theorem ends_zero (gs : List PO) : ends gs 0 = 0 := by simp [ends, encL]
/-- so many end at or before a place -/
def cnt (gs : List PO) (p t : Nat) : Nat := ((List.range t).filter fun i => decide (ends gs (i + 1) ≤ p)).length
def whl (gs : List PO) (p t : Nat) : Bool := decide (p = 0) || (List.range t).any fun i => decide (ends gs (i + 1) = p)
theorem cnt_succ (gs : List PO) (p t : Nat) : cnt gs p (t + 1) = cnt gs p t + if ends gs (t + 1) ≤ p then 1 else 0 := by
  unfold cnt
  rw [List.range_succ, List.filter_append, List.length_append]
  congr 1
  by_cases h : ends gs (t + 1) ≤ p
  · simp [h]
  · simp [h]
theorem whl_succ (gs : List PO) (p t : Nat) : whl gs p (t + 1) = (whl gs p t || decide (ends gs (t + 1) = p)) := by
  unfold whl
  rw [List.range_succ, List.any_append]
  simp [Bool.or_assoc]
theorem cnt_le (gs : List PO) (p t : Nat) : cnt gs p t ≤ t := by
  unfold cnt
  exact Nat.le_trans (List.length_filter_le _ _) (by simp)
theorem range_lt : ∀ (n j : Nat), ((List.range n).filter fun i => decide (i < j)).length = min n j
  | 0, j => by simp
  | n + 1, j => by
    rw [List.range_succ, List.filter_append, List.length_append, range_lt n j]
    by_cases h : n < j
    · simp [h]; omega
    · simp [h]; omega
theorem cnt_at {gs : List PO} (h : ∀ o ∈ gs, o.ck = 0) {j : Nat} (hj : j ≤ gs.length) : cnt gs (ends gs j) gs.length = j := by
  unfold cnt
  have e : (List.range gs.length).filter (fun i => decide (ends gs (i + 1) ≤ ends gs j)) = (List.range gs.length).filter fun i => decide (i < j) := by
    refine List.filter_congr fun i hi => ?_
    have hi' := List.mem_range.1 hi
    by_cases q : i < j
    · have : ends gs (i + 1) ≤ ends gs j := by
        by_cases q2 : i + 1 = j
        · rw [q2]; exact Nat.le_refl _
        · exact Nat.le_of_lt (ends_lt h _ _ (by omega) hj)
      simp [q, this]
    · have := ends_lt h j (i + 1) (by omega) (by omega)
      simp [q]
      omega
  rw [e, range_lt]
  omega
theorem whl_yes {gs : List PO} (h : ∀ o ∈ gs, o.ck = 0) {p : Nat} (hw : whl gs p gs.length = true) : ∃ j, j ≤ gs.length ∧ p = ends gs j ∧ cnt gs p gs.length = j := by
  unfold whl at hw
  rw [Bool.or_eq_true] at hw
  rcases hw with q | q
  · have : p = 0 := of_decide_eq_true q
    subst this
    exact ⟨0, Nat.zero_le _, (ends_zero gs).symm, by have := cnt_at h (Nat.zero_le gs.length); rwa [ends_zero] at this⟩
  · obtain ⟨i, hi, hp⟩ := List.any_eq_true.1 q
    have hi' := List.mem_range.1 hi
    have hp' : ends gs (i + 1) = p := of_decide_eq_true hp
    subst hp'
    exact ⟨i + 1, by omega, rfl, cnt_at h (by omega)⟩
theorem whl_no {gs : List PO} {p : Nat} (hw : whl gs p gs.length = false) : ∀ j, j ≤ gs.length → p ≠ ends gs j := by
  intro j hj e
  unfold whl at hw
  rw [Bool.or_eq_false_iff] at hw
  cases j with
  | zero => rw [ends_zero] at e; exact absurd e (of_decide_eq_false hw.1)
  | succ i =>
    have := List.any_eq_false.1 hw.2 i (List.mem_range.2 (by omega))
    simp at this
    exact this e.symm
/-- what is cut within an operation -/
theorem dcd_within {gs : List PO} (h : ∀ o ∈ gs, o.ck = 0) (hd : ∀ o ∈ gs, Pl.isB o.da) {p : Nat} (hp : p ≤ (encL gs).length) (hn : ∀ j, j ≤ gs.length → p ≠ ends gs j) : dcd ((encL gs).take p) = ([], 161) := by
  have key : ∀ j, j ≤ gs.length → ends gs j < p ∨ ∃ i, i < j ∧ ends gs i < p ∧ p < ends gs (i + 1) := by
    intro j
    induction j with
    | zero =>
      intro _
      have := hn 0 (Nat.zero_le _)
      rw [ends_zero] at this ⊢
      exact .inl (by omega)
    | succ j ih =>
      intro hj
      rcases ih (by omega) with q | ⟨i, q1, q2⟩
      · have := hn (j + 1) hj
        by_cases q3 : ends gs (j + 1) < p
        · exact .inl q3
        · exact .inr ⟨j, by omega, q, by omega⟩
      · exact .inr ⟨i, by omega, q2⟩
  rcases key gs.length (Nat.le_refl _) with q | ⟨i, q1, q2, q3⟩
  · rw [ends_all] at q; omega
  · exact dcd_cut h hd i q1 p q2 q3
theorem RdO.take {B : Nat} {w : World} {x : Option Addr} {os : List PO} (h : RdO B w x os) (j : Nat) : RdO B w x (os.take j) := by
  refine ⟨fun o ho => h.1 o (List.mem_of_mem_take ho), ?_⟩
  rcases h.2 with e | ⟨b, off, e, hb, hc⟩
  · exact .inl (by rw [e]; simp)
  · refine .inr ⟨b, off, e, hb, fun t ht => ?_⟩
    rw [List.length_take] at ht
    rw [List.getElem_take]
    exact hc t (by omega)
/-- the calls on what is cut -/
def OfX (ba : Option Addr) (p bc : Nat) (W : World) (Q : World → Option Addr → Nat → Nat → Int → Prop) : Prop :=
  Calls Tryz.prog 17 #[.slice ba p bc] W fun e w1 => ∃ qa qc, e = .returned (.slice qa p qc) ∧
    Calls Tryz.prog 16 #[.slice qa p qc] w1 fun e w2 => ∃ ta tn tc I, e = .returned (.tuple #[.slice ta tn tc, .int .i64 I]) ∧ Q w2 ta tn tc I
theorem ofX_any {D B : Nat} {W : World} {ga ba : Option Addr} {gc bc p : Nat} {gs : List PO} (hG : GT W) (hl : gs.length ≤ 16777216) (hR : RdO D W ga gs) (hD : D ≤ W.heap.size) (hck : ∀ o ∈ gs, o.ck = 0) (hb : Ow B W (.slice ba (encL gs).length bc) (encL gs)) (he : (encL gs).length ≤ 16777216) (hp : p ≤ (encL gs).length) :
    OfX ba p bc W fun w2 ta tn tc I => (∀ j, j ≤ gs.length → p = ends gs j → I = 0 ∧ tn = j ∧ Calls Tryz.prog 19 #[.slice ta tn tc, .slice ga j gc] w2 fun e w3 => e = .returned (.bool true) ∧ Below W.heap.size W w3) ∧ ((∀ j, j ≤ gs.length → p ≠ ends gs j) → I = 161 ∧ tn = 0) ∧ Below W.heap.size W w2 := by
  have hB := hR.isB
  have hbe : Pl.isB (encL gs) := by
    intro z hz
    obtain ⟨o, ho, hz⟩ := List.mem_flatMap.1 hz
    exact isB_encO (hck o ho) (hB o ho) z hz
  have hbt : Pl.isB ((encL gs).take p) := Pl.isB_take hbe p
  obtain ⟨ba', bc', eb, hbc, rb, nb⟩ := hb.rd hbe
  cases eb
  have rb' : Rd W.heap.size W ba p ((encL gs).take p) := by
    refine ⟨by rw [List.length_take]; omega, hbt, ?_⟩
    rcases rb.2.2 with q | ⟨b, off, e, hlt, hc⟩
    · exact .inl (by omega)
    · refine .inr ⟨b, off, e, hlt, fun t ht => ?_⟩
      rw [hc t (by omega), List.getD_eq_getElem?_getD, List.getD_eq_getElem?_getD, List.getElem?_take_of_lt ht]
  refine (CopyBytes_any ba p bc ((encL gs).take p) W rb' nb (by omega) (Nat.le_refl _)).mono ?_
  rintro e w1 ⟨v1, rfl, o1, b1⟩
  have rc1 := o1.rdc hbt
  obtain ⟨qa, qc, rfl⟩ := o1.form
  have hlt : ((encL gs).take p).length = p := by rw [List.length_take]; omega
  rw [hlt] at rc1 ⊢
  have z1 := b1.size
  refine ⟨qa, qc, rfl, (Decode_any _ ((encL gs).take p) w1 (hG.next b1) (by omega) rc1).mono ?_⟩
  rintro e w2 ⟨u2, vs2, rfl, o2, b2⟩
  have b12 : Below W.heap.size W w2 := b1.trans (b2.mono z1)
  have z2 := b12.size
  obtain ⟨ta, tn, tc, rfl⟩ : ∃ a n c, u2 = .slice a n c := by
    rcases o2.row.2 with ⟨e, _⟩ | ⟨g, cap, cur, e, _⟩
    · exact ⟨_, _, _, e⟩
    · exact ⟨_, _, _, e⟩
  refine ⟨ta, tn, tc, _, rfl, fun j hj hpj => ?_, fun hno => ?_, b12⟩
  · have hd := dcd_whole hck j
    rw [← hpj] at hd
    rw [hd] at o2 ⊢
    simp only at o2 ⊢
    obtain ⟨ta', tc', e1, _, r2, _⟩ := o2.rdo (fun o ho => hR.1 o (List.mem_of_mem_take ho)) (fun o ho => hB o (List.mem_of_mem_take ho))
    have hlj : (gs.take j).length = j := by rw [List.length_take]; omega
    rw [hlj] at e1
    cases e1
    refine ⟨trivial, rfl, ?_⟩
    have hs := SameOps_same ta ga tc gc (gs.take tn) w2 (by omega) r2 (((hR.take tn).below (b12.mono hD)).mono (by omega))
    rw [hlj] at hs
    refine hs.mono ?_
    rintro e w3 ⟨rfl, b3⟩
    exact ⟨rfl, b12.trans (b3.mono z2)⟩
  · rw [dcd_within hck hB hp hno] at o2 ⊢
    refine ⟨rfl, ?_⟩
    rcases o2.row.2 with ⟨e, _⟩ | ⟨g, cap, cur, e, _⟩
    · cases e; rfl
    · cases e; rfl

end Go.Proofs.YthkkdmblkalknaaGreatDoor
