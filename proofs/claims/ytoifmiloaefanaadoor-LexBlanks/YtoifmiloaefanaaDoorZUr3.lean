import Derived.Test.YtoifmiloaefanaaDoorZUr2
import Derived.Lib.AppendStr
/-
  The document's: Untoken, of any tokens.
-/
namespace Go.Proofs.YtoifmiloaefanaaDoor
open Go.RowKit

theorem strCells_eq (x : List Int) (hx : Pl.isB x) : Lib.strCells (strOfNums x) = x.map (Value.int .u8) := by
  unfold Lib.strCells
  simp only [strOfNums, List.toList_toArray, List.map_map]
  refine List.map_congr_left fun z hz => ?_
  have := hx z hz
  simp
  omega
theorem OwB.str {B : Nat} {w : World} {v : Value} {l : List Int} (ty : TypeId) (h : OwB B w v l) (x : List Int) (hx : Pl.isB x) (hl : l.length + x.length ≤ 140737488355328) (hw : B ≤ w.heap.size) :
    ∃ v' w', (Builtin.append_ #[22, 9] ty #[v, .string (strOfNums x)]).run Tryd.prog w = .ok v' w' ∧ OwB B w' v' (l ++ x) ∧ Below B w w' := by
  obtain ⟨i0, hi, hz0, hz1, hz2⟩ := info_parts info5
  obtain ⟨v', w', hr, h2, h3, _⟩ := Lib.run_append_own_string (P := Tryd.prog) w B 22 9 ty 5 i0 Tryd.underlying22 Tryd.underlying9 hi hz0 hz1 hz2 v l.length (l.map (Value.int .u8)) h (strOfNums x) (by rw [str_size]; unfold maxLen; omega) (by rw [str_size]; omega) hw
  refine ⟨v', w', hr, ?_, ⟨h3.os, h3.tape, h3.output, h3.size, fun k hk => h3.block k (by omega) (fun e => by have := (own_blk h e.symm).1; omega)⟩⟩
  unfold OwB
  rw [List.length_append, List.map_append, ← strCells_eq x hx]
  rw [str_size] at h2
  exact h2
theorem OwB.pushB {B : Nat} {w : World} {v : Value} {l : List Int} (ty : TypeId) (h : OwB B w v l) (z : Int) {g : Nat} (hg : w.heap[g]? = some (.cells #[.int .u8 z] 5 (0, 0))) (hl : l.length ≤ 16777216) (hw : B ≤ w.heap.size) :
    ∃ v' w', (Builtin.append_ #[22, 22] ty #[v, .slice (some ⟨g, 0, none⟩) 1 1]).run Tryd.prog w = .ok v' w' ∧ OwB B w' v' (l ++ [z]) ∧ Below B w w' := by
  obtain ⟨v', w', hr, h2, h3⟩ := h.push ty z hg hl hw
  exact ⟨v', w', hr, h2, h3.below hw (fun g hg => (own_blk h hg).1)⟩
theorem isB_itoL (v : Nat) : Pl.isB (itoL (v : Int)) := fun z hz => by
  have := itoL_dig v z hz
  unfold isDig at this
  simp at this
  omega
theorem isB_wrT {t : Tk} (hm : mayT t = true) (hB : Pl.isB t.tx) : Pl.isB (wrT t) := by
  obtain ⟨k, l, n, a⟩ := t
  by_cases k3 : k = 3
  · subst k3
    have hn : 0 ≤ n := by
      unfold mayT at hm
      simp at hm
      omega
    obtain ⟨v, rfl⟩ : ∃ v : Nat, n = (v : Int) := ⟨n.toNat, by omega⟩
    have hw : wrT ⟨3, l, (v : Int), a⟩ = itoL (v : Int) := by unfold wrT; simp
    rw [hw]
    exact isB_itoL v
  · unfold wrT wrL
    rw [if_neg k3]
    split
    · exact hB
    split
    · intro z hz
      simp at hz
      rcases hz with rfl | hz | rfl
      · omega
      · exact hB z hz
      · omega
    · intro z hz; simp at hz
theorem wrT_len {t : Tk} (hm : mayT t = true) : t.tx.length ≤ (wrT t).length ∧ (wrT t).length ≤ t.tx.length + 13 := by
  obtain ⟨k, l, n, a⟩ := t
  by_cases k3 : k = 3
  · subst k3
    have hn : (l = [] ∧ 0 ≤ n) ∧ n ≤ 1099511627776 := by
      unfold mayT at hm
      simp at hm
      exact ⟨⟨hm.1, hm.2.1⟩, hm.2.2⟩
    obtain ⟨⟨rfl, h0⟩, h1⟩ := hn
    obtain ⟨v, rfl⟩ : ∃ v : Nat, n = (v : Int) := ⟨n.toNat, by omega⟩
    have hw : wrT ⟨3, [], (v : Int), a⟩ = itoL (v : Int) := by unfold wrT; simp
    rw [hw]
    have := itoL_len 12 v (by omega)
    exact ⟨Nat.zero_le _, by show _ ≤ 0 + 13; omega⟩
  · unfold wrT wrL
    rw [if_neg k3]
    split
    · simp
    split
    · simp; omega
    · rename_i q1 q2
      unfold mayT at hm
      have q3 : k ≠ 1 := fun e => q1 (.inl e)
      have q4 : k ≠ 4 := fun e => q1 (.inr e)
      simp at q2
      simp [k3, q2, q3, q4] at hm
theorem wrT_ne {t : Tk} (hm : mayT t = true) : wrT t ≠ [] := by
  intro e
  rw [← may_eq] at hm
  unfold mbT at hm
  rw [if_pos e] at hm
  cases hm

theorem isB_jnL : ∀ (ls : List (List Int)), (∀ l ∈ ls, Pl.isB l) → Pl.isB (jnL ls)
  | [], _ => fun z hz => by simp [jnL] at hz
  | [l], h => fun z hz => h l (by simp) z (by simpa [jnL] using hz)
  | l :: m :: r, h => fun z hz => by
    have ih := isB_jnL (m :: r) (fun x hx => h x (by simp at hx ⊢; exact .inr hx))
    have e : jnL (l :: m :: r) = l ++ 32 :: jnL (m :: r) := rfl
    rw [e] at hz
    simp at hz
    rcases hz with hz | rfl | hz
    · exact h l (by simp) z hz
    · omega
    · exact ih z hz
def UnQ (w : World) (ts : List Tk) (e : Ending) (w' : World) : Prop := e = .returned (.tuple #[.string (strOfNums (untQ ts).1), .int .i64 (untQ ts).2]) ∧ Below w.heap.size w w'
def UnI (w : World) (ts : List Tk) (n : Nat) (ov lv iv : Value) (wr : World) : Prop := ∃ (j : Nat) (lg : Bool), iv = .int .i64 (j : Int) ∧ lv = .bool lg ∧ j ≤ n ∧ (∀ i (hi : i < ts.length), i < j → mayT ts[i] = true) ∧ Below w.heap.size w wr ∧
  ((lg = true ∧ 65536 < (jnL ((ts.map wrT).take j)).length) ∨ (lg = false ∧ (∃ oa oc, ov = .slice oa (jnL ((ts.map wrT).take j)).length oc) ∧ OwB w.heap.size wr ov (jnL ((ts.map wrT).take j)) ∧ (jnL ((ts.map wrT).take j)).length ≤ 65600))
theorem untQ_no {ts : List Tk} {j : Nat} (hn : ¬ 16384 < ts.length) (hj : j < ts.length) (h : mayT ts[j] = false) : untQ ts = ([], 185) := by
  unfold untQ
  rw [if_neg hn, if_neg]
  intro hall
  have := List.all_eq_true.1 hall ts[j] (List.getElem_mem hj)
  rw [may_eq, h] at this
  cases this
theorem untQ_yes {ts : List Tk} (hn : ¬ 16384 < ts.length) (h : ∀ i (hi : i < ts.length), mayT ts[i] = true) : untQ ts = jnQ (ts.map wrT) := by
  unfold untQ
  rw [if_neg hn, if_pos]
  refine List.all_eq_true.2 fun t ht => ?_
  obtain ⟨i, hi, rfl⟩ := List.mem_iff_getElem.1 ht
  rw [may_eq]
  exact h i hi
theorem jnL_next {ts : List Tk} {j : Nat} (hj : j < ts.length) : (0 < j → jnL ((ts.map wrT).take (j + 1)) = jnL ((ts.map wrT).take j) ++ [32] ++ wrT ts[j]) ∧ (j = 0 → jnL ((ts.map wrT).take (j + 1)) = wrT ts[j]) := by
  have hl : j < (ts.map wrT).length := by simpa using hj
  refine ⟨fun h => ?_, fun h => ?_⟩
  · rw [jnL_take h hl, List.getElem_map]
  · subst h
    rw [jnL_take0 hl, List.getElem_map]

set_option maxRecDepth 100000 in
set_option maxHeartbeats 4000000 in
theorem rUntoken_all (a : Option Addr) (n c : Nat) (ts : List Tk) (w : World) (hn : ts.length = n) (hR : TkR w a ts) (hb : ∀ t ∈ ts, Pl.isB t.tx ∧ t.tx.length ≤ 16777215) :
    Calls Tryd.prog 15 #[.slice a n c] w (UnQ w ts) := by
  obtain ⟨PQ, hPQ⟩ : ∃ PQ, PQ = UnQ w ts := ⟨_, rfl⟩
  rw [← hPQ]
  by_cases h1 : 16384 < n
  · have HP : Hid (PQ (.returned (.tuple #[.string ⟨#[]⟩, .int .i64 184])) w) := by
      show PQ _ _
      rw [hPQ]
      refine ⟨?_, Below.refl _ _⟩
      unfold untQ
      rw [if_pos (by omega)]
      rfl
    have h1' : (16384 : Int) < (n : Int) := by omega
    clear hPQ hR hb hn
    go_enter Tryd.func15, Tryd.ntmps15
    go_wp2
    exact HP.out
  have h1' : ¬ (16384 : Int) < (n : Int) := by omega
  have HR := hid hR
  have Hb := hid hb
  have HPQ := hid hPQ
  have H0 : Hid (UnI w ts n (.slice none 0 0) (.bool false) (.int .i64 0) w) := by
    refine ⟨0, false, rfl, rfl, Nat.zero_le _, fun i hi h => by omega, Below.refl _ _, .inr ⟨rfl, ⟨none, 0, rfl⟩, ?_, by simp [jnL]⟩⟩
    exact ⟨rfl, .inl ⟨rfl, rfl⟩⟩
  clear hR hb hPQ
  go_enter Tryd.func15, Tryd.ntmps15
  go_wp2_with fail
  go_loopw [4, 5, 6] (fun ov lv iv wr => UnI w ts n ov lv iv wr) (fun _ _ iv _ => n - (intOf iv).toNat)
  case atStart => exact H0.out
  case round =>
    clear H0
    obtain ⟨j, lg, rfl, rfl, hj, hmy, hBe, hI⟩ := hrel
    by_cases hjn : j < n
    · have hjt : j < ts.length := by omega
      have hjn' : (j : Int) < (n : Int) := by omega
      have hRw := HR.out
      obtain ⟨g, rfl, hg, hcs⟩ := (hRw.next hBe).resolve_left (by intro e; rw [e] at hjt; simp at hjt)
      obtain ⟨t0, t1, t2, t3⟩ := hcs j hjt
      obtain ⟨hbx, hlx⟩ := Hb.out _ (List.getElem_mem hjt)
      have hM := rmay_any ts[j] wr hbx hlx
      obtain ⟨t, ht⟩ : ∃ t, t = ts[j] := ⟨_, rfl⟩
      rw [← ht] at t0 t1 t2 t3 hM hbx hlx
      cases hmt : mayT t with
      | false =>
        have HP : Hid (∀ w1, Below wr.heap.size wr w1 → PQ (.returned (.tuple #[.string ⟨#[]⟩, .int .i64 185])) w1) := fun w1 h => by
          rw [HPQ.out]
          refine ⟨?_, hBe.trans (h.mono hBe.size)⟩
          rw [untQ_no (by omega) hjt (by rw [← ht]; exact hmt)]
          rfl
        rw [hmt] at hM
        have HM := hid hM
        clear hM hmt hI hmy hBe hRw hcs hg ht hbx hlx
        obtain ⟨tk, tl, tn, ta⟩ := t
        simp only [tokV] at t0 t1 t2 t3 HM
        generalize strOfNums tl = U at *
        go_wp2_with fail
        refine Calls.mono HM.out ?_
        rintro e w1 ⟨rfl, h⟩
        have HQ := hid (HP.out w1 h)
        clear h HP HM
        go_wp2_with fail
        exact HQ.out
      | true =>
        rw [hmt] at hM
        have hmy' : ∀ i (hi : i < ts.length), i < j + 1 → mayT ts[i] = true := fun i hi h => by
          by_cases q : i = j
          · subst q; rw [← ht]; exact hmt
          · exact hmy i hi (by omega)
        obtain ⟨hjl1, hjl2⟩ := jnL_next hjt
        rw [← ht] at hjl1 hjl2
        obtain ⟨hw1, hw2⟩ := wrT_len hmt
        rcases hI with ⟨rfl, hI⟩ | ⟨rfl, ⟨oa, oc, rfl⟩, hO, hLe⟩
        · have HP : Hid (∀ w1 ov iv, Below wr.heap.size wr w1 → iv = .int .i64 ((j + 1 : Nat) : Int) → UnI w ts n ov (.bool true) iv w1) := fun w1 ov iv h hiv => by
            refine ⟨j + 1, true, hiv, rfl, by omega, hmy', hBe.trans (h.mono hBe.size), .inl ⟨rfl, ?_⟩⟩
            have := jnL_mono (ls := ts.map wrT) j 1 (by simp; omega)
            omega
          have HM := hid hM
          clear hM hmt hI hmy hmy' hBe hRw hcs hg ht hbx hlx hjl1 hjl2 hw1 hw2
          obtain ⟨tk, tl, tn, ta⟩ := t
          simp only [tokV] at t0 t1 t2 t3 HM
          generalize strOfNums tl = U at *
          go_wp2_with fail
          refine Calls.mono HM.out ?_
          rintro e w1 ⟨rfl, h⟩
          have HQ := hid (HP.out w1)
          have HB1 := hid h
          clear h HP HM
          go_wp2_with fail
          exact ⟨HQ.out _ _ HB1.out (by simp), by simp [intOf]; omega⟩
        · obtain ⟨L, hL⟩ : ∃ L, L = jnL ((ts.map wrT).take j) := ⟨_, rfl⟩
          rw [← hL] at hO hLe hjl1
          have hszt := str_size t.tx
          by_cases hlong : 65536 < L.length + t.tx.length
          · have HP : Hid (∀ w1 ov iv, Below wr.heap.size wr w1 → iv = .int .i64 ((j + 1 : Nat) : Int) → UnI w ts n ov (.bool true) iv w1) := fun w1 ov iv h hiv => by
              refine ⟨j + 1, true, hiv, rfl, by omega, hmy', hBe.trans (h.mono hBe.size), .inl ⟨rfl, ?_⟩⟩
              by_cases q : 0 < j
              · rw [hjl1 q]
                simp
                omega
              · obtain rfl : j = 0 := by omega
                rw [hjl2 rfl]
                have : L.length = 0 := by rw [hL]; rfl
                omega
            have HM : Hid (Calls Tryd.prog 21 #[tokV t] wr fun e w1 => e = .returned (.bool true) ∧ Below wr.heap.size wr w1 ∧ w1.cell? ⟨g, j * 4 + 1, none⟩ = some (.string (strOfNums t.tx))) := by
              refine hM.mono ?_
              rintro e w1 ⟨rfl, h⟩
              refine ⟨rfl, h, ?_⟩
              rw [← t1]
              simp only [World.cell?]
              rw [h.block g hg]
            have hlong' : decide ((65536 : Int) < (L.length : Int) + ((strOfNums t.tx).size : Int)) = true := by rw [decide_eq_true_eq]; omega
            have hsb : (strOfNums t.tx).size ≤ 16777215 := by omega
            have hLb : L.length ≤ 65600 := hLe
            clear hszt
            rw [← hL]
            clear hM hmt hO hmy hmy' hBe hRw hcs hg ht hbx hlx hjl1 hjl2 hw1 hw2 hL hlong hLe
            obtain ⟨tk, tl, tn, ta⟩ := t
            simp only [tokV] at t0 t1 t2 t3 HM hsb hlong'
            generalize strOfNums tl = U at *
            go_wp2_with fail
            refine Calls.mono HM.out ?_
            rintro e w1 ⟨rfl, h, u1⟩
            have HQ := hid (HP.out w1)
            have HB1 := hid h
            clear h HP HM
            go_wp2_with fail
            exact ⟨HQ.out _ _ HB1.out (by simp), by simp [intOf]; omega⟩
          · obtain ⟨L2, hL2⟩ : ∃ L2, L2 = jnL ((ts.map wrT).take (j + 1)) := ⟨_, rfl⟩
            rw [← hL2] at hjl1 hjl2
            have hisB := isB_wrT hmt hbx
            have hwne := wrT_ne hmt
            have hL2p : 0 < L2.length := by
              by_cases q : 0 < j
              · rw [hjl1 q]; simp; omega
              · rw [hjl2 (by omega)]; exact List.length_pos_iff.2 hwne
            have hlong' : decide ((65536 : Int) < (L.length : Int) + ((strOfNums t.tx).size : Int)) = false := by rw [decide_eq_false_iff_not]; omega
            have hsb : (strOfNums t.tx).size ≤ 16777215 := by omega
            have hLb : L.length ≤ 65600 := hLe
            -- the end: written, and appended
            have hend : ∀ w2 v1 l1, Below w.heap.size w w2 → OwB w.heap.size w2 v1 l1 → l1 ++ wrT t = L2 → l1.length ≤ 65700 → Calls Tryd.prog 22 #[tokV t] w2 fun e w3 => e = .returned (.string (strOfNums (wrT t))) ∧ ∃ oa2 oc2 w4, (Builtin.append_ #[22, 9] 22 #[v1, .string (strOfNums (wrT t))]).run Tryd.prog w3 = .ok (.slice oa2 L2.length oc2) w4 ∧ ∀ iv, iv = .int .i64 ((j + 1 : Nat) : Int) → UnI w ts n (.slice oa2 L2.length oc2) (.bool false) iv w4 := by
              intro w2 v1 l1 q1 q2 q3 q4
              refine (rwritten_any t w2 hmt (by omega)).mono ?_
              rintro e w3 ⟨rfl, q5⟩
              refine ⟨rfl, ?_⟩
              have z2 := q1.size
              have z3 := q5.size
              obtain ⟨v', w4, hr, k1, k2⟩ := (q2.next q5).str 22 (wrT t) hisB (by omega) (by omega)
              rw [q3] at k1
              obtain ⟨g4, c4, rfl, _⟩ := k1.form hL2p
              refine ⟨_, _, w4, hr, fun iv hiv => ⟨j + 1, false, hiv, rfl, by omega, hmy', ((q1.trans (q5.mono z2)).trans k2), .inr ⟨rfl, ⟨_, _, by rw [hL2]⟩, by rw [← hL2]; exact k1, ?_⟩⟩⟩
              rw [← hL2]
              by_cases q : 0 < j
              · rw [hjl1 q]
                simp
                omega
              · rw [hjl2 (by omega)]
                have : L.length = 0 := by obtain rfl : j = 0 := by omega
                                          rw [hL]; rfl
                omega
            by_cases j0 : j = 0
            · have hLz : L = [] := by subst j0; rw [hL]; rfl
              have HM : Hid (Calls Tryd.prog 21 #[tokV t] wr fun e w1 => e = .returned (.bool true) ∧ (w1.cell? ⟨g, j * 4, none⟩ = some (.int .i64 t.k) ∧ w1.cell? ⟨g, j * 4 + 1, none⟩ = some (.string (strOfNums t.tx)) ∧ w1.cell? ⟨g, j * 4 + 2, none⟩ = some (.int .i64 t.n) ∧ w1.cell? ⟨g, j * 4 + 3, none⟩ = some (.int .i64 t.a)) ∧ Calls Tryd.prog 22 #[tokV t] w1 fun e w3 => e = .returned (.string (strOfNums (wrT t))) ∧ ∃ oa2 oc2 w4, (Builtin.append_ #[22, 9] 22 #[.slice oa L.length oc, .string (strOfNums (wrT t))]).run Tryd.prog w3 = .ok (.slice oa2 L2.length oc2) w4 ∧ ∀ iv, iv = .int .i64 ((j + 1 : Nat) : Int) → UnI w ts n (.slice oa2 L2.length oc2) (.bool false) iv w4) := by
                refine hM.mono ?_
                rintro e w1 ⟨rfl, h⟩
                have hce : ∀ o, w1.cell? ⟨g, o, none⟩ = wr.cell? ⟨g, o, none⟩ := fun o => by simp only [World.cell?]; rw [h.block g hg]
                refine ⟨rfl, ⟨by rw [hce]; exact t0, by rw [hce]; exact t1, by rw [hce]; exact t2, by rw [hce]; exact t3⟩, hend w1 _ L (hBe.trans (h.mono hBe.size)) (hO.next h) (by rw [hLz, List.nil_append, hjl2 j0]) (by omega)⟩
              rw [← hL]
              clear hM hmt hO hmy hmy' hBe hRw hcs hg ht hbx hlx hjl1 hjl2 hw1 hw2 hL hlong hLe hend hL2 hL2p hisB hwne hszt hLz
              subst j0
              generalize strOfNums (wrT t) = V at *
              obtain ⟨tk, tl, tn, ta⟩ := t
              simp only [tokV] at t0 t1 t2 t3 HM hsb hlong'
              generalize strOfNums tl = U at *
              go_wp2_with fail
              refine Calls.mono HM.out ?_
              rintro e w1 ⟨rfl, ⟨u0, u1, u2, u3⟩, h⟩
              have HC := hid h
              clear h HM
              go_wp2_with fail
              refine Calls.mono HC.out ?_
              rintro e w3 ⟨rfl, oa2, oc2, w4, hr, h⟩
              have HE := hid h
              clear h HC
              go_wp2_with (at_builtin; refine Lib.wpList_append_run _ rfl _ _ _ _ rfl _ _ rfl rfl _ _ hr ?_)
              exact ⟨HE.out _ (by simp), by simp [intOf]; omega⟩
            · have j0' : (0 : Int) < (j : Int) := by omega
              have HM : Hid (Calls Tryd.prog 21 #[tokV t] wr fun e w1 => e = .returned (.bool true) ∧ w1.cell? ⟨g, j * 4 + 1, none⟩ = some (.string (strOfNums t.tx)) ∧ ∃ v1 w2, (Builtin.append_ #[22, 22] 22 #[.slice oa L.length oc, .slice (some ⟨w1.heap.size, 0, none⟩) 1 1]).run Tryd.prog (w1.alloc (.cells #[.int .u8 32] 5)) = .ok v1 w2 ∧ (w2.cell? ⟨g, j * 4, none⟩ = some (.int .i64 t.k) ∧ w2.cell? ⟨g, j * 4 + 1, none⟩ = some (.string (strOfNums t.tx)) ∧ w2.cell? ⟨g, j * 4 + 2, none⟩ = some (.int .i64 t.n) ∧ w2.cell? ⟨g, j * 4 + 3, none⟩ = some (.int .i64 t.a)) ∧ Calls Tryd.prog 22 #[tokV t] w2 fun e w3 => e = .returned (.string (strOfNums (wrT t))) ∧ ∃ oa2 oc2 w4, (Builtin.append_ #[22, 9] 22 #[v1, .string (strOfNums (wrT t))]).run Tryd.prog w3 = .ok (.slice oa2 L2.length oc2) w4 ∧ ∀ iv, iv = .int .i64 ((j + 1 : Nat) : Int) → UnI w ts n (.slice oa2 L2.length oc2) (.bool false) iv w4) := by
                refine hM.mono ?_
                rintro e w1 ⟨rfl, h⟩
                have hce : ∀ o, w1.cell? ⟨g, o, none⟩ = wr.cell? ⟨g, o, none⟩ := fun o => by simp only [World.cell?]; rw [h.block g hg]
                have z0 := hBe.size
                have z1 := h.size
                have bq : Below w.heap.size w (w1.alloc (.cells #[.int .u8 32] 5)) := (hBe.trans (h.mono hBe.size)).trans ((below1 _ _).mono (by omega))
                obtain ⟨v1, w2, hr, k1, k2⟩ := OwB.pushB 22 ((hO.next h).next (below1 w1 (.cells #[.int .u8 32] 5))) 32 (heap_new _ _) (by omega) (by simp; omega)
                have bw2 : Below w.heap.size w w2 := bq.trans k2
                obtain ⟨g', e', hg', hcs'⟩ := (hRw.next bw2).resolve_left (by intro e; rw [e] at hjt; simp at hjt)
                have eg : g' = g := by simp at e'; exact e'.symm
                subst eg
                obtain ⟨s0, s1, s2, s3⟩ := hcs' j hjt
                rw [← ht] at s0 s1 s2 s3
                exact ⟨rfl, by rw [hce]; exact t1, v1, w2, hr, ⟨s0, s1, s2, s3⟩, hend w2 v1 (L ++ [32]) bw2 k1 (by rw [hjl1 (by omega)]) (by simp; omega)⟩
              rw [← hL]
              clear hM hmt hO hmy hmy' hBe hRw hcs hg ht hbx hlx hjl1 hjl2 hw1 hw2 hL hlong hLe hend hL2 hL2p hisB hwne hszt
              generalize strOfNums (wrT t) = V at *
              obtain ⟨tk, tl, tn, ta⟩ := t
              simp only [tokV] at t0 t1 t2 t3 HM hsb hlong'
              generalize strOfNums tl = U at *
              go_wp2_with fail
              refine Calls.mono HM.out ?_
              rintro e w1 ⟨rfl, u1, v1, w2, hr1, ⟨s0, s1, s2, s3⟩, h⟩
              have HC := hid h
              clear h HM
              go_wp2_with (at_builtin; refine Lib.wpList_append_run _ rfl _ _ _ _ rfl _ _ rfl rfl _ _ hr1 ?_)
              refine Calls.mono HC.out ?_
              rintro e w3 ⟨rfl, oa2, oc2, w4, hr, h⟩
              have HE := hid h
              clear h HC
              go_wp2_with (at_builtin; refine Lib.wpList_append_run _ rfl _ _ _ _ rfl _ _ rfl rfl _ _ hr ?_)
              exact ⟨HE.out _ (by simp), by simp [intOf]; omega⟩
    · obtain rfl : j = n := by omega
      have hjn' : ¬ (j : Int) < (j : Int) := by omega
      have hall : untQ ts = jnQ (ts.map wrT) := untQ_yes (by omega) (fun i hi => hmy i hi (by omega))
      have htk : (ts.map wrT).take j = ts.map wrT := List.take_of_length_le (by simp; omega)
      rw [htk] at hI
      rcases hI with ⟨rfl, hI⟩ | ⟨rfl, ⟨oa, oc, rfl⟩, hO, hLe⟩
      · have HP : Hid (PQ (.returned (.tuple #[.string ⟨#[]⟩, .int .i64 180])) wr) := by
          show PQ _ _
          rw [HPQ.out]
          refine ⟨?_, hBe⟩
          rw [hall]
          unfold jnQ
          rw [if_pos hI]
          rfl
        clear hI hall htk hBe hmy
        go_wp2_with fail
        exact HP.out
      · obtain ⟨L, hL⟩ : ∃ L, L = jnL (ts.map wrT) := ⟨_, rfl⟩
        rw [← hL] at hO hLe
        by_cases q : 65536 < L.length
        · have HP : Hid (PQ (.returned (.tuple #[.string ⟨#[]⟩, .int .i64 180])) wr) := by
            show PQ _ _
            rw [HPQ.out]
            refine ⟨?_, hBe⟩
            rw [hall]
            unfold jnQ
            rw [← hL, if_pos q]
            rfl
          have q' : (65536 : Int) < (L.length : Int) := by omega
          rw [← hL]
          clear hall htk hBe hmy hO hL
          go_wp2_with fail
          exact HP.out
        · have HP : Hid (PQ (.returned (.tuple #[.string (strOfNums L), .int .i64 0])) wr) := by
            show PQ _ _
            rw [HPQ.out]
            refine ⟨?_, hBe⟩
            rw [hall]
            unfold jnQ
            rw [← hL, if_neg q]
          have q' : ¬ (65536 : Int) < (L.length : Int) := by omega
          have hcv : (convert 22 9 (.slice oa L.length oc)).run Tryd.prog wr = .ok (.string (strOfNums L)) wr := by
            by_cases q0 : 0 < L.length
            · obtain ⟨g4, c4, e4, h4, h5⟩ := hO.form q0
              simp at e4
              obtain ⟨rfl, rfl⟩ := e4
              have hisL : Pl.isB L := by
                rw [hL]
                exact isB_jnL _ (fun l hl => by
                  obtain ⟨t, ht, rfl⟩ := List.mem_map.1 hl
                  obtain ⟨i, hi, rfl⟩ := List.mem_iff_getElem.1 ht
                  exact isB_wrT (hmy i hi (by omega)) (Hb.out _ (List.getElem_mem hi)).1)
              exact conv_str (hO.rd rfl hisL h5) _
            · have e0 : L = [] := List.eq_nil_of_length_eq_zero (by omega)
              rw [e0]
              exact conv_str (B := wr.heap.size) (zs := []) ⟨rfl, fun z hz => by simp at hz, .inl rfl⟩ _
          rw [← hL]
          clear hall htk hBe hmy hO hL
          generalize strOfNums L = V at *
          go_wp2_with fail
          exact HP.out

end Go.Proofs.YtoifmiloaefanaaDoor
