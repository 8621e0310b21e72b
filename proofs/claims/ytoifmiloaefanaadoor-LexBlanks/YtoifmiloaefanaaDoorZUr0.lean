import Derived.Test.YtoifmiloaefanaaDoorZEq0
import Derived.Test.YtoifmiloaefanaaDoorZRe0
import Derived.Test.YtoifmiloaefanaaDoorZMk
import Derived.ArgAppend
/-
  PLAIN: a token that may be, as the document says it; digits.
-/
namespace Go.Proofs.YtoifmiloaefanaaDoor
open Go.RowKit

def mayT (t : Tk) : Bool :=
  if t.k ≠ 3 ∧ t.n ≠ 0 then false
  else if t.k = 1 then decide (0 < t.tx.length) && (isLet (t.tx.getD 0 0) && decide (pasA isWd t.tx 0 = t.tx.length))
  else if t.k = 2 then decide ((innA 0 (t.tx ++ [34]) 0).2 ≠ 1 ∧ (innA 0 (t.tx ++ [34]) 0).1 = t.tx.length)
  else if t.k = 3 then decide (t.tx = [] ∧ 0 ≤ t.n ∧ t.n ≤ 1099511627776)
  else if t.k = 4 then decide (t.tx.length = 1) && isMk (t.tx.getD 0 0)
  else false

/-! ### digits -/
theorem itoL_small {v : Nat} (h : v < 10) : itoL (v : Int) = [48 + (v : Int)] := by
  unfold itoL
  rw [Lib.itoa_nonneg, Lib.decDigits, dif_pos h]
  simp
  omega
theorem itoL_big {v : Nat} (h : ¬ v < 10) : itoL (v : Int) = itoL ((v / 10 : Nat) : Int) ++ [48 + ((v % 10 : Nat) : Int)] := by
  unfold itoL
  rw [Lib.itoa_nonneg, Lib.itoa_nonneg, Lib.decDigits, dif_neg h, List.map_append]
  congr 1
  simp
  omega
theorem itoL_dig : ∀ (v : Nat), ∀ z ∈ itoL (v : Int), isDig z = true := by
  intro v
  induction v using Nat.strongRecOn with
  | _ v ih =>
    intro z hz
    by_cases h : v < 10
    · rw [itoL_small h] at hz
      simp at hz
      unfold isDig
      simp
      omega
    · rw [itoL_big h] at hz
      rcases List.mem_append.1 hz with h1 | h1
      · exact ih (v / 10) (by omega) z h1
      · simp at h1
        unfold isDig
        simp
        omega
theorem itoL_ne (v : Nat) : itoL (v : Int) ≠ [] := by
  by_cases h : v < 10
  · rw [itoL_small h]; simp
  · rw [itoL_big h]; simp
theorem itoL_neg {n : Int} (h : n < 0) : ∃ l, itoL n = 45 :: l := by
  unfold itoL Lib.itoa
  rw [if_pos h]
  exact ⟨_, rfl⟩
theorem dgV_itoL (v : Nat) : dgV 0 (itoL (v : Int)) = min (v : Int) 1099511627777 := by
  induction v using Nat.strongRecOn with
  | _ v ih =>
    by_cases h : v < 10
    · rw [itoL_small h]
      show dgS 0 _ = _
      unfold dgS
      omega
    · rw [itoL_big h]
      have := ih (v / 10) (by omega)
      unfold dgV at this ⊢
      rw [List.foldl_append, this]
      show dgS _ _ = _
      unfold dgS
      omega
theorem pas_all {p : Int → Bool} : ∀ (l : List Int), (∀ z ∈ l, p z = true) → pas p l = l.length
  | [], _ => rfl
  | z :: r, h => by
    have h1 := h z (by simp)
    have h2 := pas_all r (fun y hy => h y (by simp [hy]))
    simp only [pas, h1, if_true, h2, List.length_cons]
theorem getD_mem {l : List Int} (h : l ≠ []) : l.getD 0 0 ∈ l := by
  cases l with
  | nil => exact absurd rfl h
  | cons z r => simp
theorem dig_not_let {z : Int} (h : isDig z = true) : isLet z = false := by
  unfold isDig at h
  unfold isLet
  simp at h ⊢
  omega
theorem subL_all (l : List Int) : subL l 0 l.length = l := by simp [subL]
theorem tok_num (v : Nat) : tokA (itoL (v : Int)) 0 = if 1099511627776 < (v : Int) then (tk0 0, 0, 182) else (⟨3, [], (v : Int), 0⟩, (itoL (v : Int)).length, 0) := by
  have hd := itoL_dig v
  have hne := itoL_ne v
  have h0 := hd _ (getD_mem hne)
  have hE : dgE (itoL (v : Int)) 0 = (itoL (v : Int)).length := by unfold dgE pasA; rw [List.drop_zero, pas_all _ hd]; omega
  have hno : (itoL (v : Int))[(itoL (v : Int)).length]? = none := List.getElem?_eq_none (Nat.le_refl _)
  have hU : unU (itoL (v : Int)) (itoL (v : Int)).length = 1 := by unfold unU; rw [hno]; simp
  have hUE : unE (itoL (v : Int)) (itoL (v : Int)).length = (itoL (v : Int)).length := by unfold unE; rw [hno]; simp
  have hV : nbT (itoL (v : Int)) 0 = min (v : Int) 1099511627777 := by unfold nbT nbV; rw [hE, hU, subL_all, dgV_itoL]; omega
  have hW : wdAt (itoL (v : Int)) (nbE (itoL (v : Int)) 0) = false := by unfold nbE; rw [hE, hUE]; unfold wdAt; rw [hno]
  have hN : nbE (itoL (v : Int)) 0 = (itoL (v : Int)).length := by unfold nbE; rw [hE, hUE]
  unfold tokA
  rw [if_neg (by rw [dig_not_let h0]; simp), if_pos h0, hV, hW, hN]
  by_cases q : 1099511627776 < (v : Int)
  · rw [if_pos q, if_pos (.inl (by omega))]
    rfl
  · rw [if_neg q, if_neg (by rintro (h | h) <;> first | omega | cases h)]
    rw [Int.min_eq_left (by omega)]
    rfl

/-! ### a token that may be -/
theorem mb_no {t : Tk} (h : (tokA (wrT t) 0).1.k ≠ t.k) : mbT t = false := by
  unfold mbT rdT
  split
  · rfl
  split
  · have : ((tokA (wrT t) 0).1.k == t.k) = false := by simpa using h
    rw [this]; rfl
  · rfl
theorem mb_err {t : Tk} (h : (tokA (wrT t) 0).2.2 ≠ 0) : mbT t = false := by
  unfold mbT rdT
  split
  · rfl
  · first | rfl | rw [if_neg h]
theorem mb_is {t u : Tk} {to : Nat} (hne : wrT t ≠ []) (h : tokA (wrT t) 0 = (u, to, 0)) (ha : u.a = 0) : mbT t = (u.k == t.k && ((strOfNums u.tx).toList == (strOfNums t.tx).toList && u.n == t.n)) := by
  unfold mbT rdT
  rw [if_neg hne, h]
  simp [ha]
theorem str_len {a b : List Int} (h : ((strOfNums a).toList == (strOfNums b).toList) = true) : a.length = b.length := by
  rw [Lib.strOfNums_toList, Lib.strOfNums_toList] at h
  have h2 := congrArg List.length (eq_of_beq h)
  simpa [Lib.bytesOf] using h2
theorem str_take {l : List Int} {p : Nat} (h : p ≤ l.length) : ((strOfNums (l.take p)).toList == (strOfNums l).toList) = decide (p = l.length) := by
  by_cases q : p = l.length
  · subst q
    rw [List.take_length, decide_eq_true rfl]
    simp
  · rw [decide_eq_false q]
    cases hb : ((strOfNums (l.take p)).toList == (strOfNums l).toList) with
    | false => rfl
    | true =>
      have := str_len hb
      rw [List.length_take] at this
      omega
theorem tok_k1 {zs : List Int} {k : Nat} (h : isLet (zs.getD k 0) = false) : (tokA zs k).1.k ≠ 1 := by
  unfold tokA
  rw [if_neg (by rw [h]; simp)]
  split
  · split <;> simp [tk0]
  split
  · split
    · simp
    split <;> simp [tk0]
  split <;> simp [tk0]
theorem tok_let {zs : List Int} {k : Nat} (h : isLet (zs.getD k 0) = true) : tokA zs k = (⟨1, subL zs k (pasA isWd zs k), 0, k⟩, pasA isWd zs k, 0) := by
  unfold tokA
  rw [if_pos h]
theorem mk_not {z : Int} (h : isMk z = true) : isLet z = false ∧ isDig z = false ∧ z ≠ 34 := by
  unfold isMk at h
  unfold isLet isDig
  simp at h ⊢
  omega
theorem tok_mk {zs : List Int} {k : Nat} (h : isMk (zs.getD k 0) = true) : tokA zs k = (⟨4, subL zs k (k + 1), 0, k⟩, k + 1, 0) := by
  obtain ⟨h1, h2, h3⟩ := mk_not h
  unfold tokA
  rw [if_neg (by rw [h1]; simp), if_neg (by rw [h2]; simp), if_neg h3, if_pos h]
theorem tok_k4 {zs : List Int} {k : Nat} (h : isMk (zs.getD k 0) = false) : (tokA zs k).1.k ≠ 4 := by
  unfold tokA
  split
  · simp
  split
  · split <;> simp [tk0]
  split
  · split
    · simp
    split <;> simp [tk0]
  rw [if_neg (by rw [h]; simp)]
  simp [tk0]
theorem inn_two' : ∀ (l : List Int) (o : Nat), (inn o l).2 ≤ 2
  | [], _ => by simp [inn]
  | z :: r, o => by
    have h0 := inn_two' r 0
    have h1 := inn_two' r 1
    have h2 := inn_two' r 2
    have ho := inn_two' r o
    simp only [inn]
    split
    · simpa [up] using h1
    split
    · simpa [up] using h0
    split
    · simpa [up] using ho
    split
    · simp
    split
    · simpa [up] using h2
    · simp
theorem inn_two (o : Nat) (l : List Int) (k : Nat) : (innA o l k).2 ≤ 2 := inn_two' _ _
theorem innA_cons (o : Nat) (x : Int) (l : List Int) (k : Nat) : innA o (x :: l) (k + 1) = ((innA o l k).1 + 1, (innA o l k).2) := by
  unfold innA
  rw [List.drop_succ_cons]
  simp
  omega
theorem subL_name (tx : List Int) (p : Nat) (hp : p ≤ tx.length) : subL (34 :: (tx ++ [34])) 1 (p + 1) = tx.take p := by
  unfold subL
  rw [List.take_succ_cons, List.drop_succ_cons, List.drop_zero, List.take_append_of_le_length hp]
theorem may_eq (t : Tk) : mbT t = mayT t := by
  obtain ⟨k, tx, n, a⟩ := t
  by_cases k1 : k = 1
  · subst k1
    have hw : wrT ⟨1, tx, n, a⟩ = tx := by unfold wrT wrL; simp
    by_cases he : tx = []
    · subst he
      unfold mbT mayT
      rw [if_pos hw]
      split <;> simp
    by_cases hl : isLet (tx.getD 0 0) = true
    · rw [mb_is (by rw [hw]; exact he) (by rw [hw]; exact tok_let hl) rfl]
      have h2 : subL tx 0 (pasA isWd tx 0) = tx.take (pasA isWd tx 0) := rfl
      have h3 : 0 < tx.length := List.length_pos_iff.2 he
      unfold mayT
      simp only [h2, str_take (pasA_le (Nat.zero_le _)), hl, h3]
      by_cases hn : n = 0
      · subst hn; simp
      · have : ((0 : Int) == n) = false := by simp; omega
        simp [this, hn]
    · have hl' : isLet (tx.getD 0 0) = false := by simpa using hl
      rw [mb_no (by rw [hw]; exact tok_k1 hl')]
      unfold mayT
      split
      · rfl
      · simp only [hl', Bool.false_and, Bool.and_false, if_true]
  by_cases k4 : k = 4
  · subst k4
    have hw : wrT ⟨4, tx, n, a⟩ = tx := by unfold wrT wrL; simp
    by_cases he : tx = []
    · subst he
      unfold mbT mayT
      rw [if_pos hw]
      split <;> simp
    by_cases hl : isMk (tx.getD 0 0) = true
    · rw [mb_is (by rw [hw]; exact he) (by rw [hw]; exact tok_mk hl) rfl]
      have h3 : 0 < tx.length := List.length_pos_iff.2 he
      have h2 : subL tx 0 (0 + 1) = tx.take 1 := rfl
      have h5 : decide (1 = tx.length) = decide (tx.length = 1) := by rw [decide_eq_decide]; omega
      unfold mayT
      simp only [h2, str_take h3, hl, h5]
      by_cases hn : n = 0
      · subst hn; simp
      · have : ((0 : Int) == n) = false := by simp; omega
        simp [this, hn]
    · have hl' : isMk (tx.getD 0 0) = false := by simpa using hl
      rw [mb_no (by rw [hw]; exact tok_k4 hl')]
      unfold mayT
      split
      · rfl
      · simp only [hl', Bool.and_false]; simp
  by_cases k3 : k = 3
  · subst k3
    have hw : wrT ⟨3, tx, n, a⟩ = itoL n := by unfold wrT; simp
    by_cases hneg : n < 0
    · obtain ⟨l, hl⟩ := itoL_neg hneg
      have hm : isMk ((itoL n).getD 0 0) = true := by rw [hl]; rfl
      rw [mb_no (by rw [hw, tok_mk hm]; simp)]
      unfold mayT
      simp
      omega
    · obtain ⟨v, rfl⟩ : ∃ v : Nat, n = (v : Int) := ⟨n.toNat, by omega⟩
      by_cases hbig : 1099511627776 < (v : Int)
      · rw [mb_err (by rw [hw, tok_num, if_pos hbig]; simp)]
        unfold mayT
        simp
        omega
      · rw [mb_is (by rw [hw]; exact itoL_ne v) (by rw [hw, tok_num, if_neg hbig]) rfl]
        unfold mayT
        have h9 : ((strOfNums ([] : List Int)).toList == (strOfNums tx).toList) = decide (tx = []) := by
          by_cases q : tx = []
          · subst q; simp
          · rw [decide_eq_false q]
            cases hb : ((strOfNums ([] : List Int)).toList == (strOfNums tx).toList) with
            | false => rfl
            | true => exact absurd (List.eq_nil_of_length_eq_zero (str_len hb).symm) q
        simp only [h9]
        simp
        omega
  by_cases k2 : k = 2
  · subst k2
    have hw : wrT ⟨2, tx, n, a⟩ = 34 :: (tx ++ [34]) := by unfold wrT wrL; simp
    have hg : (34 :: (tx ++ [34])).getD 0 0 = (34 : Int) := rfl
    have hI := innA_cons 0 34 (tx ++ [34]) 0
    have hlt := innA_lt (tx ++ [34]) 0 0 (Nat.zero_le _)
    have he2 := innA_end2 (tx ++ [34]) 0 0 (Nat.zero_le _)
    generalize hr : innA 0 (tx ++ [34]) 0 = r at *
    have hT : tokA (34 :: (tx ++ [34])) 0 = if r.2 = 0 then (⟨2, subL (34 :: (tx ++ [34])) 1 (r.1 + 1), 0, 0⟩, r.1 + 1 + 1, 0) else if r.2 = 1 then (tk0 ((r.1 + 1 : Nat) : Int), r.1 + 1, 183) else (tk0 0, 0, 183) := by
      unfold tokA
      rw [hg, if_neg (by decide), if_neg (by decide), if_pos rfl, hI]
      rfl
    have hlen : (tx ++ [34]).length = tx.length + 1 := by simp
    rw [hlen] at hlt he2
    by_cases q0 : r.2 = 0
    · have h1 := hlt (by omega)
      rw [if_pos q0, subL_name tx r.1 (by omega)] at hT
      rw [mb_is (by rw [hw]; simp) (by rw [hw]; exact hT) rfl]
      unfold mayT
      simp only [hr, str_take (show r.1 ≤ tx.length by omega), q0]
      by_cases hn : n = 0
      · subst hn; simp
      · have : ((0 : Int) == n) = false := by simp; omega
        simp [this, hn]
    · rw [if_neg q0] at hT
      have hE : (tokA (wrT ⟨2, tx, n, a⟩) 0).2.2 ≠ 0 := by rw [hw, hT]; split <;> simp
      rw [mb_err hE]
      unfold mayT
      simp only [hr]
      split
      · rfl
      · simp
        by_cases q1 : r.2 = 1
        · exact fun h => absurd q1 h
        · intro _ h
          by_cases q2 : r.2 = 2
          · have := he2 q2; omega
          · have hx : r.2 ≤ 2 := by
              rw [← hr]
              exact inn_two _ _ _
            omega
  · have hw : wrT ⟨k, tx, n, a⟩ = [] := by
      unfold wrT wrL
      simp [k1, k2, k3, k4]
    unfold mbT mayT
    rw [if_pos hw]
    simp [k1, k2, k3, k4]

end Go.Proofs.YtoifmiloaefanaaDoor
/-
  The document's: decimal, written; []byte(s) with one byte behind it.
-/
namespace Go.Proofs.YtoifmiloaefanaaDoor
open Go.RowKit

theorem str_app (a b : List Int) : strOfNums a ++ strOfNums b = strOfNums (a ++ b) := by
  apply ByteArray.ext
  simp [strOfNums]
theorem itoL_len : ∀ (d v : Nat), v < 10 ^ (d + 1) → (itoL (v : Int)).length ≤ d + 1
  | 0, v, h => by rw [itoL_small (by simpa using h)]; simp
  | d + 1, v, h => by
    by_cases q : v < 10
    · rw [itoL_small q]; simp
    · have := itoL_len d (v / 10) (by rw [Nat.pow_succ] at h; omega)
      rw [itoL_big q, List.length_append, List.length_singleton]
      omega
set_option maxRecDepth 100000 in
set_option maxHeartbeats 2000000 in
theorem rdecimal_any (v : Nat) : v ≤ 1099511627776 → ∀ w, Calls Tryd.prog 37 #[.int .i64 (v : Int)] w fun e w' => e = .returned (.string (strOfNums (itoL (v : Int)))) ∧ w' = w := by
  induction v using Nat.strongRecOn with
  | _ v ih =>
    intro hv w
    by_cases h : v < 10
    · rw [itoL_small h]
      clear ih
      rcases (show v = 0 ∨ v = 1 ∨ v = 2 ∨ v = 3 ∨ v = 4 ∨ v = 5 ∨ v = 6 ∨ v = 7 ∨ v = 8 ∨ v = 9 by omega) with rfl | rfl | rfl | rfl | rfl | rfl | rfl | rfl | rfl | rfl
      all_goals
        go_enter Tryd.func37, Tryd.ntmps37
        go_wp2
        go_ret
        exact ⟨rfl, rfl⟩
    · have H1 := hid (ih (v / 10) (by omega) (by omega) w)
      have H2 := hid (ih (v % 10) (by omega) (by omega) w)
      have hq : ((v : Int)).tdiv 10 = ((v / 10 : Nat) : Int) := by rw [Int.tdiv_eq_ediv_of_nonneg (by omega)]; omega
      have hr : ((v : Int)).tmod 10 = ((v % 10 : Nat) : Int) := by rw [Int.tmod_eq_emod_of_nonneg (by omega)]; omega
      have l1 := itoL_len 12 (v / 10) (by omega)
      have l2 := itoL_len 12 (v % 10) (by omega)
      have HE : Hid (strOfNums (itoL (v : Int)) = strOfNums (itoL ((v / 10 : Nat) : Int)) ++ strOfNums (itoL ((v % 10 : Nat) : Int))) := by
        show _ = _
        rw [str_app, itoL_big h, itoL_small (show v % 10 < 10 by omega)]
      have s1 := str_size (itoL ((v / 10 : Nat) : Int))
      have s2 := str_size (itoL ((v % 10 : Nat) : Int))
      have hn : ¬ (v : Int) < 10 := by omega
      have hb0 : (v : Int) ≤ 1099511627776 := by omega
      have hb1 : (0 : Int) ≤ (v : Int) := by omega
      rw [HE.out]
      have t1 : (strOfNums (itoL ((v / 10 : Nat) : Int))).size ≤ 13 := by omega
      have t2 : (strOfNums (itoL ((v % 10 : Nat) : Int))).size ≤ 13 := by omega
      clear ih h l1 l2 s1 s2 HE
      generalize strOfNums (itoL ((v / 10 : Nat) : Int)) = S1 at *
      generalize strOfNums (itoL ((v % 10 : Nat) : Int)) = S2 at *
      obtain ⟨q, hq'⟩ : ∃ q : Nat, q = v / 10 := ⟨_, rfl⟩
      obtain ⟨r, hr'⟩ : ∃ r : Nat, r = v % 10 := ⟨_, rfl⟩
      have hqb : (q : Int) ≤ 1099511627776 := by omega
      have hrb : (r : Int) ≤ 10 := by omega
      rw [← hq'] at hq H1
      rw [← hr'] at hr H2
      clear hq' hr'
      go_enter Tryd.func37, Tryd.ntmps37
      go_wp2_with fail
      refine Calls.mono H1.out ?_
      rintro e w1 ⟨rfl, rfl⟩
      go_wp2_with fail
      refine Calls.mono H2.out ?_
      rintro e w1 ⟨rfl, rfl⟩
      go_wp2_with fail
      go_ret
      exact ⟨rfl, rfl⟩

set_option maxRecDepth 100000 in
set_option maxHeartbeats 2000000 in
theorem rwritten_any (t : Tk) (w : World) (hm : mayT t = true) (hl : t.tx.length ≤ 140737488355328) : Calls Tryd.prog 22 #[tokV t] w fun e w' => e = .returned (.string (strOfNums (wrT t))) ∧ Below w.heap.size w w' := by
  obtain ⟨k, l, n, a⟩ := t
  have hsz := str_size l
  have HB := hid (below1 w (.cells (tcs k (strOfNums l) n a) 29))
  by_cases k3 : k = 3
  · subst k3
    have hn : 0 ≤ n ∧ n ≤ 1099511627776 := by
      unfold mayT at hm
      simp at hm
      omega
    obtain ⟨v, rfl⟩ : ∃ v : Nat, n = (v : Int) := ⟨n.toNat, by omega⟩
    have HC : Hid (Calls Tryd.prog 37 #[.int .i64 (v : Int)] (w.alloc (.cells (tcs 3 (strOfNums l) (v : Int) a) 29)) fun e w' => e = .returned (.string (strOfNums (itoL (v : Int)))) ∧ Below w.heap.size w w') := by
      refine (rdecimal_any v (by omega) _).mono ?_
      rintro e w' ⟨rfl, rfl⟩
      exact ⟨rfl, HB.out⟩
    have hw : wrT ⟨3, l, (v : Int), a⟩ = itoL (v : Int) := by unfold wrT; simp
    rw [hw]
    clear hm hn HB hw
    simp only [tokV] at HC ⊢
    generalize strOfNums l = S at *
    generalize strOfNums (itoL (v : Int)) = V at *
    go_enter Tryd.func22, Tryd.ntmps22
    go_wp2_with fail
    refine Calls.mono HC.out ?_
    rintro e w' ⟨rfl, h⟩
    have H := hid h
    clear h HC
    go_wp2_with fail
    go_ret
    exact ⟨rfl, H.out⟩
  by_cases k2 : k = 2
  · subst k2
    have hw : wrT ⟨2, l, n, a⟩ = 34 :: (l ++ [34]) := by unfold wrT wrL; simp
    rw [hw, ← cat34]
    clear hm hw
    simp only [tokV] at HB ⊢
    generalize strOfNums l = S at *
    have hs1 : S.size ≤ 140737488355328 := by simp only at hl; omega
    go_enter Tryd.func22, Tryd.ntmps22
    go_wp2
    go_ret
    exact ⟨rfl, HB.out⟩
  · have hk : k = 1 ∨ k = 4 := by
      by_cases h1 : k = 1
      · exact .inl h1
      by_cases h4 : k = 4
      · exact .inr h4
      unfold mayT at hm
      simp [k3, k2, h1, h4] at hm
    have hw : wrT ⟨k, l, n, a⟩ = l := by unfold wrT wrL; rw [if_neg k3, if_pos hk]
    rw [hw]
    clear hm hw hk
    simp only [tokV] at HB ⊢
    generalize strOfNums l = S at *
    go_enter Tryd.func22, Tryd.ntmps22
    go_wp2
    go_ret
    exact ⟨rfl, HB.out⟩

/-- []byte(s), and one byte behind it -/
theorem conv_app (l : List Int) (hb : Pl.isB l) (hl : l.length ≤ 16777216) (w : World) : ∃ W c, (convert 9 22 (.string (strOfNums l))).run Tryd.prog w = .ok (.slice (some ⟨w.heap.size, 0, none⟩) l.length c) W ∧ (∀ j, j < l.length → W.cell? ⟨w.heap.size, j, none⟩ = some (.int .u8 (l.getD j 0))) ∧ Below w.heap.size w W ∧
    ∀ ty, ∃ g c2 W2, (Builtin.append_ #[22, 22] ty #[.slice (some ⟨w.heap.size, 0, none⟩) l.length c, .slice (some ⟨W.heap.size, 0, none⟩) 1 1]).run Tryd.prog (W.alloc (.cells #[.int .u8 34] 5)) = .ok (.slice (some ⟨g, 0, none⟩) (l.length + 1) c2) W2 ∧ (∀ j, j < l.length + 1 → W2.cell? ⟨g, j, none⟩ = some (.int .u8 ((l ++ [34]).getD j 0))) ∧ Below w.heap.size w W2 := by
  obtain ⟨W, hW⟩ : ∃ W, W = Lib.bytesWorld w 5 (strOfNums l) := ⟨_, rfl⟩
  obtain ⟨c, hc⟩ : ∃ c, c = grownCap w (strOfNums l).size 0 5 := ⟨_, rfl⟩
  have hcs : ∀ j, j < l.length → W.cell? ⟨w.heap.size, j, none⟩ = some (.int .u8 (l.getD j 0)) := fun j hj => by
    rw [hW, Lib.bytesWorld_cell _ _ _ _ (by rw [str_size]; exact hj)]
    have h := hb (l[j]'hj) (List.getElem_mem hj)
    congr 2
    simp [strOfNums, hj]
    omega
  have hbl : Below w.heap.size w W := by
    rw [hW]
    exact ⟨rfl, rfl, rfl, by rw [Lib.bytesWorld_size]; omega, fun k hk => Lib.bytesWorld_at_old _ _ _ _ hk⟩
  have hnew := Lib.bytesWorld_at_new w 5 (strOfNums l)
  have hsz : (Lib.bytesCells w 5 (strOfNums l)).size = c := by
    have := grownCap_ge w (strOfNums l).size 0 5
    unfold Lib.bytesCells
    rw [hc]
    simp
    have e : (strOfNums l).data.size = (strOfNums l).size := rfl
    omega
  rw [← hW, hsz] at hnew
  have hWs : W.heap.size = w.heap.size + 1 := by rw [hW, Lib.bytesWorld_size]
  refine ⟨W, c, ?_, hcs, hbl, fun ty => ?_⟩
  · rw [Lib.run_convert_string_bytes w 9 22 5 (strOfNums l) Tryd.underlying9 Tryd.underlying22 Tryd.underlying5, str_size, hW, hc]
    rw [str_size]
  obtain ⟨i0, hi, hz0, hz1, hz2⟩ := info_parts info5
  obtain ⟨V, hV⟩ : ∃ V, V = W.alloc (.cells #[.int .u8 34] 5) := ⟨_, rfl⟩
  have bV : Below W.heap.size W V := by rw [hV]; exact below1 _ _
  have hVn : V.heap[W.heap.size]? = some (.cells #[.int .u8 34] 5 (0, 0)) := by rw [hV]; exact heap_new _ _
  have hVo : V.heap[w.heap.size]? = W.heap[w.heap.size]? := bV.block _ (by omega)
  have hcV : ∀ j, j < l.length → V.cell? ⟨w.heap.size, j, none⟩ = some (.int .u8 (l.getD j 0)) := fun j hj => by
    have := hcs j hj
    simp only [World.cell?] at this ⊢
    rw [hVo]
    exact this
  have hsrc : ∀ j (u : Value), [Value.int .u8 34][j]? = some u → V.cell? ((⟨W.heap.size, 0, none⟩ : Addr).add j) = some u := fun j u hu => by
    rw [Addr.add_lit, Nat.zero_add]
    simp only [World.cell?, hVn]
    simpa using hu
  have hone : ∀ u ∈ [Value.int .u8 34], u.oneCell' = true := fun u hu => by
    simp only [List.mem_cons, List.not_mem_nil, or_false] at hu
    rw [hu]
    rfl
  rw [← hV]
  by_cases hroom : l.length + 1 ≤ c
  · have hr := run_append_room_cells (P := Tryd.prog) V 22 ty 5 i0 Tryd.underlying22 hi w.heap.size 0 l.length c ⟨W.heap.size, 0, none⟩ 1 1 [.int .u8 34] (by rw [hz1]; rfl) hsrc hone hroom
      (fun j hj => by
        have : j = 0 := by simpa using hj
        subst this
        simp only [World.cell?, hVo, hnew, hz1]
        rw [Array.getElem?_eq_getElem (by rw [hsz]; show 0 + l.length * 1 + 0 < c; omega)]
        rfl)
      (fun j hj => by
        have : j = 0 := by simpa using hj
        subst this
        simp only [World.frozen?, hVo, hnew, hz1]
        simp
        omega)
    refine ⟨w.heap.size, c, _, hr, fun j hj => ?_, ?_⟩
    · by_cases q : j < l.length
      · rw [World.cell?_setCells_out _ _ _ _ _ (fun _ _ => .inl (by rw [hz1]; show j < 0 + l.length * 1; omega)), hcV j q]
        rw [List.getD_eq_getElem?_getD, List.getD_eq_getElem?_getD, List.getElem?_append_left q]
      · obtain rfl : j = l.length := by omega
        have h2 := World.cell?_setCells_in w.heap.size [.int .u8 34] (0 + l.length * i0.size) V (fun j hj => by
          have : j = 0 := by simpa using hj
          subst this
          simp only [World.cell?, hVo, hnew, hz1]
          rw [Array.getElem?_eq_getElem (by rw [hsz]; show 0 + l.length * 1 + 0 < c; omega)]
          rfl) 0 (by simp)
        have e1 : 0 + l.length * i0.size + 0 = l.length := by rw [hz1]; show 0 + l.length * 1 + 0 = _; omega
        rw [e1] at h2
        have e2 : (l ++ [34]).getD l.length 0 = (34 : Int) := by simp
        rw [e2]
        exact h2
    · have b2 : Below w.heap.size w V := hbl.trans (bV.mono (by omega))
      exact b2.setCell (p := ⟨w.heap.size, 0 + l.length * i0.size, none⟩) (Nat.le_refl _) _
  · obtain ⟨v', w', hr, k1, k2⟩ := run_append_arg_grows (P := Tryd.prog) V 22 ty 5 i0 _ 1 1 Tryd.underlying22 hi hz0 hz1 hz2 rfl (by decide) ⟨w.heap.size, 0, none⟩ l.length c (l.map (Value.int .u8)) (by simp) (fun j u hu => by
      rw [Addr.add_lit, Nat.zero_add]
      have hj : j < l.length := by
        have := (List.getElem?_eq_some_iff.1 hu).1
        simpa using this
      rw [hcV j hj]
      simp [hj] at hu
      simp [List.getD_eq_getElem?_getD, hj, hu]) ⟨W.heap.size, 0, none⟩ 1 1 [.int .u8 34] rfl hsrc (by omega) (by unfold maxLen; omega) (by omega)
    have ho : OwB V.heap.size w' v' (l ++ [34]) := by
      unfold OwB
      rw [List.length_append]
      simpa using k1
    obtain ⟨g, c2, rfl, hg, hgs⟩ := ho.form (by simp)
    have bw : Below V.heap.size V w' := ⟨k2.os, k2.tape, k2.output, k2.size, fun k hk => k2.block k hk (by simp)⟩
    refine ⟨g, c2, w', by rw [hr, List.length_append]; rfl, fun j hj => ?_, (hbl.trans (bV.mono (by omega))).trans (bw.mono (by have := bV.size; omega))⟩
    have h2 := World.ownsRow.cellAt ho j (by simpa using hj)
    have hj' : j < (l ++ [34]).length := by simpa using hj
    rw [h2, List.getElem?_map, List.getElem?_eq_getElem hj', List.getD_eq_getElem?_getD, List.getElem?_eq_getElem hj']
    rfl

end Go.Proofs.YtoifmiloaefanaaDoor
