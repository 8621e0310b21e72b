/-
  PLAIN: a token that may be, as the document says it; digits.
-/
import Derived.Test.YtoifmiloaefanaaDoorUt0
namespace Go.Proofs.YtoifmiloaefanaaDoor
open Go.RowKit

def mayT (t : Tk) : Bool :=
  if t.k ≠ 3 ∧ t.n ≠ 0 then false
  else if t.k = 1 then decide (0 < t.tx.length) && (isLet (t.tx.getD 0 0) && decide (pasA isWd t.tx 0 = t.tx.length))
  else if t.k = 2 then decide ((innA 0 (t.tx ++ [34]) 0).2 ≠ 1 ∧ (innA 0 (t.tx ++ [34]) 0).1 = t.tx.length)
  else if t.k = 3 then decide (t.tx = [] ∧ 0 ≤ t.n ∧ t.n ≤ 1099511627776)
  else if t.k = 4 then decide (t.tx.length = 1) && isMk (t.tx.getD 0 0)
  else false

/-! ### digits -/
theorem itoL_small {v : Nat} (h : v < 10) : itoL (v : Int) = [48 + (v : Int)] := by
  unfold itoL
  rw [Lib.itoa_nonneg, Lib.decDigits, dif_pos h]
  simp
  omega
theorem itoL_big {v : Nat} (h : ¬ v < 10) : itoL (v : Int) = itoL ((v / 10 : Nat) : Int) ++ [48 + ((v % 10 : Nat) : Int)] := by
  unfold itoL
  rw [Lib.itoa_nonneg, Lib.itoa_nonneg, Lib.decDigits, dif_neg h, List.map_append]
  congr 1
  simp
  omega
theorem itoL_dig : ∀ (v : Nat), ∀ z ∈ itoL (v : Int), isDig z = true := by
  intro v
  induction v using Nat.strongRecOn with
  | _ v ih =>
    intro z hz
    by_cases h : v < 10
    · rw [itoL_small h] at hz
      simp at hz
      unfold isDig
      simp
      omega
    · rw [itoL_big h] at hz
      rcases List.mem_append.1 hz with h1 | h1
      · exact ih (v / 10) (by omega) z h1
      · simp at h1
        unfold isDig
        simp
        omega
theorem itoL_ne (v : Nat) : itoL (v : Int) ≠ [] := by
  by_cases h : v < 10
  · rw [itoL_small h]; simp
  · rw [itoL_big h]; simp
theorem itoL_neg {n : Int} (h : n < 0) : ∃ l, itoL n = 45 :: l := by
  unfold itoL Lib.itoa
  rw [if_pos h]
  exact ⟨_, rfl⟩
theorem dgV_itoL (v : Nat) : dgV 0 (itoL (v : Int)) = min (v : Int) 1099511627777 := by
  induction v using Nat.strongRecOn with
  | _ v ih =>
    by_cases h : v < 10
    · rw [itoL_small h]
      show dgS 0 _ = _
      unfold dgS
      omega
    · rw [itoL_big h]
      have := ih (v / 10) (by omega)
      unfold dgV at this ⊢
      rw [List.foldl_append, this]
      show dgS _ _ = _
      unfold dgS
      omega
theorem pas_all {p : Int → Bool} : ∀ (l : List Int), (∀ z ∈ l, p z = true) → pas p l = l.length
  | [], _ => rfl
  | z :: r, h => by
    have h1 := h z (by simp)
    have h2 := pas_all r (fun y hy => h y (by simp [hy]))
    simp only [pas, h1, if_true, h2, List.length_cons]
theorem getD_mem {l : List Int} (h : l ≠ []) : l.getD 0 0 ∈ l := by
  cases l with
  | nil => exact absurd rfl h
  | cons z r => simp
theorem dig_not_let {z : Int} (h : isDig z = true) : isLet z = false := by
  unfold isDig at h
  unfold isLet
  simp at h ⊢
  omega
theorem subL_all (l : List Int) : subL l 0 l.length = l := by simp [subL]
theorem tok_num (v : Nat) : tokA (itoL (v : Int)) 0 = if 1099511627776 < (v : Int) then (tk0 0, 0, 182) else (⟨3, [], (v : Int), 0⟩, (itoL (v : Int)).length, 0) := by
  have hd := itoL_dig v
  have hne := itoL_ne v
  have h0 := hd _ (getD_mem hne)
  have hE : dgE (itoL (v : Int)) 0 = (itoL (v : Int)).length := by unfold dgE pasA; rw [List.drop_zero, pas_all _ hd]; omega
  have hno : (itoL (v : Int))[(itoL (v : Int)).length]? = none := List.getElem?_eq_none (Nat.le_refl _)
  have hU : unU (itoL (v : Int)) (itoL (v : Int)).length = 1 := by unfold unU; rw [hno]; simp
  have hUE : unE (itoL (v : Int)) (itoL (v : Int)).length = (itoL (v : Int)).length := by unfold unE; rw [hno]; simp
  have hV : nbT (itoL (v : Int)) 0 = min (v : Int) 1099511627777 := by unfold nbT nbV; rw [hE, hU, subL_all, dgV_itoL]; omega
  have hW : wdAt (itoL (v : Int)) (nbE (itoL (v : Int)) 0) = false := by unfold nbE; rw [hE, hUE]; unfold wdAt; rw [hno]
  have hN : nbE (itoL (v : Int)) 0 = (itoL (v : Int)).length := by unfold nbE; rw [hE, hUE]
  unfold tokA
  rw [if_neg (by rw [dig_not_let h0]; simp), if_pos h0, hV, hW, hN]
  by_cases q : 1099511627776 < (v : Int)
  · rw [if_pos q, if_pos (.inl (by omega))]
    rfl
  · rw [if_neg q, if_neg (by rintro (h | h) <;> first | omega | cases h)]
    rw [Int.min_eq_left (by omega)]
    rfl

/-! ### a token that may be -/
theorem mb_no {t : Tk} (h : (tokA (wrT t) 0).1.k ≠ t.k) : mbT t = false := by
  unfold mbT rdT
  split
  · rfl
  split
  · have : ((tokA (wrT t) 0).1.k == t.k) = false := by simpa using h
    rw [this]; rfl
  · rfl
theorem mb_err {t : Tk} (h : (tokA (wrT t) 0).2.2 ≠ 0) : mbT t = false := by
  unfold mbT rdT
  split
  · rfl
  · first | rfl | rw [if_neg h]
theorem mb_is {t u : Tk} {to : Nat} (hne : wrT t ≠ []) (h : tokA (wrT t) 0 = (u, to, 0)) (ha : u.a = 0) : mbT t = (u.k == t.k && ((strOfNums u.tx).toList == (strOfNums t.tx).toList && u.n == t.n)) := by
  unfold mbT rdT
  rw [if_neg hne, h]
  simp [ha]
theorem str_len {a b : List Int} (h : ((strOfNums a).toList == (strOfNums b).toList) = true) : a.length = b.length := by
  rw [Lib.strOfNums_toList, Lib.strOfNums_toList] at h
  have h2 := congrArg List.length (eq_of_beq h)
  simpa [Lib.bytesOf] using h2
theorem str_take {l : List Int} {p : Nat} (h : p ≤ l.length) : ((strOfNums (l.take p)).toList == (strOfNums l).toList) = decide (p = l.length) := by
  by_cases q : p = l.length
  · subst q
    rw [List.take_length, decide_eq_true rfl]
    simp
  · rw [decide_eq_false q]
    cases hb : ((strOfNums (l.take p)).toList == (strOfNums l).toList) with
    | false => rfl
    | true =>
      have := str_len hb
      rw [List.length_take] at this
      omega
theorem tok_k1 {zs : List Int} {k : Nat} (h : isLet (zs.getD k 0) = false) : (tokA zs k).1.k ≠ 1 := by
  unfold tokA
  rw [if_neg (by rw [h]; simp)]
  split
  · split <;> simp [tk0]
  split
  · split
    · simp
    split <;> simp [tk0]
  split <;> simp [tk0]
theorem tok_let {zs : List Int} {k : Nat} (h : isLet (zs.getD k 0) = true) : tokA zs k = (⟨1, subL zs k (pasA isWd zs k), 0, k⟩, pasA isWd zs k, 0) := by
  unfold tokA
  rw [if_pos h]
theorem mk_not {z : Int} (h : isMk z = true) : isLet z = false ∧ isDig z = false ∧ z ≠ 34 := by
  unfold isMk at h
  unfold isLet isDig
  simp at h ⊢
  omega
theorem tok_mk {zs : List Int} {k : Nat} (h : isMk (zs.getD k 0) = true) : tokA zs k = (⟨4, subL zs k (k + 1), 0, k⟩, k + 1, 0) := by
  obtain ⟨h1, h2, h3⟩ := mk_not h
  unfold tokA
  rw [if_neg (by rw [h1]; simp), if_neg (by rw [h2]; simp), if_neg h3, if_pos h]
theorem tok_k4 {zs : List Int} {k : Nat} (h : isMk (zs.getD k 0) = false) : (tokA zs k).1.k ≠ 4 := by
  unfold tokA
  split
  · simp
  split
  · split <;> simp [tk0]
  split
  · split
    · simp
    split <;> simp [tk0]
  rw [if_neg (by rw [h]; simp)]
  simp [tk0]
theorem inn_two' : ∀ (l : List Int) (o : Nat), (inn o l).2 ≤ 2
  | [], _ => by simp [inn]
  | z :: r, o => by
    have h0 := inn_two' r 0
    have h1 := inn_two' r 1
    have h2 := inn_two' r 2
    have ho := inn_two' r o
    simp only [inn]
    split
    · simpa [up] using h1
    split
    · simpa [up] using h0
    split
    · simpa [up] using ho
    split
    · simp
    split
    · simpa [up] using h2
    · simp
theorem inn_two (o : Nat) (l : List Int) (k : Nat) : (innA o l k).2 ≤ 2 := inn_two' _ _
theorem innA_cons (o : Nat) (x : Int) (l : List Int) (k : Nat) : innA o (x :: l) (k + 1) = ((innA o l k).1 + 1, (innA o l k).2) := by
  unfold innA
  rw [List.drop_succ_cons]
  simp
  omega
theorem subL_name (tx : List Int) (p : Nat) (hp : p ≤ tx.length) : subL (34 :: (tx ++ [34])) 1 (p + 1) = tx.take p := by
  unfold subL
  rw [List.take_succ_cons, List.drop_succ_cons, List.drop_zero, List.take_append_of_le_length hp]
theorem may_eq (t : Tk) : mbT t = mayT t := by
  obtain ⟨k, tx, n, a⟩ := t
  by_cases k1 : k = 1
  · subst k1
    have hw : wrT ⟨1, tx, n, a⟩ = tx := by unfold wrT wrL; simp
    by_cases he : tx = []
    · subst he
      unfold mbT mayT
      rw [if_pos hw]
      split <;> simp
    by_cases hl : isLet (tx.getD 0 0) = true
    · rw [mb_is (by rw [hw]; exact he) (by rw [hw]; exact tok_let hl) rfl]
      have h2 : subL tx 0 (pasA isWd tx 0) = tx.take (pasA isWd tx 0) := rfl
      have h3 : 0 < tx.length := List.length_pos_iff.2 he
      unfold mayT
      simp only [h2, str_take (pasA_le (Nat.zero_le _)), hl, h3]
      by_cases hn : n = 0
      · subst hn; simp
      · have : ((0 : Int) == n) = false := by simp; omega
        simp [this, hn]
    · have hl' : isLet (tx.getD 0 0) = false := by simpa using hl
      rw [mb_no (by rw [hw]; exact tok_k1 hl')]
      unfold mayT
      split
      · rfl
      · simp only [hl', Bool.false_and, Bool.and_false, if_true]
  by_cases k4 : k = 4
  · subst k4
    have hw : wrT ⟨4, tx, n, a⟩ = tx := by unfold wrT wrL; simp
    by_cases he : tx = []
    · subst he
      unfold mbT mayT
      rw [if_pos hw]
      split <;> simp
    by_cases hl : isMk (tx.getD 0 0) = true
    · rw [mb_is (by rw [hw]; exact he) (by rw [hw]; exact tok_mk hl) rfl]
      have h3 : 0 < tx.length := List.length_pos_iff.2 he
      have h2 : subL tx 0 (0 + 1) = tx.take 1 := rfl
      have h5 : decide (1 = tx.length) = decide (tx.length = 1) := by rw [decide_eq_decide]; omega
      unfold mayT
      simp only [h2, str_take h3, hl, h5]
      by_cases hn : n = 0
      · subst hn; simp
      · have : ((0 : Int) == n) = false := by simp; omega
        simp [this, hn]
    · have hl' : isMk (tx.getD 0 0) = false := by simpa using hl
      rw [mb_no (by rw [hw]; exact tok_k4 hl')]
      unfold mayT
      split
      · rfl
      · simp only [hl', Bool.and_false]; simp
  by_cases k3 : k = 3
  · subst k3
    have hw : wrT ⟨3, tx, n, a⟩ = itoL n := by unfold wrT; simp
    by_cases hneg : n < 0
    · obtain ⟨l, hl⟩ := itoL_neg hneg
      have hm : isMk ((itoL n).getD 0 0) = true := by rw [hl]; rfl
      rw [mb_no (by rw [hw, tok_mk hm]; simp)]
      unfold mayT
      simp
      omega
    · obtain ⟨v, rfl⟩ : ∃ v : Nat, n = (v : Int) := ⟨n.toNat, by omega⟩
      by_cases hbig : 1099511627776 < (v : Int)
      · rw [mb_err (by rw [hw, tok_num, if_pos hbig]; simp)]
        unfold mayT
        simp
        omega
      · rw [mb_is (by rw [hw]; exact itoL_ne v) (by rw [hw, tok_num, if_neg hbig]) rfl]
        unfold mayT
        have h9 : ((strOfNums ([] : List Int)).toList == (strOfNums tx).toList) = decide (tx = []) := by
          by_cases q : tx = []
          · subst q; simp
          · rw [decide_eq_false q]
            cases hb : ((strOfNums ([] : List Int)).toList == (strOfNums tx).toList) with
            | false => rfl
            | true => exact absurd (List.eq_nil_of_length_eq_zero (str_len hb).symm) q
        simp only [h9]
        simp
        omega
  by_cases k2 : k = 2
  · subst k2
    have hw : wrT ⟨2, tx, n, a⟩ = 34 :: (tx ++ [34]) := by unfold wrT wrL; simp
    have hg : (34 :: (tx ++ [34])).getD 0 0 = (34 : Int) := rfl
    have hI := innA_cons 0 34 (tx ++ [34]) 0
    have hlt := innA_lt (tx ++ [34]) 0 0 (Nat.zero_le _)
    have he2 := innA_end2 (tx ++ [34]) 0 0 (Nat.zero_le _)
    generalize hr : innA 0 (tx ++ [34]) 0 = r at *
    have hT : tokA (34 :: (tx ++ [34])) 0 = if r.2 = 0 then (⟨2, subL (34 :: (tx ++ [34])) 1 (r.1 + 1), 0, 0⟩, r.1 + 1 + 1, 0) else if r.2 = 1 then (tk0 ((r.1 + 1 : Nat) : Int), r.1 + 1, 183) else (tk0 0, 0, 183) := by
      unfold tokA
      rw [hg, if_neg (by decide), if_neg (by decide), if_pos rfl, hI]
      rfl
    have hlen : (tx ++ [34]).length = tx.length + 1 := by simp
    rw [hlen] at hlt he2
    by_cases q0 : r.2 = 0
    · have h1 := hlt (by omega)
      rw [if_pos q0, subL_name tx r.1 (by omega)] at hT
      rw [mb_is (by rw [hw]; simp) (by rw [hw]; exact hT) rfl]
      unfold mayT
      simp only [hr, str_take (show r.1 ≤ tx.length by omega), q0]
      by_cases hn : n = 0
      · subst hn; simp
      · have : ((0 : Int) == n) = false := by simp; omega
        simp [this, hn]
    · rw [if_neg q0] at hT
      have hE : (tokA (wrT ⟨2, tx, n, a⟩) 0).2.2 ≠ 0 := by rw [hw, hT]; split <;> simp
      rw [mb_err hE]
      unfold mayT
      simp only [hr]
      split
      · rfl
      · simp
        by_cases q1 : r.2 = 1
        · exact fun h => absurd q1 h
        · intro _ h
          by_cases q2 : r.2 = 2
          · have := he2 q2; omega
          · have hx : r.2 ≤ 2 := by
              rw [← hr]
              exact inn_two _ _ _
            omega
  · have hw : wrT ⟨k, tx, n, a⟩ = [] := by
      unfold wrT wrL
      simp [k1, k2, k3, k4]
    unfold mbT mayT
    rw [if_pos hw]
    simp [k1, k2, k3, k4]

end Go.Proofs.YtoifmiloaefanaaDoor
