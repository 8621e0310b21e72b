import Derived.Test.YtddddfankeepkaaGreatDoorA18
import Derived.Test.YtddddfankeepkaaGreatDoorA20
/-
  All of joined lists; there and back.
-/
namespace Go.Proofs.YtddddfankeepkaaGreatDoor
open Go.RowKit

/-! ### All of lists -/
theorem all_err : ∀ (os : List (OW × Nat)) (x : VW) (k : Nat), (allP x os k).2.2 ≠ 0 → (allP x os k).1 = VW0 ∧ (k : Int) ≤ (allP x os k).2.1 ∧ (allP x os k).2.1 < (k : Int) + os.length
  | [], x, k, h => absurd rfl h
  | (o, n) :: l, x, k, h => by
    unfold allP at *
    by_cases h0 : tkE x o n = 0
    · rw [if_pos h0] at *
      have := all_err l (tkX x o) (k + 1) h
      refine ⟨this.1, by omega, ?_⟩
      have := this.2.2
      simp only [List.length_cons]
      omega
    · rw [if_neg h0] at *
      exact ⟨rfl, Int.le_refl _, by simp only [List.length_cons]; omega⟩
theorem all_ok : ∀ (os : List (OW × Nat)) (x : VW) (k : Nat), (allP x os k).2.2 = 0 → (allP x os k).2.1 = 0
  | [], _, _, _ => rfl
  | (o, n) :: l, x, k, h => by
    unfold allP at *
    by_cases h0 : tkE x o n = 0
    · rw [if_pos h0] at *
      exact all_ok l _ _ h
    · rw [if_neg h0] at h
      exact absurd h h0
theorem all_shift : ∀ (os : List (OW × Nat)) (x : VW) (k m : Nat), (allP x os (k + m)).1 = (allP x os k).1 ∧ (allP x os (k + m)).2.2 = (allP x os k).2.2 ∧ ((allP x os k).2.2 ≠ 0 → (allP x os (k + m)).2.1 = (allP x os k).2.1 + m)
  | [], _, _, _ => ⟨rfl, rfl, fun h => absurd rfl h⟩
  | (o, n) :: l, x, k, m => by
    unfold allP
    by_cases h0 : tkE x o n = 0
    · rw [if_pos h0, if_pos h0, show k + m + 1 = k + 1 + m by omega]
      exact all_shift l (tkX x o) (k + 1) m
    · rw [if_neg h0, if_neg h0]
      exact ⟨rfl, rfl, fun _ => by show ((k + m : Nat) : Int) = (k : Int) + (m : Int); omega⟩
theorem all_join : ∀ (a b : List (OW × Nat)) (x : VW) (k : Nat), allP x (a ++ b) k = if (allP x a k).2.2 = 0 then allP (allP x a k).1 b (k + a.length) else allP x a k
  | [], b, x, k => by
    show allP x b k = if (0 : Int) = 0 then allP x b (k + 0) else _
    rw [if_pos rfl, Nat.add_zero]
  | (o, n) :: l, b, x, k => by
    rw [List.cons_append]
    by_cases h0 : tkE x o n = 0
    · rw [allP, if_pos h0, all_join l b (tkX x o) (k + 1)]
      rw [show allP x ((o, n) :: l) k = allP (tkX x o) l (k + 1) by rw [allP, if_pos h0]]
      simp only [List.length_cons]
      rw [show k + 1 + l.length = k + (l.length + 1) by omega]
    · rw [allP, if_neg h0]
      rw [show allP x ((o, n) :: l) k = (VW0, (k : Int), tkE x o n) by rw [allP, if_neg h0]]
      rw [if_neg h0]
theorem all_may : ∀ (os : List (OW × Nat)) (x : VW) (k : Nat), MayP x → (allP x os k).2.2 = 0 → MayP (allP x os k).1
  | [], _, _, h, _ => h
  | (o, n) :: l, x, k, h, h2 => by
    unfold allP at *
    by_cases h0 : tkE x o n = 0
    · rw [if_pos h0] at *
      exact all_may l _ _ (h.tk h0) h2
    · rw [if_neg h0] at h2
      exact absurd h2 h0
/-- what the law asks of joined lists -/
theorem joined_err {x : VW} {a b : List (OW × Nat)} (h : (allP x a 0).2.2 ≠ 0) : allP x (a ++ b) 0 = allP x a 0 ∧ (allP x a 0).1.vs.length = 0 ∧ 0 ≤ (allP x a 0).2.1 ∧ (allP x a 0).2.1 < a.length := by
  have := all_err a x 0 h
  refine ⟨by rw [all_join, if_neg h], by rw [this.1]; rfl, ?_, ?_⟩
  · have := this.2.1; omega
  · have := this.2.2; omega
theorem joined_ok {x : VW} {a b : List (OW × Nat)} (h : (allP x a 0).2.2 = 0) : (allP x (a ++ b) 0).1 = (allP (allP x a 0).1 b 0).1 ∧ (allP x (a ++ b) 0).2.2 = (allP (allP x a 0).1 b 0).2.2 ∧ ((allP (allP x a 0).1 b 0).2.2 ≠ 0 → (allP x (a ++ b) 0).2.1 = a.length + (allP (allP x a 0).1 b 0).2.1) ∧ ((allP (allP x a 0).1 b 0).2.2 = 0 → (allP x a 0).2.1 = 0 ∧ (allP (allP x a 0).1 b 0).2.1 = 0 ∧ (allP x (a ++ b) 0).2.1 = 0) := by
  have e : allP x (a ++ b) 0 = allP (allP x a 0).1 b (0 + a.length) := by rw [all_join, if_pos h]
  obtain ⟨s1, s2, s3⟩ := all_shift b (allP x a 0).1 0 a.length
  rw [e]
  refine ⟨s1, s2, fun q => by rw [s3 q]; omega, fun q => ⟨all_ok _ _ _ h, all_ok _ _ _ q, all_ok _ _ _ (by rw [s2]; exact q)⟩⟩

/-! ### there and back -/
theorem all_two (x : VW) (a b : OW) : allP x [(a, 0), (b, 0)] 0 = if tkE x a 0 = 0 then (if tkE (tkX x a) b 0 = 0 then (tkX (tkX x a) b, 0, 0) else (VW0, 1, tkE (tkX x a) b 0)) else (VW0, 0, tkE x a 0) := by
  rw [allP]
  by_cases h : tkE x a 0 = 0
  · rw [if_pos h, if_pos h, allP]
    by_cases h2 : tkE (tkX x a) b 0 = 0
    · rw [if_pos h2, if_pos h2]; rfl
    · rw [if_neg h2, if_neg h2]; rfl
  · rw [if_neg h, if_neg h]; rfl
theorem fm_of {o : OW} {n : Nat} (h1 : 1 ≤ o.k) (h2 : o.k ≤ 11) (hf : isF o.k.toNat o.nm o.ot o.fr o.tt n = true) (hn : uN o.k.toNat = true → nmB o.nm = true) (ho : uO o.k.toNat = true → nmB o.ot = true) (hd : uD o.k.toNat = true → n = 512) : fmE o n = 0 := by
  unfold fmE
  have : ckO o.k o.nm o.ot o.fr o.tt n = 0 ∨ ckO o.k o.nm o.ot o.fr o.tt n = 106 ∨ ckO o.k o.nm o.ot o.fr o.tt n = 107 := by
    unfold ckO
    rw [if_neg (by omega), if_neg (by rw [hf]; simp)]
    rw [if_neg (by cases e : uN o.k.toNat <;> simp_all), if_neg (by cases e : uO o.k.toNat <;> simp_all), if_neg (by cases e : uD o.k.toNat <;> simp_all)]
    split
    · exact .inr (.inl rfl)
    · split
      · exact .inr (.inr rfl)
      · exact .inl rfl
  rcases this with q | q
  · split
    · rfl
    · exact q
  · rw [if_pos q]
theorem fm5 {a b : ByteArray} (ha : nmB a = true) (hb : nmB b = true) : fmE ⟨5, a, b, 0, 0⟩ 0 = 0 := fm_of (show (1 : Int) ≤ 5 by decide) (show (5 : Int) ≤ 11 by decide) (by simp [isF, isF5, uN, uO, uF, uT, uD]) (fun _ => ha) (fun _ => hb) (fun h => absurd h (show ¬ uD 5 = true by decide))
theorem fm2 {a b : ByteArray} (ha : nmB a = true) (hb : nmB b = true) : fmE ⟨2, a, b, 0, 0⟩ 0 = 0 := fm_of (show (1 : Int) ≤ 2 by decide) (show (2 : Int) ≤ 11 by decide) (by simp [isF, isF5, uN, uO, uF, uT, uD]) (fun _ => ha) (fun _ => hb) (fun h => absurd h (show ¬ uD 2 = true by decide))
theorem fm7 {a b : ByteArray} (ha : nmB a = true) (hb : nmB b = true) : fmE ⟨7, a, b, 0, 0⟩ 0 = 0 := fm_of (show (1 : Int) ≤ 7 by decide) (show (7 : Int) ≤ 11 by decide) (by simp [isF, isF5, uN, uO, uF, uT, uD]) (fun _ => ha) (fun _ => hb) (fun h => absurd h (show ¬ uD 7 = true by decide))
theorem fm6 {a : ByteArray} (ha : nmB a = true) : fmE ⟨6, a, ByteArray.empty, 0, 0⟩ 0 = 0 := fm_of (show (1 : Int) ≤ 6 by decide) (show (6 : Int) ≤ 11 by decide) (by simp [isF, isF5, uN, uO, uF, uT, uD, empS]) (fun _ => ha) (fun h => absurd h (show ¬ uO 6 = true by decide)) (fun h => absurd h (show ¬ uD 6 = true by decide))
theorem fm9 {a : ByteArray} (ha : nmB a = true) : fmE ⟨9, a, ByteArray.empty, 0, 0⟩ 0 = 0 := fm_of (show (1 : Int) ≤ 9 by decide) (show (9 : Int) ≤ 11 by decide) (by simp [isF, isF5, uN, uO, uF, uT, uD, empS]) (fun _ => ha) (fun h => absurd h (show ¬ uO 9 = true by decide)) (fun h => absurd h (show ¬ uD 9 = true by decide))
theorem tk_of {x : VW} {o : OW} (hf : fmE o 0 = 0) {pn po : Int} (hp : plcF x.vs o.nm 0 = pn) (hq : plcF x.vs o.ot 0 = po) : tkE x o 0 = firstE (lksE o.k.toNat x o pn po) := by
  unfold tkE
  rw [if_pos hf, hp, hq]
/-- a volume, its name, and a name that is free -/
structure TrP (x : VW) (j : Nat) (ot : ByteArray) : Prop where
  may : MayP x
  hj : j < x.vs.length
  ok : nmB ot = true
  fr : ∀ u ∈ x.vs, u.nm ≠ ot
def o5 (a b : ByteArray) : OW := ⟨5, a, b, 0, 0⟩
def o2 (a b : ByteArray) : OW := ⟨2, a, b, 0, 0⟩
def o7 (a b : ByteArray) : OW := ⟨7, a, b, 0, 0⟩
def o6 (a : ByteArray) : OW := ⟨6, a, ByteArray.empty, 0, 0⟩
def o9 (a : ByteArray) : OW := ⟨9, a, ByteArray.empty, 0, 0⟩
theorem erase_names {x : VW} (h : MayP x) {j : Nat} (hj : j < x.vs.length) : ∀ u ∈ x.vs.eraseIdx j, u.nm ≠ x.vs[j].nm := by
  intro u hu
  have hl := List.length_eraseIdx_of_lt hj
  obtain ⟨i, hi, rfl⟩ := List.getElem_of_mem hu
  rw [hl] at hi
  by_cases q : i < j
  · rw [List.getElem_eraseIdx_of_lt (by omega) q]
    exact ltS_ne (pw_get h.byN (by omega) hj q)
  · rw [List.getElem_eraseIdx_of_ge (by omega) (by omega)]
    exact (ltS_ne (pw_get h.byN hj (by omega) (by omega))).symm
theorem vs_eq {x : VW} {vs : List PV} (h : vs = x.vs) : (⟨x.cp, x.fr, x.nx, vs⟩ : VW) = x := by cases x; simp_all
theorem ren_part {x : VW} {j : Nat} {ot : ByteArray} (H : TrP x j ot) (hp : (x.vs[j]'H.hj).pt = true) (b : OW) : allP x [(o5 (x.vs[j]'H.hj).nm ot, 0), (b, 0)] 0 = (VW0, 0, 108) := by
  have v := H.may.vol _ (List.getElem_mem H.hj)
  have e : tkE x (o5 (x.vs[j]'H.hj).nm ot) 0 = 108 := by
    unfold o5
    rw [tk_of (fm5 v.nm H.ok) (plc_at H.may.byN H.hj) (plc_none H.fr)]
    show firstE [unl (decide (0 ≤ (j : Int))) 104, unl (decide ((-1 : Int) < 0)) 105, unl (!(volAt x (j : Int)).pt) 108] = 108
    rw [volAt_eq H.hj, hp, decide_eq_true (by omega)]
    rfl
  rw [all_two, if_neg (by rw [e]; decide), e]
theorem ren_back {x : VW} {j : Nat} {ot : ByteArray} (H : TrP x j ot) (hp : (x.vs[j]'H.hj).pt = false) : allP x [(o5 (x.vs[j]'H.hj).nm ot, 0), (o5 ot (x.vs[j]'H.hj).nm, 0)] 0 = (x, 0, 0) := by
  have v := H.may.vol _ (List.getElem_mem H.hj)
  have hs : (x.vs.eraseIdx j).Pairwise ltV := H.may.byN.sublist (List.eraseIdx_sublist _ _)
  have e : tkE x (o5 (x.vs[j]'H.hj).nm ot) 0 = 0 := by
    unfold o5
    rw [tk_of (fm5 v.nm H.ok) (plc_at H.may.byN H.hj) (plc_none H.fr)]
    show firstE [unl (decide (0 ≤ (j : Int))) 104, unl (decide ((-1 : Int) < 0)) 105, unl (!(volAt x (j : Int)).pt) 108] = 0
    rw [volAt_eq H.hj, hp, decide_eq_true (by omega)]
    rfl
  have eX : tkX x (o5 (x.vs[j]'H.hj).nm ot) = ⟨x.cp, x.fr, x.nx, layP (x.vs.eraseIdx j) (setNm (x.vs[j]'H.hj) ot)⟩ := by
    unfold o5 tkX
    simp only [plc_at H.may.byN H.hj]
    show (⟨x.cp, x.fr, x.nx, layP (x.vs.eraseIdx (j : Int).toNat) (setNm (volAt x (j : Int)) ot)⟩ : VW) = _
    rw [volAt_eq H.hj, show ((j : Int)).toNat = j by omega]
  have hf : ∀ u ∈ x.vs.eraseIdx j, u.nm ≠ (setNm (x.vs[j]'H.hj) ot).nm := fun u hu => H.fr u (List.mem_of_mem_eraseIdx hu)
  have hpl : plcF (layP (x.vs.eraseIdx j) (setNm (x.vs[j]'H.hj) ot)) ot 0 = (layI (x.vs.eraseIdx j) ot : Nat) := plc_lay hs hf
  obtain ⟨hg, he⟩ := lay_get (x.vs.eraseIdx j) (setNm (x.vs[j]'H.hj) ot)
  have hno : plcF (layP (x.vs.eraseIdx j) (setNm (x.vs[j]'H.hj) ot)) (x.vs[j]'H.hj).nm 0 = -1 := plc_none (fun u hu => by
    rcases lay_mem.1 hu with rfl | hu
    · exact (H.fr _ (List.getElem_mem H.hj)).symm
    · exact erase_names H.may H.hj u hu)
  have hvA : volAt ⟨x.cp, x.fr, x.nx, layP (x.vs.eraseIdx j) (setNm (x.vs[j]'H.hj) ot)⟩ ((layI (x.vs.eraseIdx j) ot : Nat) : Int) = setNm (x.vs[j]'H.hj) ot := by
    exact (volAt_eq (x := ⟨x.cp, x.fr, x.nx, layP (x.vs.eraseIdx j) (setNm (x.vs[j]'H.hj) ot)⟩) hg).trans he
  have e2 : tkE (tkX x (o5 (x.vs[j]'H.hj).nm ot)) (o5 ot (x.vs[j]'H.hj).nm) 0 = 0 := by
    rw [eX]
    unfold o5
    rw [tk_of (fm5 H.ok v.nm) hpl hno]
    show firstE [unl (decide (0 ≤ ((layI (x.vs.eraseIdx j) ot : Nat) : Int))) 104, unl (decide ((-1 : Int) < 0)) 105, unl (!(volAt _ ((layI (x.vs.eraseIdx j) ot : Nat) : Int)).pt) 108] = 0
    rw [hvA, decide_eq_true (by omega), show (setNm (x.vs[j]'H.hj) ot).pt = false from hp]
    rfl
  have eX2 : tkX (tkX x (o5 (x.vs[j]'H.hj).nm ot)) (o5 ot (x.vs[j]'H.hj).nm) = x := by
    rw [eX]
    unfold o5 tkX
    simp only [hpl]
    show (⟨x.cp, x.fr, x.nx, layP ((layP (x.vs.eraseIdx j) (setNm (x.vs[j]'H.hj) ot)).eraseIdx ((layI (x.vs.eraseIdx j) ot : Nat) : Int).toNat) (setNm (volAt _ ((layI (x.vs.eraseIdx j) ot : Nat) : Int)) (x.vs[j]'H.hj).nm)⟩ : VW) = _
    rw [hvA, show (((layI (x.vs.eraseIdx j) ot : Nat) : Int)).toNat = layI (x.vs.eraseIdx j) ot by omega]
    refine vs_eq ?_
    have := erase_lay (x.vs.eraseIdx j) (setNm (x.vs[j]'H.hj) ot)
    rw [show (setNm (x.vs[j]'H.hj) ot).nm = ot from rfl] at this
    rw [this]
    exact lay_erase H.may.byN H.hj
  rw [all_two, if_pos e, if_pos e2, eX2]
theorem snap_part {x : VW} {j : Nat} {ot : ByteArray} (H : TrP x j ot) (hp : (x.vs[j]'H.hj).pt = true) (b : OW) : allP x [(o2 ot (x.vs[j]'H.hj).nm, 0), (b, 0)] 0 = (VW0, 0, 108) := by
  have v := H.may.vol _ (List.getElem_mem H.hj)
  have e : tkE x (o2 ot (x.vs[j]'H.hj).nm) 0 = 108 := by
    unfold o2
    rw [tk_of (fm2 H.ok v.nm) (plc_none H.fr) (plc_at H.may.byN H.hj)]
    show firstE [unl (decide (0 ≤ (j : Int))) 104, unl (decide ((-1 : Int) < 0)) 105, unl (!(volAt x (j : Int)).pt) 108, lkE 54 _ _ _ _] = 108
    rw [volAt_eq H.hj, hp, decide_eq_true (by omega)]
    rfl
  rw [all_two, if_neg (by rw [e]; decide), e]
theorem snap_full {x : VW} {j : Nat} {ot : ByteArray} (H : TrP x j ot) (hp : (x.vs[j]'H.hj).pt = false) (hq : x.vs.length = 64 ∨ 1073741824 < x.nx) (b : OW) : allP x [(o2 ot (x.vs[j]'H.hj).nm, 0), (b, 0)] 0 = (VW0, 0, if x.vs.length = 64 then 83 else 85) := by
  have v := H.may.vol _ (List.getElem_mem H.hj)
  have hl := H.may.len
  have e : tkE x (o2 ot (x.vs[j]'H.hj).nm) 0 = if x.vs.length = 64 then 83 else 85 := by
    unfold o2
    rw [tk_of (fm2 H.ok v.nm) (plc_none H.fr) (plc_at H.may.byN H.hj)]
    show firstE [unl (decide (0 ≤ (j : Int))) 104, unl (decide ((-1 : Int) < 0)) 105, unl (!(volAt x (j : Int)).pt) 108, if 64 ≤ x.vs.length then 83 else unl (decide (x.nx ≤ 1073741824)) 85] = _
    rw [volAt_eq H.hj, hp, decide_eq_true (show (0 : Int) ≤ j by omega)]
    by_cases q : x.vs.length = 64
    · rw [if_pos q, if_pos (by omega)]; rfl
    · rw [if_neg q, if_neg (by omega), decide_eq_false (show ¬ x.nx ≤ 1073741824 by omega)]; rfl
  have e0 : ¬ tkE x (o2 ot (x.vs[j]'H.hj).nm) 0 = 0 := by rw [e]; split <;> decide
  rw [all_two, if_neg e0, e]
theorem chl_none : ∀ (vs : List PV) (id : Int) (k : Nat), (∀ v ∈ vs, v.og ≠ id) → chlF vs id k = -1
  | [], _, _, _ => rfl
  | v :: l, id, k, h => by
    unfold chlF
    rw [if_neg (h v (by simp))]
    exact chl_none l id (k + 1) (fun u hu => h u (by simp [hu]))
theorem snap_back {x : VW} {j : Nat} {ot : ByteArray} (H : TrP x j ot) (hp : (x.vs[j]'H.hj).pt = false) (hq : ¬ x.vs.length = 64) (hx : x.nx ≤ 1073741824) : allP x [(o2 ot (x.vs[j]'H.hj).nm, 0), (o6 ot, 0)] 0 = (⟨x.cp, x.fr, x.nx + 1, x.vs⟩, 0, 0) := by
  have v := H.may.vol _ (List.getElem_mem H.hj)
  have hl := H.may.len
  have hn := H.may.n1
  obtain ⟨y, hy⟩ : ∃ y : PV, y = ⟨ot, x.nx, (x.vs[j]'H.hj).sz, (x.vs[j]'H.hj).id, 1, false, (x.vs[j]'H.hj).mp⟩ := ⟨_, rfl⟩
  have hyn : y.nm = ot := by rw [hy]
  have e : tkE x (o2 ot (x.vs[j]'H.hj).nm) 0 = 0 := by
    unfold o2
    rw [tk_of (fm2 H.ok v.nm) (plc_none H.fr) (plc_at H.may.byN H.hj)]
    show firstE [unl (decide (0 ≤ (j : Int))) 104, unl (decide ((-1 : Int) < 0)) 105, unl (!(volAt x (j : Int)).pt) 108, if 64 ≤ x.vs.length then 83 else unl (decide (x.nx ≤ 1073741824)) 85] = _
    rw [volAt_eq H.hj, hp, decide_eq_true (show (0 : Int) ≤ j by omega), if_neg (by omega), decide_eq_true hx]
    rfl
  have eX : tkX x (o2 ot (x.vs[j]'H.hj).nm) = ⟨x.cp, x.fr, x.nx + 1, layP x.vs y⟩ := by
    unfold o2 tkX
    simp only [plc_at H.may.byN H.hj]
    show (⟨x.cp, x.fr, wrap64 (x.nx + 1), layP x.vs (nmd2 ⟨ByteArray.empty, 0, (volAt x (j : Int)).sz, (volAt x (j : Int)).id, 1, false, (volAt x (j : Int)).mp⟩ ot x.nx)⟩ : VW) = _
    rw [volAt_eq H.hj, pw64 (by omega), hy]
    rfl
  have hf : ∀ u ∈ x.vs, u.nm ≠ y.nm := fun u hu => by rw [hyn]; exact H.fr u hu
  have hpl : plcF (layP x.vs y) ot 0 = (layI x.vs ot : Nat) := by have := plc_lay H.may.byN hf; rw [hyn] at this; exact this
  obtain ⟨hg, he⟩ := lay_get x.vs y
  have hvA : volAt ⟨x.cp, x.fr, x.nx + 1, layP x.vs y⟩ ((layI x.vs ot : Nat) : Int) = y := by
    rw [← hyn, volAt_eq (x := ⟨x.cp, x.fr, x.nx + 1, layP x.vs y⟩) hg]
    exact he
  have hch : chlF (layP x.vs y) x.nx 0 = -1 := chl_none _ _ _ (fun u hu => by
    rcases lay_mem.1 hu with rfl | hu
    · rw [hy]; have := v.i2; show (x.vs[j]'H.hj).id ≠ x.nx; omega
    · have q := H.may.vol u hu; have := q.o2; have := q.i2; omega)
  have e2 : tkE (tkX x (o2 ot (x.vs[j]'H.hj).nm)) (o6 ot) 0 = 0 := by
    rw [eX]
    unfold o6
    rw [tk_of (fm6 H.ok) hpl rfl]
    show firstE [unl (decide (0 ≤ ((layI x.vs ot : Nat) : Int))) 104, unl (!decide (0 ≤ chlF (layP x.vs y) (volAt _ ((layI x.vs ot : Nat) : Int)).id 0)) 109] = 0
    rw [hvA, decide_eq_true (by omega), show y.id = x.nx by rw [hy], hch]
    rfl
  have eX2 : tkX (tkX x (o2 ot (x.vs[j]'H.hj).nm)) (o6 ot) = ⟨x.cp, x.fr, x.nx + 1, x.vs⟩ := by
    rw [eX]
    unfold o6 tkX
    simp only [hpl]
    show (⟨x.cp, x.fr, x.nx + 1, (layP x.vs y).eraseIdx ((layI x.vs ot : Nat) : Int).toNat⟩ : VW) = _
    rw [show (((layI x.vs ot : Nat) : Int)).toNat = layI x.vs ot by omega]
    have := erase_lay x.vs y
    rw [hyn] at this
    rw [this]
  rw [all_two, if_pos e, if_pos e2, eX2]
theorem res_part {x : VW} {j : Nat} {ot : ByteArray} (H : TrP x j ot) (hp : (x.vs[j]'H.hj).pt = true) (b : OW) : allP x [(o7 (x.vs[j]'H.hj).nm (x.vs[j]'H.hj).nm, 0), (b, 0)] 0 = (VW0, 0, 108) := by
  have v := H.may.vol _ (List.getElem_mem H.hj)
  have e : tkE x (o7 (x.vs[j]'H.hj).nm (x.vs[j]'H.hj).nm) 0 = 108 := by
    unfold o7
    rw [tk_of (fm7 v.nm v.nm) (plc_at H.may.byN H.hj) (plc_at H.may.byN H.hj)]
    show firstE [unl (decide (0 ≤ (j : Int))) 104, unl (decide (0 ≤ (j : Int))) 104, unl (!(volAt x (j : Int)).pt) 108, unl (!(volAt x (j : Int)).pt) 108] = 108
    rw [volAt_eq H.hj, hp, decide_eq_true (by omega)]
    rfl
  rw [all_two, if_neg (by rw [e]; decide), e]
theorem set_same {vs : List PV} {j : Nat} (hj : j < vs.length) {v : PV} (e : v = vs[j]) : vs.set j v = vs := by
  rw [e]
  exact List.set_getElem_self hj
theorem res_back {x : VW} {j : Nat} {ot : ByteArray} (H : TrP x j ot) (hp : (x.vs[j]'H.hj).pt = false) : allP x [(o7 (x.vs[j]'H.hj).nm (x.vs[j]'H.hj).nm, 0), (o9 (x.vs[j]'H.hj).nm, 0)] 0 = (x, 0, 0) := by
  have v := H.may.vol _ (List.getElem_mem H.hj)
  have e : tkE x (o7 (x.vs[j]'H.hj).nm (x.vs[j]'H.hj).nm) 0 = 0 := by
    unfold o7
    rw [tk_of (fm7 v.nm v.nm) (plc_at H.may.byN H.hj) (plc_at H.may.byN H.hj)]
    show firstE [unl (decide (0 ≤ (j : Int))) 104, unl (decide (0 ≤ (j : Int))) 104, unl (!(volAt x (j : Int)).pt) 108, unl (!(volAt x (j : Int)).pt) 108] = 0
    rw [volAt_eq H.hj, hp, decide_eq_true (by omega)]
    rfl
  have eX : tkX x (o7 (x.vs[j]'H.hj).nm (x.vs[j]'H.hj).nm) = x := by
    unfold o7 tkX
    simp only [plc_at H.may.byN H.hj]
    show (⟨x.cp, x.fr, x.nx, x.vs.set (j : Int).toNat (setMp (setSz (volAt x (j : Int)) (volAt x (j : Int)).sz) (volAt x (j : Int)).mp)⟩ : VW) = _
    rw [volAt_eq H.hj, show ((j : Int)).toNat = j by omega]
    exact vs_eq (set_same H.hj rfl)
  have e2 : tkE x (o9 (x.vs[j]'H.hj).nm) 0 = 0 := by
    unfold o9
    rw [tk_of (fm9 v.nm) (plc_at H.may.byN H.hj) rfl]
    show firstE [unl (decide (0 ≤ (j : Int))) 104, unl (decide ((0 : Int) ≤ 0 ∧ 0 ≤ (volAt x (j : Int)).sz ∧ (0 : Int) ≤ 0)) 107, unl (!(volAt x (j : Int)).pt) 108] = 0
    rw [volAt_eq H.hj, hp, decide_eq_true (show (0 : Int) ≤ j by omega), decide_eq_true (by have := v.s1; omega)]
    rfl
  have eX2 : tkX x (o9 (x.vs[j]'H.hj).nm) = x := by
    unfold o9 tkX
    simp only [plc_at H.may.byN H.hj]
    show (⟨x.cp, x.fr, x.nx, x.vs.set (j : Int).toNat (setMp (volAt x (j : Int)) (cutP (volAt x (j : Int)).mp ⟨0, 0⟩))⟩ : VW) = _
    rw [volAt_eq H.hj, show ((j : Int)).toNat = j by omega]
    refine vs_eq (set_same H.hj ?_)
    unfold cutP
    rw [if_pos (by decide)]
    rfl
  rw [all_two, if_pos e, eX, if_pos e2, eX2]

end Go.Proofs.YtddddfankeepkaaGreatDoor
/-
  Two operations over a copy of a view.
-/
namespace Go.Proofs.YtddddfankeepkaaGreatDoor
open Go.RowKit

theorem nf_len : ∀ (rs : List Rg) (b sz : Int), rgO rs b sz = true → b ≤ sz → (rs.length : Int) ≤ sz - b
  | [], b, sz, _, h => by simp; omega
  | r :: l, b, sz, h, hb => by
    unfold rgO at h
    split at h
    · exact absurd h (by simp)
    split at h
    · exact absurd h (by simp)
    split at h
    · exact absurd h (by simp)
    have := nf_len l r.t sz h (by omega)
    simp only [List.length_cons]
    omega
theorem MayP.szV {x : VW} (h : MayP x) : szV 64 262145 x.vs := ⟨h.len, fun v hv => by
  have q := h.vol v hv
  have := nf_len v.mp (-1) v.sz ((rgO_nf _ _ _).2 q.mp) (by have := q.s1; omega)
  have := q.s2
  omega⟩
theorem MayP.nmz {x : VW} (h : MayP x) : ∀ v ∈ x.vs, v.nm.size ≤ 16777216 := fun v hv => by
  have := nmB_size (h.vol v hv).nm
  omega
/-- the cells of an operation without data -/
abbrev opC6 (p : OW) : List Value := [.int .i64 p.k, .string p.nm, .string p.ot, .int .i64 p.fr, .int .i64 p.tt, .slice none 0 0]
theorem rdA_two (u : World) (p q : OW) : RdA (u.heap.size + 1) (u.alloc (.cells #[.int .i64 p.k, .string p.nm, .string p.ot, .int .i64 p.fr, .int .i64 p.tt, .slice none 0 0, .int .i64 q.k, .string q.nm, .string q.ot, .int .i64 q.fr, .int .i64 q.tt, .slice none 0 0] 42)) (some ⟨u.heap.size, 0, none⟩) [(p, 0), (q, 0)] := by
  have hb := heap_new u (.cells #[.int .i64 p.k, .string p.nm, .string p.ot, .int .i64 p.fr, .int .i64 p.tt, .slice none 0 0, .int .i64 q.k, .string q.nm, .string q.ot, .int .i64 q.fr, .int .i64 q.tt, .slice none 0 0] 42)
  refine .inr ⟨_, 0, rfl, by omega, fun t ht => ?_⟩
  generalize u.alloc _ = U at hb ⊢
  simp only [List.length_cons, List.length_nil] at ht
  rcases (show t = 0 ∨ t = 1 by omega) with rfl | rfl
  · exact ⟨none, 0, by constructor <;> simp [World.cell?, hb]⟩
  · exact ⟨none, 0, by constructor <;> simp [World.cell?, hb]⟩
/-- what All answers, as it is read -/
def AnV (W : World) (r : VW × Int × Int) (e : Ending) (u : World) : Prop := ∃ a2 c2, e = .returned (.tuple #[viewA r.1 a2 c2, .int .i64 r.2.1, .int .i64 r.2.2]) ∧ RdV u.heap.size u a2 r.1.vs ∧ (a2 = none → c2 = 0) ∧ Below W.heap.size W u
theorem AnV.of {W U : World} {r : VW × Int × Int} {e : Ending} {u : World} (h : AllQ U r e u) (hb : Below W.heap.size W U) : AnV W r e u := by
  obtain ⟨a2, c2, us, rfl, ho, _, h2⟩ := h
  obtain ⟨a3, c3, e3, hR, hn⟩ := ho.rd
  simp only [Value.slice.injEq] at e3
  obtain ⟨rfl, _, rfl⟩ := e3
  exact ⟨a2, c2, rfl, hR, hn, hb.trans (h2.mono hb.size)⟩
theorem two_any (x : VW) (a : Option Addr) (c0 : Nat) (W : World) (hx : szV 64 262145 x.vs) (hR : RdV W.heap.size W a x.vs) (hG : GT W) (p q : OW) (hp : okW p) (hq : okW q) (r : VW × Int × Int) (hr : allP x [(p, 0), (q, 0)] 0 = r) (u : World) (hb : Below W.heap.size W u) :
    Calls Tryz.prog 10 #[viewA x a c0] u fun e u1 => ∃ a' c', e = .returned (viewA x a' c') ∧ Calls Tryz.prog 9 #[viewA x a' c', .slice (some ⟨u1.heap.size, 0, none⟩) 2 2] (u1.alloc (.cells #[.int .i64 p.k, .string p.nm, .string p.ot, .int .i64 p.fr, .int .i64 p.tt, .slice none 0 0, .int .i64 q.k, .string q.nm, .string q.ot, .int .i64 q.fr, .int .i64 q.tt, .slice none 0 0] 42)) fun e u2 => AnV W r e u2 := by
  refine (CopyView_any x a c0 u (hx.shV (by omega) (by omega)) ((hR.below hb).mono hb.size)).mono ?_
  rintro e u1 ⟨a', c', rfl, hR1, hn, hb1⟩
  refine ⟨a', c', rfl, ?_⟩
  have h1 : Below W.heap.size W u1 := hb.trans (hb1.mono hb.size)
  have h2 := below1 u1 (.cells #[.int .i64 p.k, .string p.nm, .string p.ot, .int .i64 p.fr, .int .i64 p.tt, .slice none 0 0, .int .i64 q.k, .string q.nm, .string q.ot, .int .i64 q.fr, .int .i64 q.tt, .slice none 0 0] 42)
  have hA := rdA_two u1 p q
  have hs := World.size_alloc u1 (.cells #[.int .i64 p.k, .string p.nm, .string p.ot, .int .i64 p.fr, .int .i64 p.tt, .slice none 0 0, .int .i64 q.k, .string q.nm, .string q.ot, .int .i64 q.fr, .int .i64 q.tt, .slice none 0 0] 42)
  rw [← hs] at hA
  generalize u1.alloc (.cells #[.int .i64 p.k, .string p.nm, .string p.ot, .int .i64 p.fr, .int .i64 p.tt, .slice none 0 0, .int .i64 q.k, .string q.nm, .string q.ot, .int .i64 q.fr, .int .i64 q.tt, .slice none 0 0] 42) = U at *
  have hU : Below W.heap.size W U := h1.trans (h2.mono h1.size)
  refine (All_any x a' c' [(p, 0), (q, 0)] (some ⟨u1.heap.size, 0, none⟩) 2 U (hx.mono (by omega) (by omega)) ((hR1.below h2).mono h2.size) hn (by simp) (hG.next hU) (fun o ho => ?_) hA).mono ?_
  · simp only [List.mem_cons, List.not_mem_nil, or_false] at ho
    rcases ho with rfl | rfl
    · exact hp
    · exact hq
  · intro e u2 h
    rw [hr] at h
    exact AnV.of h hU
end Go.Proofs.YtddddfankeepkaaGreatDoor
/-
  DryThrough: lists of operations copied and joined; All over copies.
-/
namespace Go.Proofs.YtddddfankeepkaaGreatDoor
open Go.RowKit

def PO.ow (o : PO) : OW := ⟨o.k, o.nm, o.ot, o.fr, o.tt⟩
def tow (o : PO) : OW × Nat := (o.ow, o.da.length)
theorem okO.w {o : PO} (h : okO o) : okW o.ow := ⟨h.nm, h.ot, h.f0, h.t1⟩
theorem flatO_join : ∀ (os : List PO) (vs : List Value) (os2 : List PO) (vs2 : List Value), vs.length = os.length → flatO (os ++ os2) (vs ++ vs2) = flatO os vs ++ flatO os2 vs2
  | [], [], _, _, _ => rfl
  | [], _ :: _, _, _, h => by simp at h
  | _ :: _, [], _, _, h => by simp at h
  | p :: os, x :: vs, os2, vs2, h => by
    simp only [List.cons_append, flatO, flatO_join os vs os2 vs2 (by simpa using h), List.append_assoc]
theorem flatO_one : ∀ (os : List PO) (vs : List Value), (∀ v ∈ vs, v.oneCell' = true) → ∀ u ∈ flatO os vs, u.oneCell' = true
  | [], _, _, u, h => by simp [flatO] at h
  | _ :: _, [], _, u, h => by simp [flatO] at h
  | p :: os, x :: vs, hv, u, h => by
    simp only [flatO, List.mem_append, cells6, List.mem_cons, List.not_mem_nil, or_false] at h
    rcases h with (rfl | rfl | rfl | rfl | rfl | rfl) | h
    · rfl
    · rfl
    · rfl
    · rfl
    · rfl
    · exact hv _ (by simp)
    · exact flatO_one os vs (fun v hx => hv v (by simp [hx])) u h
/-- a row of operations is read -/
theorem rdA_row {B : Nat} {w : World} {v : Value} {os : List PO} {vs : List Value} (hr : w.ownsRow B 42 6 v os.length (flatO os vs)) (hl : vs.length = os.length) (hd : ∀ i (h : i < os.length), ∃ a c, (vs[i]'(by omega)) = .slice a os[i].da.length c) : ∃ z c, v = .slice z os.length c ∧ RdA w.heap.size w z (os.map tow) := by
  rcases own_form hr with ⟨rfl, hn⟩ | ⟨g, c, rfl, hg⟩
  · exact ⟨none, 0, by rw [hn], .inl (by rw [List.eq_nil_of_length_eq_zero hn]; rfl)⟩
  · refine ⟨_, c, rfl, .inr ⟨g, 0, rfl, (own_blk hr hg).2.1, fun t ht => ?_⟩⟩
    rw [List.length_map] at ht
    obtain ⟨a', c', e⟩ := hd t ht
    have k : ∀ i u, i < 6 → (cells6 os[t] (vs[t]'(by omega)))[i]? = some u → w.cell? ⟨g, 0 + t * 6 + i, none⟩ = some u := fun i u hi hu => by
      have := World.ownsRow.cells hr hg (t * 6 + i) u (by rw [flatO_at os vs hl t ht i hi]; exact hu)
      rw [Addr.add_lit] at this
      rw [← this]
      congr 2
      omega
    rw [List.getElem_map]
    refine ⟨a', c', ?_⟩
    constructor
    · exact k 0 _ (by decide) rfl
    · exact k 1 _ (by decide) rfl
    · exact k 2 _ (by decide) rfl
    · exact k 3 _ (by decide) rfl
    · exact k 4 _ (by decide) rfl
    · exact k 5 _ (by decide) (by rw [e]; rfl)
theorem OwL.rdA {B : Nat} {w : World} {v : Value} {os : List PO} {vs : List Value} (h : OwL B w v os vs) : ∃ z c, v = .slice z os.length c ∧ RdA w.heap.size w z (os.map tow) :=
  rdA_row h.row h.len (fun i hi => (h.dat i hi).form)
/-- append of operations to operations -/
theorem app_ops {B : Nat} {w : World} {v u : Value} {os os2 : List PO} {vs vs2 : List Value} (ty : TypeId) (h1 : OwL B w v os vs) (h2 : OwL B w u os2 vs2) (hl : os.length ≤ 16777216) (hl2 : os2.length ≤ 16777216) (hB : B ≤ w.heap.size) :
    ∃ z c w', (Builtin.append_ #[25, 25] ty #[v, u]).run Tryz.prog w = .ok (.slice z (os ++ os2).length c) w' ∧ RdA w'.heap.size w' z ((os ++ os2).map tow) ∧ Below B w w' := by
  obtain ⟨i0, hi, hz0, hz1, hz2⟩ := info_parts info42
  have hd : ∀ i (h : i < (os ++ os2).length), ∃ a c, ((vs ++ vs2)[i]'(by rw [List.length_append] at h ⊢; have := h1.len; have := h2.len; omega)) = .slice a (os ++ os2)[i].da.length c := fun i h => by
    by_cases q : i < os.length
    · obtain ⟨a, c, e⟩ := (h1.dat i q).form
      exact ⟨a, c, by rw [List.getElem_append_left (by have := h1.len; omega), e, List.getElem_append_left q]⟩
    · have h' := h
      rw [List.length_append] at h'
      obtain ⟨a, c, e⟩ := (h2.dat (i - os.length) (by omega)).form
      refine ⟨a, c, ?_⟩
      rw [List.getElem_append_right (by have := h1.len; omega), List.getElem_append_right (by omega)]
      simp only [h1.len]
      exact e
  have hlen : (vs ++ vs2).length = (os ++ os2).length := by rw [List.length_append, List.length_append, h1.len, h2.len]
  rcases own_form h2.row with ⟨rfl, hn⟩ | ⟨g, c, rfl, hg⟩
  · have e2 : os2 = [] := List.eq_nil_of_length_eq_zero hn
    subst e2
    obtain ⟨z, c, e, hR⟩ := h1.rdA
    refine ⟨z, c, w, ?_, by rw [List.append_nil]; exact hR, Below.refl _ _⟩
    rw [List.append_nil, ← e]
    exact run_append_owned_none w B 25 ty 42 i0 6 Tryz.underlying25 hi _ _ _ h1.row
  · obtain ⟨v', w', hr, h3, h4, _, h5⟩ := run_append_own_at (P := Tryz.prog) w B 25 ty 42 i0 _ 6 80 Tryz.underlying25 hi hz0 hz1 hz2 rfl (by decide) v os.length (flatO os vs) h1.row ⟨g, 0, none⟩ os2.length c (flatO os2 vs2) (flatO_len os2 vs2 h2.len) (fun j y hy => World.ownsRow.cells h2.row hg j y hy) (flatO_one os2 vs2 (fun y hy => by
      obtain ⟨i, hi', rfl⟩ := List.getElem_of_mem hy
      obtain ⟨a, c', e⟩ := (h2.dat i (by have := h2.len; omega)).form
      rw [e]
      rfl)) (by unfold maxLen; omega) (by omega) hB
    rw [← flatO_join os vs os2 vs2 h1.len, ← List.length_append] at h3
    obtain ⟨z, c', e, hR⟩ := rdA_row h3 hlen hd
    refine ⟨z, c', w', by rw [← e]; exact hr, hR, ⟨h4.os, h4.tape, h4.output, h4.size, fun k hk => h4.block k (by omega) (fun e => ?_)⟩⟩
    have := (own_blk h1.row e.symm).1
    omega
end Go.Proofs.YtddddfankeepkaaGreatDoor
/-
  turns: there and back.
-/
namespace Go.Proofs.YtddddfankeepkaaGreatDoor
open Go.RowKit

abbrev TwC (x : VW) (a : Option Addr) (c0 : Nat) (W : World) (p q : OW) (r : VW × Int × Int) (u : World) : Prop :=
  Calls Tryz.prog 10 #[viewA x a c0] u fun e u1 => ∃ a' c', e = .returned (viewA x a' c') ∧ Calls Tryz.prog 9 #[viewA x a' c', .slice (some ⟨u1.heap.size, 0, none⟩) 2 2] (u1.alloc (.cells #[.int .i64 p.k, .string p.nm, .string p.ot, .int .i64 p.fr, .int .i64 p.tt, .slice none 0 0, .int .i64 q.k, .string q.nm, .string q.ot, .int .i64 q.fr, .int .i64 q.tt, .slice none 0 0] 42)) fun e u2 => AnV W r e u2
/-- the three calls of All -/
def TsQ (x : VW) (a : Option Addr) (c0 : Nat) (W : World) (nm s : ByteArray) (r1 r2 r3 : VW × Int × Int) : Prop :=
  (∀ u, Below W.heap.size W u → TwC x a c0 u (o5 nm s) (o5 s nm) r1 u) ∧ (∀ u, Below W.heap.size W u → TwC x a c0 u (o2 s nm) (o6 s) r2 u) ∧ ∀ u, Below W.heap.size W u → TwC x a c0 u (o7 nm nm) (o9 nm) r3 u
theorem VwB.setN {w : World} {R : Nat} {o : VW} {v : Value} (h : VwB w R o v) (z : Int) : VwB (w.setCell ⟨R, 2, none⟩ (.int .i64 z)) R ⟨o.cp, o.fr, z, o.vs⟩ v := by
  unfold VwB at *
  simp only [World.setCell, Array.getElem?_modify, if_true]
  rw [h]
  simp
theorem VolC.keep' {w w' : World} {b off : Nat} {v : PV} {a : Option Addr} {c : Nat} (h : VolC w b off v a c) (hb : w'.heap[b]? = w.heap[b]?) : VolC w' b off v a c := by
  obtain ⟨h0, h1, h2, h3, h4, h5, h6⟩ := h
  exact ⟨(World.cell?_of_block (a := ⟨b, _, none⟩) hb).trans h0, (World.cell?_of_block (a := ⟨b, _, none⟩) hb).trans h1, (World.cell?_of_block (a := ⟨b, _, none⟩) hb).trans h2, (World.cell?_of_block (a := ⟨b, _, none⟩) hb).trans h3, (World.cell?_of_block (a := ⟨b, _, none⟩) hb).trans h4, (World.cell?_of_block (a := ⟨b, _, none⟩) hb).trans h5, (World.cell?_of_block (a := ⟨b, _, none⟩) hb).trans h6⟩
theorem okW_of {k : Int} {a b : ByteArray} (ha : a.size ≤ 16777216) (hb : b.size ≤ 16777216) : okW ⟨k, a, b, 0, 0⟩ := ⟨ha, hb, by show (-9223372036854775808 : Int) ≤ 0; decide, by show (0 : Int) ≤ 9223372036854775807; decide⟩
theorem TsQ.of {x : VW} {a : Option Addr} {c0 : Nat} {W : World} {nm s : ByteArray} {r1 r2 r3 : VW × Int × Int} (hM : MayP x) (hR : RdV W.heap.size W a x.vs) (hG : GT W) (hn : nm.size ≤ 16777216) (hs : s.size ≤ 16777216) (h1 : allP x [(o5 nm s, 0), (o5 s nm, 0)] 0 = r1) (h2 : allP x [(o2 s nm, 0), (o6 s, 0)] 0 = r2) (h3 : allP x [(o7 nm nm, 0), (o9 nm, 0)] 0 = r3) : TsQ x a c0 W nm s r1 r2 r3 :=
  have he : ByteArray.empty.size ≤ 16777216 := by decide
  ⟨fun u hu => two_any x a c0 u hM.szV ((hR.below hu).mono hu.size) (hG.next hu) _ _ (okW_of hn hs) (okW_of hs hn) r1 h1 u (Below.refl _ _), fun u hu => two_any x a c0 u hM.szV ((hR.below hu).mono hu.size) (hG.next hu) _ _ (okW_of hs hn) (okW_of hs he) r2 h2 u (Below.refl _ _), fun u hu => two_any x a c0 u hM.szV ((hR.below hu).mono hu.size) (hG.next hu) _ _ (okW_of hn hn) (okW_of hn he) r3 h3 u (Below.refl _ _)⟩

set_option maxRecDepth 100000 in
set_option maxHeartbeats 8000000 in
theorem turns_A (x : VW) (a : Option Addr) (c0 j : Nat) (w : World) (hM : MayP x) (hj : j < x.vs.length) (hR : RdV w.heap.size w a x.vs) (hG : GT w) (hp : x.vs[j].pt = true) :
    Calls Tryz.prog 14 #[viewA x a c0, .string x.vs[j].nm] w fun e w' => BoQ w true e w' := by
  obtain ⟨R, hRe⟩ : ∃ R, R = w.heap.size := ⟨_, rfl⟩
  obtain ⟨W0, hW0⟩ : ∃ W0, W0 = w.alloc (.cells #[.int .i64 x.cp, .int .i64 x.fr, .int .i64 x.nx, .slice a x.vs.length c0] 24) := ⟨_, rfl⟩
  have b0 : Below w.heap.size w W0 := by rw [hW0]; exact below1 _ _
  have hV : VwB W0 R x (.slice a x.vs.length c0) := by rw [hW0, hRe]; exact heap_new _ _
  have hR0 := (hR.below b0).mono b0.size
  have HF := hid (free_any x a c0 W0 hR0 hM.len)
  have hzn := hM.nmz _ (List.getElem_mem hj)
  have HT : Hid (∀ s, nmB s = true → s.size ≤ 16777216 → (∀ u ∈ x.vs, u.nm ≠ s) → TsQ x a c0 W0 x.vs[j].nm s (VW0, 0, 108) (VW0, 0, 108) (VW0, 0, 108)) := hid (fun s hs hz hf => by
    have T : TrP x j s := ⟨hM, hj, hs, hf⟩
    exact TsQ.of hM hR0 (hG.next b0) hzn hz (ren_part T hp _) (snap_part T hp _) (res_part T hp _))
  have HV := hid hV
  have HB0 := hid b0
  have HR0 := hid hR0
  have HL := hid (hM.szV.shV (by omega) (by omega))
  have HRe := hid hRe.symm
  have HW0 := hid hW0
  clear hRe hW0 b0 hV hR0 hR hG hM hzn hp
  generalize x.vs[j].nm = nm at *
  dsimp only [viewA] at HF ⊢
  go_enter Tryz.func14, Tryz.ntmps14
  go_wp2_with fail
  rw [← HW0.out, HRe.out]
  refine HF.out.mono ?_
  rintro e w1 ⟨⟨s, rfl, hs, hz, hf⟩, hb1⟩
  obtain ⟨hT1, hT2, hT3⟩ := HT.out s hs hz hf
  have HT1 := hid (hT1 w1 hb1)
  have HT2 := hid hT2
  have HT3 := hid hT3
  have hV1 := HV.out.keep (hb1.block R HV.out.lt)
  obtain ⟨⟨p0, p1, p2, p3⟩, _⟩ := hV1.cs
  have HB1 := hid hb1
  clear hT1 hT2 hT3 hb1 hV1 hs hz hf HT HF HW0
  clear p0 p1 p2 p3
  obtain ⟨⟨p0, p1, p2, p3⟩, _⟩ := (HV.out.keep (HB1.out.block R HV.out.lt)).cs
  go_wp2_with fail
  refine HT1.out.mono ?_
  rintro e c1 ⟨ac1, cc1, rfl, hC1⟩
  have HC1 := hid hC1
  clear hC1 HT1
  go_wp2_with fail
  refine HC1.out.mono ?_
  rintro e d1 ⟨ad1, cd1, rfl, hr1, _, hb1⟩
  obtain ⟨X1, hX1⟩ : ∃ X, X = d1.heap.size := ⟨_, rfl⟩
  obtain ⟨W1, hW1⟩ : ∃ W, W = d1.alloc (.cells #[.int .i64 VW0.cp, .int .i64 VW0.fr, .int .i64 VW0.nx, .slice ad1 VW0.vs.length cd1] 24) := ⟨_, rfl⟩
  have bW1 : Below d1.heap.size d1 W1 := by rw [hW1]; exact below1 _ _
  have hV1 : VwB W1 X1 VW0 (.slice ad1 VW0.vs.length cd1) := by rw [hW1, hX1]; exact heap_new _ _
  have hbk1 : Below w1.heap.size w1 W1 := hb1.trans (bW1.mono hb1.size)
  have hbw1 : Below W0.heap.size W0 W1 := HB1.out.trans (hbk1.mono HB1.out.size)
  have hq1 := (hr1.below bW1).mono bW1.size
  have HQX1 : Hid (RdV X1 W1 ad1 (VW0 : VW).vs) := hid (by rw [hX1]; exact hr1.below bW1)
  have hX1g : w1.heap.size ≤ X1 := by rw [hX1]; exact hb1.size
  have HBK1 := hid hbk1
  have HX1 := hid hX1.symm
  have HW1 := hid hW1
  have HV1 := hid hV1
  have HBW1 := hid hbw1
  have HQ1 := hid hq1
  have HXG1 := hid hX1g
  clear HC1 hX1 hW1 hbk1 bW1 hV1 hbw1 hq1 hX1g hr1 hb1
  clear p0 p1 p2 p3
  go_wp2_with fail
  rw [← HW1.out, HX1.out]
  refine (Num_any _ _).mono ?_
  rintro e wn ⟨rfl, hwn⟩
  have hwn := hwn.symm
  subst hwn
  obtain ⟨y1, hy1⟩ : ∃ y, y = W1 := ⟨_, rfl⟩
  have HY1 : Hid (Below W0.heap.size W0 y1) := hid (by rw [hy1]; exact HBW1.out)
  clear HW1 HX1
  rw [← hy1]
  clear hy1
  have HT2 := hid (HT2.out y1 HY1.out)
  obtain ⟨⟨p0, p1, p2, p3⟩, _⟩ := (HV.out.keep (HY1.out.block R HV.out.lt)).cs
  go_wp2_with fail
  refine HT2.out.mono ?_
  rintro e c2 ⟨ac2, cc2, rfl, hC2⟩
  have HC2 := hid hC2
  clear hC2 HT2
  go_wp2_with fail
  refine HC2.out.mono ?_
  rintro e d2 ⟨ad2, cd2, rfl, hr2, _, hb2⟩
  obtain ⟨X2, hX2⟩ : ∃ X, X = d2.heap.size := ⟨_, rfl⟩
  obtain ⟨W2, hW2⟩ : ∃ W, W = d2.alloc (.cells #[.int .i64 VW0.cp, .int .i64 VW0.fr, .int .i64 VW0.nx, .slice ad2 VW0.vs.length cd2] 24) := ⟨_, rfl⟩
  have bW2 : Below d2.heap.size d2 W2 := by rw [hW2]; exact below1 _ _
  have hV2 : VwB W2 X2 VW0 (.slice ad2 VW0.vs.length cd2) := by rw [hW2, hX2]; exact heap_new _ _
  have hbk2 : Below y1.heap.size y1 W2 := hb2.trans (bW2.mono hb2.size)
  have hbw2 : Below W0.heap.size W0 W2 := HY1.out.trans (hbk2.mono HY1.out.size)
  have hq2 := (hr2.below bW2).mono bW2.size
  have HQX2 : Hid (RdV X2 W2 ad2 (VW0 : VW).vs) := hid (by rw [hX2]; exact hr2.below bW2)
  have hX2g : y1.heap.size ≤ X2 := by rw [hX2]; exact hb2.size
  have HBK2 := hid hbk2
  have HX2 := hid hX2.symm
  have HW2 := hid hW2
  have HV2 := hid hV2
  have HBW2 := hid hbw2
  have HQ2 := hid hq2
  have HXG2 := hid hX2g
  clear HC2 hX2 hW2 hbk2 bW2 hV2 hbw2 hq2 hX2g hr2 hb2
  clear p0 p1 p2 p3
  have HT3 := hid (HT3.out W2 HBW2.out)
  obtain ⟨⟨p0, p1, p2, p3⟩, _⟩ := (HV.out.keep (HBW2.out.block R HV.out.lt)).cs
  rw [HW2.out] at p0 p1 p2 p3
  go_wp2_with fail
  rw [← HW2.out, HX2.out]
  clear HW2 HX2
  refine HT3.out.mono ?_
  rintro e c3 ⟨ac3, cc3, rfl, hC3⟩
  have HC3 := hid hC3
  clear hC3 HT3
  go_wp2_with fail
  refine HC3.out.mono ?_
  rintro e d3 ⟨ad3, cd3, rfl, hr3, _, hb3⟩
  obtain ⟨X3, hX3⟩ : ∃ X, X = d3.heap.size := ⟨_, rfl⟩
  obtain ⟨W3, hW3⟩ : ∃ W, W = d3.alloc (.cells #[.int .i64 VW0.cp, .int .i64 VW0.fr, .int .i64 VW0.nx, .slice ad3 VW0.vs.length cd3] 24) := ⟨_, rfl⟩
  have bW3 : Below d3.heap.size d3 W3 := by rw [hW3]; exact below1 _ _
  have hV3 : VwB W3 X3 VW0 (.slice ad3 VW0.vs.length cd3) := by rw [hW3, hX3]; exact heap_new _ _
  have hbk3 : Below W2.heap.size W2 W3 := hb3.trans (bW3.mono hb3.size)
  have hbw3 : Below W0.heap.size W0 W3 := HBW2.out.trans (hbk3.mono HBW2.out.size)
  have hq3 := (hr3.below bW3).mono bW3.size
  have HQX3 : Hid (RdV X3 W3 ad3 (VW0 : VW).vs) := hid (by rw [hX3]; exact hr3.below bW3)
  have hX3g : W2.heap.size ≤ X3 := by rw [hX3]; exact hb3.size
  have HBK3 := hid hbk3
  have HX3 := hid hX3.symm
  have HW3 := hid hW3
  have HV3 := hid hV3
  have HBW3 := hid hbw3
  have HQ3 := hid hq3
  have HXG3 := hid hX3g
  clear HC3 hX3 hW3 hbk3 bW3 hV3 hbw3 hq3 hX3g hr3 hb3
  clear p0 p1 p2 p3
  go_wp2_with fail
  rw [← HW3.out, HX3.out]
  clear HW3 HX3
  refine (Num_any _ _).mono ?_
  rintro e wn ⟨rfl, hwn⟩
  have hwn := hwn.symm
  subst hwn
  go_wp2_with fail
  refine (Num_any _ _).mono ?_
  rintro e wn ⟨rfl, hwn⟩
  have hwn := hwn.symm
  subst hwn
  go_wp2_with fail
  refine (Num_any _ _).mono ?_
  rintro e wn ⟨rfl, hwn⟩
  have hwn := hwn.symm
  subst hwn
  go_wp2_with fail
  go_ret
  exact ⟨rfl, HB0.out.trans (HBW3.out.mono HB0.out.size)⟩

set_option maxRecDepth 100000 in
set_option maxHeartbeats 8000000 in
theorem turns_F (x : VW) (a : Option Addr) (c0 j : Nat) (w : World) (hM : MayP x) (hj : j < x.vs.length) (hR : RdV w.heap.size w a x.vs) (hG : GT w) (hp : x.vs[j].pt = false) (hq : x.vs.length = 64) :
    Calls Tryz.prog 14 #[viewA x a c0, .string x.vs[j].nm] w fun e w' => BoQ w true e w' := by
  obtain ⟨R, hRe⟩ : ∃ R, R = w.heap.size := ⟨_, rfl⟩
  obtain ⟨W0, hW0⟩ : ∃ W0, W0 = w.alloc (.cells #[.int .i64 x.cp, .int .i64 x.fr, .int .i64 x.nx, .slice a x.vs.length c0] 24) := ⟨_, rfl⟩
  have b0 : Below w.heap.size w W0 := by rw [hW0]; exact below1 _ _
  have hV : VwB W0 R x (.slice a x.vs.length c0) := by rw [hW0, hRe]; exact heap_new _ _
  have hR0 := (hR.below b0).mono b0.size
  have HF := hid (free_any x a c0 W0 hR0 hM.len)
  have hzn := hM.nmz _ (List.getElem_mem hj)
  have HT : Hid (∀ s, nmB s = true → s.size ≤ 16777216 → (∀ u ∈ x.vs, u.nm ≠ s) → TsQ x a c0 W0 x.vs[j].nm s (x, 0, 0) (VW0, 0, 83) (x, 0, 0)) := hid (fun s hs hz hf => by
    have T : TrP x j s := ⟨hM, hj, hs, hf⟩
    exact TsQ.of hM hR0 (hG.next b0) hzn hz (ren_back T hp) ((snap_full T hp (.inl hq) _).trans (by rw [if_pos hq])) (res_back T hp))
  have HV := hid hV
  have HB0 := hid b0
  have HR0 := hid hR0
  have HL := hid (hM.szV.shV (by omega) (by omega))
  have HRe := hid hRe.symm
  have HW0 := hid hW0
  have HLN := hid hq
  clear hRe hW0 b0 hV hR0 hR hG hM hzn hp hq
  generalize x.vs[j].nm = nm at *
  dsimp only [viewA] at HF ⊢
  go_enter Tryz.func14, Tryz.ntmps14
  go_wp2_with fail
  rw [← HW0.out, HRe.out]
  refine HF.out.mono ?_
  rintro e w1 ⟨⟨s, rfl, hs, hz, hf⟩, hb1⟩
  obtain ⟨hT1, hT2, hT3⟩ := HT.out s hs hz hf
  have HT1 := hid (hT1 w1 hb1)
  have HT2 := hid hT2
  have HT3 := hid hT3
  have hV1 := HV.out.keep (hb1.block R HV.out.lt)
  obtain ⟨⟨p0, p1, p2, p3⟩, _⟩ := hV1.cs
  have HB1 := hid hb1
  clear hT1 hT2 hT3 hb1 hV1 hs hz hf HT HF HW0
  clear p0 p1 p2 p3
  obtain ⟨⟨p0, p1, p2, p3⟩, _⟩ := (HV.out.keep (HB1.out.block R HV.out.lt)).cs
  go_wp2_with fail
  refine HT1.out.mono ?_
  rintro e c1 ⟨ac1, cc1, rfl, hC1⟩
  have HC1 := hid hC1
  clear hC1 HT1
  go_wp2_with fail
  refine HC1.out.mono ?_
  rintro e d1 ⟨ad1, cd1, rfl, hr1, _, hb1⟩
  obtain ⟨X1, hX1⟩ : ∃ X, X = d1.heap.size := ⟨_, rfl⟩
  obtain ⟨W1, hW1⟩ : ∃ W, W = d1.alloc (.cells #[.int .i64 x.cp, .int .i64 x.fr, .int .i64 x.nx, .slice ad1 x.vs.length cd1] 24) := ⟨_, rfl⟩
  have bW1 : Below d1.heap.size d1 W1 := by rw [hW1]; exact below1 _ _
  have hV1 : VwB W1 X1 x (.slice ad1 x.vs.length cd1) := by rw [hW1, hX1]; exact heap_new _ _
  have hbk1 : Below w1.heap.size w1 W1 := hb1.trans (bW1.mono hb1.size)
  have hbw1 : Below W0.heap.size W0 W1 := HB1.out.trans (hbk1.mono HB1.out.size)
  have hq1 := (hr1.below bW1).mono bW1.size
  have HQX1 : Hid (RdV X1 W1 ad1 (x : VW).vs) := hid (by rw [hX1]; exact hr1.below bW1)
  have hX1g : w1.heap.size ≤ X1 := by rw [hX1]; exact hb1.size
  have HBK1 := hid hbk1
  have HX1 := hid hX1.symm
  have HW1 := hid hW1
  have HV1 := hid hV1
  have HBW1 := hid hbw1
  have HQ1 := hid hq1
  have HXG1 := hid hX1g
  clear HC1 hX1 hW1 hbk1 bW1 hV1 hbw1 hq1 hX1g hr1 hb1
  clear p0 p1 p2 p3
  go_wp2_with fail
  rw [← HW1.out, HX1.out]
  refine (Num_any _ _).mono ?_
  rintro e wn ⟨rfl, hwn⟩
  have hwn := hwn.symm
  subst hwn
  obtain ⟨⟨p0, p1, p2, p3⟩, _⟩ := (HV.out.keep (HBW1.out.block R HV.out.lt)).cs
  obtain ⟨⟨q0, q1, q2, q3⟩, _⟩ := HV1.out.cs
  have HS := hid (SameView_yes x ad1 a cd1 c0 W1 HL.out HQ1.out ((HR0.out.below HBW1.out).mono HBW1.out.size))
  clear HW1 HX1
  go_wp2_with fail
  refine HS.out.mono ?_
  rintro e y1 ⟨rfl, hy1⟩
  have HY1 := hid (HBW1.out.trans (hy1.mono HBW1.out.size))
  clear hy1 HS p0 p1 p2 p3 q0 q1 q2 q3
  have HT2 := hid (HT2.out y1 HY1.out)
  obtain ⟨⟨p0, p1, p2, p3⟩, _⟩ := (HV.out.keep (HY1.out.block R HV.out.lt)).cs
  go_wp2_with fail
  refine HT2.out.mono ?_
  rintro e c2 ⟨ac2, cc2, rfl, hC2⟩
  have HC2 := hid hC2
  clear hC2 HT2
  go_wp2_with fail
  refine HC2.out.mono ?_
  rintro e d2 ⟨ad2, cd2, rfl, hr2, _, hb2⟩
  obtain ⟨X2, hX2⟩ : ∃ X, X = d2.heap.size := ⟨_, rfl⟩
  obtain ⟨W2, hW2⟩ : ∃ W, W = d2.alloc (.cells #[.int .i64 VW0.cp, .int .i64 VW0.fr, .int .i64 VW0.nx, .slice ad2 VW0.vs.length cd2] 24) := ⟨_, rfl⟩
  have bW2 : Below d2.heap.size d2 W2 := by rw [hW2]; exact below1 _ _
  have hV2 : VwB W2 X2 VW0 (.slice ad2 VW0.vs.length cd2) := by rw [hW2, hX2]; exact heap_new _ _
  have hbk2 : Below y1.heap.size y1 W2 := hb2.trans (bW2.mono hb2.size)
  have hbw2 : Below W0.heap.size W0 W2 := HY1.out.trans (hbk2.mono HY1.out.size)
  have hq2 := (hr2.below bW2).mono bW2.size
  have HQX2 : Hid (RdV X2 W2 ad2 (VW0 : VW).vs) := hid (by rw [hX2]; exact hr2.below bW2)
  have hX2g : y1.heap.size ≤ X2 := by rw [hX2]; exact hb2.size
  have HBK2 := hid hbk2
  have HX2 := hid hX2.symm
  have HW2 := hid hW2
  have HV2 := hid hV2
  have HBW2 := hid hbw2
  have HQ2 := hid hq2
  have HXG2 := hid hX2g
  clear HC2 hX2 hW2 hbk2 bW2 hV2 hbw2 hq2 hX2g hr2 hb2
  clear p0 p1 p2 p3
  have HT3 := hid (HT3.out W2 HBW2.out)
  obtain ⟨⟨p0, p1, p2, p3⟩, _⟩ := (HV.out.keep (HBW2.out.block R HV.out.lt)).cs
  rw [HW2.out] at p0 p1 p2 p3
  go_wp2_with fail
  rw [← HW2.out, HX2.out]
  clear HW2 HX2
  refine HT3.out.mono ?_
  rintro e c3 ⟨ac3, cc3, rfl, hC3⟩
  have HC3 := hid hC3
  clear hC3 HT3
  go_wp2_with fail
  refine HC3.out.mono ?_
  rintro e d3 ⟨ad3, cd3, rfl, hr3, _, hb3⟩
  obtain ⟨X3, hX3⟩ : ∃ X, X = d3.heap.size := ⟨_, rfl⟩
  obtain ⟨W3, hW3⟩ : ∃ W, W = d3.alloc (.cells #[.int .i64 x.cp, .int .i64 x.fr, .int .i64 x.nx, .slice ad3 x.vs.length cd3] 24) := ⟨_, rfl⟩
  have bW3 : Below d3.heap.size d3 W3 := by rw [hW3]; exact below1 _ _
  have hV3 : VwB W3 X3 x (.slice ad3 x.vs.length cd3) := by rw [hW3, hX3]; exact heap_new _ _
  have hbk3 : Below W2.heap.size W2 W3 := hb3.trans (bW3.mono hb3.size)
  have hbw3 : Below W0.heap.size W0 W3 := HBW2.out.trans (hbk3.mono HBW2.out.size)
  have hq3 := (hr3.below bW3).mono bW3.size
  have HQX3 : Hid (RdV X3 W3 ad3 (x : VW).vs) := hid (by rw [hX3]; exact hr3.below bW3)
  have hX3g : W2.heap.size ≤ X3 := by rw [hX3]; exact hb3.size
  have HBK3 := hid hbk3
  have HX3 := hid hX3.symm
  have HW3 := hid hW3
  have HV3 := hid hV3
  have HBW3 := hid hbw3
  have HQ3 := hid hq3
  have HXG3 := hid hX3g
  clear HC3 hX3 hW3 hbk3 bW3 hV3 hbw3 hq3 hX3g hr3 hb3
  clear p0 p1 p2 p3
  go_wp2_with fail
  rw [← HW3.out, HX3.out]
  clear HW3 HX3
  refine (Num_any _ _).mono ?_
  rintro e wn ⟨rfl, hwn⟩
  have hwn := hwn.symm
  subst hwn
  obtain ⟨⟨p0, p1, p2, p3⟩, _⟩ := (HV.out.keep (HBW3.out.block R HV.out.lt)).cs
  obtain ⟨⟨q0, q1, q2, q3⟩, _⟩ := HV3.out.cs
  have HS := hid (SameView_yes x ad3 a cd3 c0 W3 HL.out HQ3.out ((HR0.out.below HBW3.out).mono HBW3.out.size))
  go_wp2_with fail
  refine (Num_any _ _).mono ?_
  rintro e wn ⟨rfl, hwn⟩
  have hwn := hwn.symm
  subst hwn
  go_wp2_with fail
  refine HS.out.mono ?_
  rintro e y3 ⟨rfl, hy3⟩
  have HY3 := hid (HBW3.out.trans (hy3.mono HBW3.out.size))
  have HYB := hid hy3
  clear hy3 HS p0 p1 p2 p3 q0 q1 q2 q3
  obtain ⟨⟨p0, p1, p2, p3⟩, _⟩ := (HV.out.keep (HY3.out.block R HV.out.lt)).cs
  go_wp2_with fail
  refine (Num_any _ _).mono ?_
  rintro e wn ⟨rfl, hwn⟩
  have hwn := hwn.symm
  subst hwn
  have hln : x.vs.length = 64 := HLN.out
  rw [hln] at p3
  clear hln
  go_wp2_with fail
  go_ret
  exact ⟨rfl, HB0.out.trans (HY3.out.mono HB0.out.size)⟩

set_option maxRecDepth 100000 in
set_option maxHeartbeats 8000000 in
theorem turns_I (x : VW) (a : Option Addr) (c0 j : Nat) (w : World) (hM : MayP x) (hj : j < x.vs.length) (hR : RdV w.heap.size w a x.vs) (hG : GT w) (hp : x.vs[j].pt = false) (hq : ¬ x.vs.length = 64) (hi : 1073741824 < x.nx) :
    Calls Tryz.prog 14 #[viewA x a c0, .string x.vs[j].nm] w fun e w' => BoQ w true e w' := by
  obtain ⟨R, hRe⟩ : ∃ R, R = w.heap.size := ⟨_, rfl⟩
  obtain ⟨W0, hW0⟩ : ∃ W0, W0 = w.alloc (.cells #[.int .i64 x.cp, .int .i64 x.fr, .int .i64 x.nx, .slice a x.vs.length c0] 24) := ⟨_, rfl⟩
  have b0 : Below w.heap.size w W0 := by rw [hW0]; exact below1 _ _
  have hV : VwB W0 R x (.slice a x.vs.length c0) := by rw [hW0, hRe]; exact heap_new _ _
  have hR0 := (hR.below b0).mono b0.size
  have HF := hid (free_any x a c0 W0 hR0 hM.len)
  have hzn := hM.nmz _ (List.getElem_mem hj)
  have HT : Hid (∀ s, nmB s = true → s.size ≤ 16777216 → (∀ u ∈ x.vs, u.nm ≠ s) → TsQ x a c0 W0 x.vs[j].nm s (x, 0, 0) (VW0, 0, 85) (x, 0, 0)) := hid (fun s hs hz hf => by
    have T : TrP x j s := ⟨hM, hj, hs, hf⟩
    exact TsQ.of hM hR0 (hG.next b0) hzn hz (ren_back T hp) ((snap_full T hp (.inr hi) _).trans (by rw [if_neg hq])) (res_back T hp))
  have HV := hid hV
  have HB0 := hid b0
  have HR0 := hid hR0
  have HL := hid (hM.szV.shV (by omega) (by omega))
  have HRe := hid hRe.symm
  have HW0 := hid hW0
  have HLN := hid hq
  have HNX := hid hi
  clear hRe hW0 b0 hV hR0 hR hG hM hzn hp hq hi
  generalize x.vs[j].nm = nm at *
  dsimp only [viewA] at HF ⊢
  go_enter Tryz.func14, Tryz.ntmps14
  go_wp2_with fail
  rw [← HW0.out, HRe.out]
  refine HF.out.mono ?_
  rintro e w1 ⟨⟨s, rfl, hs, hz, hf⟩, hb1⟩
  obtain ⟨hT1, hT2, hT3⟩ := HT.out s hs hz hf
  have HT1 := hid (hT1 w1 hb1)
  have HT2 := hid hT2
  have HT3 := hid hT3
  have hV1 := HV.out.keep (hb1.block R HV.out.lt)
  obtain ⟨⟨p0, p1, p2, p3⟩, _⟩ := hV1.cs
  have HB1 := hid hb1
  clear hT1 hT2 hT3 hb1 hV1 hs hz hf HT HF HW0
  clear p0 p1 p2 p3
  obtain ⟨⟨p0, p1, p2, p3⟩, _⟩ := (HV.out.keep (HB1.out.block R HV.out.lt)).cs
  go_wp2_with fail
  refine HT1.out.mono ?_
  rintro e c1 ⟨ac1, cc1, rfl, hC1⟩
  have HC1 := hid hC1
  clear hC1 HT1
  go_wp2_with fail
  refine HC1.out.mono ?_
  rintro e d1 ⟨ad1, cd1, rfl, hr1, _, hb1⟩
  obtain ⟨X1, hX1⟩ : ∃ X, X = d1.heap.size := ⟨_, rfl⟩
  obtain ⟨W1, hW1⟩ : ∃ W, W = d1.alloc (.cells #[.int .i64 x.cp, .int .i64 x.fr, .int .i64 x.nx, .slice ad1 x.vs.length cd1] 24) := ⟨_, rfl⟩
  have bW1 : Below d1.heap.size d1 W1 := by rw [hW1]; exact below1 _ _
  have hV1 : VwB W1 X1 x (.slice ad1 x.vs.length cd1) := by rw [hW1, hX1]; exact heap_new _ _
  have hbk1 : Below w1.heap.size w1 W1 := hb1.trans (bW1.mono hb1.size)
  have hbw1 : Below W0.heap.size W0 W1 := HB1.out.trans (hbk1.mono HB1.out.size)
  have hq1 := (hr1.below bW1).mono bW1.size
  have HQX1 : Hid (RdV X1 W1 ad1 (x : VW).vs) := hid (by rw [hX1]; exact hr1.below bW1)
  have hX1g : w1.heap.size ≤ X1 := by rw [hX1]; exact hb1.size
  have HBK1 := hid hbk1
  have HX1 := hid hX1.symm
  have HW1 := hid hW1
  have HV1 := hid hV1
  have HBW1 := hid hbw1
  have HQ1 := hid hq1
  have HXG1 := hid hX1g
  clear HC1 hX1 hW1 hbk1 bW1 hV1 hbw1 hq1 hX1g hr1 hb1
  clear p0 p1 p2 p3
  go_wp2_with fail
  rw [← HW1.out, HX1.out]
  refine (Num_any _ _).mono ?_
  rintro e wn ⟨rfl, hwn⟩
  have hwn := hwn.symm
  subst hwn
  obtain ⟨⟨p0, p1, p2, p3⟩, _⟩ := (HV.out.keep (HBW1.out.block R HV.out.lt)).cs
  obtain ⟨⟨q0, q1, q2, q3⟩, _⟩ := HV1.out.cs
  have HS := hid (SameView_yes x ad1 a cd1 c0 W1 HL.out HQ1.out ((HR0.out.below HBW1.out).mono HBW1.out.size))
  clear HW1 HX1
  go_wp2_with fail
  refine HS.out.mono ?_
  rintro e y1 ⟨rfl, hy1⟩
  have HY1 := hid (HBW1.out.trans (hy1.mono HBW1.out.size))
  clear hy1 HS p0 p1 p2 p3 q0 q1 q2 q3
  have HT2 := hid (HT2.out y1 HY1.out)
  obtain ⟨⟨p0, p1, p2, p3⟩, _⟩ := (HV.out.keep (HY1.out.block R HV.out.lt)).cs
  go_wp2_with fail
  refine HT2.out.mono ?_
  rintro e c2 ⟨ac2, cc2, rfl, hC2⟩
  have HC2 := hid hC2
  clear hC2 HT2
  go_wp2_with fail
  refine HC2.out.mono ?_
  rintro e d2 ⟨ad2, cd2, rfl, hr2, _, hb2⟩
  obtain ⟨X2, hX2⟩ : ∃ X, X = d2.heap.size := ⟨_, rfl⟩
  obtain ⟨W2, hW2⟩ : ∃ W, W = d2.alloc (.cells #[.int .i64 VW0.cp, .int .i64 VW0.fr, .int .i64 VW0.nx, .slice ad2 VW0.vs.length cd2] 24) := ⟨_, rfl⟩
  have bW2 : Below d2.heap.size d2 W2 := by rw [hW2]; exact below1 _ _
  have hV2 : VwB W2 X2 VW0 (.slice ad2 VW0.vs.length cd2) := by rw [hW2, hX2]; exact heap_new _ _
  have hbk2 : Below y1.heap.size y1 W2 := hb2.trans (bW2.mono hb2.size)
  have hbw2 : Below W0.heap.size W0 W2 := HY1.out.trans (hbk2.mono HY1.out.size)
  have hq2 := (hr2.below bW2).mono bW2.size
  have HQX2 : Hid (RdV X2 W2 ad2 (VW0 : VW).vs) := hid (by rw [hX2]; exact hr2.below bW2)
  have hX2g : y1.heap.size ≤ X2 := by rw [hX2]; exact hb2.size
  have HBK2 := hid hbk2
  have HX2 := hid hX2.symm
  have HW2 := hid hW2
  have HV2 := hid hV2
  have HBW2 := hid hbw2
  have HQ2 := hid hq2
  have HXG2 := hid hX2g
  clear HC2 hX2 hW2 hbk2 bW2 hV2 hbw2 hq2 hX2g hr2 hb2
  clear p0 p1 p2 p3
  have HT3 := hid (HT3.out W2 HBW2.out)
  obtain ⟨⟨p0, p1, p2, p3⟩, _⟩ := (HV.out.keep (HBW2.out.block R HV.out.lt)).cs
  rw [HW2.out] at p0 p1 p2 p3
  go_wp2_with fail
  rw [← HW2.out, HX2.out]
  clear HW2 HX2
  refine HT3.out.mono ?_
  rintro e c3 ⟨ac3, cc3, rfl, hC3⟩
  have HC3 := hid hC3
  clear hC3 HT3
  go_wp2_with fail
  refine HC3.out.mono ?_
  rintro e d3 ⟨ad3, cd3, rfl, hr3, _, hb3⟩
  obtain ⟨X3, hX3⟩ : ∃ X, X = d3.heap.size := ⟨_, rfl⟩
  obtain ⟨W3, hW3⟩ : ∃ W, W = d3.alloc (.cells #[.int .i64 x.cp, .int .i64 x.fr, .int .i64 x.nx, .slice ad3 x.vs.length cd3] 24) := ⟨_, rfl⟩
  have bW3 : Below d3.heap.size d3 W3 := by rw [hW3]; exact below1 _ _
  have hV3 : VwB W3 X3 x (.slice ad3 x.vs.length cd3) := by rw [hW3, hX3]; exact heap_new _ _
  have hbk3 : Below W2.heap.size W2 W3 := hb3.trans (bW3.mono hb3.size)
  have hbw3 : Below W0.heap.size W0 W3 := HBW2.out.trans (hbk3.mono HBW2.out.size)
  have hq3 := (hr3.below bW3).mono bW3.size
  have HQX3 : Hid (RdV X3 W3 ad3 (x : VW).vs) := hid (by rw [hX3]; exact hr3.below bW3)
  have hX3g : W2.heap.size ≤ X3 := by rw [hX3]; exact hb3.size
  have HBK3 := hid hbk3
  have HX3 := hid hX3.symm
  have HW3 := hid hW3
  have HV3 := hid hV3
  have HBW3 := hid hbw3
  have HQ3 := hid hq3
  have HXG3 := hid hX3g
  clear HC3 hX3 hW3 hbk3 bW3 hV3 hbw3 hq3 hX3g hr3 hb3
  clear p0 p1 p2 p3
  go_wp2_with fail
  rw [← HW3.out, HX3.out]
  clear HW3 HX3
  refine (Num_any _ _).mono ?_
  rintro e wn ⟨rfl, hwn⟩
  have hwn := hwn.symm
  subst hwn
  obtain ⟨⟨p0, p1, p2, p3⟩, _⟩ := (HV.out.keep (HBW3.out.block R HV.out.lt)).cs
  obtain ⟨⟨q0, q1, q2, q3⟩, _⟩ := HV3.out.cs
  have HS := hid (SameView_yes x ad3 a cd3 c0 W3 HL.out HQ3.out ((HR0.out.below HBW3.out).mono HBW3.out.size))
  go_wp2_with fail
  refine (Num_any _ _).mono ?_
  rintro e wn ⟨rfl, hwn⟩
  have hwn := hwn.symm
  subst hwn
  go_wp2_with fail
  refine HS.out.mono ?_
  rintro e y3 ⟨rfl, hy3⟩
  have HY3 := hid (HBW3.out.trans (hy3.mono HBW3.out.size))
  have HYB := hid hy3
  clear hy3 HS p0 p1 p2 p3 q0 q1 q2 q3
  obtain ⟨⟨p0, p1, p2, p3⟩, _⟩ := (HV.out.keep (HY3.out.block R HV.out.lt)).cs
  go_wp2_with fail
  refine (Num_any _ _).mono ?_
  rintro e wn ⟨rfl, hwn⟩
  have hwn := hwn.symm
  subst hwn
  go_wp2_with fail
  refine (Num_any _ _).mono ?_
  rintro e wn ⟨rfl, hwn⟩
  have hwn := hwn.symm
  subst hwn
  obtain ⟨n, hn⟩ : ∃ n, n = x.vs.length := ⟨_, rfl⟩
  have hn64 : (n == 64) = false := by have := HLN.out; simp; omega
  have hn65 : ((n : Int) == 64) = false := by have := HLN.out; simp; omega
  rw [← hn] at p3
  have hnx : 1073741824 < x.nx := HNX.out
  clear hn
  go_wp2_with fail
  go_ret
  exact ⟨rfl, HB0.out.trans (HY3.out.mono HB0.out.size)⟩

set_option maxRecDepth 100000 in
set_option maxHeartbeats 8000000 in
theorem turns_C (x : VW) (a : Option Addr) (c0 j : Nat) (w : World) (hM : MayP x) (hj : j < x.vs.length) (hR : RdV w.heap.size w a x.vs) (hG : GT w) (hp : x.vs[j].pt = false) (hq : ¬ x.vs.length = 64) (hi : x.nx ≤ 1073741824) :
    Calls Tryz.prog 14 #[viewA x a c0, .string x.vs[j].nm] w fun e w' => BoQ w true e w' := by
  obtain ⟨R, hRe⟩ : ∃ R, R = w.heap.size := ⟨_, rfl⟩
  obtain ⟨W0, hW0⟩ : ∃ W0, W0 = w.alloc (.cells #[.int .i64 x.cp, .int .i64 x.fr, .int .i64 x.nx, .slice a x.vs.length c0] 24) := ⟨_, rfl⟩
  have b0 : Below w.heap.size w W0 := by rw [hW0]; exact below1 _ _
  have hV : VwB W0 R x (.slice a x.vs.length c0) := by rw [hW0, hRe]; exact heap_new _ _
  have hR0 := (hR.below b0).mono b0.size
  have HF := hid (free_any x a c0 W0 hR0 hM.len)
  have hzn := hM.nmz _ (List.getElem_mem hj)
  have HT : Hid (∀ s, nmB s = true → s.size ≤ 16777216 → (∀ u ∈ x.vs, u.nm ≠ s) → TsQ x a c0 W0 x.vs[j].nm s (x, 0, 0) (⟨x.cp, x.fr, x.nx + 1, x.vs⟩, 0, 0) (x, 0, 0)) := hid (fun s hs hz hf => by
    have T : TrP x j s := ⟨hM, hj, hs, hf⟩
    exact TsQ.of hM hR0 (hG.next b0) hzn hz (ren_back T hp) (snap_back T hp hq hi) (res_back T hp))
  have HV := hid hV
  have HB0 := hid b0
  have HR0 := hid hR0
  have HL := hid (hM.szV.shV (by omega) (by omega))
  have HRe := hid hRe.symm
  have HW0 := hid hW0
  have hwr : wrap64 (x.nx + 1 - 1) = x.nx := by have := hM.n1; have := hM.n2; rw [pw64 (by omega)]; omega
  have hw0 : wrap64 x.nx = x.nx := by have := hM.n1; have := hM.n2; rw [pw64 (by omega)]
  have hwi : IntKind.i64.wrap (x.nx + 1 - 1) = x.nx := by rw [IntKind.wrap_i64]; have := hM.n1; have := hM.n2; omega
  clear hRe hW0 b0 hV hR0 hR hG hM hzn hp hq hi
  generalize x.vs[j].nm = nm at *
  dsimp only [viewA] at HF ⊢
  go_enter Tryz.func14, Tryz.ntmps14
  go_wp2_with fail
  rw [← HW0.out, HRe.out]
  refine HF.out.mono ?_
  rintro e w1 ⟨⟨s, rfl, hs, hz, hf⟩, hb1⟩
  obtain ⟨hT1, hT2, hT3⟩ := HT.out s hs hz hf
  have HT1 := hid (hT1 w1 hb1)
  have HT2 := hid hT2
  have HT3 := hid hT3
  have hV1 := HV.out.keep (hb1.block R HV.out.lt)
  obtain ⟨⟨p0, p1, p2, p3⟩, _⟩ := hV1.cs
  have HB1 := hid hb1
  clear hT1 hT2 hT3 hb1 hV1 hs hz hf HT HF HW0
  clear p0 p1 p2 p3
  obtain ⟨⟨p0, p1, p2, p3⟩, _⟩ := (HV.out.keep (HB1.out.block R HV.out.lt)).cs
  go_wp2_with fail
  refine HT1.out.mono ?_
  rintro e c1 ⟨ac1, cc1, rfl, hC1⟩
  have HC1 := hid hC1
  clear hC1 HT1
  go_wp2_with fail
  refine HC1.out.mono ?_
  rintro e d1 ⟨ad1, cd1, rfl, hr1, _, hb1⟩
  obtain ⟨X1, hX1⟩ : ∃ X, X = d1.heap.size := ⟨_, rfl⟩
  obtain ⟨W1, hW1⟩ : ∃ W, W = d1.alloc (.cells #[.int .i64 x.cp, .int .i64 x.fr, .int .i64 x.nx, .slice ad1 x.vs.length cd1] 24) := ⟨_, rfl⟩
  have bW1 : Below d1.heap.size d1 W1 := by rw [hW1]; exact below1 _ _
  have hV1 : VwB W1 X1 x (.slice ad1 x.vs.length cd1) := by rw [hW1, hX1]; exact heap_new _ _
  have hbk1 : Below w1.heap.size w1 W1 := hb1.trans (bW1.mono hb1.size)
  have hbw1 : Below W0.heap.size W0 W1 := HB1.out.trans (hbk1.mono HB1.out.size)
  have hq1 := (hr1.below bW1).mono bW1.size
  have HQX1 : Hid (RdV X1 W1 ad1 (x : VW).vs) := hid (by rw [hX1]; exact hr1.below bW1)
  have hX1g : w1.heap.size ≤ X1 := by rw [hX1]; exact hb1.size
  have HBK1 := hid hbk1
  have HX1 := hid hX1.symm
  have HW1 := hid hW1
  have HV1 := hid hV1
  have HBW1 := hid hbw1
  have HQ1 := hid hq1
  have HXG1 := hid hX1g
  clear HC1 hX1 hW1 hbk1 bW1 hV1 hbw1 hq1 hX1g hr1 hb1
  clear p0 p1 p2 p3
  go_wp2_with fail
  rw [← HW1.out, HX1.out]
  refine (Num_any _ _).mono ?_
  rintro e wn ⟨rfl, hwn⟩
  have hwn := hwn.symm
  subst hwn
  obtain ⟨⟨p0, p1, p2, p3⟩, _⟩ := (HV.out.keep (HBW1.out.block R HV.out.lt)).cs
  obtain ⟨⟨q0, q1, q2, q3⟩, _⟩ := HV1.out.cs
  have HS := hid (SameView_yes x ad1 a cd1 c0 W1 HL.out HQ1.out ((HR0.out.below HBW1.out).mono HBW1.out.size))
  clear HW1 HX1
  go_wp2_with fail
  refine HS.out.mono ?_
  rintro e y1 ⟨rfl, hy1⟩
  have HY1 := hid (HBW1.out.trans (hy1.mono HBW1.out.size))
  clear hy1 HS p0 p1 p2 p3 q0 q1 q2 q3
  have HT2 := hid (HT2.out y1 HY1.out)
  obtain ⟨⟨p0, p1, p2, p3⟩, _⟩ := (HV.out.keep (HY1.out.block R HV.out.lt)).cs
  go_wp2_with fail
  refine HT2.out.mono ?_
  rintro e c2 ⟨ac2, cc2, rfl, hC2⟩
  have HC2 := hid hC2
  clear hC2 HT2
  go_wp2_with fail
  refine HC2.out.mono ?_
  rintro e d2 ⟨ad2, cd2, rfl, hr2, _, hb2⟩
  obtain ⟨X2, hX2⟩ : ∃ X, X = d2.heap.size := ⟨_, rfl⟩
  obtain ⟨W2, hW2⟩ : ∃ W, W = d2.alloc (.cells #[.int .i64 x.cp, .int .i64 x.fr, .int .i64 (x.nx + 1), .slice ad2 x.vs.length cd2] 24) := ⟨_, rfl⟩
  have bW2 : Below d2.heap.size d2 W2 := by rw [hW2]; exact below1 _ _
  have hV2 : VwB W2 X2 ⟨x.cp, x.fr, x.nx + 1, x.vs⟩ (.slice ad2 x.vs.length cd2) := by rw [hW2, hX2]; exact heap_new _ _
  have hbk2 : Below y1.heap.size y1 W2 := hb2.trans (bW2.mono hb2.size)
  have hbw2 : Below W0.heap.size W0 W2 := HY1.out.trans (hbk2.mono HY1.out.size)
  have hq2 := (hr2.below bW2).mono bW2.size
  have HQX2 : Hid (RdV X2 W2 ad2 (⟨x.cp, x.fr, x.nx + 1, x.vs⟩ : VW).vs) := hid (by rw [hX2]; exact hr2.below bW2)
  have hX2g : y1.heap.size ≤ X2 := by rw [hX2]; exact hb2.size
  have HBK2 := hid hbk2
  have HX2 := hid hX2.symm
  have HW2 := hid hW2
  have HV2 := hid hV2
  have HBW2 := hid hbw2
  have HQ2 := hid hq2
  have HXG2 := hid hX2g
  clear HC2 hX2 hW2 hbk2 bW2 hV2 hbw2 hq2 hX2g hr2 hb2
  clear p0 p1 p2 p3
  have HT3 := hid (HT3.out W2 HBW2.out)
  obtain ⟨⟨p0, p1, p2, p3⟩, _⟩ := (HV.out.keep (HBW2.out.block R HV.out.lt)).cs
  rw [HW2.out] at p0 p1 p2 p3
  go_wp2_with fail
  rw [← HW2.out, HX2.out]
  clear HW2 HX2
  refine HT3.out.mono ?_
  rintro e c3 ⟨ac3, cc3, rfl, hC3⟩
  have HC3 := hid hC3
  clear hC3 HT3
  go_wp2_with fail
  refine HC3.out.mono ?_
  rintro e d3 ⟨ad3, cd3, rfl, hr3, _, hb3⟩
  obtain ⟨X3, hX3⟩ : ∃ X, X = d3.heap.size := ⟨_, rfl⟩
  obtain ⟨W3, hW3⟩ : ∃ W, W = d3.alloc (.cells #[.int .i64 x.cp, .int .i64 x.fr, .int .i64 x.nx, .slice ad3 x.vs.length cd3] 24) := ⟨_, rfl⟩
  have bW3 : Below d3.heap.size d3 W3 := by rw [hW3]; exact below1 _ _
  have hV3 : VwB W3 X3 x (.slice ad3 x.vs.length cd3) := by rw [hW3, hX3]; exact heap_new _ _
  have hbk3 : Below W2.heap.size W2 W3 := hb3.trans (bW3.mono hb3.size)
  have hbw3 : Below W0.heap.size W0 W3 := HBW2.out.trans (hbk3.mono HBW2.out.size)
  have hq3 := (hr3.below bW3).mono bW3.size
  have HQX3 : Hid (RdV X3 W3 ad3 (x : VW).vs) := hid (by rw [hX3]; exact hr3.below bW3)
  have hX3g : W2.heap.size ≤ X3 := by rw [hX3]; exact hb3.size
  have HBK3 := hid hbk3
  have HX3 := hid hX3.symm
  have HW3 := hid hW3
  have HV3 := hid hV3
  have HBW3 := hid hbw3
  have HQ3 := hid hq3
  have HXG3 := hid hX3g
  clear HC3 hX3 hW3 hbk3 bW3 hV3 hbw3 hq3 hX3g hr3 hb3
  clear p0 p1 p2 p3
  go_wp2_with fail
  rw [← HW3.out, HX3.out]
  clear HW3 HX3
  refine (Num_any _ _).mono ?_
  rintro e wn ⟨rfl, hwn⟩
  have hwn := hwn.symm
  subst hwn
  obtain ⟨⟨p0, p1, p2, p3⟩, _⟩ := (HV.out.keep (HBW3.out.block R HV.out.lt)).cs
  obtain ⟨⟨q0, q1, q2, q3⟩, _⟩ := HV3.out.cs
  have HS := hid (SameView_yes x ad3 a cd3 c0 W3 HL.out HQ3.out ((HR0.out.below HBW3.out).mono HBW3.out.size))
  go_wp2_with fail
  refine (Num_any _ _).mono ?_
  rintro e wn ⟨rfl, hwn⟩
  have hwn := hwn.symm
  subst hwn
  go_wp2_with fail
  refine HS.out.mono ?_
  rintro e y3 ⟨rfl, hy3⟩
  have HY3 := hid (HBW3.out.trans (hy3.mono HBW3.out.size))
  have HYB := hid hy3
  clear hy3 HS p0 p1 p2 p3 q0 q1 q2 q3
  obtain ⟨⟨p0, p1, p2, p3⟩, _⟩ := (HV.out.keep (HY3.out.block R HV.out.lt)).cs
  go_wp2_with fail
  refine (Num_any _ _).mono ?_
  rintro e wn ⟨rfl, hwn⟩
  have hwn := hwn.symm
  subst hwn
  go_wp2_with fail
  refine (Num_any _ _).mono ?_
  rintro e wn ⟨rfl, hwn⟩
  have hwn := hwn.symm
  subst hwn
  have hk3 := HBK3.out.trans (HYB.out.mono HBK3.out.size)
  have hV2y := HV2.out.keep (hk3.block X2 HV2.out.lt)
  obtain ⟨⟨q0, q1, q2, q3⟩, qf⟩ := hV2y.cs
  have qf2 := qf 2
  dsimp only at q2
  obtain ⟨y4, hy4⟩ : ∃ y, y = y3.setCell ⟨X2, 2, none⟩ (.int .i64 x.nx) := ⟨_, rfl⟩
  have hX2R : X2 ≠ R := by have := HXG2.out; have := HV.out.lt; have := HY1.out.size; omega
  have bt4 : But (fun k => k = X2) y3 y4 := by rw [hy4]; exact (But.refl (fun k => k = X2) y3).setCell (p := ⟨X2, 2, none⟩) rfl _
  have hV4 : VwB y4 X2 x (.slice ad2 x.vs.length cd2) := by
    rw [hy4]
    have := hV2y.setN x.nx
    exact this
  have hR4 : VwB y4 R x (.slice a x.vs.length c0) := (HV.out.keep (HY3.out.block R HV.out.lt)).keep (bt4.block R (Nat.lt_of_lt_of_le HV.out.lt HY3.out.size) (fun e => hX2R e.symm))
  have hlow4 : Below W0.heap.size W0 y4 := HY3.out.trans (bt4.below (B := W0.heap.size) HY3.out.size (fun k hk e => by have := HXG2.out; have := HY1.out.size; omega))
  have hr4 : RdV y4.heap.size y4 a x.vs := (HR0.out.below hlow4).mono hlow4.size
  have hXW := HV2.out.lt
  have hbx : Below X2 y3 y4 := bt4.below (by have := hk3.size; omega) (fun k hk e => by omega)
  have hq4 : RdV y4.heap.size y4 ad2 x.vs := ((HQX2.out.below (hk3.mono (by omega))).below hbx).mono (by have := bt4.size; have := hk3.size; omega)
  have HS := hid (SameView_yes x ad2 a cd2 c0 y4 HL.out hq4 hr4)
  have HY4 := hid hy4
  have HV4 := hid hV4
  have HR4 := hid hR4
  have HL4 := hid hlow4
  clear hXW hbx hk3 hV2y qf hX2R bt4 hV4 hR4 hlow4 hr4 hq4 hy4 p0 p1 p2 p3
  go_wp2_with fail
  rw [← HY4.out]
  refine (Num_any _ _).mono ?_
  rintro e wn ⟨rfl, hwn⟩
  have hwn := hwn.symm
  subst hwn
  obtain ⟨⟨p0, p1, p2, p3⟩, _⟩ := HR4.out.cs
  clear q0 q1 q2 q3
  obtain ⟨⟨q0, q1, q2, q3⟩, _⟩ := HV4.out.cs
  clear HY4
  go_wp2_with fail
  refine HS.out.mono ?_
  rintro e y5 ⟨rfl, hy5⟩
  have HY5 := hid (HL4.out.trans (hy5.mono HL4.out.size))
  clear hy5 HS p0 p1 p2 p3 q0 q1 q2 q3
  go_wp2_with fail
  go_ret
  exact ⟨rfl, HB0.out.trans (HY5.out.mono HB0.out.size)⟩

theorem turns_any (x : VW) (a : Option Addr) (c0 j : Nat) (w : World) (hM : MayP x) (hj : j < x.vs.length) (hR : RdV w.heap.size w a x.vs) (hG : GT w) :
    Calls Tryz.prog 14 #[viewA x a c0, .string x.vs[j].nm] w fun e w' => BoQ w true e w' := by
  cases hp : x.vs[j].pt
  · by_cases hq : x.vs.length = 64
    · exact turns_F x a c0 j w hM hj hR hG hp hq
    · by_cases hi : 1073741824 < x.nx
      · exact turns_I x a c0 j w hM hj hR hG hp hq hi
      · exact turns_C x a c0 j w hM hj hR hG hp hq (by omega)
  · exact turns_A x a c0 j w hM hj hR hG hp
end Go.Proofs.YtddddfankeepkaaGreatDoor
/-
  DryThrough: the chains of its calls.
-/
namespace Go.Proofs.YtddddfankeepkaaGreatDoor
open Go.RowKit

theorem tow_len (os : List PO) : (os.map tow).length = os.length := List.length_map _
theorem tow_ok {os : List PO} (h : ∀ o ∈ os, okO o) : ∀ o ∈ os.map tow, okW o.1 := fun o ho => by
  obtain ⟨p, hp, rfl⟩ := List.mem_map.1 ho
  exact (h p hp).w
/-- All over a copy of a view -/
abbrev CpC (x : VW) (a : Option Addr) (c0 : Nat) (n : Nat) (z : Option Addr) (zc : Nat) (W : World) (r : VW × Int × Int) : Prop :=
  Calls Tryz.prog 10 #[viewA x a c0] W fun e u1 => ∃ a' c', e = .returned (viewA x a' c') ∧ Calls Tryz.prog 9 #[viewA x a' c', .slice z n zc] u1 fun e u2 => AnV W r e u2
theorem cpC_any (x : VW) (a : Option Addr) (c0 : Nat) (os : List (OW × Nat)) (n : Nat) (z : Option Addr) (zc : Nat) (W : World) (hx : szV 64 262145 x.vs) (hR : RdV W.heap.size W a x.vs) (hG : GT W) (hO : RdA W.heap.size W z os) (hok : ∀ o ∈ os, okW o.1) (hn : os.length = n) (hl : n ≤ 4194304) : CpC x a c0 n z zc W (allP x os 0) := by
  subst hn
  refine (CopyView_any x a c0 W (hx.shV (by omega) (by omega)) hR).mono ?_
  rintro e u1 ⟨a', c', rfl, hR1, hn, hb1⟩
  refine ⟨a', c', rfl, ?_⟩
  have hA : RdA u1.heap.size u1 z os := by
    rcases hO.below hb1 with e | ⟨b, off, e, hlt, hc⟩
    · exact .inl e
    · exact .inr ⟨b, off, e, Nat.lt_of_lt_of_le hlt hb1.size, hc⟩
  exact (All_any x a' c' os z zc u1 (hx.mono (by omega) (by omega)) hR1 hn hl (hG.next hb1) hok hA).mono (fun e u2 h => AnV.of h hb1)
/-- the same over a copy of the operations -/
abbrev CpA (x : VW) (a : Option Addr) (c0 : Nat) (n : Nat) (z : Option Addr) (zc : Nat) (W : World) (r : VW × Int × Int) : Prop :=
  Calls Tryz.prog 10 #[viewA x a c0] W fun e u1 => ∃ a' c', e = .returned (viewA x a' c') ∧ Calls Tryz.prog 11 #[.slice z n zc] u1 fun e u2 => ∃ z1 c1, e = .returned (.slice z1 n c1) ∧ Calls Tryz.prog 9 #[viewA x a' c', .slice z1 n c1] u2 fun e u3 => AnV W r e u3
theorem cpA_any (x : VW) (a : Option Addr) (c0 : Nat) (os : List PO) (n : Nat) (z : Option Addr) (zc : Nat) (W : World) (hx : szV 64 262145 x.vs) (hR : RdV W.heap.size W a x.vs) (hG : GT W) (hO : RdO W.heap.size W z os) (hn : os.length = n) (hl : n ≤ 2097152) : CpA x a c0 n z zc W (allP x (os.map tow) 0) := by
  subst hn
  refine (CopyView_any x a c0 W (hx.shV (by omega) (by omega)) hR).mono ?_
  rintro e u1 ⟨a', c', rfl, hR1, hn, hb1⟩
  refine ⟨a', c', rfl, (CopyOps_any z zc os u1 (by omega) ((hO.below hb1).mono hb1.size)).mono ?_⟩
  rintro e u2 ⟨v, vs, rfl, hL, hb2⟩
  obtain ⟨z1, c1, rfl, hA⟩ := hL.rdA
  refine ⟨z1, c1, rfl, ?_⟩
  have hb : Below W.heap.size W u2 := hb1.trans (hb2.mono hb1.size)
  have := (All_any x a' c' (os.map tow) z1 c1 u2 (hx.mono (by omega) (by omega)) ((hR1.below hb2).mono hb2.size) hn (by rw [tow_len]; omega) (hG.next hb) (tow_ok hO.1) hA).mono (fun e u3 h => AnV.of h hb)
  rw [tow_len] at this
  exact this
/-- both lists copied and joined -/
abbrev CpB (n m : Nat) (la bs : List PO) (z : Option Addr) (zc : Nat) (y : Option Addr) (yc : Nat) (W : World) : Prop :=
  Calls Tryz.prog 11 #[.slice z n zc] W fun e u1 => ∃ v1, e = .returned v1 ∧ Calls Tryz.prog 11 #[.slice y m yc] u1 fun e u2 => ∃ v2, e = .returned v2 ∧ ∃ z2 c2 u3, (Builtin.append_ #[25, 25] 25 #[v1, v2]).run Tryz.prog u2 = .ok (.slice z2 (n + m) c2) u3 ∧ RdA u3.heap.size u3 z2 ((la ++ bs).map tow) ∧ Below W.heap.size W u3
theorem cpB_any (n m : Nat) (la bs : List PO) (z : Option Addr) (zc : Nat) (y : Option Addr) (yc : Nat) (W : World) (hA : RdO W.heap.size W z la) (hB : RdO W.heap.size W y bs) (hn : la.length = n) (hm : bs.length = m) (hl : n ≤ 2097152) (hl2 : m ≤ 2097152) : CpB n m la bs z zc y yc W := by
  subst hn
  subst hm
  refine (CopyOps_any z zc la W (by omega) hA).mono ?_
  rintro e u1 ⟨v1, vs1, rfl, hL1, hb1⟩
  refine ⟨v1, rfl, (CopyOps_any y yc bs u1 (by omega) ((hB.below hb1).mono hb1.size)).mono ?_⟩
  rintro e u2 ⟨v2, vs2, rfl, hL2, hb2⟩
  have hb : Below W.heap.size W u2 := hb1.trans (hb2.mono hb1.size)
  obtain ⟨z2, c2, u3, hr, hR, hb3⟩ := app_ops 25 (hL1.next hb2) (hL2.mono hb1.size) (by omega) (by omega) hb.size
  rw [List.length_append] at hr
  exact ⟨v2, rfl, z2, c2, u3, hr, hR, hb.trans hb3⟩
end Go.Proofs.YtddddfankeepkaaGreatDoor
