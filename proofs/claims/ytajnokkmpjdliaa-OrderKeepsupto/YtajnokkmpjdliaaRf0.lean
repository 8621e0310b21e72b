/-
  PLAIN: the document's heap.
-/
import Derived.Test.YtajnokkmpjdliaaOr0
namespace Go.Proofs.Ytajnokkmpjdliaa
open Go.RowKit

theorem countP_change (p q : Nat → Bool) (y : Nat) (h : ∀ x, x ≠ y → p x = q x) : ∀ n, (List.range n).countP q + (if y < n ∧ p y = true then 1 else 0) = (List.range n).countP p + (if y < n ∧ q y = true then 1 else 0)
  | 0 => by simp
  | n + 1 => by
    have ih := countP_change p q y h n
    rw [List.range_succ, List.countP_append, List.countP_append]
    by_cases e : n = y
    · subst e
      have h1 : ¬ n < n := by omega
      have h2 : n < n + 1 := by omega
      simp only [h1, h2, false_and, true_and, if_false, Nat.add_zero] at ih ⊢
      rw [ih]
      simp only [List.countP_cons, List.countP_nil, Nat.zero_add]
      omega
    · have h1 := h n e
      have h2 : (y < n + 1) ↔ (y < n) := by omega
      simp only [h2, List.countP_cons, List.countP_nil, Nat.zero_add, h1]
      omega
/-- how many are ready in a stretch -/
def rc (ls : List Int) (n d b : Nat) : Nat := (List.range n).countP (fun x => decide (gt ls x = 0) && decide (x / d = b))
theorem rc_set (ls : List Int) (n d b y : Nat) (v : Int) (hy : y < n) (hl : ls.length = n) :
    rc (ls.set y v) n d b + (if gt ls y = 0 ∧ y / d = b then 1 else 0) = rc ls n d b + (if v = 0 ∧ y / d = b then 1 else 0) := by
  have := countP_change (fun x => decide (gt ls x = 0) && decide (x / d = b)) (fun x => decide (gt (ls.set y v) x = 0) && decide (x / d = b)) y (fun x hx => by
    rw [gt_set _ _ _ _ (by omega), if_neg hx]) n
  simp only [hy, true_and, Bool.and_eq_true, decide_eq_true_eq] at this
  rw [gt_set _ _ _ _ (by omega), if_pos rfl] at this
  exact this
theorem rc_ne {ls : List Int} {n d b : Nat} : rc ls n d b ≠ 0 ↔ ∃ x, x < n ∧ gt ls x = 0 ∧ x / d = b := by
  unfold rc
  rw [Nat.ne_zero_iff_zero_lt, List.countP_pos_iff]
  simp [List.mem_range]
theorem rc_le (ls : List Int) (n d b : Nat) : rc ls n d b ≤ n := by
  unfold rc
  exact Nat.le_trans List.countP_le_length (by simp)
structure RS (n : Nat) (ls fw lt : List Int) : Prop where
  l : ls.length = n
  fl : fw.length = n / 64 + 1
  tl : lt.length = n / 4096 + 1
  f : ∀ b, b < n / 64 + 1 → gt fw b = (rc ls n 64 b : Int)
  t : ∀ b, b < n / 4096 + 1 → gt lt b = (rc ls n 4096 b : Int)
theorem RS.put {n : Nat} {ls fw lt : List Int} (h : RS n ls fw lt) {y : Nat} (hy : y < n) (v k : Int) (hk : k = (if v = 0 then 1 else 0) - (if gt ls y = 0 then 1 else 0)) :
    RS n (ls.set y v) (fw.set (y / 64) (gt fw (y / 64) + k)) (lt.set (y / 4096) (gt lt (y / 4096) + k)) := by
  have key : ∀ d b, (rc (ls.set y v) n d b : Int) = rc ls n d b + if b = y / d then k else 0 := fun d b => by
    have := rc_set ls n d b y v hy h.l
    by_cases e : y / d = b
    · rw [if_pos e.symm, hk]
      simp only [e, and_true] at this
      split at this <;> split at this <;> simp_all <;> omega
    · rw [if_neg (fun q => e q.symm)]
      simp [e] at this
      omega
  refine ⟨by rw [List.length_set]; exact h.l, by rw [List.length_set]; exact h.fl, by rw [List.length_set]; exact h.tl, fun b hb => ?_, fun b hb => ?_⟩
  · rw [gt_set _ _ _ _ (by rw [h.fl]; omega), key]
    by_cases e : b = y / 64
    · rw [if_pos e, if_pos e, h.f _ (by omega), e]
    · rw [if_neg e, if_neg e, h.f _ hb]; omega
  · rw [gt_set _ _ _ _ (by rw [h.tl]; omega), key]
    by_cases e : b = y / 4096
    · rw [if_pos e, if_pos e, h.t _ (by omega), e]
    · rw [if_neg e, if_neg e, h.t _ hb]; omega
theorem RS.same {n : Nat} {ls fw lt : List Int} (h : RS n ls fw lt) {y : Nat} (hy : y < n) (v : Int) (h0 : gt ls y ≠ 0) (h1 : v ≠ 0) : RS n (ls.set y v) fw lt := by
  have key : ∀ d b, rc (ls.set y v) n d b = rc ls n d b := fun d b => by
    have := rc_set ls n d b y v hy h.l
    simpa [h0, h1] using this
  exact ⟨by rw [List.length_set]; exact h.l, h.fl, h.tl, fun b hb => by rw [key]; exact h.f b hb, fun b hb => by rw [key]; exact h.t b hb⟩
/-- nothing is ready yet: none is counted -/
structure RP (n : Nat) (j : Nat) (ls fw lt : List Int) : Prop where
  l : ls.length = n
  fl : fw.length = n / 64 + 1
  tl : lt.length = n / 4096 + 1
  f : ∀ b, b < n / 64 + 1 → gt fw b = (rc ls j 64 b : Int)
  t : ∀ b, b < n / 4096 + 1 → gt lt b = (rc ls j 4096 b : Int)
theorem RP.start {n : Nat} {ls : List Int} (h : ls.length = n) : RP n 0 ls (zeros (n / 64 + 1)) (zeros (n / 4096 + 1)) :=
  ⟨h, by simp [zeros], by simp [zeros], fun b hb => by simp [gt, zeros, rc, List.getD_eq_getElem?_getD, hb], fun b hb => by simp [gt, zeros, rc, List.getD_eq_getElem?_getD, hb]⟩
theorem rc_succ (ls : List Int) (j d b : Nat) : rc ls (j + 1) d b = rc ls j d b + if gt ls j = 0 ∧ j / d = b then 1 else 0 := by
  unfold rc
  rw [List.range_succ, List.countP_append]
  simp only [List.countP_cons, List.countP_nil, Nat.zero_add, Bool.and_eq_true, decide_eq_true_eq]
theorem RP.no {n j : Nat} {ls fw lt : List Int} (h : RP n j ls fw lt) (h0 : gt ls j ≠ 0) : RP n (j + 1) ls fw lt :=
  ⟨h.l, h.fl, h.tl, fun b hb => by rw [rc_succ, h.f b hb]; simp [h0], fun b hb => by rw [rc_succ, h.t b hb]; simp [h0]⟩
theorem RP.yes {n j : Nat} {ls fw lt : List Int} (h : RP n j ls fw lt) (hj : j < n) (h0 : gt ls j = 0) : RP n (j + 1) ls (fw.set (j / 64) (gt fw (j / 64) + 1)) (lt.set (j / 4096) (gt lt (j / 4096) + 1)) := by
  refine ⟨h.l, by rw [List.length_set]; exact h.fl, by rw [List.length_set]; exact h.tl, fun b hb => ?_, fun b hb => ?_⟩
  · rw [gt_set _ _ _ _ (by rw [h.fl]; omega), rc_succ]
    by_cases e : b = j / 64
    · rw [if_pos e, h.f _ (by omega), if_pos ⟨h0, e.symm⟩, e]; rfl
    · rw [if_neg e, h.f _ hb, if_neg (fun q => e q.2.symm)]; rfl
  · rw [gt_set _ _ _ _ (by rw [h.tl]; omega), rc_succ]
    by_cases e : b = j / 4096
    · rw [if_pos e, h.t _ (by omega), if_pos ⟨h0, e.symm⟩, e]; rfl
    · rw [if_neg e, h.t _ hb, if_neg (fun q => e q.2.symm)]; rfl
theorem RP.done {n : Nat} {ls fw lt : List Int} (h : RP n n ls fw lt) : RS n ls fw lt := ⟨h.l, h.fl, h.tl, h.f, h.t⟩
theorem RS.bounds {n : Nat} {ls fw lt : List Int} (h : RS n ls fw lt) : (∀ b, b < n / 64 + 1 → 0 ≤ gt fw b ∧ gt fw b ≤ n) ∧ ∀ b, b < n / 4096 + 1 → 0 ≤ gt lt b ∧ gt lt b ≤ n :=
  ⟨fun b hb => by have := rc_le ls n 64 b; rw [h.f b hb]; omega, fun b hb => by have := rc_le ls n 4096 b; rw [h.t b hb]; omega⟩
theorem RP.bounds {n j : Nat} {ls fw lt : List Int} (h : RP n j ls fw lt) : (∀ b, b < n / 64 + 1 → 0 ≤ gt fw b ∧ gt fw b ≤ j) ∧ ∀ b, b < n / 4096 + 1 → 0 ≤ gt lt b ∧ gt lt b ≤ j :=
  ⟨fun b hb => by have := rc_le ls j 64 b; rw [h.f b hb]; omega, fun b hb => by have := rc_le ls j 4096 b; rw [h.t b hb]; omega⟩

/-- the state of the document's order -/
structure DS (n : Nat) (E : List (Nat × Nat)) (out : List Nat) (rest : List Nat) (ls : List Int) : Prop where
  kn : Kn n E out
  o : ∀ y, y < n → y ∈ out → gt ls y = -1
  v : ∀ y, y < n → y ∉ out → gt ls y = cnt E out y + (rest.countP (fun i => decide ((eg E i).2 = y)) : Nat)
  rs : ∀ i ∈ rest, (eg E i).2 < n ∧ (eg E i).2 ∉ out
theorem DS.start {n : Nat} {E : List (Nat × Nat)} {ls : List Int} (h : WS n E E.length ls) : DS n E [] [] ls :=
  ⟨Kn.start n E, fun y _ hy => by simp at hy, fun y hy _ => by rw [h.v y hy, wv_all]; simp, fun i hi => by cases hi⟩
theorem DS.ready {n : Nat} {E : List (Nat × Nat)} {out : List Nat} {ls : List Int} (h : DS n E out [] ls) {y : Nat} (hy : y < n) : gt ls y = 0 ↔ (y ∉ out ∧ cnt E out y = 0) := by
  by_cases e : y ∈ out
  · rw [h.o y hy e]; simp [e]
  · rw [h.v y hy e]; simp [e]
/-- the least that is ready -/
theorem DS.nx {n : Nat} {E : List (Nat × Nat)} {out : List Nat} {ls : List Int} (h : DS n E out [] ls) {x : Nat} (hx : x < n) (h0 : gt ls x = 0) (hl : ∀ y, y < x → gt ls y ≠ 0) : nxt n E out = some x :=
  nxt_some.2 ⟨⟨hx, ((h.ready hx).1 h0).1, ((h.ready hx).1 h0).2⟩, fun y hy q => hl y hy ((h.ready (by omega)).2 q)⟩
theorem DS.no {n : Nat} {E : List (Nat × Nat)} {out : List Nat} {ls : List Int} (h : DS n E out [] ls) (hl : ∀ y, y < n → gt ls y ≠ 0) : ordP n E = out :=
  h.kn.done (nxt_none.2 fun y hy q => hl y hy ((h.ready hy).2 q))
theorem DS.take {n : Nat} {E : List (Nat × Nat)} (hE : EdOk n E) {out : List Nat} {ls : List Int} (h : DS n E out [] ls) (hl : ls.length = n) {x : Nat} (hx : nxt n E out = some x) : DS n E (out ++ [x]) (chn E x E.length) (ls.set x (-1)) := by
  obtain ⟨⟨hxn, hxo, hx0⟩, _⟩ := nxt_some.1 hx
  have hkn := h.kn.next hx
  refine ⟨hkn, fun y hy hyo => ?_, fun y hy hyo => ?_, fun i hi => ?_⟩
  · rw [gt_set _ _ _ _ (by omega)]
    by_cases e : y = x
    · rw [if_pos e]
    · rw [if_neg e]
      refine h.o y hy ?_
      rcases List.mem_append.1 hyo with q | q
      · exact q
      · simp at q; exact absurd q e
  · simp at hyo
    rw [gt_set _ _ _ _ (by omega), if_neg hyo.2, h.v y hy hyo.1, cnt_start E out x y hxo]
    simp
  · obtain ⟨h1, h2⟩ := chn_mem hi
    have hmem := eg_mem E h1
    refine ⟨(hE _ hmem).2, fun hq => ?_⟩
    have hz : cnt E out (eg E i).2 = 0 := by
      rcases List.mem_append.1 hq with hq | hq
      · exact h.kn.no _ hq
      · simp at hq
        rw [hq]; exact hx0
    exact hxo (h2 ▸ cnt_zero.1 hz _ hmem rfl)
theorem DS.one {n : Nat} {E : List (Nat × Nat)} {out : List Nat} {i : Nat} {rest : List Nat} {ls : List Int} (h : DS n E out (i :: rest) ls) (hl : ls.length = n) :
    (eg E i).2 < n ∧ 1 ≤ gt ls (eg E i).2 ∧ DS n E out rest (ls.set (eg E i).2 (gt ls (eg E i).2 - 1)) := by
  obtain ⟨hy, hyo⟩ := h.rs i List.mem_cons_self
  have hw := h.v _ hy hyo
  rw [List.countP_cons] at hw
  simp only [decide_true, if_true] at hw
  refine ⟨hy, by omega, h.kn, fun z hz hzo => ?_, fun z hz hzo => ?_, fun j hj => h.rs j (List.mem_cons_of_mem _ hj)⟩
  · rw [gt_set _ _ _ _ (by omega), if_neg (fun e => hyo (by rw [← e]; exact hzo))]
    exact h.o z hz hzo
  · rw [gt_set _ _ _ _ (by omega)]
    by_cases e : z = (eg E i).2
    · rw [if_pos e, e]; omega
    · rw [if_neg e, h.v z hz hzo, List.countP_cons]
      have : ¬ (eg E i).2 = z := fun q => e q.symm
      simp [this]
end Go.Proofs.Ytajnokkmpjdliaa
