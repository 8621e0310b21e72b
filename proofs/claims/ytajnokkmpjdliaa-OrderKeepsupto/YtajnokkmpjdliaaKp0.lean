/-
  PLAIN: the order of things; what waits; the heap of what is ready.
-/
import Derived.Test.YtajnokkmpjdliaaHp0
namespace Go.Proofs.Ytajnokkmpjdliaa
open Go.RowKit

/-! ### the order, in plain words -/
def eg (E : List (Nat × Nat)) (i : Nat) : Nat × Nat := E.getD i (0, 0)
def cnt (E : List (Nat × Nat)) (out : List Nat) (y : Nat) : Nat := E.countP (fun e => decide (e.2 = y) && !out.contains e.1)
def rdy (E : List (Nat × Nat)) (out : List Nat) (x : Nat) : Bool := !out.contains x && decide (cnt E out x = 0)
def nxt (n : Nat) (E : List (Nat × Nat)) (out : List Nat) : Option Nat := (List.range n).find? (rdy E out)
def arr (n : Nat) (E : List (Nat × Nat)) : Nat → List Nat → List Nat
  | 0, out => out
  | f + 1, out => match nxt n E out with
    | none => out
    | some x => arr n E f (out ++ [x])
def ordP (n : Nat) (E : List (Nat × Nat)) : List Nat := arr n E n []
def EdOk (n : Nat) (E : List (Nat × Nat)) : Prop := ∀ e ∈ E, e.1 < n ∧ e.2 < n

theorem rdy_iff (E : List (Nat × Nat)) (out : List Nat) (x : Nat) : rdy E out x = true ↔ x ∉ out ∧ cnt E out x = 0 := by simp [rdy]
theorem nxt_none {n : Nat} {E : List (Nat × Nat)} {out : List Nat} : nxt n E out = none ↔ ∀ y, y < n → ¬ (y ∉ out ∧ cnt E out y = 0) := by
  unfold nxt
  rw [List.find?_eq_none]
  constructor
  · intro h y hy h2
    exact h y (List.mem_range.2 hy) ((rdy_iff _ _ _).2 h2)
  · intro h y hy h2
    exact h y (List.mem_range.1 hy) ((rdy_iff _ _ _).1 h2)
theorem nxt_some {n : Nat} {E : List (Nat × Nat)} {out : List Nat} {x : Nat} : nxt n E out = some x ↔ (x < n ∧ x ∉ out ∧ cnt E out x = 0) ∧ ∀ y, y < x → ¬ (y ∉ out ∧ cnt E out y = 0) := by
  unfold nxt
  rw [List.find?_range_eq_some]
  constructor
  · rintro ⟨h1, h2, h3⟩
    refine ⟨⟨List.mem_range.1 h2, (rdy_iff _ _ _).1 h1⟩, fun y hy h => ?_⟩
    have := h3 y hy
    rw [(rdy_iff _ _ _).2 h] at this
    simp at this
  · rintro ⟨⟨h1, h2⟩, h3⟩
    refine ⟨(rdy_iff _ _ _).2 h2, List.mem_range.2 h1, fun y hy => ?_⟩
    cases e : rdy E out y
    · rfl
    · exact absurd ((rdy_iff _ _ _).1 e) (h3 y hy)
theorem cnt_snoc_le (E : List (Nat × Nat)) (out : List Nat) (x y : Nat) : cnt E (out ++ [x]) y ≤ cnt E out y := by
  unfold cnt
  refine List.countP_mono_left fun e _ h => ?_
  simp at h ⊢
  exact ⟨h.1, h.2.1⟩
theorem cnt_zero {E : List (Nat × Nat)} {out : List Nat} {y : Nat} : cnt E out y = 0 ↔ ∀ e ∈ E, e.2 = y → e.1 ∈ out := by
  unfold cnt
  rw [List.countP_eq_zero]
  simp
/-- what stands so far -/
structure Kn (n : Nat) (E : List (Nat × Nat)) (out : List Nat) : Prop where
  nd : out.Nodup
  lt : ∀ x ∈ out, x < n
  no : ∀ y ∈ out, cnt E out y = 0
  is : arr n E (n - out.length) out = ordP n E
theorem nodup_len : ∀ {n : Nat} {out : List Nat}, out.Nodup → (∀ x ∈ out, x < n) → out.length ≤ n
  | 0, [], _, _ => Nat.le_refl _
  | 0, x :: _, _, h => absurd (h x List.mem_cons_self) (by omega)
  | n + 1, out, hd, h => by
    by_cases e : n ∈ out
    · have h2 := nodup_len (n := n) (hd.erase n) (fun x hx => by
        have := (hd.mem_erase_iff).1 hx
        have := h x this.2
        omega)
      rw [List.length_erase_of_mem e] at h2
      omega
    · have := nodup_len (n := n) hd (fun x hx => by
        have := h x hx
        have : x ≠ n := fun q => e (q ▸ hx)
        omega)
      omega
theorem Kn.len {n : Nat} {E : List (Nat × Nat)} {out : List Nat} (h : Kn n E out) : out.length ≤ n := nodup_len h.nd h.lt
theorem Kn.start (n : Nat) (E : List (Nat × Nat)) : Kn n E [] := ⟨List.nodup_nil, by simp, by simp, rfl⟩
theorem snoc_nd {out : List Nat} {x : Nat} (h : out.Nodup) (hx : x ∉ out) : (out ++ [x]).Nodup := by
  rw [List.nodup_append]
  exact ⟨h, by simp, fun a ha b hb e => by simp at hb; subst hb; subst e; exact hx ha⟩
theorem Kn.next {n : Nat} {E : List (Nat × Nat)} {out : List Nat} {x : Nat} (h : Kn n E out) (hx : nxt n E out = some x) : Kn n E (out ++ [x]) := by
  obtain ⟨⟨h1, h2, h3⟩, h4⟩ := nxt_some.1 hx
  have nd := snoc_nd h.nd h2
  have lt : ∀ y ∈ out ++ [x], y < n := fun y hy => by
    rcases List.mem_append.1 hy with hy | hy
    · exact h.lt y hy
    · simp at hy; omega
  have hl := nodup_len nd lt
  simp at hl
  refine ⟨nd, lt, fun y hy => ?_, ?_⟩
  · have := cnt_snoc_le E out x y
    rcases List.mem_append.1 hy with hy | hy
    · have := h.no y hy; omega
    · simp at hy; subst hy; omega
  · rw [← h.is]
    obtain ⟨f, hf⟩ : ∃ f, n - out.length = f + 1 := ⟨n - out.length - 1, by omega⟩
    rw [hf]
    simp only [arr, hx, List.length_append, List.length_cons, List.length_nil]
    congr 1
    omega
theorem Kn.done {n : Nat} {E : List (Nat × Nat)} {out : List Nat} (h : Kn n E out) (hx : nxt n E out = none) : ordP n E = out := by
  rw [← h.is]
  cases n - out.length with
  | zero => rfl
  | succ f => simp [arr, hx]
theorem Kn.full {n : Nat} {E : List (Nat × Nat)} {out : List Nat} (h : Kn n E out) (hx : out.length = n) : ordP n E = out := by
  rw [← h.is, hx, Nat.sub_self]
  rfl
/-- where all stand, nothing is ready -/
theorem Kn.all {n : Nat} {E : List (Nat × Nat)} {out : List Nat} (h : Kn n E out) (hx : out.length = n) : ∀ y, y < n → y ∈ out := by
  intro y hy
  by_cases e : y ∈ out
  · exact e
  · have := nodup_len (snoc_nd h.nd e) (n := n) (fun z hz => by
      rcases List.mem_append.1 hz with hz | hz
      · exact h.lt z hz
      · simp at hz; omega)
    simp at this
    omega

/-! ### the edges of one thing -/
def chn (E : List (Nat × Nat)) (x : Nat) : Nat → List Nat
  | 0 => []
  | m + 1 => if (eg E m).1 = x then m :: chn E x m else chn E x m
def hd (l : List Nat) : Int := match l with
  | [] => -1
  | i :: _ => i
theorem chn_cons {E : List (Nat × Nat)} {x : Nat} : ∀ {m i : Nat} {r : List Nat}, chn E x m = i :: r → i < m ∧ (eg E i).1 = x ∧ r = chn E x i
  | 0, _, _, h => by simp [chn] at h
  | m + 1, i, r, h => by
    simp only [chn] at h
    split at h
    · rename_i q
      simp at h
      obtain ⟨rfl, rfl⟩ := h
      exact ⟨by omega, q, rfl⟩
    · have := chn_cons h
      exact ⟨by omega, this.2⟩
theorem chn_mem {E : List (Nat × Nat)} {x i : Nat} : ∀ {m : Nat}, i ∈ chn E x m → i < m ∧ (eg E i).1 = x
  | 0, h => by simp [chn] at h
  | m + 1, h => by
    simp only [chn] at h
    split at h
    · rename_i q
      rcases List.mem_cons.1 h with rfl | h
      · exact ⟨by omega, q⟩
      · have := chn_mem h; exact ⟨by omega, this.2⟩
    · have := chn_mem h; exact ⟨by omega, this.2⟩
theorem cnt_chn (E : List (Nat × Nat)) (out : List Nat) (x y : Nat) (hx : x ∉ out) : ∀ m, m ≤ E.length → cnt (E.take m) out y = cnt (E.take m) (out ++ [x]) y + (chn E x m).countP (fun i => decide ((eg E i).2 = y))
  | 0, _ => by simp [cnt, chn]
  | m + 1, hm => by
    have ih := cnt_chn E out x y hx m (by omega)
    have hm' : m < E.length := by omega
    have he : E[m] = eg E m := by simp [eg, hm']
    rw [List.take_succ_eq_append_getElem hm']
    unfold cnt at ih ⊢
    rw [List.countP_append, List.countP_append, ih, he]
    simp only [chn, List.countP_cons, List.countP_nil]
    by_cases q : (eg E m).1 = x
    · rw [if_pos q, List.countP_cons]
      by_cases p : (eg E m).2 = y
      · simp [q, p, hx]; omega
      · simp [q, p]
    · rw [if_neg q]
      by_cases p : (eg E m).2 = y
      · simp [q, p]; omega
      · simp [q, p]
theorem cnt_start (E : List (Nat × Nat)) (out : List Nat) (x y : Nat) (hx : x ∉ out) : cnt E out y = cnt E (out ++ [x]) y + (chn E x E.length).countP (fun i => decide ((eg E i).2 = y)) := by
  have := cnt_chn E out x y hx E.length (Nat.le_refl _)
  rwa [List.take_length] at this

/-! ### what waits, and the heap -/
structure HI (n : Nat) (ws : List Int) (out : List Nat) (l : List Int) : Prop where
  h : IsH l.length l
  nd : l.Nodup
  mem : ∀ y : Int, y ∈ l ↔ ∃ k : Nat, y = k ∧ k < n ∧ k ∉ out ∧ gt ws k = 0
structure OS (n : Nat) (E : List (Nat × Nat)) (out : List Nat) (ws l : List Int) : Prop where
  kn : Kn n E out
  len : ws.length = n
  wv : ∀ y, y < n → gt ws y = cnt E out y
  hi : HI n ws out l
structure IS (n : Nat) (E : List (Nat × Nat)) (out : List Nat) (rest : List Nat) (ws l : List Int) : Prop where
  kn : Kn n E out
  len : ws.length = n
  wv : ∀ y, y < n → gt ws y = cnt E out y + (rest.countP (fun i => decide ((eg E i).2 = y)) : Nat)
  rs : ∀ i ∈ rest, (eg E i).2 < n ∧ (eg E i).2 ∉ out
  hi : HI n ws out l
theorem HI.len {n : Nat} {ws : List Int} {out : List Nat} {l : List Int} (h : HI n ws out l) : l.length ≤ n := by
  have h1 : (l.map Int.toNat).Nodup := by
    unfold List.Nodup
    rw [List.pairwise_map]
    refine h.nd.imp_of_mem fun {a b} ha hb hab e => ?_
    obtain ⟨k, rfl, _⟩ := (h.mem a).1 ha
    obtain ⟨k', rfl, _⟩ := (h.mem b).1 hb
    simp at e
    exact hab (by rw [e])
  have := nodup_len h1 (n := n) (fun x hx => by
    obtain ⟨a, ha, rfl⟩ := List.mem_map.1 hx
    obtain ⟨k, rfl, hk, _⟩ := (h.mem a).1 ha
    simpa using hk)
  simpa using this
theorem OS.none {n : Nat} {E : List (Nat × Nat)} {out : List Nat} {ws l : List Int} (h : OS n E out ws l) (hl : l = []) : ordP n E = out := by
  refine h.kn.done (nxt_none.2 fun y hy q => ?_)
  have := (h.hi.mem y).2 ⟨y, rfl, hy, q.1, by rw [h.wv y hy, q.2]; rfl⟩
  rw [hl] at this
  simp at this
theorem OS.pop {n : Nat} {E : List (Nat × Nat)} (hE : EdOk n E) {out : List Nat} {ws l m : List Int} {r : Int} (h : OS n E out ws l) (hl : 0 < l.length) (hr : r = gt l 0) (hp : l.Perm (r :: m)) (hm : IsH m.length m) :
    ∃ x : Nat, r = x ∧ x < n ∧ IS n E (out ++ [x]) (chn E x E.length) ws m := by
  have hmem : r ∈ l := by rw [hr, gt_of l hl]; exact List.getElem_mem hl
  obtain ⟨x, hx, hxn, hxo, hx0⟩ := (h.hi.mem r).1 hmem
  have hnx : nxt n E out = some x := nxt_some.2 ⟨⟨hxn, hxo, by have := h.wv x hxn; omega⟩, fun y hy q => by
    have hym := (h.hi.mem y).2 ⟨y, rfl, by omega, q.1, by rw [h.wv y (by omega), q.2]; rfl⟩
    obtain ⟨k, hk, e⟩ := List.getElem_of_mem hym
    have := h.hi.h.root k hk
    rw [gt_of l hk, e, ← hr, hx] at this
    omega⟩
  have hkn := h.kn.next hnx
  have nd := h.hi.nd
  rw [hp.nodup_iff, List.nodup_cons] at nd
  have hno : ∀ i ∈ chn E x E.length, (eg E i).2 < n ∧ (eg E i).2 ∉ out ++ [x] := fun i hi => by
    obtain ⟨h1, h2⟩ := chn_mem hi
    have hmem : eg E i ∈ E := by
      have : eg E i = E[i] := by simp [eg, h1]
      rw [this]; exact List.getElem_mem h1
    refine ⟨(hE _ hmem).2, fun hq => ?_⟩
    have hz : cnt E out (eg E i).2 = 0 := by
      rcases List.mem_append.1 hq with hq | hq
      · exact h.kn.no _ hq
      · simp at hq
        rw [hq]
        have := h.wv x hxn; omega
    exact hxo (h2 ▸ cnt_zero.1 hz _ hmem rfl)
  refine ⟨x, hx, hxn, hkn, h.len, fun y hy => ?_, hno, hm, nd.2, fun y => ?_⟩
  · rw [h.wv y hy, cnt_start E out x y hxo]
    omega
  · have hp' := hp.mem_iff (a := y)
    rw [h.hi.mem, List.mem_cons] at hp'
    constructor
    · intro hy
      obtain ⟨k, rfl, hk, hko, hk0⟩ := hp'.2 (.inr hy)
      refine ⟨k, rfl, hk, fun q => ?_, hk0⟩
      rcases List.mem_append.1 q with q | q
      · exact hko q
      · simp at q
        subst q
        rw [← hx] at hy
        exact nd.1 hy
    · rintro ⟨k, rfl, hk, hko, hk0⟩
      simp at hko
      rcases hp'.1 ⟨k, rfl, hk, hko.1, hk0⟩ with e | e
      · exact absurd (by omega) hko.2
      · exact e
theorem IS.one {n : Nat} {E : List (Nat × Nat)} {out : List Nat} {i : Nat} {rest : List Nat} {ws l : List Int} (h : IS n E out (i :: rest) ws l) :
    (eg E i).2 < n ∧ 1 ≤ gt ws (eg E i).2 ∧ (gt ws (eg E i).2 ≠ 1 → IS n E out rest (ws.set (eg E i).2 (gt ws (eg E i).2 - 1)) l) ∧
      (gt ws (eg E i).2 = 1 → ∀ m : List Int, m.Perm (((eg E i).2 : Int) :: l) → IsH m.length m → IS n E out rest (ws.set (eg E i).2 (gt ws (eg E i).2 - 1)) m) := by
  obtain ⟨hy, hyo⟩ := h.rs i List.mem_cons_self
  have hw := h.wv _ hy
  rw [List.countP_cons] at hw
  simp only [decide_true, if_true] at hw
  have hlen := h.len
  obtain ⟨y, hyy⟩ : ∃ y, y = (eg E i).2 := ⟨_, rfl⟩
  rw [← hyy] at hy hyo hw ⊢
  obtain ⟨u, hu⟩ : ∃ u, u = gt ws y := ⟨_, rfl⟩
  rw [← hu] at hw ⊢
  have hg : ∀ k, gt (ws.set y (u - 1)) k = if k = y then u - 1 else gt ws k := fun k => by
    unfold gt
    simp only [List.getD_eq_getElem?_getD, List.getElem?_set]
    by_cases e : k = y
    · subst e; simp [hlen, hy]
    · have e' : ¬ y = k := fun q => e q.symm
      simp [e, e']
  have hws : ∀ z, z < n → gt (ws.set y (u - 1)) z = cnt E out z + (rest.countP (fun i => decide ((eg E i).2 = z)) : Nat) := fun z hz => by
    rw [hg]
    by_cases e : z = y
    · subst e
      rw [if_pos rfl]
      omega
    · rw [if_neg e, h.wv z hz, List.countP_cons]
      rw [← hyy, decide_eq_false (fun q => e q.symm)]
      simp
  have hl2 : (ws.set y (u - 1)).length = n := by rw [List.length_set]; exact hlen
  have hrs : ∀ j ∈ rest, (eg E j).2 < n ∧ (eg E j).2 ∉ out := fun j hj => h.rs j (List.mem_cons_of_mem _ hj)
  refine ⟨hy, by omega, fun h1 => ⟨h.kn, hl2, hws, hrs, h.hi.h, h.hi.nd, fun z => ?_⟩, fun h1 m hm hh => ⟨h.kn, hl2, hws, hrs, hh, ?_, fun z => ?_⟩⟩
  · rw [h.hi.mem]
    constructor
    · rintro ⟨k, rfl, hk, hko, hk0⟩
      refine ⟨k, rfl, hk, hko, ?_⟩
      rw [hg, if_neg (fun e => by subst e; omega)]
      exact hk0
    · rintro ⟨k, rfl, hk, hko, hk0⟩
      refine ⟨k, rfl, hk, hko, ?_⟩
      rw [hg] at hk0
      split at hk0
      · omega
      · exact hk0
  · rw [hm.nodup_iff, List.nodup_cons]
    refine ⟨fun q => ?_, h.hi.nd⟩
    obtain ⟨k, e, hk, hko, hk0⟩ := (h.hi.mem _).1 q
    have : k = y := by omega
    subst this
    omega
  · rw [hm.mem_iff, List.mem_cons, h.hi.mem]
    constructor
    · rintro (rfl | ⟨k, rfl, hk, hko, hk0⟩)
      · exact ⟨y, rfl, hy, hyo, by rw [hg, if_pos rfl]; omega⟩
      · refine ⟨k, rfl, hk, hko, ?_⟩
        rw [hg, if_neg (fun e => by subst e; omega)]
        exact hk0
    · rintro ⟨k, rfl, hk, hko, hk0⟩
      rw [hg] at hk0
      split at hk0
      · rename_i e; exact .inl (by rw [e])
      · exact .inr ⟨k, rfl, hk, hko, hk0⟩
theorem IS.done {n : Nat} {E : List (Nat × Nat)} {out : List Nat} {ws l : List Int} (h : IS n E out [] ws l) : OS n E out ws l :=
  ⟨h.kn, h.len, fun y hy => by have := h.wv y hy; simpa using this, h.hi⟩
end Go.Proofs.Ytajnokkmpjdliaa
