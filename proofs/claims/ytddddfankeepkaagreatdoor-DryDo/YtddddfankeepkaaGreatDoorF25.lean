import Derived.Test.YtddddfankeepkaaGreatDoorF23
import Derived.Test.YtddddfankeepkaaGreatDoorF24
import Derived.Lib.ConvBytes
import Derived.Lib.SlBytesRow
import Derived.Deep.QuietTactic
import Derived.BigQuiet
namespace Go.Proofs.YtddddfankeepkaaGreatDoor
open Go.RowKit
/-! ### All of lists -/
/-! ### there and back -/
def o5 (a b : ByteArray) : OW := ⟨5, a, b, 0, 0⟩
def o2 (a b : ByteArray) : OW := ⟨2, a, b, 0, 0⟩
theorem erase_names {x : VW} (h : MayP x) {j : Nat} (hj : j < x.vs.length) : ∀ u ∈ x.vs.eraseIdx j, u.nm ≠ x.vs[j].nm := by
 intro u hu
 have hl := List.length_eraseIdx_of_lt hj
 obtain ⟨i, hi, rfl⟩ := List.getElem_of_mem hu
 rw [hl] at hi
 by_cases q : i < j
 ·rw [List.getElem_eraseIdx_of_lt (by omega) q]
  exact ltS_ne (pw_get h.byN (by omega) hj q)
 ·rw [List.getElem_eraseIdx_of_ge (by omega) (by omega)]
  exact (ltS_ne (pw_get h.byN hj (by omega) (by omega))).symm
end Go.Proofs.YtddddfankeepkaaGreatDoor
namespace Go.Proofs.YtddddfankeepkaaGreatDoor
open Go.RowKit
/-! ### which blocks are mapped -/
def inR (rs : List Rg) (k : Int) : Prop := ∃ i, ∃ h : i < rs.length, rs[i].f ≤ k ∧ k < rs[i].t
theorem in_spl {rs ys : List Rg} {i j : Nat} (hij : i ≤ j) (hj : j ≤ rs.length) (k : Int) : inR (spl rs i j ys) k ↔ (∃ q, ∃ h : q < rs.length, (q < i ∨ j ≤ q) ∧ rs[q].f ≤ k ∧ k < rs[q].t) ∨ inR ys k := by
 have hl := spl_len rs ys i j hij hj
 have g1 : ∀ q (h : q < i), (spl rs i j ys)[q]'(by omega) = rs[q]'(by omega) := fun q h => by
  unfold spl
  rw [List.getElem_append_left (by rw [List.length_append, List.length_take]; omega), List.getElem_append_left (by rw [List.length_take]; omega), List.getElem_take]
 have g2 : ∀ q (h : q < ys.length), (spl rs i j ys)[i + q]'(by omega) = ys[q] := fun q h => by
  unfold spl
  have e1 : (rs.take i).length = i := by rw [List.length_take]; omega
  rw [List.getElem_append_left (by rw [List.length_append, e1]; omega), List.getElem_append_right (by omega)]
  congr 1
  omega
 have g3 : ∀ q (h : j + q < rs.length), (spl rs i j ys)[i + ys.length + q]'(by omega) = rs[j + q] := fun q h => by
  unfold spl
  have e1 : (rs.take i ++ ys).length = i + ys.length := by rw [List.length_append, List.length_take]; omega
  rw [List.getElem_append_right (by omega), List.getElem_drop]
  congr 1
  omega
 constructor
 ·rintro ⟨q, hq, a⟩
  by_cases c1 : q < i
  ·rw [g1 q c1] at a
   exact .inl ⟨q, by omega, .inl c1, a⟩
  ·by_cases c2 : q < i + ys.length
   ·obtain ⟨p, rfl⟩ : ∃ p, q = i + p := ⟨q - i, by omega⟩
    rw [g2 p (by omega)] at a
    exact .inr ⟨p, by omega, a⟩
   ·obtain ⟨p, rfl⟩ : ∃ p, q = i + ys.length + p := ⟨q - (i + ys.length), by omega⟩
    rw [g3 p (by omega)] at a
    exact .inl ⟨j + p, by omega, .inr (by omega), a⟩
 ·rintro (⟨q, hq, c | c, a⟩ | ⟨q, hq, a⟩)
  ·exact ⟨q, by omega, by rw [g1 q c]; exact a⟩
  ·obtain ⟨p, rfl⟩ : ∃ p, q = j + p := ⟨q - j, by omega⟩
   exact ⟨i + ys.length + p, by omega, by rw [g3 p hq]; exact a⟩
  ·exact ⟨i + q, by omega, by rw [g2 q hq]; exact a⟩
theorem in_one (r : Rg) (k : Int) : inR [r] k ↔ r.f ≤ k ∧ k < r.t := by
 constructor
 ·rintro ⟨q, hq, a⟩
  have : q = 0 := by simpa using hq
  subst this
  exact a
 ·intro h
  exact ⟨0, by simp, h⟩
theorem NF.le {b sz : Int} {rs : List Rg} (h : NF b rs sz) {i j : Nat} (hi : i < rs.length) (hj : j < rs.length) (hij : i ≤ j) : rs[i].f ≤ rs[j].f ∧ rs[i].t ≤ rs[j].t := by
 rcases Nat.eq_or_lt_of_le hij with e | e
 ·subst e; omega
 ·have := h.get hi hj e
  have := h.at' hi
  have := h.at' hj
  omega
theorem NF.in_join {b sz : Int} {rs : List Rg} (h : NF b rs sz) (hb : -1 ≤ b) {r : Rg} (h1 : b < r.f) (h2 : r.t ≤ sz) (h3 : sz ≤ 262144) (k : Int) : inR (joinP rs r) k ↔ inR rs k ∨ (r.f ≤ k ∧ k < r.t) := by
 unfold joinP
 by_cases he : emp r = true
 ·rw [if_pos he]
  rw [emp_iff] at he
  exact ⟨.inl, fun q => q.resolve_right (by omega)⟩
 rw [if_neg he]
 rw [emp_iff] at he
 have w1 : (wid r).f = r.f - 1 := by show wrap64 _ = _; rw [pw64 (by omega)]
 have w2 : (wid r).t = r.t + 1 := by show wrap64 _ = _; rw [pw64 (by omega)]
 have sI := metI_spec h (wid r)
 have sJ := metJ_spec h (wid r)
 have lI := metI_le rs (wid r)
 have lJ := metJ_le rs (wid r)
 rw [w1] at sI
 rw [w2] at sJ
 generalize metI rs (wid r) = i at *
 generalize metJ rs (wid r) = j at *
 by_cases hj : j = 0
 ·rw [if_pos hj]
  subst hj
  rw [in_spl (Nat.le_refl _) lI, in_one]
  constructor
  ·rintro (⟨q, hq, _, a⟩ | a)
   ·exact .inl ⟨q, hq, a⟩
   ·exact .inr a
  ·rintro (⟨q, hq, a⟩ | a)
   ·exact .inl ⟨q, hq, by omega, a⟩
   ·exact .inr a
 ·rw [if_neg hj]
  have hi : i < rs.length := by omega
  have hl : i + j - 1 < rs.length := by omega
  rw [getD_lt hi, getD_lt hl, in_spl (by omega) lJ, in_one]
  have a3 := sI.2 i hi (Nat.le_refl _)
  have a4 := sJ.1 _ hl (by omega) (by omega)
  constructor
  ·rintro (⟨q, hq, _, a⟩ | a)
   ·exact .inl ⟨q, hq, a⟩
   ·simp only at a
    by_cases c1 : k < r.f
    ·exact .inl ⟨i, hi, by omega, by omega⟩
    ·by_cases c2 : r.t ≤ k
     ·exact .inl ⟨_, hl, by omega, by omega⟩
     ·exact .inr ⟨by omega, by omega⟩
  ·rintro (⟨q, hq, a⟩ | a)
   ·by_cases c1 : q < i
    ·exact .inl ⟨q, hq, .inl c1, a⟩
    ·by_cases c2 : i + j ≤ q
     ·exact .inl ⟨q, hq, .inr c2, a⟩
     ·have := h.le hi hq (by omega)
      have := h.le hq hl (by omega)
      exact .inr ⟨by show min _ _ ≤ k; omega, by show k < max _ _; omega⟩
   ·exact .inr ⟨by show min _ _ ≤ k; omega, by show k < max _ _; omega⟩
theorem NF.in_cut {b sz : Int} {rs : List Rg} (h : NF b rs sz) (r : Rg) (k : Int) : inR (cutP rs r) k ↔ inR rs k ∧ ¬ (r.f ≤ k ∧ k < r.t) := by
 unfold cutP
 by_cases he : emp r = true
 ·rw [if_pos he]
  rw [emp_iff] at he
  exact ⟨fun q => ⟨q, by omega⟩, fun q => q.1⟩
 rw [if_neg he]
 rw [emp_iff] at he
 have sI := metI_spec h r
 have sJ := metJ_spec h r
 have lI := metI_le rs r
 have lJ := metJ_le rs r
 generalize metI rs r = i at *
 generalize metJ rs r = j at *
 by_cases hj : j = 0
 ·rw [if_pos hj]
  refine ⟨fun q => ⟨q, ?_⟩, fun q => q.1⟩
  obtain ⟨q, hq, a⟩ := q
  by_cases c : q < i
  ·have := sI.1 q hq c; omega
  ·have := sJ.2 q hq (by omega); omega
 ·rw [if_neg hj]
  have hi : i < rs.length := by omega
  have hl : i + j - 1 < rs.length := by omega
  rw [getD_lt hi, getD_lt hl, in_spl (by omega) lJ]
  have a1 := h.at' hi
  have a2 := h.at' hl
  have a3 := sI.2 i hi (Nat.le_refl _)
  have a4 := sJ.1 _ hl (by omega) (by omega)
  have hy : inR ([(⟨rs[i].f, r.f⟩ : Rg), ⟨r.t, rs[i + j - 1].t⟩].filter nem) k ↔ (rs[i].f ≤ k ∧ k < r.f) ∨ (r.t ≤ k ∧ k < rs[i + j - 1].t) := by
   have hm : ∀ ys : List Rg, inR ys k ↔ ∃ y ∈ ys, y.f ≤ k ∧ k < y.t := fun ys => ⟨fun ⟨q, hq, a⟩ => ⟨_, List.getElem_mem hq, a⟩, fun ⟨y, hy, a⟩ => by obtain ⟨q, hq, rfl⟩ := List.getElem_of_mem hy; exact ⟨q, hq, a⟩⟩
   rw [hm]
   constructor
   ·rintro ⟨y, hy, a⟩
    rw [List.mem_filter] at hy
    rcases List.mem_cons.1 hy.1 with rfl | m
    ·exact .inl a
    ·rw [List.mem_singleton] at m
     subst m
     exact .inr a
   ·rintro (a | a)
    ·refine ⟨⟨rs[i].f, r.f⟩, List.mem_filter.2 ⟨by simp, ?_⟩, a⟩
     unfold nem emp
     simp
     omega
    ·refine ⟨⟨r.t, rs[i + j - 1].t⟩, List.mem_filter.2 ⟨by simp, ?_⟩, a⟩
     unfold nem emp
     simp
     omega
  rw [hy]
  constructor
  ·rintro (⟨q, hq, c | c, a⟩ | a | a)
   ·have := sI.1 q hq c
    exact ⟨⟨q, hq, a⟩, by omega⟩
   ·have := sJ.2 q hq c
    exact ⟨⟨q, hq, a⟩, by omega⟩
   ·exact ⟨⟨i, hi, by omega, by omega⟩, by omega⟩
   ·exact ⟨⟨_, hl, by omega, by omega⟩, by omega⟩
  ·rintro ⟨⟨q, hq, a⟩, n⟩
   by_cases c1 : q < i
   ·exact .inl ⟨q, hq, .inl c1, a⟩
   ·by_cases c2 : i + j ≤ q
    ·exact .inl ⟨q, hq, .inr c2, a⟩
    ·have := h.le hi hq (by omega)
     have := h.le hq hl (by omega)
     exact .inr (by omega)
/-! ### read off as ranges -/
def redT (f : Nat → Bool) : Nat → List Rg
 | 0 => []
 | i + 1 => if f i then (if i = 0 ∨ f (i - 1) = false then redT f i ++ [⟨i, i + 1⟩] else (redT f i).dropLast ++ [⟨((redT f i).getLastD R0).f, i + 1⟩]) else redT f i
theorem redT_congr {f g : Nat → Bool} : ∀ n, (∀ i, i < n → f i = g i) → redT f n = redT g n
 | 0, _ => rfl
 | n + 1, h => by
  have ih := redT_congr n (fun i hi => h i (by omega))
  unfold redT
  rw [h n (by omega), ih]
  by_cases e : n = 0
  ·subst e; simp
  ·rw [h (n - 1) (by omega)]
def clip (rs : List Rg) (n : Int) : List Rg := (rs.filter (fun r => decide (r.f < n))).map (fun r => ⟨r.f, min r.t n⟩)
theorem clip_all {b sz : Int} {rs : List Rg} (h : NF b rs sz) : clip rs sz = rs := by
 unfold clip
 rw [List.filter_eq_self.2 (fun r hr => by have := h.all r hr; simp; omega)]
 conv => rhs; rw [← List.map_id rs]
 apply List.map_congr_left
 intro r hr
 have := h.all r hr
 cases r
 simp
 simp at this
 omega
theorem clip_at {s c : List Rg} {r : Rg} {m : Int} (h1 : ∀ u ∈ s, u.f < m ∧ u.t ≤ m) (h2 : ∀ u ∈ c, m ≤ u.f) : clip (s ++ r :: c) m = s ++ (if r.f < m then [⟨r.f, min r.t m⟩] else []) := by
 have e1 : s.filter (fun r => decide (r.f < m)) = s := List.filter_eq_self.2 (fun u hu => by simpa using (h1 u hu).1)
 have e2 : c.filter (fun r => decide (r.f < m)) = [] := List.filter_eq_nil_iff.2 (fun u hu => by have := h2 u hu; simp; omega)
 have e3 : s.map (fun r => (⟨r.f, min r.t m⟩ : Rg)) = s := by
  conv => rhs; rw [← List.map_id s]
  apply List.map_congr_left
  intro u hu
  have := (h1 u hu).2
  cases u
  simp
  simp at this
  omega
 unfold clip
 rw [List.filter_append, List.filter_cons, List.map_append, e1, e3, e2]
 by_cases c : r.f < m
 ·simp [c]
 ·simp [c]
theorem redT_clip {rs : List Rg} {sz : Int} (h : NF (-1) rs sz) {f : Nat → Bool} (hf : ∀ i : Nat, f i = true ↔ inR rs i) : ∀ n : Nat, redT f n = clip rs n
 | 0 => by
  unfold redT clip
  rw [List.filter_eq_nil_iff.2 (fun r hr => by have := h.all r hr; simp; omega)]
  rfl
 | n + 1 => by
  have ih := redT_clip h hf n
  have hm : ∀ k : Int, inR rs k ↔ ∃ r ∈ rs, r.f ≤ k ∧ k < r.t := fun k => ⟨fun ⟨q, hq, a⟩ => ⟨_, List.getElem_mem hq, a⟩, fun ⟨y, hy, a⟩ => by obtain ⟨q, hq, rfl⟩ := List.getElem_of_mem hy; exact ⟨q, hq, a⟩⟩
  unfold redT
  rw [ih]
  by_cases hn : f n = true
  ·rw [if_pos hn]
   obtain ⟨r, hr, ra, rb⟩ := (hm _).1 ((hf n).1 hn)
   obtain ⟨s, c, rfl⟩ := List.append_of_mem hr
   obtain ⟨p1, p2, p3⟩ := List.pairwise_append.1 h.apart
   obtain ⟨p4, p5⟩ := List.pairwise_cons.1 p2
   have hs : ∀ u ∈ s, u.f < u.t ∧ u.t < r.f := fun u hu => ⟨(h.all u (by simp [hu])).2.1, p3 u hu r (by simp)⟩
   have hc : ∀ u ∈ c, r.t < u.f := p4
   have e1 := clip_at (s := s) (c := c) (r := r) (m := (n : Int)) (fun u hu => by have := hs u hu; omega) (fun u hu => by have := hc u hu; omega)
   have e2 := clip_at (s := s) (c := c) (r := r) (m := ((n + 1 : Nat) : Int)) (fun u hu => by have := hs u hu; omega) (fun u hu => by have := hc u hu; omega)
   rw [e1, e2, if_pos (show r.f < ((n + 1 : Nat) : Int) by omega), show min r.t ((n + 1 : Nat) : Int) = (n : Int) + 1 by omega]
   by_cases c1 : r.f < n
   ·have h0 : ¬ n = 0 := by
     intro e
     have := h.all r hr
     omega
    have hp : f (n - 1) = true := (hf _).2 ((hm _).2 ⟨r, hr, by omega, by omega⟩)
    rw [if_neg (by simp [h0, hp]), if_pos c1, List.dropLast_concat, List.getLastD_concat]
   ·have hp : n = 0 ∨ f (n - 1) = false := by
     by_cases h0 : n = 0
     ·exact .inl h0
     ·right
      cases hq : f (n - 1)
      ·rfl
      ·exfalso
       obtain ⟨u, hu, ua, ub⟩ := (hm _).1 ((hf _).1 hq)
       rcases List.mem_append.1 hu with hu | hu
       ·have := hs u hu; omega
       ·rcases List.mem_cons.1 hu with rfl | hu
        ·omega
        ·have := hc u hu; omega
    rw [if_pos hp, if_neg c1, List.append_nil]
    rw [show r.f = (n : Int) by omega]
  ·rw [if_neg hn]
   have hno : ∀ r ∈ rs, ¬ (r.f ≤ (n : Int) ∧ (n : Int) < r.t) := fun r hr a => hn ((hf n).2 ((hm _).2 ⟨r, hr, a⟩))
   unfold clip
   have e : rs.filter (fun r => decide (r.f < (n : Int))) = rs.filter (fun r => decide (r.f < ((n + 1 : Nat) : Int))) := by
    apply List.filter_congr
    intro r hr
    have := hno r hr
    have := h.all r hr
    by_cases c : r.f < (n : Int)
    ·rw [decide_eq_true c, decide_eq_true (by omega)]
    ·rw [decide_eq_false c, decide_eq_false (by omega)]
   rw [e]
   apply List.map_congr_left
   intro r hr
   have hr' := List.mem_filter.1 hr
   have := hno r hr'.1
   have h3 := hr'.2
   simp only [decide_eq_true_eq] at h3
   rw [show min r.t (n : Int) = min r.t ((n + 1 : Nat) : Int) by omega]
theorem redT_nf {rs : List Rg} {n : Nat} (h : NF (-1) rs (n : Int)) {f : Nat → Bool} (hf : ∀ i : Nat, i < n → (f i = true ↔ inR rs i)) : redT f n = rs := by
 have : ∀ i : Nat, Decidable (inR rs i) := fun i => Classical.propDecidable _
 obtain ⟨g, hg⟩ : ∃ g : Nat → Bool, ∀ i, g i = true ↔ inR rs i := ⟨fun i => decide (inR rs i), fun i => by simp⟩
 rw [redT_congr n (g := g) (fun i hi => by
  have a := hf i hi
  have b := hg i
  cases e1 : f i
  ·cases e2 : g i
   ·rfl
   ·exact absurd (a.2 (b.1 e2)) (by rw [e1]; simp)
  ·cases e2 : g i
   ·exact absurd (b.2 (a.1 e1)) (by rw [e2]; simp)
   ·rfl)]
 rw [redT_clip h hg n, clip_all h]
end Go.Proofs.YtddddfankeepkaaGreatDoor
namespace Go.Proofs.YtddddfankeepkaaGreatDoor
open Go.RowKit
/-! ### the document's Do, in plain words: what is refused -/
def mkK (k : Int) : Bool := k == 1 || k == 2 || k == 3
def tkK (k : Int) : Bool := k == 2 || k == 3 || k == 7
def rNam (k pn po : Int) : Int := if (pn < 0 ∧ mkK k = false ∧ k ≠ 11) ∨ (tkK k = true ∧ po < 0) then 104 else if (mkK k = true ∧ 0 ≤ pn) ∨ (k = 5 ∧ 0 ≤ po) then 105 else 0
def rSiz (k fr tt cp sz : Int) : Int :=
 if k = 1 ∨ k = 4 then (if tt < 1 ∨ 262144 < tt then 106 else 0)
 else if k = 11 then (if tt ≤ cp ∨ 262144 < tt then 106 else 0)
 else if k = 8 then (if fr < 0 ∨ sz ≤ fr then 107 else 0)
 else if k = 9 ∨ k = 10 then (if fr < 0 ∨ sz < tt ∨ tt < fr ∨ (k = 10 ∧ 32 < IntKind.i64.wrap (tt - fr)) then 107 else 0)
 else 0
def rPar (x : VW) (k pn po : Int) : Bool := (decide (0 ≤ pn) && !mkK k && decide (k ≠ 6) && (volAt x pn).pt) || (tkK k && (volAt x po).pt)
def rRst (x : VW) (k pn : Int) : Int :=
 if k = 6 ∧ 0 ≤ chlF x.vs (volAt x pn).id 0 then 109
 else if mkK k = true ∧ 64 ≤ x.vs.length then 83
 else if mkK k = true ∧ 1073741824 < x.nx then 85 else 0
def szAt (x : VW) (pn : Int) : Int := if 0 ≤ pn then (volAt x pn).sz else 0
def refE (x : VW) (o : OW) (n : Nat) : Int :=
 if fmE o n ≠ 0 then fmE o n
 else if rNam o.k (plcF x.vs o.nm 0) (plcF x.vs o.ot 0) ≠ 0 then rNam o.k (plcF x.vs o.nm 0) (plcF x.vs o.ot 0)
 else if rSiz o.k o.fr o.tt x.cp (szAt x (plcF x.vs o.nm 0)) ≠ 0 then rSiz o.k o.fr o.tt x.cp (szAt x (plcF x.vs o.nm 0))
 else if rPar x o.k (plcF x.vs o.nm 0) (plcF x.vs o.ot 0) = true then 108
 else rRst x o.k (plcF x.vs o.nm 0)
theorem no_name {x : VW} (h : MayP x) {nm : ByteArray} (he : empS nm = true) : plcF x.vs nm 0 = -1 := plc_none (fun v hv e => by
 have h1 := nmB_size (h.vol v hv).nm
 rw [e] at h1
 unfold empS at he
 have h2 : nm.toList = [] := by simpa using he
 rw [ByteArray.toList_eq] at h2
 have h3 : nm.size = nm.data.toList.length := by rw [Array.length_toList]; rfl
 rw [h2, List.length_nil] at h3
 omega)
theorem refE_eq {x : VW} (hM : MayP x) (o : OW) (n : Nat) : refE x o n = tkE x o n := by
 unfold refE tkE
 by_cases h : fmE o n = 0
 ·rw [if_neg (by omega), if_pos h]
  obtain ⟨k1, k2, k3, _⟩ := fmE_zero h
  have h11 : o.k = 11 → plcF x.vs o.nm 0 = -1 := fun e => by
   rw [e] at k3
   refine no_name hM ?_
   unfold isF isF5 at k3
   simp [uN, uO, uF, uT, uD] at k3
   exact k3.1.1.1
  clear h k3 hM
  generalize plcF x.vs o.nm 0 = pn at *
  generalize plcF x.vs o.ot 0 = po
  obtain ⟨k, nm, ot, fr, tt⟩ := o
  dsimp only at *
  rcases (show k = 1 ∨ k = 2 ∨ k = 3 ∨ k = 4 ∨ k = 5 ∨ k = 6 ∨ k = 7 ∨ k = 8 ∨ k = 9 ∨ k = 10 ∨ k = 11 by omega) with rfl | rfl | rfl | rfl | rfl | rfl | rfl | rfl | rfl | rfl | rfl
  all_goals
   simp at h11
   simp [rNam, rSiz, rPar, rRst, szAt, mkK, tkK, lksE, lks, lkE, firstE, unl]
   grind
 ·rw [if_pos h, if_neg h]
end Go.Proofs.YtddddfankeepkaaGreatDoor
namespace Go.Proofs.YtddddfankeepkaaGreatDoor
open Go.RowKit
/-! ### the document's Do, in plain words: what it makes -/
def ladP : List PV → PV → List PV
 | [], v => [v]
 | u :: l, v => if Op.bytesLess v.nm.toList u.nm.toList then v :: u :: l else u :: ladP l v
theorem ladP_split : ∀ (a c : List PV) (v : PV), (∀ u ∈ a, ¬ ltS v.nm u.nm) → (∀ u ∈ c, ltS v.nm u.nm) → ladP (a ++ c) v = a ++ v :: c
 | [], [], v, _, _ => rfl
 | [], u :: c, v, _, h => by
  have := h u (by simp)
  show ladP (u :: c) v = v :: u :: c
  unfold ladP
  rw [if_pos (show Op.bytesLess v.nm.toList u.nm.toList = true from this)]
 | u :: a, c, v, h1, h2 => by
  have := h1 u (by simp)
  show ladP (u :: (a ++ c)) v = u :: (a ++ v :: c)
  unfold ladP
  rw [if_neg (show ¬ Op.bytesLess v.nm.toList u.nm.toList = true from this), ladP_split a c v (fun y hy => h1 y (by simp [hy])) h2]
theorem ladP_lay {vs : List PV} (h : vs.Pairwise ltV) {v : PV} (hf : ∀ u ∈ vs, u.nm ≠ v.nm) : ladP vs v = layP vs v := by
 have := ladP_split (vs.take (layI vs v.nm)) (vs.drop (layI vs v.nm)) v (fun u hu => ltS_asymm (lay_take h v.nm u hu)) (lay_drop h hf)
 rw [List.take_append_drop] at this
 rw [this]
 unfold layP
 simp
theorem set_sorted {vs : List PV} (h : vs.Pairwise ltV) {k : Nat} (hk : k < vs.length) {v : PV} (hn : v.nm = vs[k].nm) : (vs.set k v).Pairwise ltV := by
 rw [List.pairwise_iff_getElem]
 intro i j hi' hj hij
 rw [List.length_set] at hi' hj
 have := pw_get h hi' hj hij
 unfold ltV
 rw [List.getElem_set, List.getElem_set]
 by_cases e1 : k = i
 ·subst e1
  rw [if_pos rfl, if_neg (by omega), hn]; exact this
 ·rw [if_neg e1]
  by_cases e2 : k = j
  ·subst e2
   rw [if_pos rfl, hn]; exact this
  ·rw [if_neg e2]; exact this
theorem lay_set {vs : List PV} (h : vs.Pairwise ltV) {k : Nat} (hk : k < vs.length) {v : PV} (hn : v.nm = vs[k].nm) : layP (vs.eraseIdx k) v = vs.set k v := by
 have := lay_erase (set_sorted h hk hn) (k := k) (by rw [List.length_set]; exact hk)
 rw [List.eraseIdx_set_eq, List.getElem_set_self] at this
 exact this
def tolF (rs : List Rg) (k : Nat) : Bool := rs.any (fun r => decide (r.f ≤ (k : Int)) && decide ((k : Int) < r.t))
theorem tolF_iff (rs : List Rg) (k : Nat) : tolF rs k = true ↔ inR rs k := by
 unfold tolF
 rw [List.any_eq_true]
 constructor
 ·rintro ⟨y, hy, a⟩
  obtain ⟨q, hq, rfl⟩ := List.getElem_of_mem hy
  simp only [Bool.and_eq_true, decide_eq_true_eq] at a
  exact ⟨q, hq, a⟩
 ·rintro ⟨q, hq, a⟩
  exact ⟨_, List.getElem_mem hq, by simpa using a⟩
def setF (f : Nat → Bool) (a c : Int) (v : Bool) (k : Nat) : Bool := if a ≤ (k : Int) ∧ (k : Int) < c then v else f k
def turP (x : VW) (o : OW) (po : Int) (v : PV) : PV :=
 if o.k = 5 then setNm v o.ot
 else if o.k = 7 then setMp (setSz v (volAt x po).sz) (volAt x po).mp
 else if o.k = 4 then setMp (setSz v o.tt) (redT (tolF v.mp) o.tt.toNat)
 else setMp v (redT (setF (tolF v.mp) o.fr (if o.k = 8 then wrap64 (o.fr + 1) else o.tt) (decide (o.k ≠ 9))) v.sz.toNat)
def madP (x : VW) (o : OW) (po : Int) : PV := if o.k = 1 then ⟨o.nm, x.nx, o.tt, 0, 0, false, []⟩ else ⟨o.nm, x.nx, (volAt x po).sz, (volAt x po).id, if o.k = 2 then 1 else 0, false, (volAt x po).mp⟩
def refX (x : VW) (o : OW) : VW :=
 if o.k = 11 then ⟨o.tt, x.fr, x.nx, x.vs⟩
 else if mkK o.k = true then ⟨x.cp, x.fr, wrap64 (x.nx + 1), ladP x.vs (madP x o (plcF x.vs o.ot 0))⟩
 else if o.k = 6 then ⟨x.cp, x.fr, x.nx, x.vs.eraseIdx (plcF x.vs o.nm 0).toNat⟩
 else ⟨x.cp, x.fr, x.nx, ladP (x.vs.eraseIdx (plcF x.vs o.nm 0).toNat) (turP x o (plcF x.vs o.ot 0) (volAt x (plcF x.vs o.nm 0)))⟩
theorem erase_free {x : VW} (h : MayP x) {k : Nat} (hk : k < x.vs.length) {v : PV} (hn : v.nm = x.vs[k].nm) : ladP (x.vs.eraseIdx k) v = x.vs.set k v := by
 rw [ladP_lay (h.byN.sublist (List.eraseIdx_sublist _ _)) (fun u hu => by rw [hn]; exact erase_names h hk u hu)]
 exact lay_set h.byN hk hn
theorem refX_eq {x : VW} {o : OW} {n : Nat} (h : MayP x) (ht : tkE x o n = 0) : refX x o = tkX x o := by
 have T := tkE_zero ht
 unfold tkX
 have hL := T.look
 obtain ⟨kk, hkk⟩ : ∃ k : Nat, k = o.k.toNat := ⟨_, rfl⟩
 have k1 : 1 ≤ kk := by have := T.k1; omega
 have k2 : kk ≤ 11 := by have := T.k2; omega
 have kz : o.k = (kk : Int) := by have := T.k1; omega
 rw [← hkk] at hL ⊢
 have lk : ∀ {f : Nat} {b : Bool} {e : Int}, e ≠ 0 → f ∈ lks kk → lkE f x o (plcF x.vs o.nm 0) (plcF x.vs o.ot 0) = unl b e → b = true := fun he hf hu => (unl_zero he).1 (by rw [← hu]; exact hL _ hf)
 have there : 55 ∈ lks kk → ∃ k, ∃ hk : k < x.vs.length, plcF x.vs o.nm 0 = (k : Int) ∧ x.vs[k].nm = o.nm := fun hf => plc_there (by simpa using lk (f := 55) (b := decide (0 ≤ plcF x.vs o.nm 0)) (e := 104) (by decide) hf rfl)
 have other : 51 ∈ lks kk → ∃ k, ∃ hk : k < x.vs.length, plcF x.vs o.ot 0 = (k : Int) ∧ x.vs[k].nm = o.ot := fun hf => plc_there (by simpa using lk (f := 51) (b := decide (0 ≤ plcF x.vs o.ot 0)) (e := 104) (by decide) hf rfl)
 have free : 52 ∈ lks kk → ∀ v ∈ x.vs, v.nm ≠ o.nm := fun hf => plc_free (by simpa using lk (f := 52) (b := decide (plcF x.vs o.nm 0 < 0)) (e := 105) (by decide) hf rfl)
 have tn : ∀ i : Nat, ((i : Int)).toNat = i := fun i => by omega
 rcases nat_kinds k1 k2 with rfl | rfl | rfl | rfl | rfl | rfl | rfl | rfl | rfl | rfl | rfl
 ·simp only [refX, kz, mkK, madP, doX, addP]
  simp only [show ¬ ((1 : Nat) : Int) = 11 by decide, if_false]
  rw [if_pos (by decide), if_pos (by decide), ladP_lay h.byN (free (by decide))]
  rfl
 ·obtain ⟨k, hk, e, _⟩ := other (by decide)
  simp only [refX, kz, mkK, madP, doX, addP, e]
  simp only [show ¬ ((2 : Nat) : Int) = 11 by decide, show ¬ ((2 : Nat) : Int) = 1 by decide, if_false]
  rw [if_pos (by decide), if_pos (by decide), ladP_lay h.byN (free (by decide))]
  rfl
 ·obtain ⟨k, hk, e, _⟩ := other (by decide)
  simp only [refX, kz, mkK, madP, doX, addP, e]
  simp only [show ¬ ((3 : Nat) : Int) = 11 by decide, show ¬ ((3 : Nat) : Int) = 1 by decide, if_false]
  rw [if_pos (by decide), if_neg (by decide), ladP_lay h.byN (free (by decide))]
  rfl
 ·obtain ⟨k, hk, e, _⟩ := there (by decide)
  have v := h.vol _ (List.getElem_mem hk)
  have e59 := lk (f := 59) (b := decide (1 ≤ o.tt ∧ o.tt ≤ 262144)) (e := 106) (by decide) (by decide) rfl
  simp only [decide_eq_true_eq] at e59
  simp only [refX, kz, mkK, doX, e, volAt_eq hk, tn]
  rw [if_neg (by decide), if_neg (by decide), if_neg (by decide), erase_free h hk (by unfold turP; rw [kz, if_neg (by decide), if_neg (by decide), if_pos (by decide)]; rfl)]
  unfold turP rszP
  rw [kz, if_neg (by decide), if_neg (by decide), if_pos (by decide)]
  have hc := v.mp.cut_end v.s2 e59.1 e59.2
  rw [redT_nf (rs := cutP x.vs[k].mp ⟨o.tt, 262144⟩) (by rw [show ((o.tt.toNat : Nat) : Int) = o.tt by omega]; exact hc) (fun i hi => by
   rw [tolF_iff, v.mp.in_cut]
   exact ⟨fun q => ⟨q, fun a => by have a1 : o.tt ≤ (i : Int) := a.1; omega⟩, fun q => q.1⟩)]
 ·obtain ⟨k, hk, e, _⟩ := there (by decide)
  have e64 := plc_free (by simpa using lk (f := 64) (b := decide (plcF x.vs o.ot 0 < 0)) (e := 105) (by decide) (by decide) rfl)
  simp only [refX, kz, mkK, doX, e, volAt_eq hk, tn]
  rw [if_neg (by decide), if_neg (by decide), if_neg (by decide)]
  have et : turP x o (plcF x.vs o.ot 0) x.vs[k] = setNm x.vs[k] o.ot := by unfold turP; rw [kz, if_pos (by decide)]
  rw [et, ladP_lay (h.byN.sublist (List.eraseIdx_sublist _ _)) (fun u hu => e64 u (List.mem_of_mem_eraseIdx hu))]
 ·simp only [refX, kz, mkK, doX]
  rw [if_neg (by decide), if_neg (by decide), if_pos (by decide)]
 ·obtain ⟨k, hk, e, _⟩ := there (by decide)
  obtain ⟨j, hj, e2, _⟩ := other (by decide)
  simp only [refX, kz, mkK, doX, e, e2, volAt_eq hk, volAt_eq hj, tn]
  rw [if_neg (by decide), if_neg (by decide), if_neg (by decide)]
  have et : turP x o (j : Int) x.vs[k] = setMp (setSz x.vs[k] x.vs[j].sz) x.vs[j].mp := by unfold turP; rw [kz, if_neg (by decide), if_pos (by decide), volAt_eq hj]
  rw [et, erase_free h hk (v := setMp (setSz x.vs[k] x.vs[j].sz) x.vs[j].mp) rfl]
 ·obtain ⟨k, hk, e, _⟩ := there (by decide)
  have v := h.vol _ (List.getElem_mem hk)
  have e69 := lk (f := 69) (b := decide (0 ≤ o.fr ∧ o.fr < (volAt x (plcF x.vs o.nm 0)).sz)) (e := 107) (by decide) (by decide) rfl
  simp only [decide_eq_true_eq, e, volAt_eq hk] at e69
  have := v.s2
  simp only [refX, kz, mkK, doX, e, volAt_eq hk, tn]
  rw [if_neg (by decide), if_neg (by decide), if_neg (by decide)]
  have hw : wrap64 (o.fr + 1) = o.fr + 1 := pw64 (by omega)
  have et : turP x o (plcF x.vs o.ot 0) x.vs[k] = setMp x.vs[k] (joinP x.vs[k].mp ⟨o.fr, wrap64 (o.fr + 1)⟩) := by
   unfold turP
   rw [kz, if_neg (by decide), if_neg (by decide), if_neg (by decide), if_pos (by decide), hw]
   have hj := v.mp.join (Int.le_refl _) (r := ⟨o.fr, o.fr + 1⟩) (by show -1 < o.fr; omega) (by show o.fr + 1 ≤ x.vs[k].sz; omega) v.s2
   rw [redT_nf (rs := joinP x.vs[k].mp ⟨o.fr, o.fr + 1⟩) (by rw [show ((x.vs[k].sz.toNat : Nat) : Int) = x.vs[k].sz by omega]; exact hj) (fun i hi => by
    rw [v.mp.in_join (Int.le_refl _) (by show -1 < o.fr; omega) (by show o.fr + 1 ≤ x.vs[k].sz; omega) v.s2, ← tolF_iff]
    unfold setF
    by_cases c : o.fr ≤ (i : Int) ∧ (i : Int) < o.fr + 1
    ·rw [if_pos c]; exact ⟨fun _ => .inr c, fun _ => by decide⟩
    ·rw [if_neg c]; exact ⟨.inl, fun q => q.resolve_right c⟩)]
  rw [et, erase_free h hk (v := setMp x.vs[k] (joinP x.vs[k].mp ⟨o.fr, wrap64 (o.fr + 1)⟩)) rfl]
 ·obtain ⟨k, hk, e, _⟩ := there (by decide)
  have v := h.vol _ (List.getElem_mem hk)
  have e56 := lk (f := 56) (b := decide (0 ≤ o.fr ∧ o.tt ≤ (volAt x (plcF x.vs o.nm 0)).sz ∧ o.fr ≤ o.tt)) (e := 107) (by decide) (by decide) rfl
  simp only [decide_eq_true_eq, e, volAt_eq hk] at e56
  have := v.s1
  simp only [refX, kz, mkK, doX, e, volAt_eq hk, tn]
  rw [if_neg (by decide), if_neg (by decide), if_neg (by decide)]
  have et : turP x o (plcF x.vs o.ot 0) x.vs[k] = setMp x.vs[k] (cutP x.vs[k].mp ⟨o.fr, o.tt⟩) := by
   unfold turP
   rw [kz, if_neg (by decide), if_neg (by decide), if_neg (by decide), if_neg (by decide)]
   have hj := v.mp.cut_in (r := ⟨o.fr, o.tt⟩) e56.1 (by show o.fr ≤ x.vs[k].sz; omega)
   rw [redT_nf (rs := cutP x.vs[k].mp ⟨o.fr, o.tt⟩) (by rw [show ((x.vs[k].sz.toNat : Nat) : Int) = x.vs[k].sz by omega]; exact hj) (fun i hi => by
    rw [v.mp.in_cut, ← tolF_iff]
    unfold setF
    by_cases c : o.fr ≤ (i : Int) ∧ (i : Int) < o.tt
    ·rw [if_pos c]; exact ⟨fun q => absurd q (by decide), fun q => absurd c q.2⟩
    ·rw [if_neg c]; exact ⟨fun q => ⟨q, c⟩, fun q => q.1⟩)]
  rw [et, erase_free h hk (v := setMp x.vs[k] (cutP x.vs[k].mp ⟨o.fr, o.tt⟩)) rfl]
 ·obtain ⟨k, hk, e, _⟩ := there (by decide)
  have v := h.vol _ (List.getElem_mem hk)
  have e56 := lk (f := 56) (b := decide (0 ≤ o.fr ∧ o.tt ≤ (volAt x (plcF x.vs o.nm 0)).sz ∧ o.fr ≤ o.tt)) (e := 107) (by decide) (by decide) rfl
  simp only [decide_eq_true_eq, e, volAt_eq hk] at e56
  have := v.s1
  simp only [refX, kz, mkK, doX, e, volAt_eq hk, tn]
  rw [if_neg (by decide), if_neg (by decide), if_neg (by decide)]
  have et : turP x o (plcF x.vs o.ot 0) x.vs[k] = setMp x.vs[k] (joinP x.vs[k].mp ⟨o.fr, o.tt⟩) := by
   unfold turP
   rw [kz, if_neg (by decide), if_neg (by decide), if_neg (by decide), if_neg (by decide)]
   have hj := v.mp.join (Int.le_refl _) (r := ⟨o.fr, o.tt⟩) (by show -1 < o.fr; omega) (by show o.tt ≤ x.vs[k].sz; omega) v.s2
   rw [redT_nf (rs := joinP x.vs[k].mp ⟨o.fr, o.tt⟩) (by rw [show ((x.vs[k].sz.toNat : Nat) : Int) = x.vs[k].sz by omega]; exact hj) (fun i hi => by
    rw [v.mp.in_join (Int.le_refl _) (by show -1 < o.fr; omega) (by show o.tt ≤ x.vs[k].sz; omega) v.s2, ← tolF_iff]
    unfold setF
    by_cases c : o.fr ≤ (i : Int) ∧ (i : Int) < o.tt
    ·rw [if_pos c]; exact ⟨fun _ => .inr c, fun _ => by decide⟩
    ·rw [if_neg c]; exact ⟨.inl, fun q => q.resolve_right c⟩)]
  rw [et, erase_free h hk (v := setMp x.vs[k] (joinP x.vs[k].mp ⟨o.fr, o.tt⟩)) rfl]
 ·simp only [refX, kz, doX]
  rw [if_pos (by decide)]
end Go.Proofs.YtddddfankeepkaaGreatDoor
namespace Go.Proofs.YtddddfankeepkaaGreatDoor
open Go.RowKit
set_option maxRecDepth 100000 in
set_option maxHeartbeats 4000000 in
theorem find_any (x : VW) (a : Option Addr) (c0 : Nat) (nm : ByteArray) (w : World) (hl : x.vs.length ≤ 16777216) (hR : RdV w.heap.size w a x.vs) :
  Calls Tryz.prog 42 #[viewA x a c0, .string nm] w fun e w' => LkQ w (plcF x.vs nm 0) e w' := by
 obtain ⟨P, hP⟩ : ∃ P, P = w.heap.size := ⟨_, rfl⟩
 obtain ⟨W1, hW1⟩ : ∃ W1, W1 = w.alloc (.cells #[.int .i64 x.cp, .int .i64 x.fr, .int .i64 x.nx, .slice a x.vs.length c0] 24) := ⟨_, rfl⟩
 have b1 : Below w.heap.size w W1 := by rw [hW1]; exact below1 _ _
 have hV : VwB W1 P x (.slice a x.vs.length c0) := by rw [hW1, hP]; exact heap_new _ _
 have hR1 := (hR.below b1).mono b1.size
 have HP := hid hP.symm
 have HR1 := hid hR1
 have HB1 := hid b1
 obtain ⟨⟨p0, p1, p2, p3⟩, _⟩ := hV.cs
 have HP3 := hid p3
 obtain ⟨n, hn⟩ : ∃ n, n = x.vs.length := ⟨_, rfl⟩
 have HN := hid hn
 have hn16 : n ≤ 16777216 := by omega
 obtain ⟨t, ht⟩ : ∃ t, t = plcF x.vs nm 0 := ⟨_, rfl⟩
 have HT := hid ht
 have HW1 := hid hW1
 dsimp only [viewA]
 rw [← hn, ← ht]
 rw [← hn] at p3 HP3 HW1
 clear hP hW1 hV hR hR1 b1 hn hl ht p0 p1 p2 p3
 go_enter Tryz.func42, Tryz.ntmps42
 go_wp2_with fail
 rw [← HW1.out, HP.out]
 go_loopw [5] (fun iv wr => ∃ k : Nat, k ≤ n ∧ iv = .int .i64 (k : Int) ∧ t = plcF (x.vs.drop k) nm k ∧ wr = W1) (fun iv _ => n - (intOf iv).toNat)
 case atStart => exact ⟨0, Nat.zero_le _, rfl, by rw [HT.out]; rfl, rfl⟩
 case round =>
  obtain ⟨k, hk, rfl, hd, hw⟩ := hrel
  have hw := hw.symm
  subst hw
  have p3 := HP3.out
  by_cases hlt : k < n
  ·have hkl : k < x.vs.length := by have := HN.out; omega
   obtain ⟨g, off, rfl, hgl, hc⟩ := (HR1.out).resolve_left (fun e => by rw [e] at hkl; simp at hkl)
   obtain ⟨ma, mc, ⟨c0', c1, c2, c3, c4, c5, c6⟩, hRm, _⟩ := hc k hkl
   rw [List.drop_eq_getElem_cons hkl, plcF] at hd
   obtain ⟨y, hy⟩ : ∃ y, y = x.vs[k].nm := ⟨_, rfl⟩
   rw [← hy] at c0' hd
   have HD := hid hd
   have hl1 : (k : Int) < (n : Int) := by omega
   clear hc hgl c1 c2 c3 c4 c5 c6 hRm hkl hy HP3 HR1 hd
   by_cases e : y.toList = nm.toList
   ·have eb : (y.toList == nm.toList) = true := by simpa using e
    have HE : Hid (t = (k : Int)) := hid (by rw [HD.out, if_pos e])
    clear e HD
    go_wp2
    go_ret
    exact ⟨by rw [HE.out]; rfl, HB1.out⟩
   ·have eb : (y.toList == nm.toList) = false := by simpa using e
    have HE : Hid (t = plcF (x.vs.drop (k + 1)) nm (k + 1)) := hid (by rw [HD.out, if_neg e])
    clear e HD
    go_wp2
    go_roundw
    case rel => exact ⟨k + 1, by omega, by go_num, HE.out, by simp⟩
    case measure => simp [intOf]; omega
  ·have ekn : k = n := by omega
   subst ekn
   have HE : Hid (t = -1) := hid (by rw [hd, HN.out, List.drop_length]; rfl)
   have hl1 : ¬ (k : Int) < (k : Int) := by omega
   clear hd HR1 HP3
   go_wp2
   go_ret
   exact ⟨by rw [HE.out]; rfl, HB1.out⟩
theorem kind_cases {k : Int} (h1 : 1 ≤ k) (h2 : k ≤ 11) : k = 1 ∨ k = 2 ∨ k = 3 ∨ k = 4 ∨ k = 5 ∨ k = 6 ∨ k = 7 ∨ k = 8 ∨ k = 9 ∨ k = 10 ∨ k = 11 := by omega
set_option maxHeartbeats 4000000 in
theorem makes_any (k : Int) (h1 : 1 ≤ k) (h2 : k ≤ 11) (w : World) : Calls Tryz.prog 39 #[.int .i64 k] w fun e w' => e = .returned (.bool (mkK k)) ∧ w' = w := by
 rcases kind_cases h1 h2 with rfl | rfl | rfl | rfl | rfl | rfl | rfl | rfl | rfl | rfl | rfl
 all_goals
  go_enter Tryz.func39, Tryz.ntmps39
  go_wp2
  go_ret
  exact ⟨rfl, rfl⟩
set_option maxHeartbeats 4000000 in
theorem takes_any (k : Int) (h1 : 1 ≤ k) (h2 : k ≤ 11) (w : World) : Calls Tryz.prog 106 #[.int .i64 k] w fun e w' => e = .returned (.bool (tkK k)) ∧ w' = w := by
 rcases kind_cases h1 h2 with rfl | rfl | rfl | rfl | rfl | rfl | rfl | rfl | rfl | rfl | rfl
 all_goals
  go_enter Tryz.func106, Tryz.ntmps106
  go_wp2
  go_ret
  exact ⟨rfl, rfl⟩
set_option maxRecDepth 100000 in
set_option maxHeartbeats 8000000 in
theorem uses_any (k : Int) (h1 : 1 ≤ k) (h2 : k ≤ 11) (w : World) : Calls Tryz.prog 105 #[.int .i64 k] w fun e w' => e = .returned (.agg #[.bool (uN k.toNat), .bool (uO k.toNat), .bool (uF k.toNat), .bool (uT k.toNat), .bool (uD k.toNat)]) ∧ Below w.heap.size w w' := by
 rcases kind_cases h1 h2 with rfl | rfl | rfl | rfl | rfl | rfl | rfl | rfl | rfl | rfl | rfl
 all_goals
  go_enter Tryz.func105, Tryz.ntmps105
  go_wp2
  exact bodyPost_ret (results_row1 rfl _ _ w.heap.size 118 _ (0, 0) (.array 5 4) rfl (heap_new _ _) (by kernel_rfl) rfl (by kernel_rfl)) rfl ⟨rfl, below1 _ _⟩
end Go.Proofs.YtddddfankeepkaaGreatDoor
namespace Go.Proofs.YtddddfankeepkaaGreatDoor
open Go.RowKit
theorem nf_len : ∀ (rs : List Rg) (b sz : Int), rgO rs b sz = true → b ≤ sz → (rs.length : Int) ≤ sz - b
 | [], b, sz, _, h => by simp; omega
 | r :: l, b, sz, h, hb => by
  unfold rgO at h
  split at h
  ·exact absurd h (by simp)
  split at h
  ·exact absurd h (by simp)
  split at h
  ·exact absurd h (by simp)
  have := nf_len l r.t sz h (by omega)
  simp only [List.length_cons]
  omega
theorem MayP.szV {x : VW} (h : MayP x) : szV 64 262145 x.vs := ⟨h.len, fun v hv => by
 have q := h.vol v hv
 have := nf_len v.mp (-1) v.sz ((rgO_nf _ _ _).2 q.mp) (by have := q.s1; omega)
 have := q.s2
 omega⟩
end Go.Proofs.YtddddfankeepkaaGreatDoor
namespace Go.Proofs.YtddddfankeepkaaGreatDoor
open Go.RowKit
def PO.ow (o : PO) : OW := ⟨o.k, o.nm, o.ot, o.fr, o.tt⟩
theorem okO.w {o : PO} (h : okO o) : okW o.ow := ⟨h.nm, h.ot, h.f0, h.t1⟩
end Go.Proofs.YtddddfankeepkaaGreatDoor
