import Derived.Test.YtldlejpacgphmaaGreatG24
namespace Go.Proofs.YtldlejpacgphmaaGreat
open Go.RowKit
def HomeB (nb fr bl x : Nat) : Prop := x < nb ∧ ¬ (fr ≤ x ∧ x < fr + bl)
def after (base : Nat → List Int) (ts : List Tn) (x : Nat) : List Int := (aheadP (fun _ => none) ts.flatten x).getD (base x)
def OldAt (fr bl l : Nat) (v : List Int) : Prop := Old fr bl (if l = 0 then 1099511627777 else l) v
structure Hd (P : Nat → List Int → Prop) (nb fr bl l q : Nat) (base : Nat → List Int) (ts ex : List Tn) (k : Nat) : Prop where
 life : l ≤ 1099511627776
 seq : q + (ts ++ ex).length ≤ 1099511627776
 good : ∀ t ∈ ts ++ ex, GoodT nb fr bl t
 zero : l = 0 → ts ++ ex = []
 fit : (wantsL (ts ++ ex)).length + 1 ≤ bl
 kle : k ≤ ts.length
 log : ∀ i, i < bl - 1 → ∀ v, P (fr + 1 + i) v → (∃ r, (wantsL (ts ++ ex))[i]? = some r ∧ v = stampZ r.1 (l : Int) r.2) ∨ OldAt fr bl l v
 dur : ∀ i, i < (wantsL (ts.take k)).length → ∀ v, P (fr + 1 + i) v → ∃ r, (wantsL (ts ++ ex))[i]? = some r ∧ v = stampZ r.1 (l : Int) r.2
 home : ∀ x, HomeB nb fr bl x → ∀ v, P x v → v = base x ∨ (k = ts.length ∧ v = after base ts x)
 stop : ex = [] ∨ ∃ t0 ex' i, ex = t0 :: ex' ∧ i < (wantsL (ts ++ [t0])).length ∧ ∀ v, P (fr + 1 + i) v → OldAt fr bl l v
theorem wantsL_ok {nb fr bl : Nat} {ts : List Tn} (h : ∀ t ∈ ts, GoodT nb fr bl t) : ∀ r ∈ wantsL ts, (r.1 = 3 ∨ r.1 = 4) ∧ r.2.length ≤ 497 ∧ Pl.isB r.2 := by
 intro r hr
 obtain ⟨t, ht, hr⟩ := List.mem_flatMap.1 hr
 exact (h t ht).recs r hr
theorem says_stamp {l : Nat} {r : Int × List Int} (hl : l ≤ 1099511627776) (h : (r.1 = 3 ∨ r.1 = 4) ∧ r.2.length ≤ 497 ∧ Pl.isB r.2) : Says l r (stampZ r.1 (l : Int) r.2) :=
 unZ_stampZ (by omega) ⟨by omega, by omega⟩ h.2.1 (isB_bare (by omega) h.2.2)
theorem logScan_zero {nb fr bl : Nat} {rd : Nat → List Int} {i : Nat} {found : List Int} {s : Js} (h : s.life = 0) (k : Nat) : logScan nb fr bl rd k i found s = s := by
 cases k with
 | zero => rfl
 | succ k =>
  unfold logScan
  cases hu : unZ (rd (fr + 1 + i)) with
  | none => rfl
  | some r =>
   obtain ⟨kd, l, c⟩ := r
   simp only
   rw [if_pos (by omega)]
theorem take_get {α : Type} {a b : List α} {i : Nat} (hab : ∃ c, b = a ++ c) (hi : i < a.length) : b[i]? = a[i]? := by
 obtain ⟨c, rfl⟩ := hab
 exact List.getElem?_append_left hi
theorem wantsL_take (ts : List Tn) (k : Nat) : ∃ c, wantsL ts = wantsL (ts.take k) ++ c := ⟨wantsL (ts.drop k), by unfold wantsL; rw [← List.flatMap_append, List.take_append_drop]⟩
theorem oldAt_other {fr bl l : Nat} {v : List Int} (hl0 : l ≠ 0) (e : OldAt fr bl l v) : Other l v := fun kd l' c hu => by
 unfold OldAt at e
 rw [if_neg hl0] at e
 exact e.not hl0 hu
theorem Hd.found {P : Nat → List Int → Prop} {nb fr bl l q : Nat} {base : Nat → List Int} {ts ex : List Tn} {k : Nat} (h : Hd P nb fr bl l q base ts ex k) (hnb : nb ≤ 524288) (hbl : fr + bl ≤ nb) {rd : Nat → List Int} (hrd : ∀ x, x < nb → P x (rd x)) :
  ∃ n, k ≤ n ∧ n ≤ ts.length ∧ logScan nb fr bl rd (bl - 1) 0 [] ⟨l, q, 0, fun _ => none⟩ = ⟨l, q + n, (wantsL (ts.take n)).length, aheadP (fun _ => none) (ts.take n).flatten⟩ ∧
   (∀ i, (wantsL (ts.take n)).length ≤ i → i < bl - 1 → otherAt fr bl l rd i = false) ∧ (∀ x, HomeB nb fr bl x → (aheadP (fun _ => none) (ts.take n).flatten x).getD (rd x) = after base (ts.take n) x) ∧
   Hd (fun x v => v = rd x) nb fr bl l q base (ts.take n) ((ts ++ ex).drop n) n := by
 have hP : ∀ i, i < bl - 1 → P (fr + 1 + i) (rd (fr + 1 + i)) := fun i hi => hrd _ (by omega)
 have hfit := h.fit
 have hno : ∀ i, i < bl - 1 → otherAt fr bl l rd i = false := fun i hi => by
  unfold otherAt
  rcases h.log i hi _ (hP i hi) with ⟨r, hr, e⟩ | e
  ·have ho := wantsL_ok h.good r (List.mem_of_getElem? hr)
   rw [e, rec_foreign ho.1 h.life ho.2.1 ho.2.2, Bool.and_false]
  ·unfold OldAt at e
   by_cases hl0 : l = 0
   ·subst hl0
    rw [if_pos rfl] at e
    have := e.foreign
    have h2 : foreign 0 (rd (fr + 1 + i)) = true → foreign 1099511627777 (rd (fr + 1 + i)) = true := by
     intro q
     unfold foreign at q ⊢
     simp [toCome] at q
     simp [q]
    cases hf : foreign 0 (rd (fr + 1 + i)) with
    | false => rw [Bool.and_false]
    | true =>
     rw [h2 hf] at this
     exact this
   ·rw [if_neg hl0] at e
    exact e.foreign
 have hhome : ∀ n, k ≤ n → n ≤ ts.length → ∀ x, HomeB nb fr bl x → (aheadP (fun _ => none) (ts.take n).flatten x).getD (rd x) = after base (ts.take n) x := fun n h1 h2 x hx => by
  rcases h.home x hx _ (hrd x hx.1) with e | ⟨e1, e2⟩
  ·rw [e]; rfl
  ·have : ts.take n = ts := List.take_of_length_le (by omega)
   rw [this, e2]
   unfold after
   cases aheadP (fun _ => none) ts.flatten x with
   | none => rfl
   | some v => rfl
 have htk : ∀ n, n ≤ ts.length → (ts ++ ex).take n = ts.take n := fun n hn => List.take_append_of_le_length hn
 have hall : ∀ n, n ≤ ts.length → ts.take n ++ (ts ++ ex).drop n = ts ++ ex := fun n hn => by rw [← htk n hn, List.take_append_drop]
 have hag : ∀ n, k ≤ n → n ≤ ts.length → Here l fr rd (wantsL (ts.take n)) 0 → (∀ t0 ex', (ts ++ ex).drop n = t0 :: ex' → ¬ Here l fr rd (wantsL (ts.take n ++ [t0])) 0) → Hd (fun x v => v = rd x) nb fr bl l q base (ts.take n) ((ts ++ ex).drop n) n := fun n h1 h2 hh hm => by
  have ha := hall n h2
  have hlog : ∀ i, i < bl - 1 → ∀ v, v = rd (fr + 1 + i) → (∃ r, (wantsL (ts ++ ex))[i]? = some r ∧ v = stampZ r.1 (l : Int) r.2) ∨ OldAt fr bl l v := fun i hi v e => by rw [e]; exact h.log i hi _ (hP i hi)
  obtain ⟨c, hc⟩ := wantsL_take (ts ++ ex) n
  rw [htk n h2] at hc
  refine ⟨h.life, by rw [ha]; exact h.seq, by rw [ha]; exact h.good, by rw [ha]; exact h.zero, by rw [ha]; exact h.fit, by rw [List.length_take]; omega, by rw [ha]; exact hlog, fun i hi v e => ?_, fun x hx v e => ?_, ?_⟩
  ·rw [List.take_take, Nat.min_self] at hi
   rw [ha]
   have hi2 : i < (wantsL (ts ++ ex)).length := by rw [hc, List.length_append]; omega
   rcases hlog i (by omega) v e with q | q
   ·exact q
   ·exfalso
    have hs := hh i _ (List.getElem?_eq_getElem hi)
    rw [Nat.zero_add, ← e] at hs
    by_cases hl0 : l = 0
    ·have := h.zero hl0
     rw [this] at hi2
     exact absurd hi2 (by simp [wantsL])
    ·exact hs.not (oldAt_other hl0 q)
  ·rcases h.home x hx _ (hrd x hx.1) with e2 | ⟨e1, e2⟩
   ·exact .inl (e.trans e2)
   ·refine .inr ⟨by rw [List.length_take]; omega, ?_⟩
    rw [List.take_of_length_le (by omega)]
    exact e.trans e2
  ·cases hd : (ts ++ ex).drop n with
   | nil => exact .inl rfl
   | cons t0 ex' =>
    refine .inr ⟨t0, ex', ?_⟩
    have hn := hm t0 ex' hd
    have : ∃ i r, (wantsL (ts.take n ++ [t0]))[i]? = some r ∧ ¬ Says l r (rd (fr + 1 + (0 + i))) := Classical.byContradiction fun q => hn (fun i r hr => Classical.byContradiction fun q2 => q ⟨i, r, hr, q2⟩)
    obtain ⟨i, r, hr, hs⟩ := this
    have hi := (List.getElem?_eq_some_iff.1 hr).1
    refine ⟨i, rfl, hi, fun v e => ?_⟩
    have hw : ∃ c, wantsL (ts ++ ex) = wantsL (ts.take n ++ [t0]) ++ c := ⟨wantsL ex', by
     rw [← ha, hd]
     unfold wantsL
     rw [← List.flatMap_append, List.append_assoc]
     rfl⟩
    have hi2 : i < (wantsL (ts ++ ex)).length := by
     obtain ⟨c, hc⟩ := hw
     rw [hc, List.length_append]
     omega
    rcases hlog i (by omega) v e with ⟨r', hr', e'⟩ | q
    ·exfalso
     rw [take_get hw hi, hr] at hr'
     cases hr'
     refine hs ?_
     rw [Nat.zero_add, ← e, e']
     exact says_stamp h.life (wantsL_ok h.good r (List.mem_of_getElem? (by rw [take_get hw hi]; exact hr)))
    ·exact q
 by_cases hl0 : l = 0
 ·have ht := h.zero hl0
  have ht1 : ts = [] := (List.append_eq_nil_iff.1 ht).1
  have ht2 : ex = [] := (List.append_eq_nil_iff.1 ht).2
  subst ht1
  subst ht2
  have hk := h.kle
  refine ⟨0, hk, Nat.zero_le _, ?_, fun i _ hi => hno i hi, hhome 0 hk (Nat.zero_le _), hag 0 hk (Nat.zero_le _) (fun t r hr => by simp [wantsL] at hr) (fun t0 ex' e => by simp at e)⟩
  rw [logScan_zero hl0]
  rfl
 ·obtain ⟨n, n1, n2, n3, n4⟩ := scan_begins (nb := nb) (fr := fr) (bl := bl) (rd := rd) hnb (ts ++ ex) 0 (bl - 1) ⟨l, q, 0, fun _ => none⟩ h.good hl0 rfl h.seq (fun t r hr => by
   have ht := (List.getElem?_eq_some_iff.1 hr).1
   rw [Nat.zero_add]
   rcases h.log t (by omega) _ (hP t (by omega)) with ⟨r', hr', e⟩ | e
   ·rw [hr] at hr'
    cases hr'
    rw [e]
    exact .inl (says_stamp h.life (wantsL_ok h.good r (List.mem_of_getElem? hr)))
   ·exact .inr (oldAt_other hl0 e)) (by omega) (fun t h1 h2 => by
   rw [Nat.zero_add]
   rcases h.log t h2 _ (hP t h2) with ⟨r', hr', _⟩ | e
   ·have := (List.getElem?_eq_some_iff.1 hr').1
    omega
   ·exact oldAt_other hl0 e)
  have hkt := h.kle
  have hkn : k ≤ n := n4 k (by rw [List.length_append]; omega) (fun t r hr => by
   rw [htk k hkt] at hr
   have ht := (List.getElem?_eq_some_iff.1 hr).1
   obtain ⟨c, hc⟩ := wantsL_take (ts ++ ex) k
   rw [htk k hkt] at hc
   have hle : (wantsL (ts.take k)).length ≤ (wantsL (ts ++ ex)).length := by rw [hc, List.length_append]; omega
   obtain ⟨r', hr', e⟩ := h.dur t ht _ (hP t (by omega))
   rw [take_get ⟨c, hc⟩ ht, hr] at hr'
   cases hr'
   rw [Nat.zero_add, e]
   exact says_stamp h.life (wantsL_ok h.good r (by rw [hc]; exact List.mem_append_left _ (List.mem_of_getElem? hr))))
  have hnt : n ≤ ts.length := by
   rcases h.stop with e | ⟨t0, ex', i, e, hi, ho⟩
   ·subst e
    simpa using n1
   ·refine Nat.le_of_not_lt fun hlt => ?_
    have hh : Here l fr rd (wantsL (ts ++ [t0])) 0 := by
     have e2 : (ts ++ ex).take n = ts ++ [t0] ++ ((ts ++ ex).drop (ts.length + 1)).take (n - (ts.length + 1)) := by
      rw [e]
      have : ts ++ t0 :: ex' = (ts ++ [t0]) ++ ex' := by simp
      rw [this, List.take_append, List.take_of_length_le (by simp; omega), List.drop_left' (by simp)]
      simp
     rw [e2] at n3
     unfold wantsL at n3 ⊢
     rw [List.flatMap_append] at n3
     exact (Here.append.1 n3).1
    have hs := hh i _ (List.getElem?_eq_getElem hi)
    rw [Nat.zero_add] at hs
    have hi2 : i < bl - 1 := by
     have : (wantsL (ts ++ ex)).length = (wantsL (ts ++ [t0])).length + (wantsL ex').length := by
      rw [e]
      have : ts ++ t0 :: ex' = (ts ++ [t0]) ++ ex' := by simp
      rw [this]
      unfold wantsL
      rw [List.flatMap_append, List.length_append]
     omega
    exact hs.not (oldAt_other hl0 (ho _ (hP i hi2)))
  rw [htk n hnt] at n2 n3
  refine ⟨n, hkn, hnt, ?_, fun i _ hi => hno i hi, hhome n hkn hnt, hag n hkn hnt n3 (fun t0 ex' e hh => ?_)⟩
  ·rw [n2, Nat.zero_add]
  ·have hle : n + 1 ≤ (ts ++ ex).length := by
    have := congrArg List.length e
    rw [List.length_drop, List.length_cons] at this
    omega
   have e3 : (ts ++ ex).take (n + 1) = ts.take n ++ [t0] := by
    rw [List.take_add, htk n hnt, e]
    rfl
   have := n4 (n + 1) hle (by rw [e3]; exact hh)
   omega
end Go.Proofs.YtldlejpacgphmaaGreat
namespace Go.Proofs.YtldlejpacgphmaaGreat
open Go.RowKit
theorem Hd.sub {P P' : Nat → List Int → Prop} {nb fr bl l q : Nat} {base : Nat → List Int} {ts ex : List Tn} {k : Nat} (h : Hd P nb fr bl l q base ts ex k) (hs : ∀ x v, x ≠ fr → P' x v → P x v) : Hd P' nb fr bl l q base ts ex k := by
 refine ⟨h.life, h.seq, h.good, h.zero, h.fit, h.kle, fun i hi v hv => h.log i hi v (hs _ v (by omega) hv), fun i hi v hv => h.dur i hi v (hs _ v (by omega) hv), fun x hx v hv => ?_, ?_⟩
 ·by_cases e : x = fr
  ·have := h.fit
   exact absurd ⟨by omega, by omega⟩ hx.2
  ·exact h.home x hx v (hs x v e hv)
 ·rcases h.stop with e | ⟨t0, ex', i, e1, e2, e3⟩
  ·exact .inl e
  ·exact .inr ⟨t0, ex', i, e1, e2, fun v hv => e3 v (hs _ v (by omega) hv)⟩
theorem Hd.lasts {P : Nat → List Int → Prop} {nb fr bl l q : Nat} {base : Nat → List Int} {ts ex : List Tn} {k : Nat} (h : Hd P nb fr bl l q base ts ex k) (hd : ∀ i r, (wantsL ts)[i]? = some r → ∀ v, P (fr + 1 + i) v → v = stampZ r.1 (l : Int) r.2) : Hd P nb fr bl l q base ts ex ts.length := by
 refine ⟨h.life, h.seq, h.good, h.zero, h.fit, Nat.le_refl _, h.log, fun i hi v hv => ?_, fun x hx v hv => ?_, h.stop⟩
 ·rw [List.take_length] at hi
  have e : (wantsL (ts ++ ex))[i]? = (wantsL ts)[i]? := take_get ⟨wantsL ex, by unfold wantsL; rw [List.flatMap_append]⟩ hi
  refine ⟨(wantsL ts)[i], by rw [e]; exact List.getElem?_eq_getElem hi, hd i _ (List.getElem?_eq_getElem hi) v hv⟩
 ·rcases h.home x hx v hv with e | e
  ·exact .inl e
  ·exact .inr ⟨rfl, e.2⟩
theorem Hd.homed {P P' : Nat → List Int → Prop} {nb fr bl l q : Nat} {base : Nat → List Int} {ts ex : List Tn} (h : Hd P nb fr bl l q base ts ex ts.length) (hs : ∀ x v, P' x v → P x v ∨ (HomeB nb fr bl x ∧ v = after base ts x)) : Hd P' nb fr bl l q base ts ex ts.length := by
 have hlg : ∀ i, i < bl - 1 → ∀ v, P' (fr + 1 + i) v → P (fr + 1 + i) v := fun i hi v hv => by
  rcases hs _ v hv with e | e
  ·exact e
  ·exact absurd ⟨by omega, by omega⟩ e.1.2
 have hfit := h.fit
 refine ⟨h.life, h.seq, h.good, h.zero, h.fit, h.kle, fun i hi v hv => h.log i hi v (hlg i hi v hv), fun i hi v hv => ?_, fun x hx v hv => ?_, ?_⟩
 ·have : (wantsL (ts.take ts.length)).length ≤ (wantsL (ts ++ ex)).length := by
   rw [List.take_length]
   unfold wantsL
   rw [List.flatMap_append, List.length_append]
   omega
  exact h.dur i hi v (hlg i (by omega) v hv)
 ·rcases hs x v hv with e | e
  ·exact h.home x hx v e
  ·exact .inr ⟨rfl, e.2⟩
 ·rcases h.stop with e | ⟨t0, ex', i, e1, e2, e3⟩
  ·exact .inl e
  ·refine .inr ⟨t0, ex', i, e1, e2, fun v hv => e3 v (hlg i ?_ v hv)⟩
   have : (wantsL (ts ++ ex)).length = (wantsL (ts ++ [t0])).length + (wantsL ex').length := by
    rw [e1]
    have : ts ++ t0 :: ex' = (ts ++ [t0]) ++ ex' := by simp
    rw [this]
    unfold wantsL
    rw [List.flatMap_append, List.length_append]
   omega
theorem OldAt.next {fr bl l l' : Nat} {v : List Int} (h : OldAt fr bl l v) (h1 : l ≠ 0) (h2 : l ≤ l') : OldAt fr bl l' v := by
 unfold OldAt at h ⊢
 rw [if_neg h1] at h
 rw [if_neg (by omega)]
 exact h.mono h2
theorem OldAt.none {fr bl l : Nat} {v : List Int} (h : OldAt fr bl l v) (h1 : l ≤ 1099511627776) : OldAt fr bl 0 v := by
 unfold OldAt at h ⊢
 rw [if_pos rfl]
 split at h
 ·exact h
 ·exact h.mono (by omega)
theorem oldAt_blank (fr bl l : Nat) : OldAt fr bl l (blankZ fr bl) := .inl rfl
theorem Hd.empty {P : Nat → List Int → Prop} {nb fr bl l q : Nat} {base : Nat → List Int} (hl : l ≤ 1099511627776) (hq : q ≤ 1099511627776) (hb : 1 ≤ bl) (ho : ∀ i, i < bl - 1 → ∀ v, P (fr + 1 + i) v → OldAt fr bl l v) (hh : ∀ x, HomeB nb fr bl x → ∀ v, P x v → v = base x) : Hd P nb fr bl l q base [] [] 0 :=
 ⟨hl, by simpa using hq, fun t ht => by simp at ht, fun _ => rfl, by simpa [wantsL] using hb, Nat.le_refl _, fun i hi v hv => .inr (ho i hi v hv), fun i hi v hv => by simp [wantsL] at hi, fun x hx v hv => .inl (hh x hx v hv), .inl rfl⟩
theorem Hd.next {P : Nat → List Int → Prop} {nb fr bl l q : Nat} {base : Nat → List Int} {ts ex : List Tn} {k : Nat} (h : Hd P nb fr bl l q base ts ex k) (hl0 : l ≠ 0) (hl : l < 1099511627776) (hh : ∀ x, HomeB nb fr bl x → ∀ v, P x v → v = after base ts x) : Hd P nb fr bl (l + 1) (q + ts.length) (after base ts) [] [] 0 := by
 have hq := h.seq
 have hf := h.fit
 rw [List.length_append] at hq
 refine Hd.empty (by omega) (by omega) (by omega) (fun i hi v hv => ?_) hh
 rcases h.log i hi v hv with ⟨r, hr, e⟩ | e
 ·have ho := wantsL_ok h.good r (List.mem_of_getElem? hr)
  rw [e]
  unfold OldAt
  rw [if_neg (by omega)]
  exact rec_old ho.1 h.life (by omega) ho.2.1 ho.2.2
 ·exact e.next hl0 (by omega)
theorem Hd.none {P : Nat → List Int → Prop} {nb fr bl l q : Nat} {base : Nat → List Int} {ts ex : List Tn} {k : Nat} (h : Hd P nb fr bl l q base ts ex k) (hh : ∀ x, HomeB nb fr bl x → ∀ v, P x v → v = after base ts x) : Hd P nb fr bl 0 (q + ts.length) (after base ts) [] [] 0 := by
 have hq := h.seq
 have hf := h.fit
 have hlf := h.life
 rw [List.length_append] at hq
 refine Hd.empty (by omega) (by omega) (by omega) (fun i hi v hv => ?_) hh
 rcases h.log i hi v hv with ⟨r, hr, e⟩ | e
 ·have ho := wantsL_ok h.good r (List.mem_of_getElem? hr)
  rw [e]
  unfold OldAt
  rw [if_pos rfl]
  exact rec_old ho.1 h.life (by omega) ho.2.1 ho.2.2
 ·exact e.none hlf
theorem Hd.more {P : Nat → List Int → Prop} {nb fr bl l q : Nat} {base : Nat → List Int} {ts : List Tn} {k : Nat} (h : Hd P nb fr bl l q base ts [] k) (hl0 : l ≠ 0) (hh : ∀ x, HomeB nb fr bl x → ∀ v, P x v → v = base x) {t : Tn} (ht : GoodT nb fr bl t) (hq : q + ts.length + 1 ≤ 1099511627776) (hf : (wantsL (ts ++ [t])).length + 1 ≤ bl) : Hd P nb fr bl l q base (ts ++ [t]) [] k := by
 have e0 : ∀ i r, (wantsL (ts ++ []))[i]? = some r → (wantsL (ts ++ [t] ++ []))[i]? = some r := fun i r hr => by
  rw [List.append_nil] at hr ⊢
  have hi := (List.getElem?_eq_some_iff.1 hr).1
  rw [take_get ⟨txRecs t, wantsL_snoc ts t⟩ hi]
  exact hr
 refine ⟨h.life, by simp; omega, fun x hx => ?_, fun e => absurd e hl0, by simpa using hf, by have := h.kle; simp; omega, fun i hi v hv => ?_, fun i hi v hv => ?_, fun x hx v hv => .inl (hh x hx v hv), .inl rfl⟩
 ·simp at hx
  rcases hx with hx | hx
  ·exact h.good x (by simp [hx])
  ·rw [hx]; exact ht
 ·rcases h.log i hi v hv with ⟨r, hr, e⟩ | e
  ·exact .inl ⟨r, e0 i r hr, e⟩
  ·exact .inr e
 ·rw [List.take_append_of_le_length h.kle] at hi
  obtain ⟨r, hr, e⟩ := h.dur i hi v hv
  exact ⟨r, e0 i r hr, e⟩
theorem Hd.record {P P' : Nat → List Int → Prop} {nb fr bl l q : Nat} {base : Nat → List Int} {ts : List Tn} {k : Nat} (h : Hd P nb fr bl l q base ts [] k) (hs : ∀ x v, P' x v → P x v ∨ ∃ i r, x = fr + 1 + i ∧ (wantsL ts)[i]? = some r ∧ v = stampZ r.1 (l : Int) r.2) : Hd P' nb fr bl l q base ts [] k := by
 have hfit := h.fit
 rw [List.append_nil] at hfit
 refine ⟨h.life, h.seq, h.good, h.zero, h.fit, h.kle, fun i hi v hv => ?_, fun i hi v hv => ?_, fun x hx v hv => ?_, .inl rfl⟩
 ·rcases hs _ v hv with e | ⟨i', r, e1, e2, e3⟩
  ·exact h.log i hi v e
  ·have : i = i' := by omega
   subst this
   exact .inl ⟨r, by rw [List.append_nil]; exact e2, e3⟩
 ·rcases hs _ v hv with e | ⟨i', r, e1, e2, e3⟩
  ·exact h.dur i hi v e
  ·have : i = i' := by omega
   subst this
   exact ⟨r, by rw [List.append_nil]; exact e2, e3⟩
 ·rcases hs _ v hv with e | ⟨i', r, e1, e2, e3⟩
  ·exact h.home x hx v e
  ·have := (List.getElem?_eq_some_iff.1 e2).1
   exact absurd ⟨by omega, by omega⟩ hx.2
end Go.Proofs.YtldlejpacgphmaaGreat
namespace Go.Proofs.YtldlejpacgphmaaGreat
open Go.RowKit
def Step (nb : Nat) (Gp : (Nat → List Int → Prop) → Prop) (I : Pd → Prop) (cs : List Cmd) (J : Pd → Prop) : Prop :=
 ∀ d : Pd, d.Fits nb → I d → Gp (d.runs cs).2.poss ∧ ((d.runs cs).1 = 0 → J (d.runs cs).2 ∧ (d.runs cs).2.Fits nb)
theorem Step.nil {nb : Nat} {Gp : (Nat → List Int → Prop) → Prop} {I : Pd → Prop} (h : ∀ d : Pd, d.Fits nb → I d → Gp d.poss) : Step nb Gp I [] I := fun d hf hi => ⟨h d hf hi, fun _ => ⟨hi, hf⟩⟩
theorem Step.seq {nb : Nat} {Gp : (Nat → List Int → Prop) → Prop} {I J K : Pd → Prop} {a b : List Cmd} (h : Step nb Gp I a J) (k : Step nb Gp J b K) : Step nb Gp I (a ++ b) K := fun d hf hi => by
 obtain ⟨h1, h2⟩ := h d hf hi
 by_cases hc : (d.runs a).1 = 0
 ·obtain ⟨h3, h4⟩ := h2 hc
  have := k _ h4 h3
  rw [Pd.runs_append, if_pos hc]
  exact this
 ·rw [Pd.runs_append, if_neg hc]
  exact ⟨h1, fun q => absurd q hc⟩
theorem Step.one {nb : Nat} {Gp : (Nat → List Int → Prop) → Prop} {I J : Pd → Prop} {c : Cmd} (hc : c.Ok nb) (hI : ∀ d : Pd, d.Fits nb → I d → Gp d.poss) (h : ∀ d : Pd, d.Fits nb → I d → (d.run1 c).1 = 0 → J (d.run1 c).2) (hJ : ∀ d : Pd, d.Fits nb → J d → Gp d.poss) : Step nb Gp I [c] J := fun d hf hi => by
 rw [Pd.runs_one]
 rcases d.run1_code c with ⟨h1, _⟩ | ⟨h1, h2⟩
 ·have hj := h d hf hi h1
  exact ⟨hJ _ (hf.run1 hc) hj, fun _ => ⟨hj, hf.run1 hc⟩⟩
 ·rw [h2]
  exact ⟨hI d hf hi, fun q => by omega⟩
theorem Step.mono {nb : Nat} {Gp : (Nat → List Int → Prop) → Prop} {I I' J J' : Pd → Prop} {cs : List Cmd} (h : Step nb Gp I cs J) (hI : ∀ d, I' d → I d) (hJ : ∀ d, J d → J' d) : Step nb Gp I' cs J' := fun d hf hi => by
 obtain ⟨h1, h2⟩ := h d hf (hI d hi)
 exact ⟨h1, fun q => ⟨hJ _ (h2 q).1, (h2 q).2⟩⟩
theorem Step.each {nb : Nat} {Gp : (Nat → List Int → Prop) → Prop} {cs : List Cmd} {I : Nat → Pd → Prop} (hG : ∀ k (d : Pd), d.Fits nb → I k d → Gp d.poss) (h : ∀ k c, cs[k]? = some c → c.Ok nb ∧ ∀ d : Pd, d.Fits nb → I k d → (d.run1 c).1 = 0 → I (k + 1) (d.run1 c).2) : Step nb Gp (I 0) cs (I cs.length) := by
 induction cs generalizing I with
 | nil => exact Step.nil (hG 0)
 | cons c cs ih =>
  have h0 := h 0 c rfl
  have h1 : Step nb Gp (I 0) [c] (I 1) := Step.one h0.1 (hG 0) h0.2 (hG 1)
  have h2 := ih (I := fun k => I (k + 1)) (fun k => hG (k + 1)) (fun k c' hc => h (k + 1) c' (by simpa using hc))
  exact h1.seq h2
def G (P : Nat → List Int → Prop) (nb fr bl lo hi : Nat) (cont : Nat → Nat → List Int) : Prop :=
 ∀ v, P fr v → ∃ l q base ts ex k, v = headZ fr bl l q ∧ Hd P nb fr bl l q base ts ex k ∧ ∀ n, k ≤ n → n ≤ ts.length → lo ≤ q + n ∧ q + n ≤ hi ∧ ∀ x, HomeB nb fr bl x → after base (ts.take n) x = cont (q + n) x
structure Sole (d : Pd) (nb fr bl l q : Nat) (base : Nat → List Int) (ts ex : List Tn) (k lo hi : Nat) (cont : Nat → Nat → List Int) : Prop where
 hd : Hd d.poss nb fr bl l q base ts ex k
 head : ∀ v, d.poss fr v → v = headZ fr bl l q
 cont : ∀ n, k ≤ n → n ≤ ts.length → lo ≤ q + n ∧ q + n ≤ hi ∧ ∀ x, HomeB nb fr bl x → after base (ts.take n) x = cont (q + n) x
theorem Sole.g {d : Pd} {nb fr bl l q : Nat} {base : Nat → List Int} {ts ex : List Tn} {k lo hi : Nat} {cont : Nat → Nat → List Int} (h : Sole d nb fr bl l q base ts ex k lo hi cont) : G d.poss nb fr bl lo hi cont := fun v hv => ⟨l, q, base, ts, ex, k, h.head v hv, h.hd, h.cont⟩
theorem Sole.flush {d : Pd} {nb fr bl l q : Nat} {base : Nat → List Int} {ts ex : List Tn} {k lo hi : Nat} {cont : Nat → Nat → List Int} (h : Sole d nb fr bl l q base ts ex k lo hi cont) (hf : d.Fits nb) (hr : ∀ i r, (wantsL ts)[i]? = some r → d.read (fr + 1 + i) = stampZ r.1 (l : Int) r.2) (hc : (d.run1 .fl).1 = 0) : Sole (d.run1 .fl).2 nb fr bl l q base ts ex ts.length lo hi cont := by
 have hs : ∀ x v, (d.run1 .fl).2.poss x v → d.poss x v := fun x v hv => by
  rw [(Pd.poss_fl hf hc x v).1 hv]
  exact d.poss_read x
 refine ⟨(h.hd.sub (fun x v _ q => hs x v q)).lasts (fun i r hi v hv => ?_), fun v hv => h.head v (hs fr v hv), fun n h1 h2 => h.cont n (by have := h.hd.kle; omega) h2⟩
 rw [(Pd.poss_fl hf hc _ v).1 hv]
 exact hr i r hi
theorem home_of {nb fr bl : Nat} {ts : List Tn} (hg : ∀ t ∈ ts, GoodT nb fr bl t) {x : Nat} (hx : (aheadP (fun _ => none) ts.flatten x).isSome = true) : HomeB nb fr bl x ∧ ∃ zs, aheadP (fun _ => none) ts.flatten x = some zs ∧ zs.length = 512 ∧ Pl.isB zs := by
 have key : ∀ (ps : Tn) (ah : Nat → Option (List Int)), aheadP ah ps x = ah x ∨ ∃ p ∈ ps, p.1 = x ∧ aheadP ah ps x = some p.2 := by
  intro ps
  induction ps with
  | nil => intro ah; exact .inl rfl
  | cons p ps ih =>
   intro ah
   have e : aheadP ah (p :: ps) = aheadP (fun y => if y = p.1 then some p.2 else ah y) ps := rfl
   rw [e]
   rcases ih (fun y => if y = p.1 then some p.2 else ah y) with h | ⟨p', h1, h2, h3⟩
   ·by_cases ex : x = p.1
    ·rw [h]
     exact .inr ⟨p, by simp, ex.symm, if_pos ex⟩
    ·rw [h]
     exact .inl (if_neg ex)
   ·exact .inr ⟨p', by simp [h1], h2, h3⟩
 rcases key ts.flatten (fun _ => none) with h | ⟨p, h1, h2, h3⟩
 ·rw [h] at hx
  cases hx
 ·obtain ⟨t, ht, hp⟩ := List.mem_flatten.1 h1
  obtain ⟨q1, q2, q3, q4⟩ := hg t ht p hp
  subst h2
  refine ⟨⟨q1, fun q => ?_⟩, p.2, h3, q3, q4⟩
  unfold homeC at q2
  rw [if_pos (by omega)] at q2
  cases q2
end Go.Proofs.YtldlejpacgphmaaGreat
namespace Go.Proofs.YtldlejpacgphmaaGreat
open Go.RowKit
theorem G.mono {P : Nat → List Int → Prop} {nb fr bl lo hi lo' hi' : Nat} {cont : Nat → Nat → List Int} (h : G P nb fr bl lo hi cont) (h1 : lo' ≤ lo) (h2 : hi ≤ hi') : G P nb fr bl lo' hi' cont := fun v hv => by
 obtain ⟨l, q, base, ts, ex, k, e1, e2, e3⟩ := h v hv
 exact ⟨l, q, base, ts, ex, k, e1, e2, fun n n1 n2 => ⟨by have := (e3 n n1 n2).1; omega, by have := (e3 n n1 n2).2.1; omega, (e3 n n1 n2).2.2⟩⟩
structure Two (d : Pd) (nb fr bl l q : Nat) (base : Nat → List Int) (ts ex : List Tn) (k lo hi : Nat) (cont : Nat → Nat → List Int) (l2 q2 : Nat) (base2 : Nat → List Int) : Prop where
 hd : Hd d.poss nb fr bl l q base ts ex k
 con : ∀ n, k ≤ n → n ≤ ts.length → lo ≤ q + n ∧ q + n ≤ hi ∧ ∀ x, HomeB nb fr bl x → after base (ts.take n) x = cont (q + n) x
 hd2 : Hd d.poss nb fr bl l2 q2 base2 [] [] 0
 con2 : lo ≤ q2 ∧ q2 ≤ hi ∧ ∀ x, HomeB nb fr bl x → base2 x = cont q2 x
 head : ∀ v, d.poss fr v → v = headZ fr bl l q ∨ v = headZ fr bl l2 q2
 rd : d.read fr = headZ fr bl l2 q2
theorem Two.g {d : Pd} {nb fr bl l q : Nat} {base : Nat → List Int} {ts ex : List Tn} {k lo hi : Nat} {cont : Nat → Nat → List Int} {l2 q2 : Nat} {base2 : Nat → List Int} (h : Two d nb fr bl l q base ts ex k lo hi cont l2 q2 base2) : G d.poss nb fr bl lo hi cont := fun v hv => by
 rcases h.head v hv with e | e
 ·exact ⟨l, q, base, ts, ex, k, e, h.hd, h.con⟩
 ·refine ⟨l2, q2, base2, [], [], 0, e, h.hd2, fun n _ n2 => ?_⟩
  have : n = 0 := by simpa using n2
  subst this
  exact ⟨h.con2.1, h.con2.2.1, h.con2.2.2⟩
theorem Two.flush {d : Pd} {nb fr bl l q : Nat} {base : Nat → List Int} {ts ex : List Tn} {k lo hi : Nat} {cont : Nat → Nat → List Int} {l2 q2 : Nat} {base2 : Nat → List Int} (h : Two d nb fr bl l q base ts ex k lo hi cont l2 q2 base2) (hf : d.Fits nb) (hc : (d.run1 .fl).1 = 0) : Sole (d.run1 .fl).2 nb fr bl l2 q2 base2 [] [] 0 q2 q2 cont := by
 have hs : ∀ x v, (d.run1 .fl).2.poss x v → d.poss x v := fun x v hv => by
  rw [(Pd.poss_fl hf hc x v).1 hv]
  exact d.poss_read x
 refine ⟨h.hd2.sub (fun x v _ q => hs x v q), fun v hv => by rw [(Pd.poss_fl hf hc fr v).1 hv]; exact h.rd, fun n _ n2 => ?_⟩
 have : n = 0 := by simpa using n2
 subst this
 exact ⟨Nat.le_refl _, Nat.le_refl _, h.con2.2.2⟩
theorem Sole.two {d : Pd} {nb fr bl l q : Nat} {base : Nat → List Int} {ts ex : List Tn} {k lo hi : Nat} {cont : Nat → Nat → List Int} (h : Sole d nb fr bl l q base ts ex k lo hi cont) {l2 q2 : Nat} {base2 : Nat → List Int} (h2 : Hd d.poss nb fr bl l2 q2 base2 [] [] 0) (c2 : lo ≤ q2 ∧ q2 ≤ hi ∧ ∀ x, HomeB nb fr bl x → base2 x = cont q2 x) (hc : (d.run1 (.wr fr (headZ fr bl l2 q2))).1 = 0) : Two (d.run1 (.wr fr (headZ fr bl l2 q2))).2 nb fr bl l q base ts ex k lo hi cont l2 q2 base2 := by
 have hs : ∀ x v, x ≠ fr → (d.run1 (.wr fr (headZ fr bl l2 q2))).2.poss x v → d.poss x v := fun x v hx hv => by
  rcases (Pd.poss_wr hc x v).1 hv with e | e
  ·exact e
  ·exact absurd e.1 hx
 refine ⟨h.hd.sub hs, h.cont, h2.sub hs, c2, fun v hv => ?_, by rw [Pd.read_wr hc, if_pos rfl]⟩
 rcases (Pd.poss_wr hc fr v).1 hv with e | e
 ·exact .inl (h.head v e)
 ·exact .inr e.2
theorem ok_head {nb fr bl l q : Nat} (h : fr < nb) : (Cmd.wr fr (headZ fr bl l q)).Ok nb := ⟨h, length_stampZ (by rw [len_packH]; decide), isB_stampZ (by decide) (isB_packZ _)⟩
theorem ok_blank {nb fr bl x : Nat} (h : x < nb) : (Cmd.wr x (blankZ fr bl)).Ok nb := ⟨h, length_stampZ (by simp [blankB, packZ, Pl.dig]), isB_stampZ (by decide) (isB_packZ _)⟩
def Placed (d : Pd) (nb fr bl : Nat) (base2 : Nat → List Int) : Prop := ∀ x, HomeB nb fr bl x → ∀ v, d.poss x v → v = base2 x
theorem home_step {nb fr bl l q : Nat} {base : Nat → List Int} {ts ex : List Tn} {lo hi : Nat} {cont : Nat → Nat → List Int} (hbl : 1 ≤ bl) (hg : ∀ t ∈ ts, GoodT nb fr bl t) :
  Step nb (fun P => G P nb fr bl lo hi cont) (fun d => Sole d nb fr bl l q base ts ex ts.length lo hi cont) (homeCmds nb (aheadP (fun _ => none) ts.flatten) ++ [.fl]) (fun d => Sole d nb fr bl l q base ts ex ts.length lo hi cont ∧ (∀ i r, (wantsL ts)[i]? = some r → d.read (fr + 1 + i) = stampZ r.1 (l : Int) r.2) ∧ Placed d nb fr bl (after base ts)) := by
 have hrl : ∀ d : Pd, Sole d nb fr bl l q base ts ex ts.length lo hi cont → ∀ i r, (wantsL ts)[i]? = some r → d.read (fr + 1 + i) = stampZ r.1 (l : Int) r.2 := fun d h i r hr => by
  have hi := (List.getElem?_eq_some_iff.1 hr).1
  obtain ⟨r', hr', e⟩ := h.hd.dur i (by rw [List.take_length]; exact hi) _ (d.poss_read _)
  rw [take_get ⟨wantsL ex, by unfold wantsL; rw [List.flatMap_append]⟩ hi, hr] at hr'
  cases hr'
  exact e
 have s1 : Step nb (fun P => G P nb fr bl lo hi cont) (fun d => Sole d nb fr bl l q base ts ex ts.length lo hi cont ∧ ∀ m, m < 0 → ∀ x, (homeKeys nb (aheadP (fun _ => none) ts.flatten))[m]? = some x → d.read x = after base ts x) (homeCmds nb (aheadP (fun _ => none) ts.flatten)) (fun d => Sole d nb fr bl l q base ts ex ts.length lo hi cont ∧ ∀ m, m < (homeCmds nb (aheadP (fun _ => none) ts.flatten)).length → ∀ x, (homeKeys nb (aheadP (fun _ => none) ts.flatten))[m]? = some x → d.read x = after base ts x) := by
  refine Step.each (I := fun j d => Sole d nb fr bl l q base ts ex ts.length lo hi cont ∧ ∀ m, m < j → ∀ x, (homeKeys nb (aheadP (fun _ => none) ts.flatten))[m]? = some x → d.read x = after base ts x) (fun k d hf h => h.1.g) (fun k c hc => ?_)
  unfold homeCmds at hc
  rw [List.getElem?_map] at hc
  cases hx : (homeKeys nb (aheadP (fun _ => none) ts.flatten))[k]? with
  | none => rw [hx] at hc; cases hc
  | some x =>
   rw [hx] at hc
   simp only [Option.map_some, Option.some.injEq] at hc
   subst hc
   have hm := mem_homeKeys.1 (List.mem_of_getElem? hx)
   obtain ⟨hH, zs, hz, hz1, hz2⟩ := home_of hg hm.2
   have hxf : x ≠ fr := fun e => hH.2 (by omega)
   have haf : after base ts x = zs := by unfold after; rw [hz]; rfl
   rw [hz]
   refine ⟨⟨hH.1, hz1, hz2⟩, fun d hf h hc => ⟨⟨h.1.hd.homed (fun y v hv => ?_), fun v hv => ?_, h.1.cont⟩, fun m hm y hy => ?_⟩⟩
   ·rcases (Pd.poss_wr hc y v).1 hv with e | e
    ·exact .inl e
    ·exact .inr ⟨by rw [e.1]; exact hH, by rw [e.1, e.2, haf]; rfl⟩
   ·rcases (Pd.poss_wr hc fr v).1 hv with e | e
    ·exact h.1.head v e
    ·exact absurd e.1.symm hxf
   ·rw [Pd.read_wr hc]
    by_cases e : x = y
    ·rw [if_pos e, ← e, haf]; rfl
    ·rw [if_neg e]
     by_cases em : m = k
     ·rw [em, hx] at hy
      cases hy
      exact absurd rfl e
     ·exact h.2 m (by omega) y hy
 refine Step.seq (s1.mono (fun d h => ⟨h, fun m hm => by omega⟩) (fun d h => h)) (Step.one trivial (fun d hf h => h.1.g) (fun d hf h hc => ?_) (fun d hf h => h.1.g))
 have hfl := h.1.flush hf (hrl d h.1) hc
 refine ⟨hfl, hrl _ hfl, fun x hx v hv => ?_⟩
 rw [(Pd.poss_fl hf hc x v).1 hv]
 cases ha : aheadP (fun _ => none) ts.flatten x with
 | none =>
  have e : after base ts x = base x := by unfold after; rw [ha]; rfl
  rcases h.1.hd.home x hx _ (d.poss_read x) with q | q
  ·rw [q, e]
  ·exact q.2
 | some zs =>
  have hk : x ∈ homeKeys nb (aheadP (fun _ => none) ts.flatten) := mem_homeKeys.2 ⟨hx.1, by rw [ha]; rfl⟩
  obtain ⟨m, hm⟩ := List.mem_iff_getElem?.1 hk
  refine h.2 m ?_ x hm
  unfold homeCmds
  rw [List.length_map]
  exact (List.getElem?_eq_some_iff.1 hm).1
end Go.Proofs.YtldlejpacgphmaaGreat
