import Derived.Test.YtldlejpacgphmaaGreatG25
namespace Go.Proofs.YtldlejpacgphmaaGreat
open Go.RowKit
theorem Placed.fl {d : Pd} {nb fr bl : Nat} {base2 : Nat → List Int} (h : Placed d nb fr bl base2) (hf : d.Fits nb) (hc : (d.run1 .fl).1 = 0) : Placed (d.run1 .fl).2 nb fr bl base2 := fun x hx v hv => by
 rw [(Pd.poss_fl hf hc x v).1 hv]
 exact h x hx _ (d.poss_read x)
theorem Placed.wr {d : Pd} {nb fr bl : Nat} {base2 : Nat → List Int} (h : Placed d nb fr bl base2) {y : Nat} {zs : List Int} (hy : fr ≤ y ∧ y < fr + bl) (hc : (d.run1 (.wr y zs)).1 = 0) : Placed (d.run1 (.wr y zs)).2 nb fr bl base2 := fun x hx v hv => by
 rcases (Pd.poss_wr hc x v).1 hv with e | e
 ·exact h x hx v e
 ·exact absurd (by rw [e.1]; exact hy) hx.2
def Empty (d : Pd) (nb fr bl l q : Nat) (base2 : Nat → List Int) (cont : Nat → Nat → List Int) : Prop := Sole d nb fr bl l q base2 [] [] 0 q q cont ∧ Placed d nb fr bl base2
theorem head_step {nb fr bl l q : Nat} {base : Nat → List Int} {ts ex : List Tn} {k lo hi : Nat} {cont : Nat → Nat → List Int} (hfr : fr < nb) (hbl : 1 ≤ bl) {l2 q2 : Nat} {base2 : Nat → List Int} {I : Pd → Prop} (hI : ∀ d, I d → Sole d nb fr bl l q base ts ex k lo hi cont ∧ Placed d nb fr bl base2 ∧ Hd d.poss nb fr bl l2 q2 base2 [] [] 0) (c2 : lo ≤ q2 ∧ q2 ≤ hi ∧ ∀ x, HomeB nb fr bl x → base2 x = cont q2 x) :
  Step nb (fun P => G P nb fr bl lo hi cont) I ([.wr fr (headZ fr bl l2 q2)] ++ [.fl]) (fun d => Empty d nb fr bl l2 q2 base2 cont) := by
 refine Step.seq (J := fun d => Two d nb fr bl l q base ts ex k lo hi cont l2 q2 base2 ∧ Placed d nb fr bl base2) (Step.one (ok_head hfr) (fun d _ h => (hI d h).1.g) (fun d hf h hc => ?_) (fun d _ h => h.1.g)) (Step.one trivial (fun d _ h => h.1.g) (fun d hf h hc => ⟨h.1.flush hf hc, h.2.fl hf hc⟩) (fun d _ h => h.1.g.mono c2.1 c2.2.1))
 obtain ⟨h1, h2, h3⟩ := hI d h
 exact ⟨h1.two h3 c2 hc, h2.wr ⟨Nat.le_refl _, by omega⟩ hc⟩
theorem go_step {nb fr bl q : Nat} {base : Nat → List Int} {ts ex : List Tn} {lo hi : Nat} {cont : Nat → Nat → List Int} (s : Js) (hfit : fr + bl ≤ nb) (hbl : 1 ≤ bl) (hq : s.seq = q + ts.length) (hq2 : s.seq ≤ 1099511627776) (c2 : lo ≤ s.seq ∧ s.seq ≤ hi ∧ ∀ x, HomeB nb fr bl x → after base ts x = cont s.seq x) :
  Step nb (fun P => G P nb fr bl lo hi cont) (fun d => Sole d nb fr bl s.life q base ts ex ts.length lo hi cont ∧ Placed d nb fr bl (after base ts)) (goCmds fr bl s ++ [.fl]) (fun d => Empty d nb fr bl (goS s).life s.seq (after base ts) cont) := by
 unfold goCmds goS
 by_cases hc : s.life ≠ 0 ∧ s.life < 1099511627776
 ·rw [if_pos hc, if_pos hc]
  refine head_step (by omega) hbl (fun d h => ⟨h.1, h.2, ?_⟩) c2
  rw [hq]
  exact h.1.hd.next hc.1 hc.2 h.2
 ·rw [if_neg hc, if_neg hc]
  have e : ([.wr fr (headZ fr bl 0 s.seq)] ++ [.fl] ++ wipes fr bl (fr + 1) (bl - 1) ++ [.fl] ++ [.wr fr (headZ fr bl 1 s.seq)]) ++ [.fl] = ([.wr fr (headZ fr bl 0 s.seq)] ++ [.fl]) ++ (wipes fr bl (fr + 1) (bl - 1) ++ ([Cmd.fl] ++ ([.wr fr (headZ fr bl 1 s.seq)] ++ [.fl]))) := by simp
  rw [e]
  have gE : ∀ l2 (d : Pd), Empty d nb fr bl l2 s.seq (after base ts) cont → G d.poss nb fr bl lo hi cont := fun l2 d h => h.1.g.mono c2.1 c2.2.1
  have hc0 : s.seq ≤ s.seq ∧ s.seq ≤ s.seq ∧ ∀ x, HomeB nb fr bl x → after base ts x = cont s.seq x := ⟨Nat.le_refl _, Nat.le_refl _, c2.2.2⟩
  refine Step.seq (head_step (l2 := 0) (q2 := s.seq) (by omega) hbl (fun d h => ⟨h.1, h.2, by rw [hq]; exact h.1.hd.none h.2⟩) c2) ?_
  have hwl : (wipes fr bl (fr + 1) (bl - 1)).length = bl - 1 := by simp [wipes]
  refine Step.seq (J := fun d => Empty d nb fr bl 0 s.seq (after base ts) cont ∧ ∀ m, m < (wipes fr bl (fr + 1) (bl - 1)).length → d.read (fr + 1 + m) = blankZ fr bl) (Step.mono (Step.each (I := fun j d => Empty d nb fr bl 0 s.seq (after base ts) cont ∧ ∀ m, m < j → d.read (fr + 1 + m) = blankZ fr bl) (fun k d _ h => gE 0 d h.1) (fun k c hk => ?_)) (fun d h => ⟨h, fun m hm => by omega⟩) (fun d h => h)) ?_
  ·unfold wipes at hk
   rw [List.getElem?_map] at hk
   cases hx : (List.range (bl - 1))[k]? with
   | none => rw [hx] at hk; cases hk
   | some x =>
    rw [hx] at hk
    simp only [Option.map_some, Option.some.injEq] at hk
    obtain ⟨hkl, hkx⟩ := List.getElem?_eq_some_iff.1 hx
    rw [List.getElem_range] at hkx
    rw [List.length_range] at hkl
    subst hkx
    subst hk
    refine ⟨ok_blank (by omega), fun d hf h hcc => ⟨⟨⟨?_, fun v hv => ?_, h.1.1.cont⟩, h.1.2.wr ⟨by omega, by omega⟩ hcc⟩, fun m hm => ?_⟩⟩
    ·refine Hd.empty (by omega) hq2 hbl (fun i hi v hv => ?_) (h.1.2.wr ⟨by omega, by omega⟩ hcc)
     rcases (Pd.poss_wr hcc _ v).1 hv with e | e
     ·rcases h.1.1.hd.log i hi v e with ⟨r, hr, _⟩ | e
      ·simp [wantsL] at hr
      ·exact e
     ·rw [e.2]
      exact oldAt_blank fr bl 0
    ·rcases (Pd.poss_wr hcc fr v).1 hv with e | e
     ·exact h.1.1.head v e
     ·omega
    ·rw [Pd.read_wr hcc]
     by_cases em : m = k
     ·rw [em, if_pos rfl]
     ·rw [if_neg (by omega)]
      exact h.2 m (by omega)
  ·rw [hwl]
   refine Step.seq (J := fun d => Empty d nb fr bl 0 s.seq (after base ts) cont ∧ ∀ i, i < bl - 1 → ∀ v, d.poss (fr + 1 + i) v → v = blankZ fr bl) (Step.one trivial (fun d _ h => gE 0 d h.1) (fun d hf h hcc => ⟨⟨h.1.1.flush hf (fun i r hr => by simp [wantsL] at hr) hcc, h.1.2.fl hf hcc⟩, fun i hi v hv => ?_⟩) (fun d _ h => gE 0 d h.1)) ?_
   ·rw [(Pd.poss_fl hf hcc _ v).1 hv]
    exact h.2 i hi
   ·have hst := head_step (nb := nb) (fr := fr) (bl := bl) (l := 0) (q := s.seq) (base := after base ts) (ts := []) (ex := []) (k := 0) (lo := s.seq) (hi := s.seq) (cont := cont) (l2 := 1) (q2 := s.seq) (base2 := after base ts) (I := fun d => Empty d nb fr bl 0 s.seq (after base ts) cont ∧ ∀ i, i < bl - 1 → ∀ v, d.poss (fr + 1 + i) v → v = blankZ fr bl) (by omega) hbl (fun d h => ⟨h.1.1, h.1.2, Hd.empty (by omega) hq2 hbl (fun i hi v hv => by rw [h.2 i hi v hv]; exact oldAt_blank fr bl 1) h.1.2⟩) hc0
    exact fun d hf h => ⟨(hst d hf h).1.mono c2.1 c2.2.1, (hst d hf h).2⟩
theorem settle_step {nb fr bl q : Nat} {base : Nat → List Int} {ts ex : List Tn} {k lo hi : Nat} {cont : Nat → Nat → List Int} (s : Js) (hfit : fr + bl ≤ nb) (hbl : 1 ≤ bl) (hg : ∀ t ∈ ts, GoodT nb fr bl t) (hq : s.seq = q + ts.length) (hq2 : s.seq ≤ 1099511627776) (hah : s.ah = aheadP (fun _ => none) ts.flatten) (c2 : lo ≤ s.seq ∧ s.seq ≤ hi ∧ ∀ x, HomeB nb fr bl x → after base ts x = cont s.seq x) :
  Step nb (fun P => G P nb fr bl lo hi cont) (fun d => Sole d nb fr bl s.life q base ts ex k lo hi cont ∧ ∀ i r, (wantsL ts)[i]? = some r → d.read (fr + 1 + i) = stampZ r.1 (s.life : Int) r.2) (settleCmds nb fr bl s) (fun d => Empty d nb fr bl (goS s).life s.seq (after base ts) cont) := by
 unfold settleCmds
 have e : [Cmd.fl] ++ homeCmds nb s.ah ++ [.fl] ++ goCmds fr bl s ++ [.fl] = [Cmd.fl] ++ ((homeCmds nb s.ah ++ [.fl]) ++ (goCmds fr bl s ++ [.fl])) := by simp
 rw [e, hah]
 refine Step.seq (J := fun d => Sole d nb fr bl s.life q base ts ex ts.length lo hi cont) (Step.one trivial (fun d _ h => h.1.g) (fun d hf h hc => h.1.flush hf h.2 hc) (fun d _ h => h.g)) ?_
 exact Step.seq ((home_step hbl hg).mono (fun d h => h) (fun d h => ⟨h.1, h.2.2⟩)) (go_step s hfit hbl hq hq2 c2)
end Go.Proofs.YtldlejpacgphmaaGreat
namespace Go.Proofs.YtldlejpacgphmaaGreat
open Go.RowKit
theorem aheadP_or (ah : Nat → Option (List Int)) (ps : Tn) (x : Nat) : aheadP ah ps x = (aheadP (fun _ => none) ps x).or (ah x) := by
 induction ps generalizing ah with
 | nil => rfl
 | cons p ps ih =>
  have e : ∀ ah, aheadP ah (p :: ps) = aheadP (fun y => if y = p.1 then some p.2 else ah y) ps := fun _ => rfl
  rw [e, e, ih, ih (fun y => if y = p.1 then some p.2 else none)]
  cases aheadP (fun _ => none) ps x with
  | some v => rfl
  | none =>
   simp only [Option.none_or]
   by_cases h : x = p.1
   ·simp [h]
   ·simp [h]
theorem after_append (base : Nat → List Int) (ts us : List Tn) (x : Nat) : after (after base ts) us x = after base (ts ++ us) x := by
 unfold after
 rw [List.flatten_append, aheadP_append, aheadP_or (aheadP (fun _ => none) ts.flatten)]
 cases aheadP (fun _ => none) us.flatten x with
 | some v => rfl
 | none => rfl
theorem rec_step {nb fr bl l q u : Nat} {base : Nat → List Int} {tt : List Tn} {k lo hi : Nat} {cont : Nat → Nat → List Int} {a rs : List (Int × List Int)} (hfit : fr + bl ≤ nb) (hg : ∀ t ∈ tt, GoodT nb fr bl t) (hw : wantsL tt = a ++ rs) (hu : a.length = u) (hr : (wantsL tt).length + 1 ≤ bl) :
  Step nb (fun P => G P nb fr bl lo hi cont) (fun d => (Sole d nb fr bl l q base tt [] k lo hi cont ∧ Placed d nb fr bl base) ∧ ∀ i r, i < u → (wantsL tt)[i]? = some r → d.read (fr + 1 + i) = stampZ r.1 (l : Int) r.2) (recCmds (fr + 1 + u) l rs) (fun d => (Sole d nb fr bl l q base tt [] k lo hi cont ∧ Placed d nb fr bl base) ∧ ∀ i r, (wantsL tt)[i]? = some r → d.read (fr + 1 + i) = stampZ r.1 (l : Int) r.2) := by
 have hlen : (wantsL tt).length = u + rs.length := by rw [hw, List.length_append, hu]
 refine Step.mono (Step.each (I := fun j d => (Sole d nb fr bl l q base tt [] k lo hi cont ∧ Placed d nb fr bl base) ∧ ∀ i r, i < u + j → (wantsL tt)[i]? = some r → d.read (fr + 1 + i) = stampZ r.1 (l : Int) r.2) (fun j d _ h => h.1.1.g) (fun j c hc => ?_)) (fun d h => h) (fun d h => ⟨h.1, fun i r hi => h.2 i r (by have := (List.getElem?_eq_some_iff.1 hi).1; rw [length_recCmds]; omega) hi⟩)
 unfold recCmds at hc
 rw [List.getElem?_mapIdx] at hc
 cases hx : rs[j]? with
 | none => rw [hx] at hc; cases hc
 | some r =>
  rw [hx] at hc
  simp only [Option.map_some, Option.some.injEq] at hc
  subst hc
  have hj := (List.getElem?_eq_some_iff.1 hx).1
  have hwr : (wantsL tt)[u + j]? = some r := by rw [hw, List.getElem?_append_right (by omega), show u + j - a.length = j by omega, hx]
  have hok := wantsL_ok hg r (List.mem_of_getElem? hwr)
  refine ⟨⟨by omega, length_stampZ hok.2.1, isB_stampZ (by omega) hok.2.2⟩, fun d hf h hcc => ⟨⟨⟨h.1.1.hd.record (fun x v hv => ?_), fun v hv => ?_, h.1.1.cont⟩, h.1.2.wr ⟨by omega, by omega⟩ hcc⟩, fun i r' hi hr' => ?_⟩⟩
  ·rcases (Pd.poss_wr hcc x v).1 hv with e | e
   ·exact .inl e
   ·exact .inr ⟨u + j, r, by omega, hwr, e.2⟩
  ·rcases (Pd.poss_wr hcc fr v).1 hv with e | e
   ·exact h.1.1.head v e
   ·omega
  ·rw [Pd.read_wr hcc]
   by_cases e : i = u + j
   ·subst e
    rw [hwr] at hr'
    cases hr'
    rw [if_pos (by omega)]
   ·rw [if_neg (by omega)]
    exact h.2 i r' (by omega) hr'
structure Nm (d : Pd) (s : Js) (nb fr bl q : Nat) (base : Nat → List Int) (ts : List Tn) (k lo hi : Nat) (cont : Nat → Nat → List Int) : Prop where
 sole : Sole d nb fr bl s.life q base ts [] k lo hi cont
 rd : ∀ i r, (wantsL ts)[i]? = some r → d.read (fr + 1 + i) = stampZ r.1 (s.life : Int) r.2
 pl : Placed d nb fr bl base
 l0 : s.life ≠ 0
 used : s.used = (wantsL ts).length
 seq : s.seq = q + ts.length
 ah : s.ah = aheadP (fun _ => none) ts.flatten
theorem goS_l0 (s : Js) : (goS s).life ≠ 0 ∧ (goS s).used = 0 ∧ (goS s).ah = fun _ => none := by
 unfold goS
 split
 ·exact ⟨by show s.life + 1 ≠ 0; omega, rfl, rfl⟩
 ·exact ⟨by show (1 : Nat) ≠ 0; omega, rfl, rfl⟩
theorem Empty.nm {d : Pd} {nb fr bl : Nat} {base2 : Nat → List Int} {cont : Nat → Nat → List Int} {s : Js} (h : Empty d nb fr bl (goS s).life s.seq base2 cont) : Nm d (goS s) nb fr bl s.seq base2 [] 0 s.seq s.seq cont :=
 ⟨h.1, fun i r hr => by simp [wantsL] at hr, h.2, (goS_l0 s).1, (goS_l0 s).2.1, goS_seq s, (goS_l0 s).2.2⟩
end Go.Proofs.YtldlejpacgphmaaGreat
namespace Go.Proofs.YtldlejpacgphmaaGreat
open Go.RowKit
theorem Sole.mono {d : Pd} {nb fr bl l q : Nat} {base : Nat → List Int} {ts ex : List Tn} {k lo hi lo' hi' : Nat} {cont : Nat → Nat → List Int} (h : Sole d nb fr bl l q base ts ex k lo hi cont) (h1 : lo' ≤ lo) (h2 : hi ≤ hi') : Sole d nb fr bl l q base ts ex k lo' hi' cont :=
 ⟨h.hd, h.head, fun n n1 n2 => ⟨by have := (h.cont n n1 n2).1; omega, by have := (h.cont n n1 n2).2.1; omega, (h.cont n n1 n2).2.2⟩⟩
theorem Nm.mono {d : Pd} {s : Js} {nb fr bl q : Nat} {base : Nat → List Int} {ts : List Tn} {k lo hi lo' hi' : Nat} {cont : Nat → Nat → List Int} (h : Nm d s nb fr bl q base ts k lo hi cont) (h1 : lo' ≤ lo) (h2 : hi ≤ hi') : Nm d s nb fr bl q base ts k lo' hi' cont :=
 ⟨h.sole.mono h1 h2, h.rd, h.pl, h.l0, h.used, h.seq, h.ah⟩
theorem Nm.g {d : Pd} {s : Js} {nb fr bl q : Nat} {base : Nat → List Int} {ts : List Tn} {k lo hi : Nat} {cont : Nat → Nat → List Int} (h : Nm d s nb fr bl q base ts k lo hi cont) : G d.poss nb fr bl lo hi cont := h.sole.g
theorem Nm.good {d : Pd} {s : Js} {nb fr bl q : Nat} {base : Nat → List Int} {ts : List Tn} {k lo hi : Nat} {cont : Nat → Nat → List Int} (h : Nm d s nb fr bl q base ts k lo hi cont) : ∀ t ∈ ts, GoodT nb fr bl t := fun t ht => h.sole.hd.good t (by simp [ht])
theorem Nm.c2 {d : Pd} {s : Js} {nb fr bl q : Nat} {base : Nat → List Int} {ts : List Tn} {k lo hi : Nat} {cont : Nat → Nat → List Int} (h : Nm d s nb fr bl q base ts k lo hi cont) : lo ≤ s.seq ∧ s.seq ≤ hi ∧ ∀ x, HomeB nb fr bl x → after base ts x = cont s.seq x := by
 have := h.sole.cont ts.length h.sole.hd.kle (Nat.le_refl _)
 rw [← h.seq, List.take_length] at this
 exact this
theorem Nm.seq_le {d : Pd} {s : Js} {nb fr bl q : Nat} {base : Nat → List Int} {ts : List Tn} {k lo hi : Nat} {cont : Nat → Nat → List Int} (h : Nm d s nb fr bl q base ts k lo hi cont) : s.seq ≤ 1099511627776 := by
 have := h.sole.hd.seq
 rw [List.append_nil] at this
 have := h.seq
 omega
theorem Nm.flush {d : Pd} {s : Js} {nb fr bl q : Nat} {base : Nat → List Int} {ts : List Tn} {k lo hi : Nat} {cont : Nat → Nat → List Int} (h : Nm d s nb fr bl q base ts k lo hi cont) (hf : d.Fits nb) : G (d.runs [.fl]).2.poss nb fr bl lo hi cont ∧ ((d.runs [.fl]).1 = 0 → (d.runs [.fl]).2.Fits nb ∧ Nm (d.runs [.fl]).2 s nb fr bl q base ts ts.length s.seq hi cont) := by
 rw [Pd.runs_one]
 rcases d.run1_code .fl with ⟨h1, _⟩ | ⟨h1, h2⟩
 ·have hs := h.sole.flush hf h.rd h1
  refine ⟨hs.g, fun _ => ⟨hf.run1 trivial, ⟨⟨hs.hd, hs.head, fun n n1 n2 => ?_⟩, fun i r hr => ?_, h.pl.fl hf h1, h.l0, h.used, h.seq, h.ah⟩⟩⟩
  ·have := hs.cont n n1 n2
   exact ⟨by have := h.seq; omega, this.2⟩
  ·rw [Pd.read_fl hf h1]
   exact h.rd i r hr
 ·rw [h2]
  exact ⟨h.g, fun q => by omega⟩
theorem Nm.settle {d : Pd} {s : Js} {nb fr bl q : Nat} {base : Nat → List Int} {ts : List Tn} {k lo hi : Nat} {cont : Nat → Nat → List Int} (h : Nm d s nb fr bl q base ts k lo hi cont) (hf : d.Fits nb) (hfit : fr + bl ≤ nb) (hbl : 1 ≤ bl) : G (d.runs (settleCmds nb fr bl s)).2.poss nb fr bl lo hi cont ∧ ((d.runs (settleCmds nb fr bl s)).1 = 0 → (d.runs (settleCmds nb fr bl s)).2.Fits nb ∧ Nm (d.runs (settleCmds nb fr bl s)).2 (goS s) nb fr bl s.seq (after base ts) [] 0 s.seq s.seq cont) := by
 obtain ⟨h1, h2⟩ := settle_step s hfit hbl h.good h.seq h.seq_le h.ah h.c2 d hf ⟨h.sole, h.rd⟩
 exact ⟨h1, fun q => ⟨(h2 q).2, (h2 q).1.nm⟩⟩
def appS (bl : Nat) (s : Js) (t : Tn) : Js := ⟨(wlE bl s (txRecs t).length).life, (wlE bl s (txRecs t).length).seq + 1, (wlE bl s (txRecs t).length).used, aheadP (wlE bl s (txRecs t).length).ah t⟩
theorem Nm.put {d : Pd} {s : Js} {nb fr bl q : Nat} {base : Nat → List Int} {ts : List Tn} {k lo : Nat} {cont : Nat → Nat → List Int} (h : Nm d s nb fr bl q base ts k lo s.seq cont) (hf : d.Fits nb) (hfit : fr + bl ≤ nb) {t : Tn} (ht : GoodT nb fr bl t) (hsq : s.seq < 1099511627776) (hroom : s.used + (txRecs t).length + 1 ≤ bl) (c3 : ∀ x, HomeB nb fr bl x → after base (ts ++ [t]) x = cont (s.seq + 1) x) :
  G (d.runs (recCmds (fr + 1 + s.used) s.life (txRecs t))).2.poss nb fr bl lo (s.seq + 1) cont ∧ ((d.runs (recCmds (fr + 1 + s.used) s.life (txRecs t))).1 = 0 → (d.runs (recCmds (fr + 1 + s.used) s.life (txRecs t))).2.Fits nb ∧ Nm (d.runs (recCmds (fr + 1 + s.used) s.life (txRecs t))).2 ⟨s.life, s.seq + 1, s.used + (txRecs t).length, aheadP s.ah t⟩ nb fr bl q base (ts ++ [t]) k lo (s.seq + 1) cont) := by
 have hwl : (wantsL (ts ++ [t])).length = s.used + (txRecs t).length := by rw [wantsL_snoc, List.length_append, h.used]
 have hsq2 := h.seq
 have hs0 : Sole d nb fr bl s.life q base (ts ++ [t]) [] k lo (s.seq + 1) cont := by
  refine ⟨h.sole.hd.more h.l0 h.pl ht (by omega) (by omega), h.sole.head, fun n n1 n2 => ?_⟩
  rw [List.length_append, List.length_singleton] at n2
  by_cases e : n ≤ ts.length
  ·rw [List.take_append_of_le_length e]
   have := h.sole.cont n n1 e
   exact ⟨this.1, by omega, this.2.2⟩
  ·have e2 : n = ts.length + 1 := by omega
   subst e2
   rw [List.take_of_length_le (by simp), show q + (ts.length + 1) = s.seq + 1 by omega]
   exact ⟨by have := h.c2.1; omega, Nat.le_refl _, c3⟩
 have hg : ∀ x ∈ ts ++ [t], GoodT nb fr bl x := fun x hx => by
  rcases List.mem_append.1 hx with hx | hx
  ·exact h.good x hx
  ·simp at hx
   rw [hx]
   exact ht
 have hst := rec_step (nb := nb) (fr := fr) (bl := bl) (l := s.life) (q := q) (u := s.used) (base := base) (tt := ts ++ [t]) (k := k) (lo := lo) (hi := s.seq + 1) (cont := cont) (a := wantsL ts) (rs := txRecs t) hfit hg (wantsL_snoc ts t) h.used.symm (by omega)
 obtain ⟨r1, r2⟩ := hst d hf ⟨⟨hs0, h.pl⟩, fun i r hi hr => by
  rw [take_get ⟨txRecs t, wantsL_snoc ts t⟩ (by rw [← h.used]; exact hi)] at hr
  exact h.rd i r hr⟩
 refine ⟨r1, fun hc => ⟨(r2 hc).2, ⟨(r2 hc).1.1.1, (r2 hc).1.2, (r2 hc).1.1.2, h.l0, hwl.symm, by simp; omega, ?_⟩⟩⟩
 show aheadP s.ah t = _
 rw [h.ah, List.flatten_append, aheadP_append]
 simp
theorem Nm.append {d : Pd} {s : Js} {nb fr bl q : Nat} {base : Nat → List Int} {ts : List Tn} {k lo : Nat} {cont : Nat → Nat → List Int} (h : Nm d s nb fr bl q base ts k lo s.seq cont) (hf : d.Fits nb) (hfit : fr + bl ≤ nb) {t : Tn} (ht : GoodT nb fr bl t) (hsq : s.seq < 1099511627776) (hroom : (txRecs t).length + 1 ≤ bl) (c3 : ∀ x, HomeB nb fr bl x → after base (ts ++ [t]) x = cont (s.seq + 1) x) :
  G (d.runs (wlCmds nb fr bl s (txRecs t))).2.poss nb fr bl lo (s.seq + 1) cont ∧ ((d.runs (wlCmds nb fr bl s (txRecs t))).1 = 0 → (d.runs (wlCmds nb fr bl s (txRecs t))).2.Fits nb ∧ ∃ q' base' ts' k', Nm (d.runs (wlCmds nb fr bl s (txRecs t))).2 (appS bl s t) nb fr bl q' base' ts' k' lo (s.seq + 1) cont) := by
 unfold wlCmds appS wlE wlS
 by_cases hb : bl - 1 < s.used + (txRecs t).length
 ·simp only [if_pos hb]
  obtain ⟨h1, h2⟩ := h.settle hf hfit (by omega)
  have h2' := (goS_l0 s).2.1
  rw [Pd.runs_append]
  by_cases hc : (d.runs (settleCmds nb fr bl s)).1 = 0
  ·simp only [if_pos hc]
   obtain ⟨f2, n2⟩ := h2 hc
   have n2' : Nm (d.runs (settleCmds nb fr bl s)).2 (goS s) nb fr bl s.seq (after base ts) [] 0 s.seq (goS s).seq cont := by rw [goS_seq]; exact n2
   obtain ⟨p1, p2⟩ := n2'.put f2 hfit ht (by rw [goS_seq]; exact hsq) (by rw [h2']; omega) (fun x hx => by rw [goS_seq, ← c3 x hx, List.nil_append, after_append])
   rw [goS_seq] at p1 p2
   exact ⟨p1.mono h.c2.1 (Nat.le_refl _), fun q => ⟨(p2 q).1, _, _, _, _, by rw [goS_seq]; exact ((p2 q).2).mono h.c2.1 (Nat.le_refl _)⟩⟩
  ·simp only [if_neg hc]
   exact ⟨h1.mono (Nat.le_refl _) (by omega), fun q => absurd q hc⟩
 ·simp only [if_neg hb, List.nil_append]
  obtain ⟨p1, p2⟩ := h.put hf hfit ht hsq (by omega) c3
  exact ⟨p1, fun q => ⟨(p2 q).1, _, _, _, _, (p2 q).2⟩⟩
end Go.Proofs.YtldlejpacgphmaaGreat
namespace Go.Proofs.YtldlejpacgphmaaGreat
open Go.RowKit
theorem Nm.read {d : Pd} {s : Js} {nb fr bl q : Nat} {base : Nat → List Int} {ts : List Tn} {k lo hi : Nat} {cont : Nat → Nat → List Int} (h : Nm d s nb fr bl q base ts k lo hi cont) {x : Nat} (hx : HomeB nb fr bl x) : jread d s x = cont s.seq x := by
 unfold jread
 rw [h.ah, h.pl x hx _ (d.poss_read x)]
 exact h.c2.2.2 x hx
theorem G.open {P : Nat → List Int → Prop} {nb fr bl lo hi : Nat} {cont : Nat → Nat → List Int} (h : G P nb fr bl lo hi cont) (hnb : nb ≤ 524288) (hbl : fr + bl ≤ nb) (hb1 : 1 ≤ bl) {I : List Int} {fu : Int} {off : Bool} (hI : ∀ x, x < nb → P x (imgB I x)) (hf : (⟨I, [], fu, off⟩ : Pd).Fits nb) :
  ∃ l q, headAt fr bl ((⟨I, [], fu, off⟩ : Pd).read fr) = some (l, q) ∧ NoOther fr bl (openS nb fr bl ⟨I, [], fu, off⟩ l q) ⟨I, [], fu, off⟩ ∧ lo ≤ (openS nb fr bl ⟨I, [], fu, off⟩ l q).seq ∧ (openS nb fr bl ⟨I, [], fu, off⟩ l q).seq ≤ hi ∧
   G ((⟨I, [], fu, off⟩ : Pd).runs (settleCmds nb fr bl (openS nb fr bl ⟨I, [], fu, off⟩ l q))).2.poss nb fr bl (openS nb fr bl ⟨I, [], fu, off⟩ l q).seq (openS nb fr bl ⟨I, [], fu, off⟩ l q).seq cont ∧
   (((⟨I, [], fu, off⟩ : Pd).runs (settleCmds nb fr bl (openS nb fr bl ⟨I, [], fu, off⟩ l q))).1 = 0 → ((⟨I, [], fu, off⟩ : Pd).runs (settleCmds nb fr bl (openS nb fr bl ⟨I, [], fu, off⟩ l q))).2.Fits nb ∧ ∃ base', Nm ((⟨I, [], fu, off⟩ : Pd).runs (settleCmds nb fr bl (openS nb fr bl ⟨I, [], fu, off⟩ l q))).2 (goS (openS nb fr bl ⟨I, [], fu, off⟩ l q)) nb fr bl (openS nb fr bl ⟨I, [], fu, off⟩ l q).seq base' [] 0 (openS nb fr bl ⟨I, [], fu, off⟩ l q).seq (openS nb fr bl ⟨I, [], fu, off⟩ l q).seq cont) := by
 obtain ⟨l, q, base, ts, ex, k, e1, e2, e3⟩ := h _ (hI fr (by omega))
 have hrd : ∀ x, (⟨I, [], fu, off⟩ : Pd).read x = imgB I x := fun x => rfl
 obtain ⟨n, n1, n2, n3, n4, n5, n6⟩ := e2.found hnb hbl (rd := imgB I) hI
 have hq := e2.seq
 rw [List.length_append] at hq
 have eO : openS nb fr bl ⟨I, [], fu, off⟩ l q = ⟨l, q + n, (wantsL (ts.take n)).length, aheadP (fun _ => none) (ts.take n).flatten⟩ := n3
 have hP : ∀ x v, (⟨I, [], fu, off⟩ : Pd).poss x v ↔ v = imgB I x := fun x v => poss_new I fu off x v
 have hc := e3 n n1 n2
 have hle : (ts.take n).length = n := by rw [List.length_take]; omega
 have hS : Sole ⟨I, [], fu, off⟩ nb fr bl l q base (ts.take n) ((ts ++ ex).drop n) n (q + n) (q + n) cont := by
  refine ⟨n6.sub (fun x v _ hv => (hP x v).1 hv), fun v hv => by rw [(hP fr v).1 hv]; exact e1, fun m m1 m2 => ?_⟩
  have : m = n := by omega
  subst this
  rw [List.take_take, Nat.min_self]
  exact ⟨Nat.le_refl _, Nat.le_refl _, hc.2.2⟩
 refine ⟨l, q, ?_, ?_, ?_, ?_, ?_⟩
 ·rw [hrd, e1]
  exact headAt_head (by omega) (by omega) (by omega) e2.life
 ·rw [eO]
  exact n4
 ·rw [eO]; exact hc.1
 ·rw [eO]; exact hc.2.1
 ·rw [eO]
  have hst := settle_step (nb := nb) (fr := fr) (bl := bl) (q := q) (base := base) (ts := ts.take n) (ex := (ts ++ ex).drop n) (k := n) (lo := q + n) (hi := q + n) (cont := cont) ⟨l, q + n, (wantsL (ts.take n)).length, aheadP (fun _ => none) (ts.take n).flatten⟩ hbl hb1 (fun t ht => e2.good t (by simp [List.mem_of_mem_take ht])) (by rw [hle]) (by show q + n ≤ _; omega) rfl ⟨Nat.le_refl _, Nat.le_refl _, hc.2.2⟩ ⟨I, [], fu, off⟩ hf ⟨hS, fun i r hr => ?_⟩
  ·exact ⟨hst.1, fun q => ⟨(hst.2 q).2, _, (hst.2 q).1.nm⟩⟩
  ·have hi := (List.getElem?_eq_some_iff.1 hr).1
   obtain ⟨r', hr', e⟩ := hS.hd.dur i (by rw [List.take_take, Nat.min_self]; exact hi) _ ((hP _ _).2 rfl)
   rw [take_get ⟨wantsL ((ts ++ ex).drop n), by unfold wantsL; rw [List.flatMap_append]⟩ hi, hr] at hr'
   cases hr'
   exact e
end Go.Proofs.YtldlejpacgphmaaGreat
namespace Go.Proofs.YtldlejpacgphmaaGreat
open Go.RowKit
theorem Nm.again {d : Pd} {s : Js} {nb fr bl q : Nat} {base : Nat → List Int} {ts : List Tn} {k lo hi : Nat} {cont : Nat → Nat → List Int} (h : Nm d s nb fr bl q base ts k lo hi cont) (hnb : nb ≤ 524288) (hbl : fr + bl ≤ nb) :
  headAt fr bl (d.read fr) = some (s.life, q) ∧ openS nb fr bl d s.life q = s ∧ NoOther fr bl s d := by
 have hq := h.seq_le
 have hsq := h.seq
 have hfit := h.sole.hd.fit
 have h1 : Hd (fun x v => v = d.read x) nb fr bl s.life q base ts [] ts.length := (h.sole.hd.sub (fun x v _ e => by rw [e]; exact d.poss_read x)).lasts (fun i r hr v hv => by rw [hv]; exact h.rd i r hr)
 obtain ⟨n, n1, n2, n3, n4, _⟩ := h1.found hnb hbl (rd := d.read) (fun x _ => rfl)
 have hn : n = ts.length := by omega
 subst hn
 rw [List.take_length] at n3 n4
 have e : (⟨s.life, q + ts.length, (wantsL ts).length, aheadP (fun _ => none) ts.flatten⟩ : Js) = s := by
  rw [← h.seq, ← h.used, ← h.ah]
 rw [e] at n3
 refine ⟨?_, n3, fun i hi1 hi2 => n4 i (by rw [← h.used]; exact hi1) hi2⟩
 rw [h.sole.head _ (d.poss_read fr)]
 exact headAt_head (by omega) (by omega) (by omega) h.sole.hd.life
theorem wipe_step {nb fr bl from_ count : Nat} {base : Nat → List Int} {I : Pd → Prop} (hin : ∀ j, j < count → fr ≤ from_ + j ∧ from_ + j < fr + bl) (hfit : fr + bl ≤ nb) (hI : ∀ d, I d → ∀ x, HomeB nb fr bl x → d.read x = base x) :
  Step nb (fun _ => True) I (wipes fr bl from_ count) (fun d => (∀ x, HomeB nb fr bl x → d.read x = base x) ∧ ∀ m, m < count → d.read (from_ + m) = blankZ fr bl) := by
 have hwl : (wipes fr bl from_ count).length = count := by simp [wipes]
 refine Step.mono (Step.each (I := fun j d => (∀ x, HomeB nb fr bl x → d.read x = base x) ∧ ∀ m, m < j → d.read (from_ + m) = blankZ fr bl) (fun _ _ _ _ => trivial) (fun k c hk => ?_)) (fun d h => ⟨hI d h, fun m hm => by omega⟩) (fun d h => ⟨h.1, fun m hm => h.2 m (by rw [hwl]; exact hm)⟩)
 unfold wipes at hk
 rw [List.getElem?_map] at hk
 cases hx : (List.range count)[k]? with
 | none => rw [hx] at hk; cases hk
 | some x =>
  rw [hx] at hk
  simp only [Option.map_some, Option.some.injEq] at hk
  obtain ⟨hkl, hkx⟩ := List.getElem?_eq_some_iff.1 hx
  rw [List.getElem_range] at hkx
  rw [List.length_range] at hkl
  subst hkx
  subst hk
  have hkk := hin k hkl
  refine ⟨ok_blank (by omega), fun d hf h hcc => ⟨fun x hx => ?_, fun m hm => ?_⟩⟩
  ·rw [Pd.read_wr hcc, if_neg (fun e => hx.2 (by omega))]
   exact h.1 x hx
  ·rw [Pd.read_wr hcc]
   by_cases em : m = k
   ·rw [em, if_pos rfl]
   ·rw [if_neg (by omega)]
    exact h.2 m (by omega)
theorem flush_step {nb : Nat} {I J : Pd → Prop} (h : ∀ d d' : Pd, I d → (∀ x, d'.read x = d.read x) → J d') : Step nb (fun _ => True) I [.fl] J := Step.one trivial (fun _ _ _ => trivial) (fun d hf hi hc => h d _ hi (fun x => Pd.read_fl hf hc x)) (fun _ _ _ => trivial)
theorem format_nm {nb fr bl : Nat} {d : Pd} {cont : Nat → Nat → List Int} (hfit : fr + bl ≤ nb) (hbl : 1 ≤ bl) (hf : d.Fits nb) (c0 : ∀ x, HomeB nb fr bl x → d.read x = cont 0 x) (hc : (d.runs (formatCmds fr bl)).1 = 0) : (d.runs (formatCmds fr bl)).2.Fits nb ∧ Nm (d.runs (formatCmds fr bl)).2 (beginS noS) nb fr bl 0 d.read [] 0 0 0 cont := by
 have key : Step nb (fun _ => True) (fun d' => d' = d) (formatCmds fr bl) (fun d' => (∀ x v, d'.poss x v → v = d'.read x) ∧ (∀ x, HomeB nb fr bl x → d'.read x = d.read x) ∧ (∀ m, m < bl - 1 → d'.read (fr + 1 + m) = blankZ fr bl) ∧ d'.read fr = headZ fr bl 1 0) := by
  unfold formatCmds
  refine Step.seq (J := fun d' => ((∀ x, HomeB nb fr bl x → d'.read x = d.read x) ∧ ∀ m, m < bl - 1 → d'.read (fr + 1 + m) = blankZ fr bl) ∧ d'.read fr = headZ fr bl 1 0) (Step.seq (J := fun d' => (∀ x, HomeB nb fr bl x → d'.read x = d.read x) ∧ ∀ m, m < bl - 1 → d'.read (fr + 1 + m) = blankZ fr bl) (Step.seq (Step.seq (Step.seq (wipe_step (base := d.read) (fun j hj => ⟨by omega, by omega⟩) hfit (fun d' e x _ => by rw [e])) (flush_step (J := fun d' => ∀ x, HomeB nb fr bl x → d'.read x = d.read x) (fun a b h e x hx => by rw [e]; exact h.1 x hx))) (wipe_step (base := d.read) (fun j hj => ⟨by omega, by omega⟩) hfit (fun d' h => h))) (flush_step (fun a b h e => ⟨fun x hx => by rw [e]; exact h.1 x hx, fun m hm => by rw [e]; exact h.2 m hm⟩))) ?_) ?_
  ·refine Step.one (ok_head (by omega)) (fun _ _ _ => trivial) (fun a _ h hcc => ⟨⟨fun x hx => ?_, fun m hm => ?_⟩, ?_⟩) (fun _ _ _ => trivial)
   ·rw [Pd.read_wr hcc, if_neg (fun e => hx.2 (by omega))]
    exact h.1 x hx
   ·rw [Pd.read_wr hcc, if_neg (by omega)]
    exact h.2 m hm
   ·rw [Pd.read_wr hcc, if_pos rfl]
    rfl
  ·refine Step.one trivial (fun _ _ _ => trivial) (fun a hfa h hcc => ⟨fun x v hv => ?_, fun x hx => ?_, fun m hm => ?_, ?_⟩) (fun _ _ _ => trivial)
   ·rw [(Pd.poss_fl hfa hcc x v).1 hv, Pd.read_fl hfa hcc]
   ·rw [Pd.read_fl hfa hcc]; exact h.1.1 x hx
   ·rw [Pd.read_fl hfa hcc]; exact h.1.2 m hm
   ·rw [Pd.read_fl hfa hcc]; exact h.2
 obtain ⟨⟨k1, k2, k3, k4⟩, k5⟩ := (key d hf rfl).2 hc
 refine ⟨k5, ⟨⟨Hd.empty (by decide) (by decide) hbl (fun i hi v hv => ?_) (fun x hx v hv => ?_), fun v hv => ?_, fun n _ n2 => ?_⟩, fun i r hr => by simp [wantsL] at hr, fun x hx v hv => ?_, by decide, rfl, rfl, rfl⟩⟩
 ·rw [k1 _ v hv, k3 i hi]
  exact oldAt_blank _ _ _
 ·rw [k1 x v hv]; exact k2 x hx
 ·rw [k1 fr v hv]; exact k4
 ·have : n = 0 := by simpa using n2
  subst this
  exact ⟨Nat.le_refl _, Nat.le_refl _, fun x hx => c0 x hx⟩
 ·rw [k1 x v hv]; exact k2 x hx
end Go.Proofs.YtldlejpacgphmaaGreat
