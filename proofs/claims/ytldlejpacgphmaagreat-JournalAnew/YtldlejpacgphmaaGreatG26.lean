import Derived.Test.YtldlejpacgphmaaGreatG24
import Derived.Test.YtldlejpacgphmaaGreatG25
namespace Go.Proofs.YtldlejpacgphmaaGreat
open Go.RowKit
def contT (home : Nat → List Int) (Ts : List Tn) (k x : Nat) : List Int := after home (Ts.take k) x
theorem G.congr {P : Nat → List Int → Prop} {nb fr bl lo hi : Nat} {cont cont' : Nat → Nat → List Int} (h : G P nb fr bl lo hi cont) (hc : ∀ k x, k ≤ hi → cont k x = cont' k x) : G P nb fr bl lo hi cont' := fun v hv => by
 obtain ⟨l, q, base, ts, ex, k, e1, e2, e3⟩ := h v hv
 exact ⟨l, q, base, ts, ex, k, e1, e2, fun n n1 n2 => ⟨(e3 n n1 n2).1, (e3 n n1 n2).2.1, fun x hx => by rw [(e3 n n1 n2).2.2 x hx, hc _ _ (e3 n n1 n2).2.1]⟩⟩
theorem Nm.congr {d : Pd} {s : Js} {nb fr bl q : Nat} {base : Nat → List Int} {ts : List Tn} {k lo hi : Nat} {cont cont' : Nat → Nat → List Int} (h : Nm d s nb fr bl q base ts k lo hi cont) (hc : ∀ k x, k ≤ hi → cont k x = cont' k x) : Nm d s nb fr bl q base ts k lo hi cont' :=
 ⟨⟨h.sole.hd, h.sole.head, fun n n1 n2 => ⟨(h.sole.cont n n1 n2).1, (h.sole.cont n n1 n2).2.1, fun x hx => by rw [(h.sole.cont n n1 n2).2.2 x hx, hc _ _ (h.sole.cont n n1 n2).2.1]⟩⟩, h.rd, h.pl, h.l0, h.used, h.seq, h.ah⟩
theorem contT_more (home : Nat → List Int) (Ts us : List Tn) {k : Nat} (hk : k ≤ Ts.length) (x : Nat) : contT home Ts k x = contT home (Ts ++ us) k x := by
 unfold contT
 rw [List.take_append_of_le_length hk]
theorem contT_take (home : Nat → List Int) (Ts : List Tn) {n k : Nat} (hk : k ≤ n) (x : Nat) : contT home Ts k x = contT home (Ts.take n) k x := by
 unfold contT
 rw [List.take_take, Nat.min_eq_left hk]
structure On (d : Pd) (s : Js) (nb fr bl lo : Nat) (home : Nat → List Int) (Ts : List Tn) : Prop where
 nm : ∃ q base ts k, Nm d s nb fr bl q base ts k lo s.seq (contT home Ts)
 on : d.off = false
 sq : s.seq = Ts.length
 pl : d.puts.length ≤ s.used
structure Cut (d : Pd) (nb fr bl lo : Nat) (home : Nat → List Int) (Ts : List Tn) : Prop where
 g : G d.poss nb fr bl lo Ts.length (contT home Ts)
 pl : d.puts.length ≤ 4 * nb + 64
theorem On.lo_le {d : Pd} {s : Js} {nb fr bl lo : Nat} {home : Nat → List Int} {Ts : List Tn} (h : On d s nb fr bl lo home Ts) : lo ≤ Ts.length := by
 obtain ⟨q, base, ts, k, hn⟩ := h.nm
 rw [← h.sq]
 exact hn.c2.1
theorem On.jn {d : Pd} {s : Js} {nb fr bl lo : Nat} {home : Nat → List Int} {Ts : List Tn} (h : On d s nb fr bl lo home Ts) (hlo : 16 ≤ bl) (hfit : fr + bl ≤ nb) (hnb : nb ≤ 524288) : Jn nb fr bl s := by
 obtain ⟨q, base, ts, k, hn⟩ := h.nm
 exact hn.jn hlo hfit hnb
theorem On.puts {d : Pd} {s : Js} {nb fr bl lo : Nat} {home : Nat → List Int} {Ts : List Tn} (h : On d s nb fr bl lo home Ts) (hlo : 16 ≤ bl) (hfit : fr + bl ≤ nb) (hnb : nb ≤ 524288) : d.puts.length ≤ nb := by
 have := (h.jn hlo hfit hnb).used
 have := h.pl
 omega
theorem On.cut {d : Pd} {s : Js} {nb fr bl lo : Nat} {home : Nat → List Int} {Ts : List Tn} (h : On d s nb fr bl lo home Ts) (hlo : 16 ≤ bl) (hfit : fr + bl ≤ nb) (hnb : nb ≤ 524288) : Cut d nb fr bl lo home Ts := by
 have hp := h.puts hlo hfit hnb
 obtain ⟨q, base, ts, k, hn⟩ := h.nm
 refine ⟨?_, by omega⟩
 have := hn.g
 rwa [h.sq] at this
theorem On.read {d : Pd} {s : Js} {nb fr bl lo : Nat} {home : Nat → List Int} {Ts : List Tn} (h : On d s nb fr bl lo home Ts) {x : Nat} (hx : HomeB nb fr bl x) : jread d s x = contT home Ts Ts.length x := by
 obtain ⟨q, base, ts, k, hn⟩ := h.nm
 rw [hn.read hx, h.sq]
theorem Pd.runs_fl_puts {d : Pd} {xs : List Cmd} (h : (d.runs (xs ++ [.fl])).1 = 0) : (d.runs (xs ++ [.fl])).2.puts = [] := by
 rw [Pd.runs_append] at h ⊢
 by_cases hc : (d.runs xs).1 = 0
 ·rw [if_pos hc] at h ⊢
  rw [Pd.runs_one] at h ⊢
  rw [Pd.fl_ok h]
 ·rw [if_neg hc] at h
  exact absurd h hc
theorem Pd.runs_off {d : Pd} {cs : List Cmd} (h : (d.runs cs).1 ≠ 0) : (d.runs cs).1 = 24 ∧ (d.runs cs).2.off = true := by
 rcases d.runs_code cs with ⟨h1, _⟩ | ⟨h1, h2⟩
 ·exact absurd h1 h
 ·exact ⟨h1, h2⟩
theorem Pd.runs_on {d : Pd} {cs : List Cmd} (hon : d.off = false) (h : (d.runs cs).1 = 0) : (d.runs cs).2.off = false := by
 rcases d.runs_code cs with ⟨_, h2⟩ | ⟨h1, _⟩
 ·exact h2 hon
 ·rw [h] at h1; cases h1
theorem length_settleCmds (nb fr bl : Nat) (s : Js) : (settleCmds nb fr bl s).length ≤ nb + bl + 8 := by
 have h1 := length_homeCmds nb s.ah
 have h2 := length_goCmds fr bl s
 unfold settleCmds
 simp only [List.length_append, List.length_cons, List.length_nil]
 omega
theorem On.flush {d : Pd} {s : Js} {nb fr bl lo : Nat} {home : Nat → List Int} {Ts : List Tn} (h : On d s nb fr bl lo home Ts) (hf : d.Fits nb) (hlo : 16 ≤ bl) (hfit : fr + bl ≤ nb) (hnb : nb ≤ 524288) :
  ((d.runs [.fl]).1 = 0 → On (d.runs [.fl]).2 s nb fr bl Ts.length home Ts) ∧ ((d.runs [.fl]).1 ≠ 0 → Cut (d.runs [.fl]).2 nb fr bl lo home Ts) := by
 have hp := h.puts hlo hfit hnb
 obtain ⟨q, base, ts, k, hn⟩ := h.nm
 obtain ⟨g1, g2⟩ := hn.flush hf
 refine ⟨fun hc => ⟨⟨q, base, ts, ts.length, ?_⟩, Pd.runs_on h.on hc, h.sq, ?_⟩, fun hc => ⟨?_, ?_⟩⟩
 ·have := (g2 hc).2
  rw [h.sq] at this ⊢
  exact this
 ·have e : (d.runs [.fl]).2.puts = [] := Pd.runs_fl_puts (xs := []) hc
  rw [e]
  exact Nat.zero_le _
 ·rwa [h.sq] at g1
 ·have := d.runs_puts [.fl]
  simp only [List.length_cons, List.length_nil] at this
  omega
theorem On.settle {d : Pd} {s : Js} {nb fr bl lo : Nat} {home : Nat → List Int} {Ts : List Tn} (h : On d s nb fr bl lo home Ts) (hf : d.Fits nb) (hlo : 16 ≤ bl) (hfit : fr + bl ≤ nb) (hnb : nb ≤ 524288) :
  ((d.runs (settleCmds nb fr bl s)).1 = 0 → On (d.runs (settleCmds nb fr bl s)).2 (goS s) nb fr bl Ts.length home Ts ∧ (d.runs (settleCmds nb fr bl s)).2.puts = [] ∧ ∀ x, HomeB nb fr bl x → imgB (d.runs (settleCmds nb fr bl s)).2.img x = contT home Ts Ts.length x) ∧ ((d.runs (settleCmds nb fr bl s)).1 ≠ 0 → Cut (d.runs (settleCmds nb fr bl s)).2 nb fr bl lo home Ts) := by
 have hp := h.puts hlo hfit hnb
 obtain ⟨q, base, ts, k, hn⟩ := h.nm
 obtain ⟨g1, g2⟩ := hn.settle hf hfit (by omega)
 refine ⟨fun hc => ?_, fun hc => ⟨?_, ?_⟩⟩
 ·have hpe : (d.runs (settleCmds nb fr bl s)).2.puts = [] := by
   have : settleCmds nb fr bl s = ([.fl] ++ homeCmds nb s.ah ++ [.fl] ++ goCmds fr bl s) ++ [.fl] := rfl
   rw [this] at hc ⊢
   exact Pd.runs_fl_puts hc
  have k2 := (g2 hc).2
  refine ⟨⟨⟨s.seq, after base ts, [], 0, ?_⟩, Pd.runs_on h.on hc, ?_, ?_⟩, hpe, fun x hx => ?_⟩
  ·rw [goS_seq]
   rw [h.sq] at k2 ⊢
   exact k2
  ·rw [goS_seq]; exact h.sq
  ·rw [hpe]; exact Nat.zero_le _
  ·rw [k2.pl x hx _ (.inl rfl), hn.c2.2.2 x hx, h.sq]
 ·rwa [h.sq] at g1
 ·have := d.runs_puts (settleCmds nb fr bl s)
  have := length_settleCmds nb fr bl s
  omega
theorem On.append {d : Pd} {s : Js} {nb fr bl lo : Nat} {home : Nat → List Int} {Ts : List Tn} (h : On d s nb fr bl lo home Ts) (hf : d.Fits nb) (hlo : 16 ≤ bl) (hfit : fr + bl ≤ nb) (hnb : nb ≤ 524288) {ps : List Pm} (hb : ∀ p ∈ ps, Pl.isB p.data) (hc0 : appC nb fr bl d s ps = 0) :
  ((d.runs (wlCmds nb fr bl s (appRecs ps))).1 = 0 → On (d.runs (wlCmds nb fr bl s (appRecs ps))).2 (appE bl s ps) nb fr bl lo home (Ts ++ [ps.map Pm.put])) ∧ ((d.runs (wlCmds nb fr bl s (appRecs ps))).1 ≠ 0 → Cut (d.runs (wlCmds nb fr bl s (appRecs ps))).2 nb fr bl lo home (Ts ++ [ps.map Pm.put])) := by
 have hp := h.puts hlo hfit hnb
 have hj := h.jn hlo hfit hnb
 obtain ⟨q, base, ts, k, hn⟩ := h.nm
 unfold appC at hc0
 rw [h.on, if_neg (by decide)] at hc0
 have hz : putsC nb fr bl ps = 0 := Classical.byContradiction fun q => by rw [if_pos q] at hc0; exact q hc0
 rw [if_neg (fun q => q hz)] at hc0
 have hk : ¬ bl / 2 - 4 < (standP ps).length := fun q => by rw [if_pos q] at hc0; cases hc0
 rw [if_neg hk] at hc0
 have hsq : ¬ 1099511627776 ≤ s.seq := fun q => by rw [if_pos q] at hc0; cases hc0
 have hps : ∀ p ∈ ps, putC nb fr bl p.at_ p.data.length = 0 := by
  clear hc0 hk hb
  induction ps with
  | nil => intro p hp; cases hp
  | cons a ps ih =>
   unfold putsC at hz
   have ha : putC nb fr bl a.at_ a.data.length = 0 := Classical.byContradiction fun q => by rw [if_pos q] at hz; exact q hz
   rw [if_neg (fun q => q ha)] at hz
   intro p hp
   rcases List.mem_cons.1 hp with rfl | hp
   ·exact ha
   ·exact ih hz p hp
 have hcn : ∀ k x, k ≤ s.seq → contT home Ts k x = contT home (Ts ++ [ps.map Pm.put]) k x := fun k x hk => contT_more home Ts _ (by rw [← h.sq]; exact hk) x
 have hn2 := hn.congr hcn
 obtain ⟨g1, g2⟩ := hn2.appendP hf hfit hlo (ps := ps) (fun p hp => ⟨hps p hp, hb p hp⟩) (by omega) (by omega) (fun x hx => by
  have h1 := hn.c2.2.2 x hx
  rw [← after_append]
  unfold contT
  rw [h.sq, List.take_of_length_le (by simp)]
  rw [← after_append]
  unfold after
  cases hq : aheadP (fun _ => none) [List.map Pm.put ps].flatten x with
  | some z => rfl
  | none =>
   show after base ts x = after home Ts x
   rw [h1]
   unfold contT
   rw [h.sq, List.take_length])
 have hlr : (appRecs ps).length + 1 ≤ bl := by
  have : (appRecs ps).length = pieceN (515 * (standP ps).length) + 1 := by
   unfold appRecs
   rw [length_recsZ, length_bytesZ]
   ·simp
   ·intro x hx
    obtain ⟨p, hp, rfl⟩ := List.mem_map.1 hx
    exact (putC_zero (hps p (standP_mem hp))).1
  have := recs_fit hlo (k := (standP ps).length) (by omega)
  omega
 have hlen : (wlCmds nb fr bl s (appRecs ps)).length ≤ nb + bl + 8 + bl := by
  have h1 := length_settleCmds nb fr bl s
  unfold wlCmds
  rw [List.length_append, length_recCmds]
  split
  ·omega
  ·simp only [List.length_nil]; omega
 refine ⟨fun hc => ⟨?_, Pd.runs_on h.on hc, ?_, ?_⟩, fun hc => ⟨?_, ?_⟩⟩
 ·obtain ⟨q', base', ts', k', hm⟩ := (g2 hc).2
  rw [← appE_seq bl s ps] at hm
  exact ⟨q', base', ts', k', hm⟩
 ·rw [appE_seq, h.sq]; simp
 ·show _ ≤ (wlE bl s (appRecs ps).length).used
  unfold wlE wlS
  unfold wlCmds at hc ⊢
  by_cases hu : bl - 1 < s.used + (appRecs ps).length
  ·rw [if_pos hu] at hc ⊢
   simp only [wlS, if_pos hu] at hc ⊢
   rw [Pd.runs_append] at hc ⊢
   by_cases hs : (d.runs (settleCmds nb fr bl s)).1 = 0
   ·rw [if_pos hs] at hc ⊢
    have hpe : (d.runs (settleCmds nb fr bl s)).2.puts = [] := by
     have : settleCmds nb fr bl s = ([.fl] ++ homeCmds nb s.ah ++ [.fl] ++ goCmds fr bl s) ++ [.fl] := rfl
     rw [this] at hs ⊢
     exact Pd.runs_fl_puts hs
    have := (d.runs (settleCmds nb fr bl s)).2.runs_puts (recCmds (fr + 1 + (goS s).used) (goS s).life (appRecs ps))
    rw [hpe, length_recCmds] at this
    simp only [List.length_nil] at this
    omega
   ·rw [if_neg hs] at hc
    exact absurd hc hs
  ·rw [if_neg hu] at hc ⊢
   simp only [wlS, if_neg hu, List.nil_append] at hc ⊢
   have := d.runs_puts (recCmds (fr + 1 + s.used) s.life (appRecs ps))
   rw [length_recCmds] at this
   have := h.pl
   omega
 ·rw [h.sq] at g1
  have e : (Ts ++ [ps.map Pm.put]).length = Ts.length + 1 := by simp
  rw [e]
  exact g1
 ·have := d.runs_puts (wlCmds nb fr bl s (appRecs ps))
  omega
end Go.Proofs.YtldlejpacgphmaaGreat
namespace Go.Proofs.YtldlejpacgphmaaGreat
open Go.RowKit
theorem Cut.open {d : Pd} {nb fr bl lo : Nat} {home : Nat → List Int} {Ts : List Tn} (h : Cut d nb fr bl lo home Ts) (hlo : 16 ≤ bl) (hfit : fr + bl ≤ nb) (hnb : nb ≤ 524288) {I : List Int} {fu : Int} (hI : ∀ x, x < nb → d.poss x (imgB I x)) (hf : (⟨I, [], fu, false⟩ : Pd).Fits nb) :
  ∃ l q, headAt fr bl ((⟨I, [], fu, false⟩ : Pd).read fr) = some (l, q) ∧ NoOther fr bl (openS nb fr bl ⟨I, [], fu, false⟩ l q) ⟨I, [], fu, false⟩ ∧ ∃ n, lo ≤ n ∧ n ≤ Ts.length ∧
   ((((⟨I, [], fu, false⟩ : Pd).runs (settleCmds nb fr bl (openS nb fr bl ⟨I, [], fu, false⟩ l q))).1 = 0 → On ((⟨I, [], fu, false⟩ : Pd).runs (settleCmds nb fr bl (openS nb fr bl ⟨I, [], fu, false⟩ l q))).2 (goS (openS nb fr bl ⟨I, [], fu, false⟩ l q)) nb fr bl n home (Ts.take n)) ∧
   (((⟨I, [], fu, false⟩ : Pd).runs (settleCmds nb fr bl (openS nb fr bl ⟨I, [], fu, false⟩ l q))).1 ≠ 0 → Cut ((⟨I, [], fu, false⟩ : Pd).runs (settleCmds nb fr bl (openS nb fr bl ⟨I, [], fu, false⟩ l q))).2 nb fr bl n home (Ts.take n))) := by
 obtain ⟨l, q, h1, h2, h3, h4, h5, h6⟩ := h.g.open hnb hfit (by omega) hI hf
 generalize hn : (openS nb fr bl ⟨I, [], fu, false⟩ l q).seq = n at h3 h4 h5 h6
 have e : (Ts.take n).length = n := by rw [List.length_take]; omega
 have hcn : ∀ k x, k ≤ n → contT home Ts k x = contT home (Ts.take n) k x := fun k x hk => contT_take home Ts hk x
 refine ⟨l, q, h1, h2, n, h3, h4, fun hc => ?_, fun hc => ⟨?_, ?_⟩⟩
 ·obtain ⟨_, base', hm⟩ := h6 hc
  have hpe : ((⟨I, [], fu, false⟩ : Pd).runs (settleCmds nb fr bl (openS nb fr bl ⟨I, [], fu, false⟩ l q))).2.puts = [] := by
   have : settleCmds nb fr bl (openS nb fr bl ⟨I, [], fu, false⟩ l q) = ([.fl] ++ homeCmds nb (openS nb fr bl ⟨I, [], fu, false⟩ l q).ah ++ [.fl] ++ goCmds fr bl (openS nb fr bl ⟨I, [], fu, false⟩ l q)) ++ [.fl] := rfl
   rw [this] at hc ⊢
   exact Pd.runs_fl_puts hc
  refine ⟨⟨n, base', [], 0, ?_⟩, Pd.runs_on rfl hc, ?_, ?_⟩
  ·rw [goS_seq, hn]
   exact hm.congr hcn
  ·rw [goS_seq, hn, e]
  ·rw [hpe]; exact Nat.zero_le _
 ·rw [e]
  exact h5.congr hcn
 ·have h7 := (⟨I, [], fu, false⟩ : Pd).runs_puts (settleCmds nb fr bl (openS nb fr bl ⟨I, [], fu, false⟩ l q))
  have h8 := length_settleCmds nb fr bl (openS nb fr bl ⟨I, [], fu, false⟩ l q)
  have h9 : (⟨I, [], fu, false⟩ : Pd).puts.length = 0 := rfl
  omega
def Opened (Z : Nat → Prop) (w : World) (c p room nb K f b : Nat) (fu : Int) (lo : Nat) (home : Nat → List Int) (Ts : List Tn) (e : Ending) (w' : World) : Prop :=
 But Z w w' ∧ ∃ jv code, e = .returned (.tuple #[.pointer jv, .int .i64 code]) ∧ ∃ n Z' d', lo ≤ n ∧ n ≤ Ts.length ∧ Gr Z Z' w ∧
  ((code = 24 ∧ fu ≠ -1 ∧ jv = none ∧ Cq Z' w' c p room nb K d' ∧ d'.off = true ∧ Cut d' nb f b n home (Ts.take n)) ∨
  (code = 0 ∧ ∃ j s, jv = some ⟨j, 0, none⟩ ∧ w.heap.size ≤ j ∧ Jq Z' w' j c p room nb K f b d' s ∧ On d' s nb f b n home (Ts.take n)))
theorem placeC_ok {nb f b : Nat} (hlo : 16 ≤ b) (hfit : f + b ≤ nb) (hnb : nb ≤ 524288) : placeC nb (f : Int) (b : Int) = 0 := by
 unfold placeC
 rw [if_neg (by omega), if_neg (by omega)]
theorem OpenP.cut {Z : Nat → Prop} {w : World} {c p room nb K f b : Nat} {d : Pd} {lo : Nat} {home : Nat → List Int} {Ts : List Tn} {I : List Int} {fu : Int} {e : Ending} {w' : World} (H : OpenP Z w c p room nb K ⟨I, [], fu, false⟩ (f : Int) (b : Int) e w') (h : Cut d nb f b lo home Ts) (hlo : 16 ≤ b) (hfit : f + b ≤ nb) (hnb : nb ≤ 524288) (hI : ∀ x, x < nb → d.poss x (imgB I x)) (hf : (⟨I, [], fu, false⟩ : Pd).Fits nb) :
  Opened Z w c p room nb K f b fu lo home Ts e w' := by
 obtain ⟨l, q, h1, h2, n, h3, h4, h5, h6⟩ := h.open hlo hfit hnb hI hf
 obtain ⟨b1, jv, code, rfl, k⟩ := H
 have hlc : layC ⟨I, [], fu, false⟩ nb (f : Int) (b : Int) = 0 := by
  unfold layC
  rw [if_neg (by simp)]
  exact placeC_ok hlo hfit hnb
 refine ⟨b1, jv, code, rfl, n, ?_⟩
 rcases k with ⟨k1, _⟩ | ⟨_, f', b', ef, eb, _, _, k⟩
 ·exact absurd hlc k1
 ·have ef' : f' = f := by omega
  have eb' : b' = b := by omega
  subst ef' eb'
  rcases k with ⟨_, _, k | ⟨l', q', k1, k2⟩, _⟩ | ⟨l', q', k1, k2, k3, Z', k4, k5⟩
  ·rw [h1] at k; cases k
  ·rw [h1] at k1
   cases k1
   exact absurd h2 k2
  ·rw [h1] at k1
   cases k1
   refine ⟨Z', ((⟨I, [], fu, false⟩ : Pd).runs (settleCmds nb f' b' (openS nb f' b' ⟨I, [], fu, false⟩ l q))).2, h3, h4, k4, ?_⟩
   rcases k5 with ⟨k6, k7, k8⟩ | ⟨k6, j, k7, k8, k9⟩
   ·rw [k3] at k6
    have ho := Pd.runs_off k6
    refine .inl ⟨k3.trans ho.1, fun hfu => ?_, k7, k8, ho.2, h6 k6⟩
    exact k6 (Pd.runs_free (d := ⟨I, [], fu, false⟩) rfl hfu _).1
   ·exact .inr ⟨k6, j, _, k7, k8, k9, h5 (k3 ▸ k6)⟩
theorem format_on {nb f b : Nat} {d : Pd} (hlo : 16 ≤ b) (hfit : f + b ≤ nb) (hf : d.Fits nb) (hon : d.off = false) (hc : (d.runs (formatCmds f b)).1 = 0) : On (d.runs (formatCmds f b)).2 (beginS noS) nb f b 0 d.read [] := by
 obtain ⟨_, hm⟩ := format_nm (cont := contT d.read []) hfit (by omega) hf (fun x _ => rfl) hc
 refine ⟨⟨0, d.read, [], 0, hm⟩, Pd.runs_on hon hc, rfl, ?_⟩
 have : formatCmds f b = (wipes f b f 1 ++ [.fl] ++ wipes f b (f + 1) (b - 1) ++ [.fl] ++ [.wr f (headZ f b (noS.life + 1) noS.seq)]) ++ [.fl] := rfl
 rw [this] at hc ⊢
 rw [Pd.runs_fl_puts hc]
 exact Nat.zero_le _
end Go.Proofs.YtldlejpacgphmaaGreat
namespace Go.Proofs.YtldlejpacgphmaaGreat
open Go.RowKit
def plainT (Us : List (List Pm)) : List Tn := Us.map fun ps => ps.map Pm.put
structure LgW (X : Nat → Prop) (w : World) (g hb hc nb fr bl : Nat) (H : List Int) (ta : Option Addr) (tc : Nat) (vs : List Value) (Us : List (List Pm)) : Prop where
 lg : Lg w g (some ⟨hb, 0, none⟩) nb hc fr bl ta Us.length tc
 gl : g < w.heap.size
 ng : ¬ X g
 own : Own w hb (512 * nb) hc H
 isb : Pl.isB H
 nh : ¬ X hb ∧ hb ≠ g ∧ (Value.slice ta Us.length tc).ownBlock ≠ some hb
 row : w.ownsRow 0 30 1 (.slice ta Us.length tc) Us.length vs
 nt : ∀ k, (Value.slice ta Us.length tc).ownBlock = some k → ¬ X k ∧ k ≠ g
 txn : ∀ (i : Nat) (ps : List Pm), Us[i]? = some ps → ∃ (a : Option Addr) (cp : Nat), vs[i]? = some (Value.slice a ps.length cp) ∧ RdP (fun k => X k ∨ k = g ∨ (Value.slice ta Us.length tc).ownBlock = some k) w a ps ∧ (∀ p ∈ ps, 0 ≤ p.at_ ∧ p.at_ < 524288 ∧ p.data.length = 512) ∧ ps.length ≤ 1073741823
def behT (home : Nat → List Int) (Ts : List Tn) (t : Tn) (i p x : Nat) : List Int := (aheadP (fun _ => none) ((Ts.take i).flatten ++ t.take p) x).getD (home x)
theorem behT_zero (home : Nat → List Int) (Ts : List Tn) (t : Tn) (i x : Nat) : behT home Ts t i 0 x = contT home Ts i x := by
 unfold behT contT after
 simp
theorem behT_all {home : Nat → List Int} {Ts : List Tn} {t : Tn} {i : Nat} (h : Ts[i]? = some t) (x : Nat) : behT home Ts t i t.length x = contT home Ts (i + 1) x := by
 unfold behT contT after
 rw [List.take_length, List.take_add_one, h]
 simp
theorem behT_succ {home : Nat → List Int} {Ts : List Tn} {t : Tn} {i p : Nat} {q : Nat × List Int} (h : t[p]? = some q) (x : Nat) : behT home Ts t i (p + 1) x = if x = q.1 then q.2 else behT home Ts t i p x := by
 unfold behT
 rw [List.take_add_one, h]
 show (aheadP _ ((Ts.take i).flatten ++ (t.take p ++ [q])) x).getD _ = _
 rw [← List.append_assoc, aheadP_snoc]
 show (if x = q.1 then some q.2 else _ : Option (List Int)).getD _ = _
 by_cases hx : x = q.1
 ·rw [if_pos hx, if_pos hx]; rfl
 ·rw [if_neg hx, if_neg hx]
set_option maxRecDepth 100000 in
set_option maxHeartbeats 4000000 in
theorem refBehind_any {X : Nat → Prop} {w : World} {g hb hc nb fr bl : Nat} {H : List Int} {ta : Option Addr} {tc : Nat} {vs : List Value} {Us : List (List Pm)} (h : LgW X w g hb hc nb fr bl H ta tc vs Us) (hnb : nb ≤ 524288) (x : Nat) (hx : x < nb) (k : Nat) (hk : k ≤ Us.length) (hUs : Us.length ≤ 1099511627776) :
  Calls Tryz.prog 17 #[.pointer (some ⟨g, 0, none⟩), .int .i64 (x : Int), .int .i64 (k : Int)] w fun e w' => ∃ g' cp, e = .returned (.slice (some ⟨g', 0, none⟩) 512 cp) ∧ w.heap.size ≤ g' ∧ Own w' g' 512 cp (contT (imgB H) (plainT Us) k x) ∧ Below w.heap.size w w' := by
 have c0 := h.lg.c0
 have c3 := h.lg.c3
 have hcap := h.own.cap
 have hl0 : ∀ t, t < 512 → w.cell? ⟨hb, x * 512 + t, none⟩ = some (.int .u8 ((imgB H x).getD t 0)) := fun t ht => by
  rw [h.own.cell (x * 512 + t) (by omega)]
  unfold imgB
  rw [List.getD_eq_getElem?_getD, List.getD_eq_getElem?_getD, List.getElem?_take_of_lt ht, List.getElem?_drop, Nat.mul_comm 512 x]
 have hlen0 : (imgB H x).length = 512 := by
  have := h.own.len
  unfold imgB
  simp
  omega
 have hgl := h.gl
 obtain ⟨a1, cp1, w1, hrun1, hrow1, hbt1, hgr1⟩ := grow_rd (w := w) (B := w.heap.size) (n := 0) (a := none) (c := 0) (zs := []) (b := hb) (off := x * 512) (m := 512) (cp := hc - x * 512) 22 (World.ownsRow_nil _ _ _ _) (body := imgB H x) hlen0 hl0 (by omega) (by omega) (Nat.le_refl _)
 have B1 : Hid (Below w.heap.size w w1) := hbt1.below (Nat.le_refl _) (fun k hk r => by omega)
 have hs1 := B1.out.size
 obtain ⟨g1, cq, e1, hg1, _⟩ := owns_form hrow1 (by simp)
 simp only [Value.slice.injEq] at e1
 obtain ⟨e1, _, rfl⟩ := e1
 subst e1
 have o1 : Own w1 g1 512 cp1 (imgB H x) := by
  have := Own.of hrow1
  simpa using this
 have lt1 := o1.lt
 have c3' := (B1.out.cell (p := ⟨g, 3, none⟩) hgl).trans c3
 have hvn : vs.length = Us.length := by have := h.row.1; simpa using this
 have HT : Hid (∀ (i : Nat) (ps : List Pm), Us[i]? = some ps → ∃ tb, ta = some ⟨tb, 0, none⟩ ∧ ∃ a cp, w1.cell? ⟨tb, i, none⟩ = some (.slice a ps.length cp) ∧ (∀ p ∈ ps, 0 ≤ p.at_ ∧ p.at_ < 524288 ∧ p.data.length = 512) ∧ ps.length ≤ 1073741823 ∧ ∀ (q : Nat) (pp : Pm), ps[q]? = some pp → ∃ pb po, a = some ⟨pb, po, none⟩ ∧ w1.cell? ⟨pb, po + q * 2, none⟩ = some (.int .i64 pp.at_) ∧ ∃ db dof, w1.cell? ⟨pb, po + q * 2 + 1, none⟩ = some (.slice (some ⟨db, dof, none⟩) 512 pp.cap) ∧ db < w1.heap.size ∧ ∀ t, t < 512 → w1.cell? ⟨db, dof + t, none⟩ = some (.int .u8 (pp.data.getD t 0))) := fun i ps hi => by
  have hil := (List.getElem?_eq_some_iff.1 hi).1
  obtain ⟨tb, e, _, htl, hcs⟩ := owns_cells h.row (by omega)
  obtain ⟨a, cp, q1, q2, q3, q4⟩ := h.txn i ps hi
  refine ⟨tb, e, a, cp, ?_, q3, q4, fun q pp hq => ?_⟩
  ·rw [B1.out.cell (p := ⟨tb, i, none⟩) htl, hcs i (by omega)]
   rw [List.getD_eq_getElem?_getD, q1]
   rfl
  ·obtain ⟨d0, d1, d2⟩ := q3 pp (List.mem_of_getElem? hq)
   rcases q2.2 with r | ⟨pb, po, r1, r2, _, r3⟩
   ·rw [r] at hq; cases hq
   ·obtain ⟨r4, r5⟩ := r3 q pp hq
    rcases (q2.1 pp (List.mem_of_getElem? hq)).2.2 with r | ⟨db, dof, r6, r7, _, r8⟩
    ·omega
    ·rw [r6, d2] at r5
     rw [d2] at r8
     exact ⟨pb, po, r1, (B1.out.cell (p := ⟨pb, po + q * 2, none⟩) r2).trans r4, db, dof, (B1.out.cell (p := ⟨pb, po + q * 2 + 1, none⟩) r2).trans r5, by omega, fun t ht => (B1.out.cell (p := ⟨db, dof + t, none⟩) r7).trans (r8 t ht)⟩
 have HPl : Hid (∀ (i : Nat) (ps : List Pm), Us[i]? = some ps → (plainT Us)[i]? = some (ps.map Pm.put)) := fun i ps hi => by
  unfold plainT
  rw [List.getElem?_map, hi]
  rfl
 have hrun1' : (Builtin.append_ #[22, 22] 22 #[.slice none 0 0, .slice (some ⟨hb, x * 512, none⟩) ((x + 1) * 512 - x * 512) (hc - x * 512)]).run Tryz.prog w = .ok (.slice (some ⟨g1, 0, none⟩) 512 cp1) w1 := by
  have e5 : (x + 1) * 512 - x * 512 = 512 := by omega
  rw [e5]
  exact hrun1
 clear hrun1
 have HO1 := hid o1
 have HL0 := hid hlen0
 obtain ⟨N, hN⟩ : ∃ N, N = Us.length := ⟨_, rfl⟩
 rw [← hN] at c3 c3' hk hUs
 have HN := hid hN
 clear h hl0 hlen0 hrow1 hbt1 hgr1 o1 hvn hN
 go_enter Tryz.func17, Tryz.ntmps17
 go_wp2_with (at_builtin; refine Lib.wpList_append_run _ rfl _ _ _ _ rfl _ _ rfl rfl _ _ hrun1' ?_)
 clear hrun1' c0 c3
 go_loopw [7, 8] (fun ov iv wr => ∃ (i b off c : Nat), i ≤ k ∧ iv = .int .i64 (i : Int) ∧ ov = .slice (some ⟨b, off, none⟩) 512 c ∧ (b < w1.heap.size ∧ (contT (imgB H) (plainT Us) i x).length = 512 ∧ ∀ t, t < 512 → w1.cell? ⟨b, off + t, none⟩ = some (.int .u8 ((contT (imgB H) (plainT Us) i x).getD t 0))) ∧ wr = w1) (fun _ iv _ => k - (intOf iv).toNat)
 case atStart =>
  refine ⟨0, g1, 0, cp1, Nat.zero_le _, rfl, rfl, ⟨lt1, HL0.out, fun t ht => ?_⟩, rfl⟩
  rw [Nat.zero_add]
  exact HO1.out.cell t ht
 case round =>
  clear HO1 HL0
  obtain ⟨i, b, off, c, hik, rfl, rfl, hcont, hwr⟩ := hrel
  rw [hwr]
  clear hwr
  have HC := hid hcont
  clear hcont
  by_cases hi : i < k
  ·have hi' : (i : Int) < (k : Int) := by omega
   have hiN : i < N := by omega
   have hiN' : (i : Int) < (N : Int) := by omega
   obtain ⟨ps, hps⟩ : ∃ ps, Us[i]? = some ps := ⟨_, List.getElem?_eq_getElem (by have := HN.out; omega)⟩
   obtain ⟨tb, hta, a, cp, ct, hput, hpl, hpc⟩ := HT.out i ps hps
   have HPS := hid hps
   have HPU := hid hput
   have HPC := hid hpc
   obtain ⟨M, hM⟩ : ∃ M, M = ps.length := ⟨_, rfl⟩
   rw [← hM] at ct hpl
   have HM := hid hM
   subst hta
   clear hps hput hpc hM
   go_wp2_with fail
   go_loopw [7, 9] (fun ov pv wr => ∃ (p b off c : Nat), p ≤ M ∧ pv = .int .i64 (p : Int) ∧ ov = .slice (some ⟨b, off, none⟩) 512 c ∧ (b < wr.heap.size ∧ (behT (imgB H) (plainT Us) (ps.map Pm.put) i p x).length = 512 ∧ ∀ t, t < 512 → wr.cell? ⟨b, off + t, none⟩ = some (.int .u8 ((behT (imgB H) (plainT Us) (ps.map Pm.put) i p x).getD t 0))) ∧ wr = w1) (fun _ pv _ => M - (intOf pv).toNat)
   case atStart =>
    refine ⟨0, b, off, c, Nat.zero_le _, rfl, rfl, ?_, rfl⟩
    rw [behT_zero]
    exact HC.out
   case round =>
    clear HC
    obtain ⟨p, b, off, c, hpM, rfl, rfl, hcont, hwr⟩ := hrel
    rw [hwr] at hcont ⊢
    clear hwr
    have HC := hid hcont
    clear hcont
    by_cases hp : p < M
    ·have hp' : (p : Int) < (M : Int) := by omega
     obtain ⟨pp, hpp⟩ : ∃ pp, ps[p]? = some pp := ⟨_, List.getElem?_eq_getElem (by have := HM.out; omega)⟩
     obtain ⟨pb, po, ha, d0, db, dof, d1, hdl, hds⟩ := HPC.out p pp hpp
     obtain ⟨z0, z1, z2⟩ := HPU.out pp (List.mem_of_getElem? hpp)
     have hsucc : ∀ x, behT (imgB H) (plainT Us) (ps.map Pm.put) i (p + 1) x = if x = pp.put.1 then pp.put.2 else behT (imgB H) (plainT Us) (ps.map Pm.put) i p x := fun x => behT_succ (by rw [List.getElem?_map, hpp]; rfl) x
     subst ha
     by_cases hat : pp.at_ = (x : Int)
     ·have FIN : Hid (db < w1.heap.size ∧ (behT (imgB H) (plainT Us) (ps.map Pm.put) i (p + 1) x).length = 512 ∧ ∀ t, t < 512 → w1.cell? ⟨db, dof + t, none⟩ = some (.int .u8 ((behT (imgB H) (plainT Us) (ps.map Pm.put) i (p + 1) x).getD t 0))) := by
       have e : x = pp.put.1 := by show x = pp.at_.toNat; omega
       rw [hsucc, if_pos e]
       exact ⟨hdl, z2, hds⟩
      rw [hat] at d0
      clear hsucc hds z0 z1 z2 hpp hat HC HT HPl HPC HPU
      go_wp2
      refine ⟨⟨p + 1, db, dof, pp.cap, by omega, by go_num, rfl, FIN.out, trivial⟩, ?_⟩
      simp [intOf]
      omega
     ·have FIN : Hid (b < w1.heap.size ∧ (behT (imgB H) (plainT Us) (ps.map Pm.put) i (p + 1) x).length = 512 ∧ ∀ t, t < 512 → w1.cell? ⟨b, off + t, none⟩ = some (.int .u8 ((behT (imgB H) (plainT Us) (ps.map Pm.put) i (p + 1) x).getD t 0))) := by
       have e : ¬ x = pp.put.1 := by show ¬ x = pp.at_.toNat; omega
       rw [hsucc, if_neg e]
       exact HC.out
      obtain ⟨v, hv⟩ : ∃ v, v = pp.at_ := ⟨_, rfl⟩
      rw [← hv] at d0 hat
      clear hsucc hds z0 z1 z2 hpp HC HT HPl HPC HPU hv
      go_wp2
      refine ⟨⟨p + 1, b, off, c, by omega, by go_num, rfl, FIN.out, trivial⟩, ?_⟩
      simp [intOf]
      omega
    ·have hp' : ¬ (p : Int) < (M : Int) := by omega
     have FIN : Hid (b < w1.heap.size ∧ (contT (imgB H) (plainT Us) (i + 1) x).length = 512 ∧ ∀ t, t < 512 → w1.cell? ⟨b, off + t, none⟩ = some (.int .u8 ((contT (imgB H) (plainT Us) (i + 1) x).getD t 0))) := by
      have hpe : p = (ps.map Pm.put).length := by rw [List.length_map, ← HM.out]; omega
      rw [← behT_all (HPl.out i ps HPS.out), ← hpe]
      exact HC.out
     clear HC HT HPl HPC HPU
     go_wp2
     refine ⟨⟨i + 1, b, off, c, by omega, by go_num, rfl, FIN.out, trivial⟩, ?_⟩
     simp [intOf]
     omega
  ·have hi' : ¬ (i : Int) < (k : Int) := by omega
   have hie : i = k := by omega
   subst hie
   obtain ⟨q1, q2, q3⟩ := HC.out
   obtain ⟨a2, cp2, w2, hrun2, hrow2, hbt2, _⟩ := grow_rd (w := w1) (B := w1.heap.size) (n := 0) (a := none) (c := 0) (zs := []) (b := b) (off := off) (m := 512) (cp := c) 22 (World.ownsRow_nil _ _ _ _) (body := contT (imgB H) (plainT Us) i x) q2 q3 (by omega) (by omega) (Nat.le_refl _)
   obtain ⟨g2, cq, e2, hg2, _⟩ := owns_form hrow2 (by simp)
   simp only [Value.slice.injEq] at e2
   obtain ⟨e2, _, rfl⟩ := e2
   subst e2
   have FIN : Hid (w.heap.size ≤ g2 ∧ Own w2 g2 512 cp2 (contT (imgB H) (plainT Us) i x) ∧ Below w.heap.size w w2) := by
    refine ⟨by omega, ?_, B1.out.trans ((hbt2.below (Nat.le_refl _) (fun k hk r => by omega)).mono hs1)⟩
    have := Own.of hrow2
    simpa using this
   simp only [Nat.zero_add] at hrun2
   clear q1 q2 q3 hrow2 hbt2 hg2 HC HT HPl
   go_wp2_with (at_builtin; refine Lib.wpList_append_run _ rfl _ _ _ _ rfl _ _ rfl rfl _ _ hrun2 ?_)
   go_ret
   exact ⟨g2, cp2, rfl, FIN.out⟩
end Go.Proofs.YtldlejpacgphmaaGreat
