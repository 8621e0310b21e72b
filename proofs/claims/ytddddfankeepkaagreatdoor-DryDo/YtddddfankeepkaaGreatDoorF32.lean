import Derived.Test.YtddddfankeepkaaGreatDoorF13
import Derived.Test.YtddddfankeepkaaGreatDoorF25
import Derived.Test.YtddddfankeepkaaGreatDoorF31
namespace Go.Proofs.YtddddfankeepkaaGreatDoor
open Go.RowKit
def setPt (v : PV) (b : Bool) : PV := ⟨v.nm, v.id, v.sz, v.og, v.kd, b, v.mp⟩
def lstR (rs : List Rg) : Rg := rs.getD (rs.length - 1) ⟨0, 0⟩
def trnV (t : Nat) (v : PV) : PV :=
 if t = 1 then setSz v (min (v.sz + 1) 262144)
 else if t = 2 then setPt v (!v.pt)
 else if t = 3 then (if 0 < v.mp.length ∧ (lstR v.mp).f < (lstR v.mp).t - 1 then setMp v (setT v.mp ((lstR v.mp).t - 1)) else v)
 else v
def midV (x : VW) : PV := x.vs.getD (x.vs.length / 2) PV0
def trnX (x : VW) (t : Nat) : VW := ⟨x.cp, x.fr, x.nx, x.vs.set (x.vs.length / 2) (trnV t (midV x))⟩
theorem trnX_len (x : VW) (t : Nat) : (trnX x t).vs.length = x.vs.length := by simp [trnX]
theorem setT_len (rs : List Rg) (t : Int) (h : 0 < rs.length) : (setT rs t).length = rs.length := by
 simp [setT]
 omega
theorem trnV_mp (t : Nat) (v : PV) : (trnV t v).mp.length = v.mp.length := by
 unfold trnV
 split
 ·rfl
 ·split
  ·rfl
  ·split
   ·split
    ·rename_i h
     exact setT_len _ _ h.1
    ·rfl
   ·rfl
theorem NF.setT {sz : Int} {rs : List Rg} (h : NF (-1) rs sz) (h0 : 0 < rs.length) {z : Int} (h1 : (lstR rs).f < z) (h2 : z ≤ (lstR rs).t) : NF (-1) (Go.Proofs.YtddddfankeepkaaGreatDoor.setT rs z) sz := by
 obtain ⟨l, r, rfl⟩ : ∃ l r, rs = l ++ [r] := ⟨rs.dropLast, rs.getLast (by intro e; rw [e] at h0; simp at h0), (List.dropLast_concat_getLast _).symm⟩
 have e1 : lstR (l ++ [r]) = r := by simp [lstR]
 have e2 : Go.Proofs.YtddddfankeepkaaGreatDoor.setT (l ++ [r]) z = l ++ [⟨r.f, z⟩] := by simp [Go.Proofs.YtddddfankeepkaaGreatDoor.setT]
 rw [e1] at h1 h2
 rw [e2]
 obtain ⟨ha, hp⟩ := h
 have hr := ha r (by simp)
 rw [List.pairwise_append] at hp
 refine ⟨fun q hq => ?_, ?_⟩
 ·rcases List.mem_append.1 hq with hq | hq
  ·exact ha q (by simp [hq])
  ·simp at hq
   subst hq
   simp only
   omega
 ·rw [List.pairwise_append]
  refine ⟨hp.1, by simp, fun a hm b hb => ?_⟩
  simp at hb
  subst hb
  exact hp.2.2 a hm r (by simp)
theorem NF.wide {sz sz' : Int} {rs : List Rg} (h : NF (-1) rs sz) (hs : sz ≤ sz') : NF (-1) rs sz' := ⟨fun q hq => by have := h.all q hq; omega, h.apart⟩
theorem trnV_vop {v : PV} {nx : Int} (h : VoP v nx) (t : Nat) : VoP (trnV t v) nx := by
 have s1 := h.s1
 have s2 := h.s2
 unfold trnV
 split
 ·refine ⟨h.nm, h.i1, h.i2, ?_, ?_, h.o1, h.o2, h.kd, h.mp.wide ?_⟩
  ·show 1 ≤ min (v.sz + 1) 262144
   omega
  ·show min (v.sz + 1) 262144 ≤ 262144
   omega
  ·show v.sz ≤ min (v.sz + 1) 262144
   omega
 ·split
  ·exact ⟨h.nm, h.i1, h.i2, s1, s2, h.o1, h.o2, h.kd, h.mp⟩
  ·split
   ·split
    ·rename_i q
     exact ⟨h.nm, h.i1, h.i2, s1, s2, h.o1, h.o2, h.kd, h.mp.setT q.1 q.2 (by omega)⟩
    ·exact h
   ·exact h
theorem trnV_nm (t : Nat) (v : PV) : (trnV t v).nm = v.nm ∧ (trnV t v).id = v.id := by
 unfold trnV
 repeat (split; try exact ⟨rfl, rfl⟩)
 all_goals exact ⟨rfl, rfl⟩
theorem mid_lt {x : VW} (h : 0 < x.vs.length) : x.vs.length / 2 < x.vs.length := by omega
theorem midV_get {x : VW} (h : 0 < x.vs.length) : midV x = x.vs[x.vs.length / 2]'(mid_lt h) := getD_lt _
theorem trnX_may {x : VW} (hM : MayP x) (t : Nat) : MayP (trnX x t) := by
 by_cases h : 0 < x.vs.length
 ·have e := midV_get h
  refine hM.set (mid_lt h) ?_ ?_ ?_
  ·rw [(trnV_nm t _).1, e]
  ·rw [(trnV_nm t _).2, e]
  ·rw [e]; exact trnV_vop (hM.vol _ (List.getElem_mem _)) t
 ·have : x.vs = [] := List.eq_nil_of_length_eq_zero (by omega)
  have e : trnX x t = x := by
   obtain ⟨a, b, c, d⟩ := x
   simp only at this
   subst this
   rfl
  rw [e]; exact hM
/-! ### in memory -/
theorem flatV_set5b : ∀ (vs : List PV) (us : List Value) (k : Nat) (hk : k < vs.length) (b : Bool), us.length = vs.length → flatV (vs.set k (setPt vs[k] b)) us = (flatV vs us).set (k * 7 + 5) (.bool b)
 | [], _, k, hk, _, _ => by simp at hk
 | _ :: _, [], _, _, _, h => by simp at h
 | x :: ts, y :: us, 0, _, n, _ => by simp [flatV, cells7, setPt]
 | x :: ts, y :: us, k + 1, hk, n, hl => by
  have ih := flatV_set5b ts us k (by simpa using hk) n (by simpa using hl)
  simp only [List.getElem_cons_succ]
  rw [List.set_cons_succ, flatV, ih, flatV, show (k + 1) * 7 + 5 = k * 7 + 5 + 7 by omega]
  simp [cells7]
theorem OwV.setS {B : Nat} {w : World} {vs : List PV} {c g k : Nat} {us : List Value} (H : OwV B w (.slice (some ⟨g, 0, none⟩) vs.length c) vs us) (hk : k < vs.length) (n : Int) :
  OwV B (w.setCell ⟨g, k * 7 + 2, none⟩ (.int .i64 n)) (.slice (some ⟨g, 0, none⟩) vs.length c) (vs.set k (setSz vs[k] n)) us := by
 have hg : (Value.slice (some ⟨g, 0, none⟩) vs.length c).ownBlock = some g := rfl
 have hl := H.len
 have hst := (H.row.stored (k * 7 + 2) (.int .i64 n)).1
 refine ⟨by simp [hl], ?_, fun i hi => ?_⟩
 ·rw [flatV_set2 vs us k hk n hl]
  simpa using hst
 ·have hi' : i < vs.length := by simpa using hi
  have e : ((vs.set k (setSz vs[k] n))[i]'(by simpa using hi)).mp = vs[i].mp := by
   rw [List.getElem_set]
   split
   ·subst_vars; rfl
   ·rfl
  have := own_set (H.dat i hi') (p := ⟨g, k * 7 + 2, none⟩) (fun e2 => H.ne hg (by omega) e2) (.int .i64 n)
  unfold OwR
  rw [e]
  exact this
theorem OwV.setP {B : Nat} {w : World} {vs : List PV} {c g k : Nat} {us : List Value} (H : OwV B w (.slice (some ⟨g, 0, none⟩) vs.length c) vs us) (hk : k < vs.length) (b : Bool) :
  OwV B (w.setCell ⟨g, k * 7 + 5, none⟩ (.bool b)) (.slice (some ⟨g, 0, none⟩) vs.length c) (vs.set k (setPt vs[k] b)) us := by
 have hg : (Value.slice (some ⟨g, 0, none⟩) vs.length c).ownBlock = some g := rfl
 have hl := H.len
 have hst := (H.row.stored (k * 7 + 5) (.bool b)).1
 refine ⟨by simp [hl], ?_, fun i hi => ?_⟩
 ·rw [flatV_set5b vs us k hk b hl]
  simpa using hst
 ·have hi' : i < vs.length := by simpa using hi
  have e : ((vs.set k (setPt vs[k] b))[i]'(by simpa using hi)).mp = vs[i].mp := by
   rw [List.getElem_set]
   split
   ·subst_vars; rfl
   ·rfl
  have := own_set (H.dat i hi') (p := ⟨g, k * 7 + 5, none⟩) (fun e2 => H.ne hg (by omega) e2) (.bool b)
  unfold OwR
  rw [e]
  exact this
theorem OwV.setM {B : Nat} {w : World} {vs : List PV} {c g k m c2 b : Nat} {us : List Value} (H : OwV B w (.slice (some ⟨g, 0, none⟩) vs.length c) vs us) (hA : Ap us) (hk : k < vs.length) (hm : vs[k].mp.length = m + 1) (hu : (us[k]'(by rw [H.len]; exact hk)) = .slice (some ⟨b, 0, none⟩) (m + 1) c2) (z : Int) :
  OwV B (w.setCell ⟨b, m * 2 + 1, none⟩ (.int .i64 z)) (.slice (some ⟨g, 0, none⟩) vs.length c) (vs.set k (setMp vs[k] (setT vs[k].mp z))) us := by
 have hg : (Value.slice (some ⟨g, 0, none⟩) vs.length c).ownBlock = some g := rfl
 have hl := H.len
 have hub : (us[k]'(by rw [H.len]; exact hk)).ownBlock = some b := by rw [hu]; rfl
 have hku : k < us.length := by rw [hl]; exact hk
 have hne : b ≠ g := fun e => H.ne hg hku (by rw [hub, e])
 have hf : flatV (vs.set k (setMp vs[k] (setT vs[k].mp z))) us = flatV vs us := by
  have := flatV_set6 vs us k hk (setT vs[k].mp z) (us[k]'(by omega)) hl
  rw [List.set_getElem_self] at this
  rw [this]
  apply List.ext_getElem?
  intro j
  rw [List.getElem?_set]
  split
  ·rename_i e
   subst e
   have := flatV_at vs us hl k hk 6 (by omega)
   rw [this]
   have h7 : (flatV vs us).length = vs.length * 7 := flatV_len vs us hl
   rw [if_pos (by omega)]
   rfl
  ·rfl
 refine ⟨by simp [hl], ?_, fun i hi => ?_⟩
 ·rw [hf, List.length_set]
  exact own_set H.row (p := ⟨b, m * 2 + 1, none⟩) (by rw [hg]; simpa using fun e => hne e.symm) _
 ·have hi' : i < vs.length := by simpa using hi
  by_cases e : k = i
  ·subst e
   simp only [List.getElem_set_self]
   rw [hu]
   have h9 := H.dat k hk
   rw [hu] at h9
   exact (h9.setT hm z).1
  ·simp only [List.getElem_set_ne e]
   exact own_set (H.dat i hi') (p := ⟨b, m * 2 + 1, none⟩) (fun e2 => e (hA k i (by omega) (by omega) b hub e2)) _
end Go.Proofs.YtddddfankeepkaaGreatDoor
