import Derived.Test.YtldlejpacgphmabGreatG23
import Derived.Test.YtldlejpacgphmabGreatG22
namespace Go.Proofs.YtldlejpacgphmabGreat
open Go.RowKit
def plainT (Us : List (List Pm)) : List Tn := Us.map fun ps => ps.map Pm.put
structure LgW (X : Nat → Prop) (w : World) (g hb hc nb fr bl : Nat) (H : List Int) (ta : Option Addr) (tc : Nat) (vs : List Value) (Us : List (List Pm)) : Prop where
 lg : Lg w g (some ⟨hb, 0, none⟩) nb hc fr bl ta Us.length tc
 gl : g < w.heap.size
 ng : ¬ X g
 own : Own w hb (512 * nb) hc H
 isb : Pl.isB H
 nh : ¬ X hb ∧ hb ≠ g ∧ (Value.slice ta Us.length tc).ownBlock ≠ some hb
 row : w.ownsRow 0 35 1 (.slice ta Us.length tc) Us.length vs
 nt : ∀ k, (Value.slice ta Us.length tc).ownBlock = some k → ¬ X k ∧ k ≠ g
 txn : ∀ (i : Nat) (ps : List Pm), Us[i]? = some ps → ∃ (a : Option Addr) (cp : Nat), vs[i]? = some (Value.slice a ps.length cp) ∧ RdP (fun k => X k ∨ k = g ∨ (Value.slice ta Us.length tc).ownBlock = some k) w a ps ∧ (∀ p ∈ ps, 0 ≤ p.at_ ∧ p.at_ < 524288 ∧ p.data.length = 512) ∧ ps.length ≤ 1073741823
def behT (home : Nat → List Int) (Ts : List Tn) (t : Tn) (i p x : Nat) : List Int := (aheadP (fun _ => none) ((Ts.take i).flatten ++ t.take p) x).getD (home x)
theorem behT_zero (home : Nat → List Int) (Ts : List Tn) (t : Tn) (i x : Nat) : behT home Ts t i 0 x = contT home Ts i x := by
 unfold behT contT after
 simp
theorem behT_all {home : Nat → List Int} {Ts : List Tn} {t : Tn} {i : Nat} (h : Ts[i]? = some t) (x : Nat) : behT home Ts t i t.length x = contT home Ts (i + 1) x := by
 unfold behT contT after
 rw [List.take_length, List.take_add_one, h]
 simp
theorem behT_succ {home : Nat → List Int} {Ts : List Tn} {t : Tn} {i p : Nat} {q : Nat × List Int} (h : t[p]? = some q) (x : Nat) : behT home Ts t i (p + 1) x = if x = q.1 then q.2 else behT home Ts t i p x := by
 unfold behT
 rw [List.take_add_one, h]
 show (aheadP _ ((Ts.take i).flatten ++ (t.take p ++ [q])) x).getD _ = _
 rw [← List.append_assoc, aheadP_snoc]
 show (if x = q.1 then some q.2 else _ : Option (List Int)).getD _ = _
 by_cases hx : x = q.1
 ·rw [if_pos hx, if_pos hx]; rfl
 ·rw [if_neg hx, if_neg hx]
set_option maxRecDepth 100000 in
set_option maxHeartbeats 4000000 in
theorem refBehind_any {X : Nat → Prop} {w : World} {g hb hc nb fr bl : Nat} {H : List Int} {ta : Option Addr} {tc : Nat} {vs : List Value} {Us : List (List Pm)} (h : LgW X w g hb hc nb fr bl H ta tc vs Us) (hnb : nb ≤ 524288) (x : Nat) (hx : x < nb) (k : Nat) (hk : k ≤ Us.length) (hUs : Us.length ≤ 1099511627776) :
  Calls Tryz.prog 78 #[.pointer (some ⟨g, 0, none⟩), .int .i64 (x : Int), .int .i64 (k : Int)] w fun e w' => ∃ g' cp, e = .returned (.slice (some ⟨g', 0, none⟩) 512 cp) ∧ w.heap.size ≤ g' ∧ Own w' g' 512 cp (contT (imgB H) (plainT Us) k x) ∧ Below w.heap.size w w' := by
 have c0 := h.lg.c0
 have c3 := h.lg.c3
 have hcap := h.own.cap
 have hl0 : ∀ t, t < 512 → w.cell? ⟨hb, x * 512 + t, none⟩ = some (.int .u8 ((imgB H x).getD t 0)) := fun t ht => by
  rw [h.own.cell (x * 512 + t) (by omega)]
  unfold imgB
  rw [List.getD_eq_getElem?_getD, List.getD_eq_getElem?_getD, List.getElem?_take_of_lt ht, List.getElem?_drop, Nat.mul_comm 512 x]
 have hlen0 : (imgB H x).length = 512 := by
  have := h.own.len
  unfold imgB
  simp
  omega
 have hgl := h.gl
 obtain ⟨a1, cp1, w1, hrun1, hrow1, hbt1, hgr1⟩ := grow_rd (w := w) (B := w.heap.size) (n := 0) (a := none) (c := 0) (zs := []) (b := hb) (off := x * 512) (m := 512) (cp := hc - x * 512) 22 (World.ownsRow_nil _ _ _ _) (body := imgB H x) hlen0 hl0 (by omega) (by omega) (Nat.le_refl _)
 have B1 : Hid (Below w.heap.size w w1) := hbt1.below (Nat.le_refl _) (fun k hk r => by omega)
 have hs1 := B1.out.size
 obtain ⟨g1, cq, e1, hg1, _⟩ := owns_form hrow1 (by simp)
 simp only [Value.slice.injEq] at e1
 obtain ⟨e1, _, rfl⟩ := e1
 subst e1
 have o1 : Own w1 g1 512 cp1 (imgB H x) := by
  have := Own.of hrow1
  simpa using this
 have lt1 := o1.lt
 have c3' := (B1.out.cell (p := ⟨g, 3, none⟩) hgl).trans c3
 have hvn : vs.length = Us.length := by have := h.row.1; simpa using this
 have HT : Hid (∀ (i : Nat) (ps : List Pm), Us[i]? = some ps → ∃ tb, ta = some ⟨tb, 0, none⟩ ∧ ∃ a cp, w1.cell? ⟨tb, i, none⟩ = some (.slice a ps.length cp) ∧ (∀ p ∈ ps, 0 ≤ p.at_ ∧ p.at_ < 524288 ∧ p.data.length = 512) ∧ ps.length ≤ 1073741823 ∧ ∀ (q : Nat) (pp : Pm), ps[q]? = some pp → ∃ pb po, a = some ⟨pb, po, none⟩ ∧ w1.cell? ⟨pb, po + q * 2, none⟩ = some (.int .i64 pp.at_) ∧ ∃ db dof, w1.cell? ⟨pb, po + q * 2 + 1, none⟩ = some (.slice (some ⟨db, dof, none⟩) 512 pp.cap) ∧ db < w1.heap.size ∧ ∀ t, t < 512 → w1.cell? ⟨db, dof + t, none⟩ = some (.int .u8 (pp.data.getD t 0))) := fun i ps hi => by
  have hil := (List.getElem?_eq_some_iff.1 hi).1
  obtain ⟨tb, e, _, htl, hcs⟩ := owns_cells h.row (by omega)
  obtain ⟨a, cp, q1, q2, q3, q4⟩ := h.txn i ps hi
  refine ⟨tb, e, a, cp, ?_, q3, q4, fun q pp hq => ?_⟩
  ·rw [B1.out.cell (p := ⟨tb, i, none⟩) htl, hcs i (by omega)]
   rw [List.getD_eq_getElem?_getD, q1]
   rfl
  ·obtain ⟨d0, d1, d2⟩ := q3 pp (List.mem_of_getElem? hq)
   rcases q2.2 with r | ⟨pb, po, r1, r2, _, r3⟩
   ·rw [r] at hq; cases hq
   ·obtain ⟨r4, r5⟩ := r3 q pp hq
    rcases (q2.1 pp (List.mem_of_getElem? hq)).2.2 with r | ⟨db, dof, r6, r7, _, r8⟩
    ·omega
    ·rw [r6, d2] at r5
     rw [d2] at r8
     exact ⟨pb, po, r1, (B1.out.cell (p := ⟨pb, po + q * 2, none⟩) r2).trans r4, db, dof, (B1.out.cell (p := ⟨pb, po + q * 2 + 1, none⟩) r2).trans r5, by omega, fun t ht => (B1.out.cell (p := ⟨db, dof + t, none⟩) r7).trans (r8 t ht)⟩
 have HPl : Hid (∀ (i : Nat) (ps : List Pm), Us[i]? = some ps → (plainT Us)[i]? = some (ps.map Pm.put)) := fun i ps hi => by
  unfold plainT
  rw [List.getElem?_map, hi]
  rfl
 have hrun1' : (Builtin.append_ #[22, 22] 22 #[.slice none 0 0, .slice (some ⟨hb, x * 512, none⟩) ((x + 1) * 512 - x * 512) (hc - x * 512)]).run Tryz.prog w = .ok (.slice (some ⟨g1, 0, none⟩) 512 cp1) w1 := by
  have e5 : (x + 1) * 512 - x * 512 = 512 := by omega
  rw [e5]
  exact hrun1
 clear hrun1
 have HO1 := hid o1
 have HL0 := hid hlen0
 obtain ⟨N, hN⟩ : ∃ N, N = Us.length := ⟨_, rfl⟩
 rw [← hN] at c3 c3' hk hUs
 have HN := hid hN
 clear h hl0 hlen0 hrow1 hbt1 hgr1 o1 hvn hN
 go_enter Tryz.func78, Tryz.ntmps78
 go_wp2_with (at_builtin; refine Lib.wpList_append_run _ rfl _ _ _ _ rfl _ _ rfl rfl _ _ hrun1' ?_)
 clear hrun1' c0 c3
 go_loopw [7, 8] (fun ov iv wr => ∃ (i b off c : Nat), i ≤ k ∧ iv = .int .i64 (i : Int) ∧ ov = .slice (some ⟨b, off, none⟩) 512 c ∧ (b < w1.heap.size ∧ (contT (imgB H) (plainT Us) i x).length = 512 ∧ ∀ t, t < 512 → w1.cell? ⟨b, off + t, none⟩ = some (.int .u8 ((contT (imgB H) (plainT Us) i x).getD t 0))) ∧ wr = w1) (fun _ iv _ => k - (intOf iv).toNat)
 case atStart =>
  refine ⟨0, g1, 0, cp1, Nat.zero_le _, rfl, rfl, ⟨lt1, HL0.out, fun t ht => ?_⟩, rfl⟩
  rw [Nat.zero_add]
  exact HO1.out.cell t ht
 case round =>
  clear HO1 HL0
  obtain ⟨i, b, off, c, hik, rfl, rfl, hcont, hwr⟩ := hrel
  rw [hwr]
  clear hwr
  have HC := hid hcont
  clear hcont
  by_cases hi : i < k
  ·have hi' : (i : Int) < (k : Int) := by omega
   have hiN : i < N := by omega
   have hiN' : (i : Int) < (N : Int) := by omega
   obtain ⟨ps, hps⟩ : ∃ ps, Us[i]? = some ps := ⟨_, List.getElem?_eq_getElem (by have := HN.out; omega)⟩
   obtain ⟨tb, hta, a, cp, ct, hput, hpl, hpc⟩ := HT.out i ps hps
   have HPS := hid hps
   have HPU := hid hput
   have HPC := hid hpc
   obtain ⟨M, hM⟩ : ∃ M, M = ps.length := ⟨_, rfl⟩
   rw [← hM] at ct hpl
   have HM := hid hM
   subst hta
   clear hps hput hpc hM
   go_wp2_with fail
   go_loopw [7, 9] (fun ov pv wr => ∃ (p b off c : Nat), p ≤ M ∧ pv = .int .i64 (p : Int) ∧ ov = .slice (some ⟨b, off, none⟩) 512 c ∧ (b < wr.heap.size ∧ (behT (imgB H) (plainT Us) (ps.map Pm.put) i p x).length = 512 ∧ ∀ t, t < 512 → wr.cell? ⟨b, off + t, none⟩ = some (.int .u8 ((behT (imgB H) (plainT Us) (ps.map Pm.put) i p x).getD t 0))) ∧ wr = w1) (fun _ pv _ => M - (intOf pv).toNat)
   case atStart =>
    refine ⟨0, b, off, c, Nat.zero_le _, rfl, rfl, ?_, rfl⟩
    rw [behT_zero]
    exact HC.out
   case round =>
    clear HC
    obtain ⟨p, b, off, c, hpM, rfl, rfl, hcont, hwr⟩ := hrel
    rw [hwr] at hcont ⊢
    clear hwr
    have HC := hid hcont
    clear hcont
    by_cases hp : p < M
    ·have hp' : (p : Int) < (M : Int) := by omega
     obtain ⟨pp, hpp⟩ : ∃ pp, ps[p]? = some pp := ⟨_, List.getElem?_eq_getElem (by have := HM.out; omega)⟩
     obtain ⟨pb, po, ha, d0, db, dof, d1, hdl, hds⟩ := HPC.out p pp hpp
     obtain ⟨z0, z1, z2⟩ := HPU.out pp (List.mem_of_getElem? hpp)
     have hsucc : ∀ x, behT (imgB H) (plainT Us) (ps.map Pm.put) i (p + 1) x = if x = pp.put.1 then pp.put.2 else behT (imgB H) (plainT Us) (ps.map Pm.put) i p x := fun x => behT_succ (by rw [List.getElem?_map, hpp]; rfl) x
     subst ha
     by_cases hat : pp.at_ = (x : Int)
     ·have FIN : Hid (db < w1.heap.size ∧ (behT (imgB H) (plainT Us) (ps.map Pm.put) i (p + 1) x).length = 512 ∧ ∀ t, t < 512 → w1.cell? ⟨db, dof + t, none⟩ = some (.int .u8 ((behT (imgB H) (plainT Us) (ps.map Pm.put) i (p + 1) x).getD t 0))) := by
       have e : x = pp.put.1 := by show x = pp.at_.toNat; omega
       rw [hsucc, if_pos e]
       exact ⟨hdl, z2, hds⟩
      rw [hat] at d0
      clear hsucc hds z0 z1 z2 hpp hat HC HT HPl HPC HPU
      go_wp2
      refine ⟨⟨p + 1, db, dof, pp.cap, by omega, by go_num, rfl, FIN.out, trivial⟩, ?_⟩
      simp [intOf]
      omega
     ·have FIN : Hid (b < w1.heap.size ∧ (behT (imgB H) (plainT Us) (ps.map Pm.put) i (p + 1) x).length = 512 ∧ ∀ t, t < 512 → w1.cell? ⟨b, off + t, none⟩ = some (.int .u8 ((behT (imgB H) (plainT Us) (ps.map Pm.put) i (p + 1) x).getD t 0))) := by
       have e : ¬ x = pp.put.1 := by show ¬ x = pp.at_.toNat; omega
       rw [hsucc, if_neg e]
       exact HC.out
      obtain ⟨v, hv⟩ : ∃ v, v = pp.at_ := ⟨_, rfl⟩
      rw [← hv] at d0 hat
      clear hsucc hds z0 z1 z2 hpp HC HT HPl HPC HPU hv
      go_wp2
      refine ⟨⟨p + 1, b, off, c, by omega, by go_num, rfl, FIN.out, trivial⟩, ?_⟩
      simp [intOf]
      omega
    ·have hp' : ¬ (p : Int) < (M : Int) := by omega
     have FIN : Hid (b < w1.heap.size ∧ (contT (imgB H) (plainT Us) (i + 1) x).length = 512 ∧ ∀ t, t < 512 → w1.cell? ⟨b, off + t, none⟩ = some (.int .u8 ((contT (imgB H) (plainT Us) (i + 1) x).getD t 0))) := by
      have hpe : p = (ps.map Pm.put).length := by rw [List.length_map, ← HM.out]; omega
      rw [← behT_all (HPl.out i ps HPS.out), ← hpe]
      exact HC.out
     clear HC HT HPl HPC HPU
     go_wp2
     refine ⟨⟨i + 1, b, off, c, by omega, by go_num, rfl, FIN.out, trivial⟩, ?_⟩
     simp [intOf]
     omega
  ·have hi' : ¬ (i : Int) < (k : Int) := by omega
   have hie : i = k := by omega
   subst hie
   obtain ⟨q1, q2, q3⟩ := HC.out
   obtain ⟨a2, cp2, w2, hrun2, hrow2, hbt2, _⟩ := grow_rd (w := w1) (B := w1.heap.size) (n := 0) (a := none) (c := 0) (zs := []) (b := b) (off := off) (m := 512) (cp := c) 22 (World.ownsRow_nil _ _ _ _) (body := contT (imgB H) (plainT Us) i x) q2 q3 (by omega) (by omega) (Nat.le_refl _)
   obtain ⟨g2, cq, e2, hg2, _⟩ := owns_form hrow2 (by simp)
   simp only [Value.slice.injEq] at e2
   obtain ⟨e2, _, rfl⟩ := e2
   subst e2
   have FIN : Hid (w.heap.size ≤ g2 ∧ Own w2 g2 512 cp2 (contT (imgB H) (plainT Us) i x) ∧ Below w.heap.size w w2) := by
    refine ⟨by omega, ?_, B1.out.trans ((hbt2.below (Nat.le_refl _) (fun k hk r => by omega)).mono hs1)⟩
    have := Own.of hrow2
    simpa using this
   simp only [Nat.zero_add] at hrun2
   clear q1 q2 q3 hrow2 hbt2 hg2 HC HT HPl
   go_wp2_with (at_builtin; refine Lib.wpList_append_run _ rfl _ _ _ _ rfl _ _ rfl rfl _ _ hrun2 ?_)
   go_ret
   exact ⟨g2, cp2, rfl, FIN.out⟩
open Go.RowKit
def fitsC (nb fr bl n : Nat) (ps : List Pm) : Int := if putsC nb fr bl ps ≠ 0 then putsC nb fr bl ps else if bl / 2 - 4 < diffs ps then 44 else if 1099511627776 ≤ n then 45 else 0
def firstB (ps : List Pm) (i k : Nat) : Bool := (ps.take k).all fun q => decide (q.at_ ≠ (ps.getD i ⟨0, none, 0, []⟩).at_)
def diffsTo (ps : List Pm) (i : Nat) : Nat := ((List.range i).filter fun j => firstB ps j j).length
theorem diffsTo_all (ps : List Pm) : diffsTo ps ps.length = diffs ps := rfl
theorem diffsTo_succ (ps : List Pm) (i : Nat) : diffsTo ps (i + 1) = diffsTo ps i + if firstB ps i i = true then 1 else 0 := by
 unfold diffsTo
 rw [List.range_succ, List.filter_append, List.length_append]
 congr 1
 by_cases h : firstB ps i i = true
 ·simp [h]
 ·simp [h]
theorem diffsTo_le (ps : List Pm) (i : Nat) : diffsTo ps i ≤ i := by
 unfold diffsTo
 have := List.length_filter_le (fun j => firstB ps j j) (List.range i)
 simpa using this
theorem firstB_succ {ps : List Pm} {i k : Nat} {p q : Pm} (hi : ps[i]? = some p) (hk : ps[k]? = some q) : firstB ps i (k + 1) = (firstB ps i k && decide (q.at_ ≠ p.at_)) := by
 unfold firstB
 rw [List.take_add_one, hk, List.all_append]
 simp [List.getD_eq_getElem?_getD, hi]
theorem firstB_zero (ps : List Pm) (i : Nat) : firstB ps i 0 = true := by simp [firstB]
theorem homeC_cases (nb : Nat) (fr bl at_ : Int) : homeC nb fr bl at_ = 42 ∨ homeC nb fr bl at_ = 0 := by
 unfold homeC
 split
 ·exact .inl rfl
 ·exact .inr rfl
set_option maxRecDepth 100000 in
set_option maxHeartbeats 4000000 in
theorem refFits_any {Y : Nat → Prop} {w : World} {g : Nat} {ha : Option Addr} {nb hc fr bl : Nat} {ta : Option Addr} {tn tc : Nat} (h : Lg w g ha nb hc fr bl ta tn tc) (hgl : g < w.heap.size) (hnb : nb ≤ 524288) (hfit : fr + bl ≤ nb) (hlo : 16 ≤ bl) (htn : tn ≤ 4611686018427387904) (a0 : Option Addr) (cp : Nat) (ps : List Pm) (hR : RdP Y w a0 ps) (hN : ps.length ≤ 1073741823) :
  Calls Tryz.prog 104 #[.pointer (some ⟨g, 0, none⟩), .slice a0 ps.length cp] w fun e w' => e = .returned (.int .i64 (fitsC nb fr bl tn ps)) ∧ Below w.heap.size w w' := by
 have HLg : Hid (∀ w', Below w.heap.size w w' → Lg w' g ha nb hc fr bl ta tn tc) := fun w' hb => h.keep (hb.block g hgl)
 have HAt : Hid (∀ w', Below w.heap.size w w' → ∀ at_, Calls Tryz.prog 77 #[.pointer (some ⟨g, 0, none⟩), .int .i64 at_] w' fun e w'' => e = .returned (.int .i64 (homeC nb fr bl at_)) ∧ Below w.heap.size w w'') := fun w' hb at_ => by
  refine Calls.mono (refAt_any (HLg.out w' hb) hnb hfit at_) ?_
  rintro e w'' ⟨rfl, b⟩
  exact ⟨rfl, hb.trans (b.mono hb.size)⟩
 have HMo := hid (refMost_any (bl : Int))
 have hmz : mostC (bl : Int) = 0 := by unfold mostC; rw [if_neg (by omega)]
 rw [hmz] at HMo
 obtain ⟨most, hmost⟩ : ∃ most : Int, most = (bl : Int) / 2 - 4 := ⟨_, rfl⟩
 have hmi : (if (bl : Int) < 16 ∨ 524288 < (bl : Int) then 0 else (bl : Int) / 2 - 4) = most := by rw [if_neg (by omega), hmost]
 simp only [hmi] at HMo
 have HPc : Hid (∀ (q : Nat) (pp : Pm), ps[q]? = some pp → ∃ pb po, a0 = some ⟨pb, po, none⟩ ∧ pb < w.heap.size ∧ ∀ (t : Nat) (p : Pm), ps[t]? = some p → w.cell? ⟨pb, po + t * 2, none⟩ = some (.int .i64 p.at_) ∧ w.cell? ⟨pb, po + t * 2 + 1, none⟩ = some (.slice p.ad p.data.length p.cap)) := fun q pp hq => by
  rcases hR.2 with r | ⟨pb, po, r1, r2, _, r3⟩
  ·rw [r] at hq; cases hq
  ·exact ⟨pb, po, r1, r2, r3⟩
 obtain ⟨N, hNe⟩ : ∃ N, N = ps.length := ⟨_, rfl⟩
 rw [← hNe] at hN ⊢
 have HN := hid hNe
 have HMS := hid (And.intro hmost hlo)
 obtain ⟨code, hcode⟩ : ∃ code : Int, code = fitsC nb fr bl tn ps := ⟨_, rfl⟩
 rw [← hcode]
 have HCD := hid hcode
 clear h hR hNe hmi hmz hmost hcode hfit hlo hgl
 go_enter Tryz.func104, Tryz.ntmps104
 go_wp2_with fail
 go_loopw [5, 6] (fun dv iv wr => ∃ i : Nat, i ≤ N ∧ iv = .int .i64 (i : Int) ∧ dv = .int .i64 (diffsTo ps i : Int) ∧ (∀ (t : Nat) (p : Pm), t < i → ps[t]? = some p → putC nb fr bl p.at_ p.data.length = 0) ∧ Below w.heap.size w wr) (fun _ iv _ => N - (intOf iv).toNat)
 case atStart => exact ⟨0, Nat.zero_le _, rfl, rfl, fun t p ht => by omega, Below.refl _ _⟩
 case round =>
  obtain ⟨i, hiN, rfl, rfl, hok, hbt⟩ := hrel
  have HB := hid hbt
  have HOK := hid hok
  clear hbt hok
  by_cases hi : i < N
  ·have hi' : (i : Int) < (N : Int) := by omega
   obtain ⟨pi, hpi⟩ : ∃ pi, ps[i]? = some pi := ⟨_, List.getElem?_eq_getElem (by have := HN.out; omega)⟩
   obtain ⟨pb, po, rfl, hpb, hcs⟩ := HPc.out i pi hpi
   obtain ⟨ci0, ci1⟩ := hcs i pi hpi
   have HCS := hid hcs
   have HPI := hid hpi
   have ci := (HB.out.cell (p := ⟨pb, po + i * 2, none⟩) hpb).trans ci0
   have HA := hid (HAt.out wr HB.out pi.at_)
   obtain ⟨vi, hvi⟩ : ∃ vi, vi = pi.at_ := ⟨_, rfl⟩
   obtain ⟨ln, hln⟩ : ∃ ln, ln = pi.data.length := ⟨_, rfl⟩
   rw [← hvi] at ci ci0 HA
   rw [← hln] at ci1
   have HV := hid (And.intro hvi hln)
   clear hcs hpi hvi hln
   have hdl := diffsTo_le ps i
   obtain ⟨dn, hdn⟩ : ∃ dn, dn = diffsTo ps i := ⟨_, rfl⟩
   rw [← hdn] at hdl ⊢
   have HDN := hid hdn
   clear hdn
   rcases homeC_cases nb fr bl vi with hh | hh
   ·rw [hh] at HA
    have hc2 : code = 42 := by
     have hp : putC nb fr bl pi.at_ pi.data.length = 42 := by
      unfold putC
      rw [← HV.out.1, hh]
      rfl
     rw [HCD.out]
     unfold fitsC
     rw [putsC_hit HOK.out HPI.out (by rw [hp]; decide), hp]
     rfl
    subst hc2
    clear hh
    go_wp2_with fail
    refine Calls.mono HA.out ?_
    rintro e w2 ⟨rfl, b2⟩
    have FIN := hid b2
    clear b2
    go_wp2
    go_ret
    exact ⟨rfl, FIN.out⟩
   ·rw [hh] at HA
    have HH := hid hh
    clear hh
    go_wp2_with fail
    refine Calls.mono HA.out ?_
    rintro e w2 ⟨rfl, b2⟩
    have B2 := hid b2
    have d1 := (b2.cell (p := ⟨pb, po + i * 2 + 1, none⟩) hpb).trans ci1
    have d0 := (b2.cell (p := ⟨pb, po + i * 2, none⟩) hpb).trans ci0
    clear b2 HA ci
    by_cases hl : ln = 512
    ·have hpz : putC nb fr bl pi.at_ pi.data.length = 0 := by
      unfold putC
      rw [← HV.out.1, HH.out, if_neg (by decide), ← HV.out.2, if_neg (by omega)]
     have HZ := hid hpz
     subst hl
     clear hpz
     go_wp2_with fail
     go_loopw [7, 8] (fun fv kv wr => ∃ k : Nat, k ≤ i ∧ kv = .int .i64 (k : Int) ∧ fv = .bool (firstB ps i k) ∧ Below w.heap.size w wr) (fun _ kv _ => i - (intOf kv).toNat)
     case atStart => exact ⟨0, Nat.zero_le _, rfl, by rw [firstB_zero], B2.out⟩
     case round =>
      clear B2 HB d0 d1
      obtain ⟨k, hki, rfl, rfl, hbt⟩ := hrel
      have HB := hid hbt
      clear hbt
      by_cases hk : k < i
      ·have hk' : (k : Int) < (i : Int) := by omega
       have hkN : k < N := by omega
       have hkN' : (k : Int) < (N : Int) := by omega
       obtain ⟨pk, hpk⟩ : ∃ pk, ps[k]? = some pk := ⟨_, List.getElem?_eq_getElem (by have := HN.out; omega)⟩
       have ck := (HB.out.cell (p := ⟨pb, po + k * 2, none⟩) hpb).trans (HCS.out k pk hpk).1
       have ci := (HB.out.cell (p := ⟨pb, po + i * 2, none⟩) hpb).trans ci0
       obtain ⟨vk, hvk⟩ : ∃ vk, vk = pk.at_ := ⟨_, rfl⟩
       rw [← hvk] at ck
       have hfs : firstB ps i (k + 1) = (firstB ps i k && decide (vk ≠ vi)) := by rw [firstB_succ HPI.out hpk, hvk, HV.out.1]
       have FIN : Hid (Below w.heap.size w wr.drew) := HB.out.drew
       clear hpk hvk
       cases hfb : firstB ps i k with
       | true =>
        rw [hfb, Bool.true_and] at hfs
        have HFS := hid hfs
        clear hfs hfb
        go_wp2_with fail
        refine wp_region_held_drew (S := fun w' => w'.cell? ⟨pb, po + k * 2, none⟩ = some (.int .i64 vk) ∧ w'.cell? ⟨pb, po + i * 2, none⟩ = some (.int .i64 vi)) (by kernel_rfl) ⟨ck, ci⟩ (fun hSS => ?_)
        refine tk 0 (some 37) (.move (.tmp 7)) 4 none hSS ?_
        refine tk 1 (some 38) (.move (.tmp 37)) 4 none hSS ?_
        refine tk 2 (some 39) (.move (.tmp 1)) 35 (some (1, true)) hSS ?_
        refine tk 3 (some 40) (.move (.tmp 8)) 3 (some (1, true)) hSS ?_
        try simp only [Act.put, zA, zB, zC]
        refine tk 4 (some 41) (.indexAddr 35 (.tmp 39) (.tmp 40)) 0 (some (1, true)) hSS ?_
        refine tk 5 (some 42) (.fieldAddr 97 (.tmp 41) 0) 0 (some (1, true)) hSS ?_
        refine tk 6 (some 43) (.load 3 (.tmp 42)) 3 (some (1, true)) hSS ?_
        refine tk 7 (some 44) (.move (.tmp 1)) 35 (some (1, true)) hSS ?_
        try simp only [Act.put, zA, zB, zC]
        refine tk 8 (some 45) (.move (.tmp 6)) 3 (some (1, true)) hSS ?_
        refine tk 9 (some 46) (.indexAddr 35 (.tmp 44) (.tmp 45)) 0 (some (1, true)) hSS ?_
        refine tk 10 (some 47) (.fieldAddr 97 (.tmp 46) 0) 0 (some (1, true)) hSS ?_
        refine tk 11 (some 48) (.load 3 (.tmp 47)) 3 (some (1, true)) hSS ?_
        try simp only [Act.put, zA, zB, zC]
        refine tk 12 (some 49) (.binOp .neq 3 (.tmp 43) (.tmp 48) 3) 4 (some (1, true)) hSS ?_
        refine tk 13 (some 50) (.pick (.tmp 38) (.tmp 49) (.const (.bool false))) 4 none hSS ?_
        refine tk 14 (some 7) (.assign (.tmp 50)) 4 none hSS ?_
        try simp only [Act.put, zA, zB, zC]
        refine wpAnyH_done (by kernel_rfl) ?_ _
        go_wp2
        refine ⟨⟨k + 1, by omega, by go_num, by rw [HFS.out]; simp; by_cases hq : vk = vi <;> simp [hq], FIN.out⟩, ?_⟩
        simp [intOf]
        omega
       | false =>
        rw [hfb, Bool.false_and] at hfs
        have HFS := hid hfs
        clear hfs hfb
        go_wp2_with fail
        refine wp_region_held_drew (S := fun w' => w'.cell? ⟨pb, po + k * 2, none⟩ = some (.int .i64 vk) ∧ w'.cell? ⟨pb, po + i * 2, none⟩ = some (.int .i64 vi)) (by kernel_rfl) ⟨ck, ci⟩ (fun hSS => ?_)
        refine tk 0 (some 37) (.move (.tmp 7)) 4 none hSS ?_
        refine tk 1 (some 38) (.move (.tmp 37)) 4 none hSS ?_
        try simp only [Act.put, zA, zB, zC]
        refine sk 2 (some 39) (.move (.tmp 1)) 35 (some (1, true)) hSS ?_
        refine sk 3 (some 40) (.move (.tmp 8)) 3 (some (1, true)) hSS ?_
        refine sk 4 (some 41) (.indexAddr 35 (.tmp 39) (.tmp 40)) 0 (some (1, true)) hSS ?_
        refine sk 5 (some 42) (.fieldAddr 97 (.tmp 41) 0) 0 (some (1, true)) hSS ?_
        try simp only [Act.put, zA, zB, zC]
        refine sk 6 (some 43) (.load 3 (.tmp 42)) 3 (some (1, true)) hSS ?_
        refine sk 7 (some 44) (.move (.tmp 1)) 35 (some (1, true)) hSS ?_
        refine sk 8 (some 45) (.move (.tmp 6)) 3 (some (1, true)) hSS ?_
        refine sk 9 (some 46) (.indexAddr 35 (.tmp 44) (.tmp 45)) 0 (some (1, true)) hSS ?_
        try simp only [Act.put, zA, zB, zC]
        refine sk 10 (some 47) (.fieldAddr 97 (.tmp 46) 0) 0 (some (1, true)) hSS ?_
        refine sk 11 (some 48) (.load 3 (.tmp 47)) 3 (some (1, true)) hSS ?_
        refine sk 12 (some 49) (.binOp .neq 3 (.tmp 43) (.tmp 48) 3) 4 (some (1, true)) hSS ?_
        refine tk 13 (some 50) (.pick (.tmp 38) (.tmp 49) (.const (.bool false))) 4 none hSS ?_
        try simp only [Act.put, zA, zB, zC]
        refine tk 14 (some 7) (.assign (.tmp 50)) 4 none hSS ?_
        try simp only [Act.put, zA, zB, zC]
        refine wpAnyH_done (by kernel_rfl) ?_ _
        go_wp2
        refine ⟨⟨k + 1, by omega, by go_num, by rw [HFS.out], FIN.out⟩, ?_⟩
        simp [intOf]
        omega
      ·have hk' : ¬ (k : Int) < (i : Int) := by omega
       have hke : k = i := by omega
       subst hke
       have hds := diffsTo_succ ps k
       rw [← HDN.out] at hds
       have FIN : Hid ((∀ (t : Nat) (p : Pm), t < k + 1 → ps[t]? = some p → putC nb fr bl p.at_ p.data.length = 0) ∧ Below w.heap.size w wr) := by
        refine ⟨fun t p ht hp => ?_, HB.out⟩
        by_cases hte : t = k
        ·subst hte
         rw [HPI.out] at hp
         cases hp
         exact HZ.out
        ·exact HOK.out t p (by omega) hp
       cases hfb : firstB ps k k with
       | true =>
        rw [hfb, if_pos rfl] at hds
        have HDS := hid hds
        clear hds hfb
        go_wp2
        refine ⟨⟨k + 1, by omega, by go_num, by rw [HDS.out]; go_num, FIN.out.1, FIN.out.2⟩, ?_⟩
        simp [intOf]
        omega
       | false =>
        rw [hfb, if_neg (by decide)] at hds
        have HDS := hid hds
        clear hds hfb
        go_wp2
        refine ⟨⟨k + 1, by omega, by go_num, by rw [HDS.out]; rfl, FIN.out.1, FIN.out.2⟩, ?_⟩
        simp [intOf]
        omega
    ·have hc2 : code = 43 := by
      have hp : putC nb fr bl pi.at_ pi.data.length = 43 := by
       unfold putC
       rw [← HV.out.1, HH.out, if_neg (by decide), ← HV.out.2, if_pos hl]
      rw [HCD.out]
      unfold fitsC
      rw [putsC_hit HOK.out HPI.out (by rw [hp]; decide), hp]
      rfl
     subst hc2
     have hl' : ¬ (ln : Int) = 512 := by omega
     go_wp2
     go_ret
     exact ⟨rfl, B2.out⟩
  ·have hi' : ¬ (i : Int) < (N : Int) := by omega
   have hie : i = N := by omega
   subst hie
   have hz : putsC nb fr bl ps = 0 := putsC_zero (fun p hp => by
    obtain ⟨t, ht⟩ := List.mem_iff_getElem?.1 hp
    exact HOK.out t p (by rw [HN.out]; exact (List.getElem?_eq_some_iff.1 ht).1) ht)
   have hdd : diffsTo ps i = diffs ps := by rw [HN.out]; exact diffsTo_all ps
   have hc2 : code = if bl / 2 - 4 < diffsTo ps i then 44 else if 1099511627776 ≤ tn then 45 else 0 := by
    rw [HCD.out, hdd]
    unfold fitsC
    rw [hz, if_neg (by decide)]
   obtain ⟨dn, hdn⟩ : ∃ dn, dn = diffsTo ps i := ⟨_, rfl⟩
   rw [← hdn] at hc2 ⊢
   have c2 := (HLg.out wr HB.out).c2
   have c3 := (HLg.out wr HB.out).c3
   have HM := hid (HMo.out wr)
   have hmb : most = ((bl / 2 - 4 : Nat) : Int) := by have := HMS.out.1; have := HMS.out.2; omega
   obtain ⟨mo, hmo⟩ : ∃ mo : Nat, mo = bl / 2 - 4 := ⟨_, rfl⟩
   rw [← hmo] at hmb hc2
   subst hmb
   clear hdn hmo HMo HOK HPc HAt HLg hdd hz HMS HCD
   go_wp2_with fail
   refine Calls.mono HM.out ?_
   rintro e w2 ⟨rfl, hw2⟩
   rw [hw2]
   clear hw2 HM
   by_cases h1 : mo < dn
   ·rw [if_pos h1] at hc2
    subst hc2
    have h1' : (mo : Int) < (dn : Int) := by omega
    go_wp2
    go_ret
    exact ⟨rfl, HB.out⟩
   ·rw [if_neg h1] at hc2
    have h1' : ¬ (mo : Int) < (dn : Int) := by omega
    by_cases h2 : 1099511627776 ≤ tn
    ·rw [if_pos h2] at hc2
     subst hc2
     have h2' : (1099511627776 : Int) ≤ (tn : Int) := by omega
     clear h2 htn
     go_wp2
     go_ret
     exact ⟨rfl, HB.out⟩
    ·rw [if_neg h2] at hc2
     subst hc2
     have h2' : (tn : Int) < (1099511627776 : Int) := by omega
     have h3' : decide ((1099511627776 : Int) ≤ (tn : Int)) = false := decide_eq_false (by omega)
     have h4' : ((1099511627776 : Int) ≤ (tn : Int)) = False := eq_false (by omega)
     clear h2 htn hnb hN hiN
     go_wp2_with fail
     go_ret
     exact ⟨rfl, HB.out⟩
open Go.RowKit
theorem info30 : (Tryz.prog.info? 35).map (fun i => (i.zero, i.size, i.bytes)) = some (some (.slice none 0 0), 1, 24) := by kernel_rfl
theorem LgW.but {X Y : Nat → Prop} {w w' : World} {g hb hc nb fr bl : Nat} {H : List Int} {ta : Option Addr} {tc : Nat} {vs : List Value} {Us : List (List Pm)} (h : LgW X w g hb hc nb fr bl H ta tc vs Us) (hbt : But Y w w') (hy : ∀ k, k < w.heap.size → Y k → X k) (X' : Nat → Prop) (hx : ∀ k, k < w.heap.size → X' k → X k) : LgW X' w' g hb hc nb fr bl H ta tc vs Us where
 lg := h.lg.keep (hbt.block g h.gl (fun q => h.ng (hy g h.gl q)))
 gl := Nat.lt_of_lt_of_le h.gl hbt.size
 ng := fun q => h.ng (hx g h.gl q)
 own := h.own.keep (hbt.block hb h.own.lt (fun q => h.nh.1 (hy hb h.own.lt q)))
 isb := h.isb
 nh := ⟨fun q => h.nh.1 (hx hb h.own.lt q), h.nh.2⟩
 row := owns_keep h.row (fun k e => hbt.block k (World.ownsRow.lt h.row k e).2 (fun q => (h.nt k e).1 (hy k (World.ownsRow.lt h.row k e).2 q)))
 nt := fun k e => ⟨fun q => (h.nt k e).1 (hx k (World.ownsRow.lt h.row k e).2 q), (h.nt k e).2⟩
 txn := fun i ps hi => by
  obtain ⟨a, cp, q1, q2, q3⟩ := h.txn i ps hi
  exact ⟨a, cp, q1, q2.but hbt (fun k hk q => .inl (hy k hk q)) _ (fun k hk q => q.elim (fun q => .inl (hx k hk q)) .inr), q3⟩
theorem LgW.below {X : Nat → Prop} {w w' : World} {g hb hc nb fr bl : Nat} {H : List Int} {ta : Option Addr} {tc : Nat} {vs : List Value} {Us : List (List Pm)} (h : LgW X w g hb hc nb fr bl H ta tc vs Us) (hbt : Below w.heap.size w w') (X' : Nat → Prop) (hx : ∀ k, k < w.heap.size → X' k → X k) : LgW X' w' g hb hc nb fr bl H ta tc vs Us := h.but (But.of_below hbt (X := fun _ => False)) (fun _ _ q => q.elim) X' hx
set_option maxRecDepth 100000 in
set_option maxHeartbeats 4000000 in
theorem refAppend_any {X : Nat → Prop} {w : World} {g hb hc nb fr bl : Nat} {H : List Int} {ta : Option Addr} {tc : Nat} {vs : List Value} {Us : List (List Pm)} (h : LgW X w g hb hc nb fr bl H ta tc vs Us) (hnb : nb ≤ 524288) (hfit : fr + bl ≤ nb) (hlo : 16 ≤ bl) (hUs : Us.length ≤ 1099511627776) (a0 : Option Addr) (cp : Nat) (ps : List Pm) (hR : RdP (fun k => X k ∨ k = g ∨ (Value.slice ta Us.length tc).ownBlock = some k) w a0 ps) (hN : ps.length ≤ 1073741823) (hps : ∀ p ∈ ps, 0 ≤ p.at_ ∧ p.at_ < 524288 ∧ p.data.length = 512) (hz : fitsC nb fr bl Us.length ps = 0) :
  Calls Tryz.prog 106 #[.pointer (some ⟨g, 0, none⟩), .slice a0 ps.length cp] w fun e w' => e = .returned (.int .i64 0) ∧ ∃ ta' tc' vs', LgW (fun k => X k ∧ k < w.heap.size) w' g hb hc nb fr bl H ta' tc' vs' (Us ++ [ps]) ∧ But (fun k => k = g ∨ (Value.slice ta Us.length tc).ownBlock = some k) w w' ∧ ∀ k, (Value.slice ta' (Us ++ [ps]).length tc').ownBlock = some k → (Value.slice ta Us.length tc).ownBlock = some k ∨ w.heap.size ≤ k := by
 obtain ⟨i30, hi30, hz30, hs30, hb30⟩ := info_parts info30
 have HF := hid (refFits_any h.lg h.gl hnb hfit hlo (by omega) a0 cp ps hR hN)
 rw [hz] at HF
 have HH := hid (And.intro h (And.intro hR hps))
 have hN2 := hid hN
 have hgl := h.gl
 obtain ⟨N, hNe⟩ : ∃ N, N = Us.length := ⟨_, rfl⟩
 have c3 := h.lg.c3
 rw [← hNe] at c3 hUs
 have hown : (Value.slice ta N tc).ownBlock ≠ some g := fun e => (h.nt g (by rw [← hNe]; exact e)).2 rfl
 have HNE := hid hNe
 clear h hR hps hz hNe
 obtain ⟨M, hM⟩ : ∃ M, M = ps.length := ⟨_, rfl⟩
 rw [← hM] at HF hN ⊢
 have HM := hid hM
 clear hM
 go_enter Tryz.func106, Tryz.ntmps106
 go_wp2_with fail
 refine Calls.mono HF.out ?_
 rintro e w2 ⟨rfl, b2⟩
 have c3' := (b2.cell (p := ⟨g, 3, none⟩) hgl).trans c3
 have hgl2 : g < w2.heap.size := Nat.lt_of_lt_of_le hgl b2.size
 have HB2 := hid b2
 have hrow0 : w2.ownsRow 0 35 1 (.slice ta N tc) N vs := by rw [HNE.out]; exact owns_below HH.out.1.row b2
 have HRow := hid (owns_below hrow0 ((Below.refl w2.heap.size w2).alloc (Nat.le_refl _) (.cells #[.slice a0 M cp] 35)))
 have HL2 := hid (HH.out.1.lg.keep (b2.block g hgl))
 clear b2 HF c3 hrow0
 go_wp2_with (at_builtin; refine wpList_append_lies _ rfl _ _ _ rfl 0 35 i30 (.slice none 0 0) 1 24 Tryz.underlying99 hi30 hz30 hs30 hb30 rfl (by decide) _ N _ rfl (by exact HRow.out) ⟨w2.heap.size, 0, none⟩ 1 1 [.slice a0 M cp] rfl rfl (by exact newsI1 w2 _ _) (by intro u hu; simp at hu; subst hu; rfl) (by decide) (by unfold maxLen; omega) (by omega) (by simp) (w2.heap.size + 1) (by simp) ?_; intro g4 cap4 w6 ho4 hg4 hlie4 _; have HO4 := hid (And.intro ho4 (And.intro hg4 hlie4)); have d3 : w6.cell? ⟨g, 3, none⟩ = some (.slice ta N tc) := (World.cell?_of_block (hg4.block g (by simp; omega) (fun e => hown e.symm))).trans ((World.cell?_alloc_past _ _ _ hgl2).trans c3'); have d4 : w6.frozen? ⟨g, 3, none⟩ = false := (HL2.out.keep ((hg4.block g (by simp; omega) (fun e => hown e.symm)).trans (Below.heap_alloc _ _ _ hgl2))).frozen 3; clear ho4 hg4 hlie4)
 go_ret
 obtain ⟨ho4, hg4, hlie4⟩ := HO4.out
 obtain ⟨hL, hR, hps⟩ := HH.out
 have hN := HNE.out
 have hM := HM.out
 subst hN hM
 have bX : But (fun k => (Value.slice ta Us.length tc).ownBlock = some k) w w6 := ((But.of_below HB2.out (X := fun k => (Value.slice ta Us.length tc).ownBlock = some k)).alloc (.cells #[.slice a0 ps.length cp] 35)).of_grown hg4 (fun x e _ => e)
 have bY : But (fun k => k = g ∨ (Value.slice ta Us.length tc).ownBlock = some k) w (w6.setCell ⟨g, 3, none⟩ (.slice (some ⟨g4, 0, none⟩) (Us.length + 1) cap4)) := (bX.mono (fun k _ q => .inr q)).setCell (.inl rfl) _
 have hs2 := HB2.out.size
 have hg4o : (Value.slice ta Us.length tc).ownBlock = some g4 ∨ w.heap.size ≤ g4 := hlie4.imp id (fun e => by omega)
 refine ⟨rfl, some ⟨g4, 0, none⟩, cap4, vs ++ [.slice a0 ps.length cp], ?_, bY, fun k e => by
  have e2 : g4 = k := by injection e
  rw [← e2]; exact hg4o⟩
 have hlen : (Us ++ [ps]).length = Us.length + 1 := by simp
 have hne : g4 ≠ g := fun e => by
  subst e
  rcases hg4o with q | q
  ·exact hown q
  ·omega
 have hl6 := HL2.out.keep ((hg4.block g (by simp; omega) (fun e => hown e.symm)).trans (Below.heap_alloc _ _ _ hgl2))
 have hhb : ¬ (hb = g ∨ (Value.slice ta Us.length tc).ownBlock = some hb) := fun q => q.elim hL.nh.2.1 hL.nh.2.2
 have hvl : vs.length = Us.length := by have := hL.row.1; simpa using this
 have hnew : ∀ k, (k = g ∨ (some g4 : Option Nat) = some k) → k < w.heap.size → (k = g ∨ (Value.slice ta Us.length tc).ownBlock = some k) := fun k q hk => by
  rcases q with q | q
  ·exact .inl q
  ·injection q with q
   subst q
   rcases hg4o with r | r
   ·exact .inr r
   ·omega
 refine ⟨?_, Nat.lt_of_lt_of_le hgl bY.size, fun q => hL.ng q.1, hL.own.keep (bY.block hb hL.own.lt hhb), hL.isb, ⟨fun q => hL.nh.1 q.1, hL.nh.2.1, fun q => ?_⟩, ?_, fun k e => ?_, fun i qs hi => ?_⟩
 ·rw [hlen]
  exact hl6.set _ _ _
 ·rw [hlen] at q
  have q2 : g4 = hb := by injection q
  subst q2
  rcases hg4o with r | r
  ·exact hL.nh.2.2 r
  ·have := hL.own.lt
   omega
 ·rw [hlen]
  exact owns_setCell ho4 (by intro e; injection e with e; exact hne e) _
 ·rw [hlen] at e
  have e2 : g4 = k := by injection e
  subst e2
  refine ⟨fun q => ?_, hne⟩
  rcases hg4o with r | r
  ·exact (hL.nt g4 r).1 q.1
  ·omega
 ·rw [hlen]
  by_cases hiN : i < Us.length
  ·rw [List.getElem?_append_left hiN] at hi
   obtain ⟨a, cq, r1, r2, r3⟩ := hL.txn i qs hi
   refine ⟨a, cq, by rw [List.getElem?_append_left (by omega)]; exact r1, r2.but bY (fun k hk q => .inr q) _ (fun k hk q => ?_), r3⟩
   rcases q with q | q
   ·exact .inl q.1
   ·exact .inr (hnew k q hk)
  ·rw [List.getElem?_append_right (by omega)] at hi
   have hi0 : i - Us.length = 0 := by
    have := (List.getElem?_eq_some_iff.1 hi).1
    simp at this
    omega
   rw [hi0] at hi
   simp at hi
   subst hi
   refine ⟨a0, cp, by rw [List.getElem?_append_right (by omega), hvl, hi0]; rfl, hR.but bY (fun k hk q => .inr q) _ (fun k hk q => ?_), hps, hN2.out⟩
   rcases q with q | q
   ·exact .inl q.1
   ·exact .inr (hnew k q hk)
end Go.Proofs.YtldlejpacgphmabGreat
