import Derived.Test.YtldlejpacgphmabGreatG32
import Derived.Test.YtldlejpacgphmabGreatG14
import Derived.ProofKit
import Derived.OpenShut
import Derived.SizedLaws
import Derived.Deep.SlicePairs
namespace Go.Proofs.YtldlejpacgphmabGreat
open Go.RowKit Go.Deep
def NowL (Y : Nat → Prop) (w : World) (f0 : Nat → List Int) (ha : Option Addr) (hc : Nat) (L : Nat → Option (List Int)) : Prop :=
 StrL w (.slice ha 4 hc) (strsP 16 4 f0 L) ∧ (∀ g o, ha = some ⟨g, o, none⟩ → ¬ Y g ∧ ∃ cur, w.heap[g]? = some (.cells cur 9 (0, 0))) ∧ ∀ y, (y < 16 ∨ 20 ≤ y) → L y = none
theorem NowL.keep {Y Y' X : Nat → Prop} {w w' : World} {f0 : Nat → List Int} {ha : Option Addr} {hc : Nat} {L L' : Nat → Option (List Int)} (h : NowL Y w f0 ha hc L) (hb : But X w w') (hX : ∀ k, k < w.heap.size → ¬ Y k → (∃ cur, w.heap[k]? = some (.cells cur 9 (0, 0))) → ¬ X k) (hg : Gr Y Y' w) (hL : L' = L) : NowL Y' w' f0 ha hc L' := by
 subst hL
 obtain ⟨h1, h2, h3⟩ := h
 refine ⟨h1.but hb (fun g o e => ?_), fun g o e => ?_, h3⟩
 ·obtain ⟨q1, cur, q2⟩ := h2 g o e
  exact hX g (Array.getElem?_eq_some_iff.1 q2).1 q1 ⟨cur, q2⟩
 ·obtain ⟨q1, cur, q2⟩ := h2 g o e
  have hl := (Array.getElem?_eq_some_iff.1 q2).1
  exact ⟨fun q => q1 (hg g hl q), cur, (hb.block g hl (hX g hl q1 ⟨cur, q2⟩)).trans q2⟩
theorem NowL.of_row {Y : Nat → Prop} {w : World} {f0 : Nat → List Int} {ha : Option Addr} {hc base : Nat} {L : Nat → Option (List Int)} (h : w.ownsRow base 9 1 (.slice ha 4 hc) 4 ((strsP 16 4 f0 L).map Value.string)) (hY : ∀ g, (Value.slice ha 4 hc).ownBlock = some g → ¬ Y g) (hL : ∀ y, (y < 16 ∨ 20 ≤ y) → L y = none) : NowL Y w f0 ha hc L := by
 refine ⟨StrL.of_row (strsP_len _ _ _ _) h, fun g o e => ?_, hL⟩
 subst e
 exact ⟨hY g rfl, row_cur h rfl⟩
def Mz (B : Nat) (w0 : World) (ob st j c p t x m : Nat) (oc : Array Value) (d : Pd) (s : Js) (S Kb : Nat) (ha : Option Addr) (hc : Nat) (mv : Value) (M R : Nat) (w : World) : Prop :=
 ∃ Y K n a ss ms val gs, StM Y w j c p st 22 K 0 16 d s t x m n a ss ms val ∧ (ms.length = M ∧ n + ss.length ≤ 2 * S ∧ ss.length ≤ S ∧ K ≤ Kb) ∧ NowL Y w (fun i => jread d s (16 + i)) ha hc (LofA a val) ∧ w.ownsRow B 70 1 mv R gs ∧ (∀ g, mv.ownBlock = some g → ¬ Y g) ∧
  (∀ (i pp : Nat) (b : Nat → Option Wr), ms[i]? = some (pp, b) → (i < R → ∃ va vc, gs[i]? = some (.slice va 4 vc) ∧ NowL Y w (fun i => jread d s (16 + i)) va vc (LofA b val)) ∧ (¬ i < R → b = a)) ∧ (w.heap[ob]? = some (.cells oc 80 (0, 0)) ∧ ¬ Y ob) ∧ (∀ k, Y k → B ≤ k ∧ k < w.heap.size) ∧ (Below B w0 w ∧ B = w0.heap.size)
theorem Mz.cell {B : Nat} {w0 : World} {ob st j c p t x m : Nat} {oc : Array Value} {d : Pd} {s : Js} {S Kb : Nat} {ha : Option Addr} {hc : Nat} {mv : Value} {M R : Nat} {w : World} (h : Mz B w0 ob st j c p t x m oc d s S Kb ha hc mv M R w) : w.cell? ⟨ob, 1, none⟩ = oc[1]? ∧ Below B w0 w := by
 obtain ⟨Y, K, n, a, ss, ms, val, gs, h1, h2, h3, h4, h5, h6, h7, h8, h9⟩ := h
 exact ⟨by simp [World.cell?, h7.1], h9.1⟩
theorem Mz.turn {B : Nat} {w0 : World} {ob st j c p t x m : Nat} {oc : Array Value} {d : Pd} {s : Js} {S Kb : Nat} {ha : Option Addr} {hc : Nat} {mv : Value} {M R : Nat} {w w' : World} {Y Y' : Nat → Prop} {K n : Nat} {a' : Nat → Option Wr} {ss' : List Sp} {ms ms' : List Mr} {val val' : Nat → List Int} {gs : List Value} (hS : StM Y' w' j c p st 22 K 0 16 d s t x m n a' ss' ms' val') (hbd : ms'.length = M ∧ n + ss'.length ≤ 2 * S ∧ ss'.length ≤ S ∧ K ≤ Kb) (hnow : NowL Y' w' (fun i => jread d s (16 + i)) ha hc (LofA a' val')) (h4 : w.ownsRow B 70 1 mv R gs) (h5 : ∀ g, mv.ownBlock = some g → ¬ Y g)
  (h6 : ∀ (i pp : Nat) (b : Nat → Option Wr), ms[i]? = some (pp, b) → i < R → ∃ va vc, gs[i]? = some (.slice va 4 vc) ∧ NowL Y w (fun i => jread d s (16 + i)) va vc (LofA b val)) (hms : ∀ (i pp : Nat) (b : Nat → Option Wr), ms'[i]? = some (pp, b) → (i < R → ms[i]? = some (pp, b)) ∧ (¬ i < R → b = a')) (hval : ∀ (i pp : Nat) (b : Nat → Option Wr), ms[i]? = some (pp, b) → LofA b val' = LofA b val) (h7 : w.heap[ob]? = some (.cells oc 80 (0, 0)) ∧ ¬ Y ob) (h8 : ∀ k, Y k → B ≤ k ∧ k < w.heap.size) (h9 : Below B w0 w ∧ B = w0.heap.size) (hl : ∀ k, Y' k → k < w'.heap.size) (hg : Gr Y Y' w) (hb : But Y w w') : Mz B w0 ob st j c p t x m oc d s S Kb ha hc mv M R w' := by
 have hs := hb.size
 have hs9 := h9.1.size
 refine ⟨Y', K, n, a', ss', ms', val', gs, hS, hbd, hnow, owns_keep h4 (fun g e => hb.block g (World.ownsRow.lt h4 g e).2 (h5 g e)), fun g e q => h5 g e (hg g (World.ownsRow.lt h4 g e).2 q), fun i pp b e => ⟨fun hi => ?_, (hms i pp b e).2⟩, ⟨(hb.block ob (Array.getElem?_eq_some_iff.1 h7.1).1 h7.2).trans h7.1, fun q => h7.2 (hg ob (Array.getElem?_eq_some_iff.1 h7.1).1 q)⟩, fun k q => ⟨?_, hl k q⟩, below_but h9.1 hb (fun k q => (h8 k q).1) h9.2, h9.2⟩
 ·obtain ⟨va, vc, q1, q2⟩ := h6 i pp b ((hms i pp b e).1 hi) hi
  exact ⟨va, vc, q1, q2.keep hb (fun k _ q _ => q) hg (hval i pp b ((hms i pp b e).1 hi))⟩
 ·rcases Nat.lt_or_ge k w.heap.size with e | e
  ·exact (h8 k (hg k e q)).1
  ·omega
theorem Mz.mark {B : Nat} {w0 : World} {ob st j c p t x m : Nat} {oc : Array Value} {d : Pd} {s : Js} {S Kb : Nat} {ha : Option Addr} {hc : Nat} {mv : Value} {M : Nat} {w : World} (h : Mz B w0 ob st j c p t x m oc d s S Kb ha hc mv M M w) (hon : d.off = false) (hM : M ≤ 1073741823) :
  Calls Tryz.prog 32 #[.pointer (some ⟨t, 0, none⟩)] w fun e w' => e = .returned (.tuple #[.int .i64 (M : Int), .int .i64 0]) ∧ Mz B w0 ob st j c p t x m oc d s S Kb ha hc mv (M + 1) M w' := by
 obtain ⟨Y, K, n, a, ss, ms, val, gs, h1, ⟨rfl, hb2, hb3, hb4⟩, h3, h4, h5, h6, h7, h8, h9⟩ := h
 refine Calls.mono (h1.mark hon hM) ?_
 rintro e w' ⟨rfl, Y', q1, q2, q3, q4⟩
 refine ⟨rfl, Mz.turn (val' := val) q1 ⟨by simp, hb2, hb3, hb4⟩ (h3.keep q4 (fun k _ q _ => q) q3 rfl) h4 h5 (fun i pp b e hi => (h6 i pp b e).1 hi) (fun i pp b e => ?_) (fun _ _ _ _ => rfl) h7 h8 h9 q2 q3 q4⟩
 rw [List.getElem?_append] at e
 split at e
 ·rename_i hi
  exact ⟨fun _ => e, fun q => absurd hi q⟩
 ·rename_i hi
  refine ⟨fun q => absurd q hi, fun _ => ?_⟩
  have h0 : i - ms.length = 0 := by
   rcases Nat.eq_zero_or_pos (i - ms.length) with z | z
   ·exact z
   ·rw [List.getElem?_eq_none (by simp; omega)] at e; cases e
  rw [h0] at e
  simp at e
  exact e.2.symm
theorem Mz.app {B : Nat} {w0 : World} {ob st j c p t x m : Nat} {oc : Array Value} {d : Pd} {s : Js} {S Kb : Nat} {ha : Option Addr} {hc : Nat} {mv : Value} {M : Nat} {w w1 w6 : World} (h : Mz B w0 ob st j c p t x m oc d s S Kb ha hc mv (M + 1) M w) (b1 : Below w.heap.size w w1) {gs : List Value} (hrow : w1.ownsRow B 70 1 mv M gs) {g cap : Nat} (ho : w6.ownsRow B 70 1 (.slice (some ⟨g, 0, none⟩) (M + 1) cap) (M + 1) (gs ++ [.slice ha 4 hc])) (hg : w1.grownBy w6 mv.ownBlock) (hlie : mv.ownBlock = some g ∨ w.heap.size ≤ g) : Mz B w0 ob st j c p t x m oc d s S Kb ha hc (.slice (some ⟨g, 0, none⟩) (M + 1) cap) (M + 1) (M + 1) w6 := by
 obtain ⟨Y, K, n, a, ss, ms, val, gs', h1, ⟨hl, hb2, hb3, hb4⟩, h3, h4, h5, h6, h7, h8, h9⟩ := h
 have hgs : gs' = gs := by
  have h41 := owns_below h4 b1
  rcases h41.2 with ⟨e1, e2⟩ | ⟨g1, c1, cur1, e1, _, k1, _, _, _, k2⟩
  ·subst e2
   have q1 := h41.1
   have q2 := hrow.1
   simp at q1 q2
   rw [q1, q2]
  ·rcases hrow.2 with ⟨e2, _⟩ | ⟨g2, c2, cur2, e2, _, k3, _, _, _, k4⟩
   ·rw [e1] at e2; cases e2
   ·rw [e1] at e2
    cases e2
    rw [k1] at k3
    injection k3 with k3
    injection k3 with k3
    rw [← k2, ← k4, k3]
 subst hgs
 have s1 := b1.size
 have bg : But (fun k => mv.ownBlock = some k) w1 w6 := (But.refl _ w1).of_grown hg (fun k e _ => e)
 have bt : But (fun k => mv.ownBlock = some k) w w6 := (But.of_below b1 (X := fun k => mv.ownBlock = some k)).comp bg (fun _ _ q => q)
 have s6 := bt.size
 have hsB := h9.1.size
 have hB9 := h9.2
 have hno9 : ∀ k, k < w.heap.size → ¬ Y k → (∃ cur, w.heap[k]? = some (.cells cur 9 (0, 0))) → ¬ mv.ownBlock = some k := fun k _ _ ⟨cur, e⟩ q => by
  obtain ⟨c1, e1⟩ := row_cur h4 q
  exact cells_ne e e1 (by decide) rfl
 have hobn : ¬ mv.ownBlock = some ob := fun q => by
  obtain ⟨c1, e1⟩ := row_cur h4 q
  exact cells_ne h7.1 e1 (by decide) rfl
 refine ⟨Y, K, n, a, ss, ms, val, gs' ++ [.slice ha 4 hc], h1.keep bt (fun k e q => h5 k e q), ⟨hl, hb2, hb3, hb4⟩, h3.keep bt hno9 (Gr.refl _ _) rfl, ho, fun q e => ?_, fun i pp b e => ⟨fun hi => ?_, fun hi => ?_⟩, ⟨(bt.block ob (Array.getElem?_eq_some_iff.1 h7.1).1 hobn).trans h7.1, h7.2⟩, fun k q => ⟨(h8 k q).1, by have := (h8 k q).2; omega⟩, below_but h9.1 bt (fun k q => (World.ownsRow.lt h4 k q).1) h9.2, h9.2⟩
 ·have : g = q := by simpa [Value.ownBlock] using e
  subst this
  rcases hlie with e2 | e2
  ·exact h5 g e2
  ·exact fun r => by have := (h8 g r).2; omega
 ·have hlen : gs'.length = M := by have := h4.1; simpa using this
  by_cases hi2 : i < M
  ·obtain ⟨va, vc, q1, q2⟩ := (h6 i pp b e).1 hi2
   exact ⟨va, vc, by rw [List.getElem?_append_left (by omega)]; exact q1, q2.keep bt hno9 (Gr.refl _ _) rfl⟩
  ·have hie : i = M := by omega
   refine ⟨ha, hc, by rw [hie, List.getElem?_append_right (by omega), hlen]; simp, ?_⟩
   rw [(h6 i pp b e).2 hi2]
   exact h3.keep bt hno9 (Gr.refl _ _) rfl
 ·have := (List.getElem?_eq_some_iff.1 e).1
  omega
theorem Mz.wrote {B : Nat} {w0 : World} {ob st j c p t x m : Nat} {oc : Array Value} {d : Pd} {s : Js} {S Kb : Nat} {ha : Option Addr} {hc : Nat} {mv : Value} {M : Nat} {w : World} (h : Mz B w0 ob st j c p t x m oc d s S Kb ha hc mv M M w) (hon : d.off = false) (hl : d.puts.length ≤ 1073741824) (hKb : Kb ≤ 1073741823) (pa : Option Addr) (pc : Nat) (ps : List Int) (hP : IntL (fun k => B ≤ k) w0 pa ps) (hS : S + ps.length ≤ 134217728) (S' Kb' : Nat) (hS' : S' = S + ps.length) (hK' : Kb' = Kb + ps.length) :
  Calls Tryz.prog 28 #[.pointer (some ⟨t, 0, none⟩), .slice ha 4 hc, .int .i64 16, .slice pa ps.length pc] w fun e w' => ∃ va vc, e = .returned (.tuple #[.slice va 4 vc, .bool true]) ∧ Mz B w0 ob st j c p t x m oc d s S' Kb' va vc mv M M w' := by
 obtain ⟨Y, K, n, a, ss, ms, val, gs, h1, ⟨rfl, hb2, hb3, hb4⟩, h3, h4, h5, h6, h7, h8, h9⟩ := h
 have hs9 := h9.1.size
 have hP1 : IntL Y w pa ps := fun i v hv => by
  obtain ⟨b, off, e1, e2, e3, e4⟩ := hP i v hv
  have hz := h9.2
  exact ⟨b, off, e1, by omega, fun q => e3 (h8 b q).1, (h9.1.cell (p := ⟨b, off + i, none⟩) (by show b < _; omega)).trans e4⟩
 refine Calls.mono (h1.wrote (by omega) hon hl (by omega) 16 4 (fun i => jread d s (16 + i)) (by omega) (by omega) (by omega) ha hc h3.1 pa pc ps hP1 (by omega) (by omega) (by omega)) ?_
 rintro e w' ⟨g, cp, rfl, hgl, Y', a', ss', val', r1, r2, r3, r4, r5, r6, r7, r8, r9⟩
 refine ⟨_, _, rfl, Mz.turn (val' := val') r2 ⟨rfl, by omega, by omega, by omega⟩ ?_ h4 h5 (fun i pp b e hi => (h6 i pp b e).1 hi) (fun i pp b e => ⟨fun _ => e, fun q => absurd (List.getElem?_eq_some_iff.1 e).1 q⟩) r4 h7 h8 h9 r7 r8 r9⟩
 rw [← r3] at r1
 refine NowL.of_row r1 (fun q e => ?_) (fun y hy => ?_)
 ·have : g = q := by simpa [Value.ownBlock] using e
  exact this ▸ r6
 ·rw [r3]
  exact laidP_none 16 4 (by omega) ps _ y hy (h3.2.2 y hy)
theorem Mz.back {B : Nat} {w0 : World} {ob st j c p t x m : Nat} {oc : Array Value} {d : Pd} {s : Js} {S Kb : Nat} {ha : Option Addr} {hc : Nat} {mv : Value} {M : Nat} {w : World} (h : Mz B w0 ob st j c p t x m oc d s S Kb ha hc mv M M w) (hon : d.off = false) (hM : M ≤ 1073741823) (hS : S ≤ 134217728) (k : Nat) (hk : k < M) :
  ∃ mg mc va vc, mv = .slice (some ⟨mg, 0, none⟩) M mc ∧ (M ≤ mc ∧ mc ≤ maxLen) ∧ Calls Tryz.prog 33 #[.pointer (some ⟨t, 0, none⟩), .int .i64 (k : Int)] w fun e w' => e = .returned (.int .i64 0) ∧ w'.cell? ⟨mg, k, none⟩ = some (.slice va 4 vc) ∧ Mz B w0 ob st j c p t x m oc d s S Kb va vc (.slice (some ⟨mg, 0, none⟩) (k + 1) mc) (k + 1) (k + 1) w' := by
 obtain ⟨Y, K, n, a, ss, ms, val, gs, h1, ⟨rfl, hb2, hb3, hb4⟩, h3, h4, h5, h6, h7, h8, h9⟩ := h
 obtain ⟨⟨pp, b⟩, hkb⟩ : ∃ r, ms[k]? = some r := ⟨_, List.getElem?_eq_getElem hk⟩
 obtain ⟨va, vc, g1, g2⟩ := (h6 k pp b hkb).1 hk
 obtain ⟨mg, mc, hmv⟩ : ∃ mg mc, mv = .slice (some ⟨mg, 0, none⟩) ms.length mc := by
  rcases h4.2 with ⟨_, q⟩ | ⟨g, cap, _, q, _⟩
  ·omega
  ·exact ⟨g, cap, q⟩
 subst hmv
 obtain ⟨cur, c1, c2, c3, c4, c5⟩ := row_cells h4
 refine ⟨mg, mc, va, vc, rfl, ⟨c3, c4⟩, Calls.mono (h1.back hon (by omega) hM (by omega) k pp b hkb) ?_⟩
 rintro e w' ⟨rfl, Y', n', r1, r2, r3, r4, r5⟩
 have hmgl := (World.ownsRow.lt h4 mg rfl).2
 have hrow' : w'.ownsRow B 70 1 (.slice (some ⟨mg, 0, none⟩) ms.length mc) ms.length gs := owns_keep h4 (fun g e => r5.block g (World.ownsRow.lt h4 g e).2 (h5 g e))
 have hlt : (ms.take (k + 1)).length = k + 1 := by rw [List.length_take]; omega
 have hlp : (ss.take pp).length ≤ pp := by rw [List.length_take]; omega
 have hlp2 : (ss.take pp).length ≤ ss.length := by rw [List.length_take]; omega
 refine ⟨rfl, ?_, ?_⟩
 ·have hcell : w.cell? ⟨mg, k, none⟩ = some (.slice va 4 vc) := by
   have : cur[k]? = some (.slice va 4 vc) := by
    rw [← c5, List.getElem?_take_of_lt hk, Array.getElem?_toList] at g1
    exact g1
   simp [World.cell?, c1, this]
  exact (r5.cell (p := ⟨mg, k, none⟩) hmgl (h5 mg rfl)).trans hcell
 ·have hT := Mz.turn (S := S) (Kb := Kb) (M := k + 1) (R := ms.length) (mv := .slice (some ⟨mg, 0, none⟩) ms.length mc) (val' := val) r2 ⟨hlt, by omega, by omega, by omega⟩ (g2.keep r5 (fun k _ q _ => q) r4 rfl) h4 h5 (fun i pp b e hi => (h6 i pp b e).1 hi) (fun i pp' b' e => ?_) (fun _ _ _ _ => rfl) h7 h8 h9 r3 r4 r5
  ·obtain ⟨Y2, K2, n2, a2, ss2, ms2, val2, gs2, t1, ⟨t2, t2b⟩, t3, t4, t5, t6, t7, t8, t9⟩ := hT
   refine ⟨Y2, K2, n2, a2, ss2, ms2, val2, gs2.take (k + 1), t1, ⟨t2, t2b⟩, t3, row_take t4 (by omega), fun g e => t5 g e, fun i pp' b' e => ⟨fun hi => ?_, fun hi => ?_⟩, t7, t8, t9⟩
   ·obtain ⟨va', vc', u1, u2⟩ := (t6 i pp' b' e).1 (by omega)
    exact ⟨va', vc', by rw [List.getElem?_take_of_lt hi]; exact u1, u2⟩
   ·have := (List.getElem?_eq_some_iff.1 e).1
    omega
  ·have hi := (List.getElem?_eq_some_iff.1 e).1
   rw [hlt] at hi
   rw [List.getElem?_take_of_lt hi] at e
   exact ⟨fun _ => e, fun q => absurd (by omega) q⟩
theorem Mz.below {B : Nat} {w0 : World} {ob st j c p t x m : Nat} {oc : Array Value} {d : Pd} {s : Js} {S Kb : Nat} {ha : Option Addr} {hc : Nat} {mv : Value} {M R : Nat} {w w' : World} (h : Mz B w0 ob st j c p t x m oc d s S Kb ha hc mv M R w) (hb : Below w.heap.size w w') : Mz B w0 ob st j c p t x m oc d s S Kb ha hc mv M R w' := by
 obtain ⟨Y, K, n, a, ss, ms, val, gs, h1, h2, h3, h4, h5, h6, h7, h8, h9⟩ := h
 have c0 : But (fun _ => False) w w' := But.of_below hb
 have hs := hb.size
 refine ⟨Y, K, n, a, ss, ms, val, gs, h1.keep c0 (fun _ q _ => q), h2, h3.keep c0 (fun _ _ _ _ q => q) (Gr.refl _ _) rfl, owns_below h4 hb, h5, fun i pp b e => ⟨fun hi => ?_, (h6 i pp b e).2⟩, ⟨(hb.block ob (Array.getElem?_eq_some_iff.1 h7.1).1).trans h7.1, h7.2⟩, fun k q => ⟨(h8 k q).1, by have := (h8 k q).2; omega⟩, below_but h9.1 c0 (fun _ q => q.elim) h9.2, h9.2⟩
 obtain ⟨va, vc, q1, q2⟩ := (h6 i pp b e).1 hi
 exact ⟨va, vc, q1, q2.keep c0 (fun _ _ _ _ q => q) (Gr.refl _ _) rfl⟩
theorem Mz.backNo {B : Nat} {w0 : World} {ob st j c p t x m : Nat} {oc : Array Value} {d : Pd} {s : Js} {S Kb : Nat} {ha : Option Addr} {hc : Nat} {mv : Value} {M R : Nat} {w : World} (h : Mz B w0 ob st j c p t x m oc d s S Kb ha hc mv M R w) (hon : d.off = false) (k : Nat) (hk : ¬ k < M) :
  Calls Tryz.prog 33 #[.pointer (some ⟨t, 0, none⟩), .int .i64 (k : Int)] w fun e w' => e = .returned (.int .i64 52) ∧ Mz B w0 ob st j c p t x m oc d s S Kb ha hc mv M R w' := by
 have h' := h
 obtain ⟨Y, K, n, a, ss, ms, val, gs, h1, ⟨rfl, _⟩, _⟩ := h
 refine Calls.mono (h1.backNo hon k hk) ?_
 rintro e w' ⟨rfl, q⟩
 exact ⟨rfl, h'.below q⟩
theorem Mz.reads {B : Nat} {w0 : World} {ob st j c p t x m : Nat} {oc : Array Value} {d : Pd} {s : Js} {S Kb : Nat} {ha : Option Addr} {hc : Nat} {mv : Value} {M : Nat} {w : World} (h : Mz B w0 ob st j c p t x m oc d s S Kb ha hc mv M M w) (hon : d.off = false) (hl : d.puts.length ≤ 1073741824) (hKb : Kb ≤ 1073741823) (Kb' : Nat) (hK' : Kb' = Kb + 4) :
  Calls Tryz.prog 26 #[.pointer (some ⟨st, 0, none⟩), .pointer (some ⟨t, 0, none⟩), .int .i64 16, .int .i64 4] w fun e w' => ∃ va vc, e = .returned (.tuple #[.slice va 4 vc, .bool true]) ∧ Calls Tryz.prog 29 #[.slice va 4 vc, .slice ha 4 hc] w' fun e w'' => e = .returned (.bool true) ∧ Mz B w0 ob st j c p t x m oc d s S Kb' ha hc mv M M w'' := by
 obtain ⟨Y, K, n, a, ss, ms, val, gs, h1, ⟨rfl, hb2, hb3, hb4⟩, h3, h4, h5, h6, h7, h8, h9⟩ := h
 refine Calls.mono (h1.reads (by omega) hon hl (by omega) 16 4 (by omega) (by omega) (by omega)) ?_
 rintro e w' ⟨lv, Y', rfl, r1, r2, r3, r4, r5, r6⟩
 rw [strs_reads] at r1
 obtain ⟨va, vc, rfl⟩ := own_slice r1
 have hnow := h3.keep r6 (fun k _ q _ => q) r5 rfl
 refine ⟨va, vc, rfl, Calls.mono (same_eq (by rw [strsP_len]; omega) (StrL.of_row (strsP_len 16 4 (fun i => jread d s (16 + i)) (LofA a val)) r1) hnow.1) ?_⟩
 rintro e w'' ⟨rfl, b⟩
 exact ⟨rfl, (Mz.turn (val' := val) r2 ⟨rfl, hb2, hb3, by omega⟩ hnow h4 h5 (fun i pp b e hi => (h6 i pp b e).1 hi) (fun i pp b e => ⟨fun _ => e, fun q => absurd (List.getElem?_eq_some_iff.1 e).1 q⟩) (fun _ _ _ _ => rfl) h7 h8 h9 r4 r5 r6).below b⟩
theorem Mz.commit {B : Nat} {w0 : World} {ob st j c p t x m : Nat} {oc : Array Value} {d : Pd} {s : Js} {S Kb : Nat} {ha : Option Addr} {hc : Nat} {mv : Value} {M : Nat} {w : World} {home : Nat → List Int} (h : Mz B w0 ob st j c p t x m oc d s S Kb ha hc mv M M w) (ho : On d s 22 0 16 0 home []) (hfu : d.fu = -1) (hKb : Kb ≤ 1073741823) :
  Calls Tryz.prog 31 #[.pointer (some ⟨t, 0, none⟩)] w fun e w' => e = .returned (.int .i64 0) ∧ w'.cell? ⟨ob, 1, none⟩ = oc[1]? ∧ Calls Tryz.prog 26 #[.pointer (some ⟨st, 0, none⟩), .pointer none, .int .i64 16, .int .i64 4] w' fun e w2 => ∃ va vc, e = .returned (.tuple #[.slice va 4 vc, .bool true]) ∧ Calls Tryz.prog 29 #[.slice va 4 vc, .slice ha 4 hc] w2 fun e w3 => e = .returned (.bool true) ∧ Below B w0 w3 := by
 obtain ⟨Y, K, n, a, ss, ms, val, gs, h1, ⟨rfl, hb2, hb3, hb4⟩, h3, h4, h5, h6, h7, h8, h9⟩ := h
 have hkf := homeKeys_few 16 4 (LofA a val) (fun y hy => h3.2.2 y (by omega)) 22
 refine Calls.mono (h1.commit ho hfu (by omega) (by omega) (by omega) (by simp) (by omega) (fun y hy => ?_)) ?_
 ·obtain ⟨e1, e2⟩ := mem_homeKeys.1 hy
  have hge : ¬ (y < 16 ∨ 20 ≤ y) := fun q => by rw [h3.2.2 y q] at e2; cases e2
  exact homeC_ok (by omega) (by omega)
 rintro e w' ⟨rfl, Y', d', s', Ts', r1, r2, r3, r4, r5, r6, r7, r8⟩
 have hobl := (Array.getElem?_eq_some_iff.1 h7.1).1
 have b1 : Below B w0 w' := below_but h9.1 r8 (fun k q => (h8 k q).1) h9.2
 have hs8 := r8.size
 have hs9 := h9.1.size
 have hz9 := h9.2
 have hob' : w'.heap[ob]? = some (.cells oc 80 (0, 0)) := (r8.block ob hobl h7.2).trans h7.1
 have hon' := r3.on
 have hpl' := r3.puts (by omega) (by omega) (by omega)
 have hY' : ∀ k, Y' k → B ≤ k := fun k q => by
  rcases Nat.lt_or_ge k w.heap.size with e | e
  ·exact (h8 k (r7 k e q)).1
  ·omega
 refine ⟨rfl, by simp [World.cell?, hob'], Calls.mono (r1.reads (by omega) hon' (by omega) (by omega) 16 4 (by omega) (by omega) (by omega)) ?_⟩
 rintro e w2 ⟨lv, Y2, rfl, u1, u2, u3, u4, u5, u6⟩
 rw [strs_reads] at u1
 obtain ⟨va, vc, rfl⟩ := own_slice u1
 have hS2 : StrL w2 (.slice ha 4 hc) (strsP 16 4 (fun i => jread d s (16 + i)) (LofA a val)) := (h3.1.but r8 (fun g o e => (h3.2.1 g o e).1)).but u6 (fun g o e => by
  obtain ⟨q1, cur, q2⟩ := h3.2.1 g o e
  exact fun q => q1 (r7 g (Array.getElem?_eq_some_iff.1 q2).1 q))
 have heq : (List.range 4).map (fun q => strOfNums (jread d' s' (16 + q))) = strsP 16 4 (fun i => jread d s (16 + i)) (LofA a val) := by
  unfold strsP
  refine List.map_congr_left (fun i hi => ?_)
  have hi4 := List.mem_range.1 hi
  show _ = strOfNums ((LofA a val (16 + i)).getD (jread d s (16 + i)))
  have e1 : jread d s (16 + i) = contT home [] ([] : List Tn).length (16 + i) := ho.read ⟨by omega, by omega⟩
  rw [r3.read ⟨by omega, by omega⟩, r5 (16 + i) (by omega), e1]
 rw [heq] at u1
 refine ⟨va, vc, rfl, Calls.mono (same_eq (by rw [strsP_len]; omega) (StrL.of_row (strsP_len _ _ _ _) u1) hS2) ?_⟩
 rintro e w3 ⟨rfl, b⟩
 have b2 : Below B w0 w2 := below_but b1 u6 hY' h9.2
 exact ⟨rfl, b2.trans (b.mono (by have := b2.size; omega))⟩
open Go.ChangeShapes Go.WideShapes Go.ChangeAt Go.RowKit Go.Deep
theorem rd_of_open {W : World} {x : Addr} {len cap : Nat} {zs : List Int} (hl : len ≤ cap) (hz : zs.length = cap) (hcell : ∀ i, i < zs.length → W.cell? (x.add i) = some (.int .u8 (zs.getD i 0))) (hwz : ∀ n ∈ zs, (Lit.int .u8 n).wf = true) :
  Rd W.heap.size W (some x) len (zs.take len) := by
 refine ⟨by simp; omega, fun z hzm => ?_, ?_⟩
 ·have := bounds_u8 (hwz z (List.mem_of_mem_take hzm))
  omega
 ·by_cases h0 : len = 0
  ·exact .inl h0
  ·obtain ⟨b, off, spot⟩ := x
   have hc := hcell 0 (by omega)
   have hspot : spot = none := by simpa [Addr.add] using World.cell?_spot hc
   subst hspot
   have hadd : ∀ t, (⟨b, off, none⟩ : Addr).add t = ⟨b, off + t, none⟩ := fun t => by unfold Addr.add; split <;> simp_all
   refine .inr ⟨b, off, rfl, World.block_lt_of_cell? W ⟨b, off, none⟩ (by rw [hadd] at hc; exact hc), fun t ht => ?_⟩
   rw [← hadd, hcell t (by omega), List.getD_eq_getElem?_getD, List.getD_eq_getElem?_getD, List.getElem?_take_of_lt ht]
theorem bulk_one {H : Type} (d : DataW H) : 1 ≤ Rows.uptoBulk d := by
 cases d with
 | lit l => cases l <;> simp [Rows.uptoBulk]
 | nil => simp [Rows.uptoBulk]
 | ptr d => simp [Rows.uptoBulk]
 | slice elems spare => simp [Rows.uptoBulk]
 | agg parts => simp [Rows.uptoBulk]
 | iface t d => simp [Rows.uptoBulk]
 | map entries => simp [Rows.uptoBulk]
 | held h => simp [Rows.uptoBulk]
theorem bulk_len {H : Type} (l : List (DataW H)) : l.length ≤ Rows.uptoBulkAll l := by
 induction l with
 | nil => simp [Rows.uptoBulkAll]
 | cons x r ih => have := bulk_one x; simp only [Rows.uptoBulkAll, List.length_cons]; omega
theorem bulk_mem {H : Type} {d : DataW H} {l : List (DataW H)} (h : d ∈ l) : Rows.uptoBulk d ≤ Rows.uptoBulkAll l := by
 induction l with
 | nil => cases h
 | cons x r ih =>
  simp only [Rows.uptoBulkAll]
  cases List.mem_cons.1 h with
  | inl e => subst e; omega
  | inr e => have := ih e; omega
theorem bulk_slice {H : Type} (elems spare : List (DataW H)) : elems.length ≤ Rows.uptoBulk (.slice elems spare) := by
 have h1 := bulk_len elems
 simp only [Rows.uptoBulk]
 omega
set_option maxRecDepth 100000 in
theorem bulk_bound {H : Type} {l : List (DataW H)} (hk : Rows.uptoSmall H l = true) : Rows.uptoBulkAll l ≤ 1048576 := of_decide_eq_true hk
theorem spot_none {W : World} {x : Addr} {v : Value} (h : W.cell? (x.add 0) = some v) : ∃ b off, x = ⟨b, off, none⟩ := by
 obtain ⟨b, off, spot⟩ := x
 have hspot : spot = none := by simpa [Addr.add] using World.cell?_spot h
 subst hspot
 exact ⟨b, off, rfl⟩
theorem add_plain (b off t : Nat) : (⟨b, off, none⟩ : Addr).add t = ⟨b, off + t, none⟩ := by unfold Addr.add; split <;> simp_all
theorem bulk_by {H : Type} {l : List (DataW H)} {k : Nat} (h : ∀ d ∈ l, k ≤ Rows.uptoBulk d) : k * l.length ≤ Rows.uptoBulkAll l := by
 induction l with
 | nil => simp [Rows.uptoBulkAll]
 | cons x r ih =>
  have h1 := h x (by simp)
  have h2 := ih (fun d hd => h d (by simp [hd]))
  simp only [Rows.uptoBulkAll, List.length_cons, Nat.mul_succ]
  omega
theorem open_bc {H : Type} {enc : TypeId × Value → H} {W : World} {v : Value} {fuel : Nat} {x : DataW H × List MemPlace} (hf : DataW.trod enc Tryz.prog W 0 (fun _ => true) true fuel 22 [v] = some x) :
  ∃ a n c zs, v = .slice a n c ∧ Rd W.heap.size W a n zs ∧ n ≤ Rows.uptoBulk x.1 ∧ (a = none → c = 0) := by
 rcases open_ints Tryz.underlying22 Tryz.underlying5 (by kernel_rfl) hf with ⟨hcs, hx⟩ | ⟨x', l, c, zs, hcs, hp, hl, hm, hz, hx, hcell, hwz⟩
 ·simp at hcs
  subst hcs
  exact ⟨none, 0, 0, [], rfl, ⟨rfl, Pl.isB_nil, .inl rfl⟩, by omega, fun _ => rfl⟩
 ·simp at hcs
  subst hcs
  have hz' : zs.length = c := by simpa using hz
  refine ⟨some x', l, c, zs.take l, rfl, rd_of_open hl hz' hcell hwz, ?_, fun q => by cases q⟩
  rw [hx]
  have := bulk_slice (H := H) (lits .u8 (zs.take l)) (lits .u8 (zs.drop l))
  simp only [lits, List.length_map, List.length_take] at this
  simp only [lits]
  omega
theorem open_two {H : Type} {enc : TypeId × Value → H} {P : Program} {w : World} {base : Nat} {spare : Nat → Bool} {held : Bool} {t e : TypeId} {f0 f1 : Field} {fuel : Nat} {cs : List Value} {x : DataW H × List MemPlace}
  (ht : P.underlying t = some (.slice e)) (he : P.underlying e = some (.struct #[f0, f1])) (ce : P.cellsOf e = 2) (o0 : f0.offset = 0) (o1 : f1.offset = 1) (c0 : P.cellsOf f0.type = 1) (c1 : P.cellsOf f1.type = 1)
  (h : DataW.trod enc P w base spare held fuel t cs = some x) :
  (cs = [.slice none 0 0] ∧ x = (.nil, [])) ∨
  ∃ (a : Addr) (len cap m n : Nat) (D : Nat → DataW H), cs = [.slice (some a) len cap] ∧ len ≤ cap ∧ m = (if spare a.block then cap else len) ∧ x.1 = .slice ((List.range len).map D) ((List.range (m - len)).map fun j => D (len + j)) ∧
   ∀ i, i < m → ∃ (v0 v1 : Value) (y0 y1 : DataW H × List MemPlace), w.cell? (a.add (i * 2)) = some v0 ∧ w.cell? (a.add (i * 2 + 1)) = some v1 ∧
    DataW.trod enc P w base spare held (n - 1) f0.type [v0] = some y0 ∧ DataW.trod enc P w base spare held (n - 1) f1.type [v1] = some y1 ∧ D i = .agg [y0.1, y1.1] := by
 rcases open_slice ht h with h0 | ⟨a, len, cap, m, n, D, Pl, rfl, hb, hl, hm, hmm, rfl, hx⟩
 ·exact Or.inl h0
 refine .inr ⟨a, len, cap, m, n, D, rfl, hl, hmm, rfl, ?_⟩
 intro i hi
 obtain ⟨cs', h1, h2⟩ := hx i hi
 rw [ce] at h1
 obtain ⟨_, hlen, hcell⟩ := World.cells?_some h1
 obtain ⟨xs, k, hk, hxy, _, hxl, hf⟩ := DataW.trod_struct he h2
 have hk' : k = n - 1 := by omega
 subst hk'
 match xs, hxl, cs', hlen with
 | [y0, y1], _, [v0, v1], _ =>
  have g0 := hf 0 f0 rfl
  have g1 := hf 1 f1 rfl
  simp [o0, o1, c0, c1] at g0 g1
  have e0 := hcell 0 (by omega)
  have e1 := hcell 1 (by omega)
  rw [add_add] at e0 e1
  simp only [Prod.mk.injEq] at hxy
  exact ⟨v0, v1, y0, y1, by simpa using e0, by simpa using e1, g0, g1, by simpa using hxy.1⟩
theorem open_puts {H : Type} {enc : TypeId × Value → H} {W : World} {v : Value} {fuel : Nat} {x : DataW H × List MemPlace} (hf : DataW.trod enc Tryz.prog W 0 (fun _ => true) true fuel 35 [v] = some x) :
  ∃ a c ps, v = .slice a ps.length c ∧ RdP (fun _ => False) W a ps ∧ ps.length ≤ Rows.uptoBulk x.1 ∧ (∀ p ∈ ps, p.data.length ≤ Rows.uptoBulk x.1 ∧ (p.ad = none → p.cap = 0)) ∧ (a = none → c = 0) := by
 rcases open_two Tryz.underlying35 Tryz.underlying97 (by kernel_rfl) rfl rfl (by kernel_rfl) (by kernel_rfl) hf with ⟨hcs, hx⟩ | ⟨x1, len, c, m, n, D, hcs, hl, hmm, hx, hall⟩
 ·simp at hcs
  subst hcs
  exact ⟨none, 0, [], rfl, ⟨(fun p hp => by cases hp), .inl rfl⟩, by simp, (fun p hp => by cases hp), fun _ => rfl⟩
 ·simp at hcs
  subst hcs
  have hm' : m = c := by simpa using hmm
  subst hm'
  have hsum : len ≤ Rows.uptoBulk x.1 ∧ ∀ i, i < len → Rows.uptoBulk (D i) ≤ Rows.uptoBulk x.1 := by
   rw [hx]
   have h1 := bulk_slice (H := H) ((List.range len).map D) ((List.range (m - len)).map fun j => D (len + j))
   simp only [List.length_map, List.length_range] at h1
   refine ⟨h1, fun i hi => ?_⟩
   have := bulk_mem (d := D i) (l := (List.range len).map D) (List.mem_map.2 ⟨i, List.mem_range.2 hi, rfl⟩)
   simp only [Rows.uptoBulk]
   omega
  have each : ∀ i, i < len → ∃ q : Pm, (W.cell? (x1.add (i * 2)) = some (.int .i64 q.at_) ∧ W.cell? (x1.add (i * 2 + 1)) = some (.slice q.ad q.data.length q.cap)) ∧ Rd W.heap.size W q.ad q.data.length q.data ∧ q.data.length ≤ Rows.uptoBulk x.1 ∧ (q.ad = none → q.cap = 0) := by
   intro i hi
   obtain ⟨v0, v1, y0, y1, e0, e1, t0, t1, hD⟩ := hall i (by omega)
   obtain ⟨q0, eq0, _, _⟩ := DataW.trod_int Tryz.underlying3 t0
   simp at eq0
   subst eq0
   obtain ⟨aa, nn, cc, zs, rfl, hR, hn, hz⟩ := open_bc t1
   have hb := hsum.2 i hi
   rw [hD] at hb
   simp only [Rows.uptoBulk, Rows.uptoBulkAll] at hb
   have hzl : zs.length = nn := hR.1
   subst hzl
   exact ⟨⟨q0, aa, cc, zs⟩, ⟨e0, e1⟩, hR, by show zs.length ≤ _; omega, hz⟩
  have : Inhabited Pm := ⟨⟨0, none, 0, []⟩⟩
  obtain ⟨q, hq⟩ := choose_lt each
  have hlen : ((List.range len).map q).length = len := by simp
  refine ⟨some x1, m, (List.range len).map q, by rw [hlen], ⟨fun p hp => ?_, ?_⟩, by rw [hlen]; exact hsum.1, fun p hp => ?_, fun e => by cases e⟩
  ·obtain ⟨i, hi, rfl⟩ := List.mem_map.1 hp
   obtain ⟨r1, r2, r3⟩ := (hq i (List.mem_range.1 hi)).2.1
   exact ⟨r1, r2, r3.imp id (fun ⟨b, o, s1, s2, s3⟩ => ⟨b, o, s1, s2, fun h => h, s3⟩)⟩
  ·by_cases h0 : len = 0
   ·subst h0; exact .inl rfl
   ·obtain ⟨b, off, rfl⟩ := spot_none (by have := (hq 0 (by omega)).1.1; simpa using this)
    refine .inr ⟨b, off, rfl, ?_, fun h => h, fun i d hi => ?_⟩
    ·have := (hq 0 (by omega)).1.1
     rw [add_plain] at this
     exact World.block_lt_of_cell? W ⟨b, off, none⟩ (by simpa using this)
    ·have hil : i < len := by have := (List.getElem?_eq_some_iff.1 hi).1; simpa using this
     have hd : d = q i := by
      rw [List.getElem?_map, List.getElem?_range hil] at hi
      simpa using hi.symm
     subst hd
     have hh := (hq i hil).1
     simp only [add_plain, ← Nat.add_assoc] at hh
     exact hh
  ·obtain ⟨i, hi, rfl⟩ := List.mem_map.1 hp
   exact (hq i (List.mem_range.1 hi)).2.2
open Go.ChangeShapes Go.WideShapes Go.ChangeAt Go.RowKit Go.Deep
end Go.Proofs.YtldlejpacgphmabGreat
