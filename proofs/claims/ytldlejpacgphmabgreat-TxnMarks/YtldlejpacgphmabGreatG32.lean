import Derived.Test.YtldlejpacgphmabGreatG23
import Derived.Test.YtldlejpacgphmabGreatG31
import Derived.Deep.RegionHeld3
import Derived.Deep.DeepCutAuto
namespace Go.Proofs.YtldlejpacgphmabGreat
open Go.RowKit Go.Deep
def StM (Y : Nat → Prop) (w : World) (j c p st nb K fr bl : Nat) (d : Pd) (s : Js) (t x m n : Nat) (a : Nat → Option Wr) (ss : List Sp) (ms : List Mr) (val : Nat → List Int) : Prop :=
 ∃ Z Zw sv mv, Jq Z w j c p 4 nb K fr bl d s ∧ Wm Zw w x j m n nb fr bl a sv mv ss ms val ∧ Txb w t j (.iface 143 (.pointer (some ⟨x, 0, none⟩))) st (.pointer (some ⟨x, 0, none⟩)) ∧ Stb w st j (.pointer (some ⟨t, 0, none⟩)) ∧ (∀ k, Z k → Y k) ∧ (∀ k, Zw k → Y k ∧ ¬ Z k) ∧ st ≠ t ∧ (¬ Z t ∧ ¬ Zw t ∧ Y t) ∧ (¬ Z st ∧ ¬ Zw st ∧ Y st)
theorem StM.step {Y Z Zw Z' Zw' : Nat → Prop} {w w' : World} {j c p st nb K fr bl : Nat} {d : Pd} {s : Js} {t x m n : Nat} {a : Nat → Option Wr} {sv mv : Value} {ss : List Sp} {ms : List Mr} {val : Nat → List Int} (q3 : Txb w t j (.iface 143 (.pointer (some ⟨x, 0, none⟩))) st (.pointer (some ⟨x, 0, none⟩))) (q4 : Stb w st j (.pointer (some ⟨t, 0, none⟩))) (q5 : ∀ k, Z k → Y k) (q6 : ∀ k, Zw k → Y k ∧ ¬ Z k) (q8 : st ≠ t) (q9 : ¬ Z t ∧ ¬ Zw t ∧ Y t) (q10 : ¬ Z st ∧ ¬ Zw st ∧ Y st) (hJ : Jq Z' w' j c p 4 nb K fr bl d s) (hW : Wm Zw' w' x j m n nb fr bl a sv mv ss ms val) (gZ : Gr Z Z' w) (gW : Gr Zw Zw' w) (hd : ∀ k, Zw' k → ¬ Z' k) (lZ : ∀ k, Z' k → k < w'.heap.size) (lW : ∀ k, Zw' k → k < w'.heap.size) (hb : But (fun k => Z k ∨ Zw k) w w') :
  ∃ Y', StM Y' w' j c p st nb K fr bl d s t x m n a ss ms val ∧ (∀ k, Y' k → k < w'.heap.size) ∧ Gr Y Y' w ∧ But Y w w' := by
 have hs := hb.size
 have ht := q3.lt
 have hst := q4.lt
 refine ⟨growZ Y (fun k => Z' k ∨ Zw' k) w w', ⟨Z', Zw', sv, mv, hJ, hW, q3.keep (hb.block t ht (fun e => e.elim q9.1 q9.2.1)), q4.keep (hb.block st hst (fun e => e.elim q10.1 q10.2.1)), fun k e => ?_, fun k e => ⟨?_, hd k e⟩, q8, ⟨fun e => q9.1 (gZ t ht e), fun e => q9.2.1 (gW t ht e), .inl ⟨q9.2.2, ht⟩⟩, ⟨fun e => q10.1 (gZ st hst e), fun e => q10.2.1 (gW st hst e), .inl ⟨q10.2.2, hst⟩⟩⟩, fun k q => by rcases q with q | q <;> omega, growZ.gr _ _ _ _, hb.mono (fun k _ e => e.elim (q5 k) (fun e => (q6 k e).1))⟩
 ·rcases Nat.lt_or_ge k w.heap.size with q | q
  ·exact .inl ⟨q5 k (gZ k q e), q⟩
  ·exact .inr ⟨.inl e, q, lZ k e⟩
 ·rcases Nat.lt_or_ge k w.heap.size with q | q
  ·exact .inl ⟨(q6 k (gW k q e)).1, q⟩
  ·exact .inr ⟨.inr e, q, lW k e⟩
theorem StM.keep {Y X : Nat → Prop} {w w' : World} {j c p st nb K fr bl : Nat} {d : Pd} {s : Js} {t x m n : Nat} {a : Nat → Option Wr} {ss : List Sp} {ms : List Mr} {val : Nat → List Int} (h : StM Y w j c p st nb K fr bl d s t x m n a ss ms val) (hb : But X w w') (hX : ∀ k, X k → Y k → False) : StM Y w' j c p st nb K fr bl d s t x m n a ss ms val := by
 obtain ⟨Z, Zw, sv, mv, q1, q2, q3, q4, q5, q6, q8, q9, q10⟩ := h
 exact ⟨Z, Zw, sv, mv, q1.but hb (fun k _ q r => hX k r (q5 k q)), q2.but hb (fun k _ q r => hX k r (q6 k q).1), q3.keep (hb.block t q3.lt (fun r => hX t r q9.2.2)), q4.keep (hb.block st q4.lt (fun r => hX st r q10.2.2)), q5, q6, q8, q9, q10⟩
theorem StT.stm {Y : Nat → Prop} {w : World} {j c p st nb K fr bl : Nat} {d : Pd} {s : Js} {t x m n : Nat} (h : StT Y w j c p st nb K fr bl d s t x m n (fun _ => none)) : StM Y w j c p st nb K fr bl d s t x m n (fun _ => none) [] [] (fun _ => []) := by
 obtain ⟨Z, Zw, D, a, q1, q2, q3, q4, q5, q6, q7, q8, q9, q10⟩ := h
 have ha : a = fun _ => none := by
  funext y
  cases e : a y with
  | none => rfl
  | some r =>
   obtain ⟨zs, e1, _⟩ := q2.dat y r.1 r.2.1 r.2.2 e
   cases e1
 subst ha
 refine ⟨Z, Zw, .slice none 0 0, .slice none 0 0, q1, ⟨q2.blk, ⟨D, q2.mp, q2.am⟩, ⟨rfl, .inl ⟨rfl, rfl⟩⟩, ⟨rfl, .inl ⟨rfl, rfl⟩⟩, fun y r q => ?_, fun s hs => by simp at hs, Mk.nil, q2.zx, q2.zm, fun k e => by simp [Value.ownBlock] at e, fun k e => by simp [Value.ownBlock] at e⟩, q3, q4, q5, q6, q8.2, q9, q10⟩
 rcases q with q | ⟨i, pp, b, q, _⟩
 ·cases q
 ·simp at q
set_option maxRecDepth 100000 in
set_option maxHeartbeats 1000000 in
theorem StM.mark {Y : Nat → Prop} {w : World} {j c p st nb K fr bl : Nat} {d : Pd} {s : Js} {t x m n : Nat} {a : Nat → Option Wr} {ss : List Sp} {ms : List Mr} {val : Nat → List Int} (h : StM Y w j c p st nb K fr bl d s t x m n a ss ms val) (hon : d.off = false) (hM : ms.length ≤ 1073741823) :
  Calls Tryz.prog 32 #[.pointer (some ⟨t, 0, none⟩)] w fun e w' => e = .returned (.tuple #[.int .i64 (ms.length : Int), .int .i64 0]) ∧ ∃ Y', StM Y' w' j c p st nb K fr bl d s t x m n a ss (ms ++ [(ss.length, a)]) val ∧ (∀ k, Y' k → k < w'.heap.size) ∧ Gr Y Y' w ∧ But Y w w' := by
 obtain ⟨PO, hPO⟩ : ∃ PO : Ending → World → Prop, PO = fun e w' => e = .returned (.tuple #[.int .i64 (ms.length : Int), .int .i64 0]) ∧ ∃ Y', StM Y' w' j c p st nb K fr bl d s t x m n a ss (ms ++ [(ss.length, a)]) val ∧ (∀ k, Y' k → k < w'.heap.size) ∧ Gr Y Y' w ∧ But Y w w' := ⟨_, rfl⟩
 rw [← hPO]
 obtain ⟨Z, Zw, sv, mv, q1, q2, q3, q4, q5, q6, q8, q9, q10⟩ := h
 have HA := hid (task_open q1 hon q3 q4)
 have HM : Hid (∀ w1, Below w.heap.size w w1 → w1.cell? ⟨t, 3, none⟩ = some (.pointer (some ⟨x, 0, none⟩)) ∧ Calls Tryz.prog 90 #[.pointer (some ⟨x, 0, none⟩)] w1 fun e w' => e = .returned (.int .i64 (ms.length : Int)) ∧ PO (.returned (.tuple #[.int .i64 (ms.length : Int), .int .i64 0])) w') := fun w1 b1 => by
  have s1 := b1.size
  have hW1 : Wm (fun k => Zw k ∧ k < w.heap.size) w1 x j m n nb fr bl a sv mv ss ms val := q2.keepZ (fun k _ hk => b1.block k hk) (fun k q hk => ⟨q, hk⟩)
  refine ⟨(b1.cell (p := ⟨t, 3, none⟩) q3.lt).trans (q3.cell 3), Calls.mono (hW1.mark hM) ?_⟩
  rintro e w' ⟨rfl, mv', Zw', r1, r2, r3, r4⟩
  refine ⟨rfl, ?_⟩
  rw [hPO]
  have s4 := r4.size
  refine ⟨rfl, StM.step q3 q4 q5 q6 q8 q9 q10 ((q1.cut.below b1).but r4 (fun k _ e1 e2 => (q6 k e2.1).2 e1.1)) r1 (fun k hk e => e.1) (fun k hk e => (r3 k (by omega) e).1) (fun k e e2 => (q6 k (r3 k (by omega) e).1).2 e2.1) (fun k e => by omega) r2 ((But.of_below b1 (X := fun k => Z k ∨ Zw k)).comp r4 (fun k _ e => .inr e.1))⟩
 clear q1 q2 q3 q4 hPO q5 q6 q8 q9 q10
 go_enter Tryz.func32, Tryz.ntmps32
 go_wp2_with fail
 refine Calls.mono HA.out ?_
 rintro e w1 ⟨rfl, b1⟩
 obtain ⟨k3, hM1⟩ := HM.out w1 b1
 have HM1 := hid hM1
 clear b1 HA HM hM1
 go_wp2_with fail
 refine Calls.mono HM1.out ?_
 rintro e w3 ⟨rfl, q⟩
 have FIN := hid q
 clear q HM1
 go_wp2
 exact FIN.out
set_option maxRecDepth 100000 in
set_option maxHeartbeats 1000000 in
theorem hasMark_any {w : World} {x j m M mc : Nat} {ma : Option Addr} {sv : Value} (hx : Xb w x j m sv (.slice ma M mc)) (k : Nat) (b : Bool) (hb : b = decide (k < M)) (w0 : World) (hw : w0 = w) :
  Calls Tryz.prog 91 #[.pointer (some ⟨x, 0, none⟩), .int .i64 (k : Int)] w fun e w' => e = .returned (.bool b) ∧ w' = w0 := by
 have x3 := hx.cell 3
 simp at x3
 have hk0 : (0 : Int) ≤ (k : Int) := by omega
 by_cases hk : k < M
 ·have hk' : (k : Int) < (M : Int) := by omega
  have hb' : b = true := by rw [hb]; simp [hk]
  subst hb'
  have HW := hid hw
  clear hb hx hw
  go_enter Tryz.func91, Tryz.ntmps91
  go_wp2
  go_ret
  exact ⟨rfl, HW.out.symm⟩
 ·have hk' : ¬ (k : Int) < (M : Int) := by omega
  have hb' : b = false := by rw [hb]; simp [hk]
  subst hb'
  have HW := hid hw
  clear hb hx hw
  go_enter Tryz.func91, Tryz.ntmps91
  go_wp2
  go_ret
  exact ⟨rfl, HW.out.symm⟩
set_option maxRecDepth 100000 in
set_option maxHeartbeats 1000000 in
theorem StM.back {Y : Nat → Prop} {w : World} {j c p st nb K fr bl : Nat} {d : Pd} {s : Js} {t x m n : Nat} {a : Nat → Option Wr} {ss : List Sp} {ms : List Mr} {val : Nat → List Int} (h : StM Y w j c p st nb K fr bl d s t x m n a ss ms val) (hon : d.off = false) (hn : n + ss.length ≤ 1073741823) (hM : ms.length ≤ 1073741823) (hnb : nb ≤ 524288) (k pp : Nat) (b : Nat → Option Wr) (hk : ms[k]? = some (pp, b)) :
  Calls Tryz.prog 33 #[.pointer (some ⟨t, 0, none⟩), .int .i64 (k : Int)] w fun e w' => e = .returned (.int .i64 0) ∧ ∃ Y' n', n' + pp ≤ n + ss.length ∧ StM Y' w' j c p st nb K fr bl d s t x m n' b (ss.take pp) (ms.take (k + 1)) val ∧ (∀ k, Y' k → k < w'.heap.size) ∧ Gr Y Y' w ∧ But Y w w' := by
 obtain ⟨PO, hPO⟩ : ∃ PO : Ending → World → Prop, PO = fun e w' => e = .returned (.int .i64 0) ∧ ∃ Y' n', n' + pp ≤ n + ss.length ∧ StM Y' w' j c p st nb K fr bl d s t x m n' b (ss.take pp) (ms.take (k + 1)) val ∧ (∀ k, Y' k → k < w'.heap.size) ∧ Gr Y Y' w ∧ But Y w w' := ⟨_, rfl⟩
 rw [← hPO]
 obtain ⟨Z, Zw, sv, mv, q1, q2, q3, q4, q5, q6, q8, q9, q10⟩ := h
 have hkl : k < ms.length := (List.getElem?_eq_some_iff.1 hk).1
 have HA := hid (task_open q1 hon q3 q4)
 have HM : Hid (∀ w1, Below w.heap.size w w1 → w1.cell? ⟨t, 3, none⟩ = some (.pointer (some ⟨x, 0, none⟩)) ∧ (Calls Tryz.prog 91 #[.pointer (some ⟨x, 0, none⟩), .int .i64 (k : Int)] w1 fun e w' => e = .returned (.bool true) ∧ w' = w1) ∧ Calls Tryz.prog 92 #[.pointer (some ⟨x, 0, none⟩), .int .i64 (k : Int)] w1 fun e w' => e = .returned (.tuple #[]) ∧ PO (.returned (.int .i64 0)) w') := fun w1 b1 => by
  have s1 := b1.size
  have hW1 : Wm (fun k => Zw k ∧ k < w.heap.size) w1 x j m n nb fr bl a sv mv ss ms val := q2.keepZ (fun k _ hk => b1.block k hk) (fun k q hk => ⟨q, hk⟩)
  obtain ⟨ma, mc, hmv, _⟩ := owns_slice hW1.mr
  have hx := hW1.blk
  rw [hmv] at hx
  refine ⟨(b1.cell (p := ⟨t, 3, none⟩) q3.lt).trans (q3.cell 3), hasMark_any hx k true (by simp [hkl]) w1 rfl, Calls.mono (hW1.back hn hM hnb k pp b hk) ?_⟩
  rintro e w' ⟨rfl, n', sv', mv', r1, r2, r4⟩
  refine ⟨rfl, ?_⟩
  rw [hPO]
  have s4 := r4.size
  obtain ⟨Y', u1, u2, u3, u4⟩ := StM.step q3 q4 q5 q6 q8 q9 q10 ((q1.cut.below b1).but r4 (fun k _ e1 e2 => (q6 k e2.1).2 e1.1)) r2 (fun k hk e => e.1) (fun k hk e => e.1.1) (fun k e e2 => (q6 k e.1.1).2 e2.1) (fun k e => by omega) (fun k e => by omega) ((But.of_below b1 (X := fun k => Z k ∨ Zw k)).comp r4 (fun k _ e => .inr e.1))
  exact ⟨rfl, Y', n', r1, u1, u2, u3, u4⟩
 clear q1 q2 q3 q4 hPO q5 q6 q8 q9 q10 hk
 go_enter Tryz.func33, Tryz.ntmps33
 go_wp2_with fail
 refine Calls.mono HA.out ?_
 rintro e w1 ⟨rfl, b1⟩
 obtain ⟨k3, hh, hM1⟩ := HM.out w1 b1
 have HM1 := hid hM1
 have HH := hid hh
 clear b1 HA HM hM1 hh
 go_wp2_with fail
 refine Calls.mono HH.out ?_
 rintro e w2 ⟨rfl, hw2⟩
 rw [hw2]
 clear hw2 HH
 go_wp2_with fail
 refine Calls.mono HM1.out ?_
 rintro e w3 ⟨rfl, q⟩
 have FIN := hid q
 clear q HM1
 go_wp2
 exact FIN.out
set_option maxRecDepth 100000 in
set_option maxHeartbeats 1000000 in
theorem StM.backNo {Y : Nat → Prop} {w : World} {j c p st nb K fr bl : Nat} {d : Pd} {s : Js} {t x m n : Nat} {a : Nat → Option Wr} {ss : List Sp} {ms : List Mr} {val : Nat → List Int} (h : StM Y w j c p st nb K fr bl d s t x m n a ss ms val) (hon : d.off = false) (k : Nat) (hk : ¬ k < ms.length) :
  Calls Tryz.prog 33 #[.pointer (some ⟨t, 0, none⟩), .int .i64 (k : Int)] w fun e w' => e = .returned (.int .i64 52) ∧ Below w.heap.size w w' := by
 obtain ⟨PO, hPO⟩ : ∃ PO : Ending → World → Prop, PO = fun e w' => e = .returned (.int .i64 52) ∧ Below w.heap.size w w' := ⟨_, rfl⟩
 rw [← hPO]
 obtain ⟨Z, Zw, sv, mv, q1, q2, q3, q4, q5, q6, q8, q9, q10⟩ := h
 have HA := hid (task_open q1 hon q3 q4)
 have HM : Hid (∀ w1, Below w.heap.size w w1 → w1.cell? ⟨t, 3, none⟩ = some (.pointer (some ⟨x, 0, none⟩)) ∧ (Calls Tryz.prog 91 #[.pointer (some ⟨x, 0, none⟩), .int .i64 (k : Int)] w1 fun e w' => e = .returned (.bool false) ∧ w' = w1) ∧ PO (.returned (.int .i64 52)) w1) := fun w1 b1 => by
  have hW1 : Wm (fun k => Zw k ∧ k < w.heap.size) w1 x j m n nb fr bl a sv mv ss ms val := q2.keepZ (fun k _ hk => b1.block k hk) (fun k q hk => ⟨q, hk⟩)
  obtain ⟨ma, mc, hmv, _⟩ := owns_slice hW1.mr
  have hx := hW1.blk
  rw [hmv] at hx
  refine ⟨(b1.cell (p := ⟨t, 3, none⟩) q3.lt).trans (q3.cell 3), hasMark_any hx k false (by simp [hk]) w1 rfl, ?_⟩
  rw [hPO]
  exact ⟨rfl, b1⟩
 clear q1 q2 q3 q4 hPO q5 q6 q8 q9 q10 hk
 go_enter Tryz.func33, Tryz.ntmps33
 go_wp2_with fail
 refine Calls.mono HA.out ?_
 rintro e w1 ⟨rfl, b1⟩
 obtain ⟨k3, hh, hF⟩ := HM.out w1 b1
 have HH := hid hh
 have FIN := hid hF
 clear b1 HA HM hF hh
 go_wp2_with fail
 refine Calls.mono HH.out ?_
 rintro e w2 ⟨rfl, hw2⟩
 rw [hw2]
 clear hw2 HH
 go_wp2_with fail
 exact FIN.out
def WrM (Y : Nat → Prop) (w : World) (j c p st nb K fr bl : Nat) (d : Pd) (s : Js) (t x m n : Nat) (a : Nat → Option Wr) (ss : List Sp) (ms : List Mr) (val : Nat → List Int) (y : Nat) (zs : List Int) (w' : World) : Prop :=
 ∃ Y' a' ss' val', StM Y' w' j c p st nb (K + 1) fr bl d s t x m (n + 1) a' ss' ms val' ∧ LofA a' val' = putL (LofA a val) y zs ∧ (∀ (i p : Nat) (b : Nat → Option Wr), ms[i]? = some (p, b) → LofA b val' = LofA b val) ∧ ss'.length ≤ ss.length + 1 ∧ (∀ k, Y' k → k < w'.heap.size) ∧ Gr Y Y' w ∧ But Y w w'
set_option maxRecDepth 100000 in
set_option maxHeartbeats 1000000 in
theorem StM.write {Y : Nat → Prop} {w : World} {j c p st nb K fr bl : Nat} {d : Pd} {s : Js} {t x m n : Nat} {a : Nat → Option Wr} {ss : List Sp} {ms : List Mr} {val : Nat → List Int} (h : StM Y w j c p st nb K fr bl d s t x m n a ss ms val) (hn : n ≤ 1073741823) (hns : ss.length ≤ 1073741823) (h1 : fr + bl ≤ nb) (hon : d.off = false) (hl : d.puts.length ≤ 1073741824) (hK : K < 4611686018427387904) (hnb : nb ≤ 524288) (y : Nat) (hy : y < nb) (hh : homeC nb fr bl (y : Int) = 0) (ad : Addr) (cd : Nat) (zs : List Int) (hR : ∀ w', But Y w w' → Rd w'.heap.size w' (some ad) 512 zs) :
  Calls Tryz.prog 86 #[.pointer (some ⟨t, 0, none⟩), .int .i64 (y : Int), .slice (some ad) 512 cd] w fun e w' => e = .returned (.int .i64 0) ∧ WrM Y w j c p st nb K fr bl d s t x m n a ss ms val y zs w' := by
 obtain ⟨PO, hPO⟩ : ∃ PO : Ending → World → Prop, PO = fun e w' => e = .returned (.int .i64 0) ∧ WrM Y w j c p st nb K fr bl d s t x m n a ss ms val y zs w' := ⟨_, rfl⟩
 rw [← hPO]
 obtain ⟨Z, Zw, sv, mv, q1, q2, q3, q4, q5, q6, q8, q9, q10⟩ := h
 obtain ⟨D, hWq⟩ := q2.wq
 have HA := hid (task_open q1 hon q3 q4)
 have HL : Hid (∀ w1, Below w.heap.size w w1 → Calls Tryz.prog 132 #[.pointer (some ⟨t, 0, none⟩), .int .i64 (y : Int)] w1 (RdH (fun k => Z k ∧ k < w.heap.size) w1 j c p 4 nb K fr bl d s ((LofA a val y).getD (jread d s y)))) := fun w1 b1 => look_w (q1.cut.below b1) (hWq.keep (fun k _ hk => b1.block k hk)) h1 hon hl hK hnb y hy hh ((b1.cell (p := ⟨t, 1, none⟩) q3.lt).trans (q3.cell 1))
 have HP : Hid (∀ w1 e w', Below w.heap.size w w1 → RdH (fun k => Z k ∧ k < w.heap.size) w1 j c p 4 nb K fr bl d s ((LofA a val y).getD (jread d s y)) e w' → RdH Z w j c p 4 nb K fr bl d s ((LofA a val y).getD (jread d s y)) e w') := fun w1 e w' b q => q.low b
 have HC : Hid (∀ e w', RdH Z w j c p 4 nb K fr bl d s ((LofA a val y).getD (jread d s y)) e w' → w'.cell? ⟨t, 3, none⟩ = some (.pointer (some ⟨x, 0, none⟩))) := fun e w' q => by
  obtain ⟨g, cp, _, _, _, _, _, q8⟩ := q
  exact (q8.cell (p := ⟨t, 3, none⟩) q3.lt q9.1).trans (q3.cell 3)
 have HY : Hid (∀ e w', RdH Z w j c p 4 nb K fr bl d s ((LofA a val y).getD (jread d s y)) e w' → Calls Tryz.prog 134 #[.pointer (some ⟨x, 0, none⟩), .int .i64 (y : Int), .slice (some ad) 512 cd] w' fun e w' => e = .returned (.tuple #[]) ∧ PO (.returned (.int .i64 0)) w') := fun e w3 q => by
  obtain ⟨g0, cp0, _, _, _, _, ⟨Z', r5, r6, r7⟩, r8⟩ := q
  have s8 := r8.size
  have hW3 : Wm (fun k => Zw k ∧ k < w.heap.size) w3 x j m n nb fr bl a sv mv ss ms val := q2.keepZ (fun k q hk => r8.block k hk (q6 k q).2) (fun k q hk => ⟨q, hk⟩)
  refine Calls.mono (hW3.lay hn hns y hy hh hnb ad cd zs (hR w3 (r8.mono (fun k _ e => q5 k e)))) ?_
  rintro e w' ⟨rfl, a', sv', ss', val', Zw', u1, u2, u3, u4, u5, u6, u7⟩
  refine ⟨rfl, ?_⟩
  rw [hPO]
  have s7 := u7.size
  have hJ : Jq (fun k => Z' k ∧ k < w3.heap.size) w' j c p 4 nb (K + 1) fr bl d s := r5.cut.but u7 (fun k _ e1 e2 => (q6 k e2.1).2 (r6 k e2.2 e1.1))
  have hdj : ∀ k, Zw' k → ¬ (Z' k ∧ k < w3.heap.size) := fun k e e2 => by
   have e3 := u6 k e2.2 e
   exact (q6 k e3.1).2 (r6 k e3.2 e2.1)
  obtain ⟨Y', v1, v2, v3, v4⟩ := StM.step q3 q4 q5 q6 q8 q9 q10 hJ u1 (fun k hk e => r6 k hk e.1) (fun k hk e => (u6 k (by omega) e).1) hdj (fun k e => by omega) u5 ((r8.mono (fun k _ e => .inl e)).comp u7 (fun k _ e => .inr e.1))
  exact ⟨rfl, Y', a', ss', val', v1, u2, u3, u4, v2, v3, v4⟩
 clear q1 q2 q3 q4 hPO q5 q6 q8 q9 q10 hR hWq
 go_enter Tryz.func86, Tryz.ntmps86
 go_wp2_with fail
 refine Calls.mono HA.out ?_
 rintro e w1 ⟨rfl, b1⟩
 have HL1 := hid (HL.out w1 b1)
 have HP1 : Hid (∀ e w', RdH (fun k => Z k ∧ k < w.heap.size) w1 j c p 4 nb K fr bl d s ((LofA a val y).getD (jread d s y)) e w' → RdH Z w j c p 4 nb K fr bl d s ((LofA a val y).getD (jread d s y)) e w') := fun e w' q => HP.out w1 e w' b1 q
 clear b1 HA HL HP
 go_wp2_with fail
 refine Calls.mono HL1.out ?_
 rintro e w3 q
 obtain ⟨g3, cp3, rfl, _⟩ := id q
 have k3 := HC.out _ w3 (HP1.out _ w3 q)
 have HY1 := hid (HY.out _ w3 (HP1.out _ w3 q))
 clear q HL1 HP1 HC HY
 go_wp2_with fail
 refine Calls.mono HY1.out ?_
 rintro e w5 ⟨rfl, q⟩
 have FIN := hid q
 clear q HY1
 go_wp2
 exact FIN.out
open Go.RowKit Go.Deep
theorem StM.cut {Y : Nat → Prop} {w : World} {j c p st nb K fr bl : Nat} {d : Pd} {s : Js} {t x m n : Nat} {a : Nat → Option Wr} {ss : List Sp} {ms : List Mr} {val : Nat → List Int} (h : StM Y w j c p st nb K fr bl d s t x m n a ss ms val) : StM (fun k => Y k ∧ k < w.heap.size) w j c p st nb K fr bl d s t x m n a ss ms val := by
 obtain ⟨Z, Zw, sv, mv, q1, q2, q3, q4, q5, q6, q8, q9, q10⟩ := h
 exact ⟨fun k => Z k ∧ k < w.heap.size, fun k => Zw k ∧ k < w.heap.size, sv, mv, q1.cut, q2.cut, q3, q4, fun k e => ⟨q5 k e.1, e.2⟩, fun k e => ⟨⟨(q6 k e.1).1, e.2⟩, fun e2 => (q6 k e.1).2 e2.1⟩, q8, ⟨fun e => q9.1 e.1, fun e => q9.2.1 e.1, q9.2.2, q3.lt⟩, ⟨fun e => q10.1 e.1, fun e => q10.2.1 e.1, q10.2.2, q4.lt⟩⟩
theorem StM.reads {Y : Nat → Prop} {w : World} {j c p st nb K fr bl : Nat} {d : Pd} {s : Js} {t x m n0 : Nat} {a : Nat → Option Wr} {ss : List Sp} {ms : List Mr} {val : Nat → List Int} (h : StM Y w j c p st nb K fr bl d s t x m n0 a ss ms val) (h1 : fr + bl ≤ nb) (hon : d.off = false) (hl : d.puts.length ≤ 1073741824) (hnb : nb ≤ 524288) (base n : Nat) (hb : fr + bl ≤ base) (hn : base + n ≤ nb) (hK : K + n < 4611686018427387904) :
  Calls Tryz.prog 26 #[.pointer (some ⟨st, 0, none⟩), .pointer (some ⟨t, 0, none⟩), .int .i64 (base : Int), .int .i64 (n : Int)] w fun e w' => ∃ lv Y', e = .returned (.tuple #[lv, .bool true]) ∧ w'.ownsRow w.heap.size 9 1 lv n ((List.range n).map (fun q => .string (strOfNums ((LofA a val (base + q)).getD (jread d s (base + q)))))) ∧ StM Y' w' j c p st nb (K + n) fr bl d s t x m n0 a ss ms val ∧ (∀ g, lv.ownBlock = some g → ¬ Y' g) ∧ (∀ k, Y' k → k < w'.heap.size) ∧ Gr Y Y' w ∧ But Y w w' := by
 obtain ⟨Z, Zw, sv, mv, q1, q2, q3, q4, q5, q6, q8, q9, q10⟩ := h
 obtain ⟨D, hWq⟩ := q2.wq
 have H : Calls Tryz.prog 26 #[.pointer (some ⟨st, 0, none⟩), .pointer (some ⟨t, 0, none⟩), .int .i64 (base : Int), .int .i64 (n : Int)] w (RdsP Z w j c p 4 nb K fr bl d s n (fun i => (LofA a val (base + i)).getD (jread d s (base + i)))) := reads_txn q1 hWq (fun k e => (q6 k e).2) h1 hon hl hnb q3 q4 q9.1 q10.1 base n hb hn hK
 refine Calls.mono H ?_
 rintro e w' ⟨lv, Z', rfl, r1, r2, r3, r4, r5⟩
 have hs := r5.size
 refine ⟨lv, growZ Y Z' w w', rfl, r1, ⟨fun k => Z' k ∧ k < w'.heap.size, fun k => Zw k ∧ k < w.heap.size, sv, mv, r3.cut, q2.cut.but r5 (fun k _ e => (q6 k e.1).2), q3.keep (r5.block t q3.lt q9.1), q4.keep (r5.block st q4.lt q10.1), fun k e => growZ.of q5 r4 e.1 e.2, fun k e => ⟨.inl ⟨(q6 k e.1).1, e.2⟩, fun e2 => (q6 k e.1).2 (r4 k e.2 e2.1)⟩, q8, ⟨fun e => q9.1 (r4 t q3.lt e.1), fun e => q9.2.1 e.1, .inl ⟨q9.2.2, q3.lt⟩⟩, ⟨fun e => q10.1 (r4 st q4.lt e.1), fun e => q10.2.1 e.1, .inl ⟨q10.2.2, q4.lt⟩⟩⟩, fun g e q => ?_, fun k q => by rcases q with q | q <;> omega, growZ.gr _ _ _ _, r5.mono (fun k _ e => q5 k e)⟩
 rcases q with q | q
 ·have := (World.ownsRow.lt r1 g e).1
  omega
 ·exact r2 g e q.1
theorem StM.commit {Y : Nat → Prop} {w : World} {j c p st nb K fr bl lo : Nat} {d : Pd} {s : Js} {t x m n0 : Nat} {a : Nat → Option Wr} {ss : List Sp} {ms : List Mr} {val : Nat → List Int} {home : Nat → List Int} {Ts : List Tn} (h : StM Y w j c p st nb K fr bl d s t x m n0 a ss ms val) (ho : On d s nb fr bl lo home Ts) (hfu : d.fu = -1) (hlo : 16 ≤ bl) (hfit : fr + bl ≤ nb) (hnb : nb ≤ 524288) (hsq : Ts.length < 1099511627776) (hk : (homeKeys nb (LofA a val)).length ≤ bl / 2 - 4) (hh : ∀ y, y ∈ homeKeys nb (LofA a val) → homeC nb fr bl (y : Int) = 0) :
  Calls Tryz.prog 31 #[.pointer (some ⟨t, 0, none⟩)] w fun e w' => e = .returned (.int .i64 0) ∧ ∃ Y' d' s' Ts', StA Y' w' j c p st nb K fr bl d' s' ∧ d'.fu = -1 ∧ On d' s' nb fr bl lo home Ts' ∧ Ts'.length ≤ Ts.length + 1 ∧ (∀ y, y < nb → contT home Ts' Ts'.length y = (LofA a val y).getD (contT home Ts Ts.length y)) ∧ (∀ k, Y' k → k < w'.heap.size) ∧ Gr Y Y' w ∧ But Y w w' := by
 obtain ⟨Z, Zw, sv, mv, q1, q2, q3, q4, q5, q6, q8, q9, q10⟩ := h
 obtain ⟨D, hWq⟩ := q2.wq
 have hpl := ho.puts hlo hfit hnb
 refine Calls.mono (commit_any q1 (ho.jn hlo hfit hnb) hWq (fun k _ e => (q6 k e).2) ho.on (by omega) hnb q3 q4 q8 q9.1 q10.1 q9.2.1 q10.2.1) ?_
 intro e w' H
 obtain ⟨r1, r2, r3, Z', d', s', Ts', r4, r5, r6, r7, r8, r9⟩ := H.on q1 ho hfu hlo hfit hnb hsq hk hh q9.1 q10.1
 have hs := r3.size
 refine ⟨r1, growZ Y Z' w w', d', s', Ts', ⟨fun k => Z' k ∧ k < w'.heap.size, r4.cut, fun k e => growZ.of q5 r5 e.1 e.2, r2, fun e => q10.1 (r5 st q4.lt e.1), .inl ⟨q10.2.2, q4.lt⟩⟩, r6, r7, r8, r9, fun k q => by rcases q with q | q <;> omega, growZ.gr _ _ _ _, r3.mono (fun k _ e => ?_)⟩
 rcases e with e | e | e
 ·exact q5 k e
 ·exact e ▸ q10.2.2
 ·exact e ▸ q9.2.2
def WroM (Y : Nat → Prop) (w : World) (j c p st nb K fr bl : Nat) (d : Pd) (s : Js) (t x m n : Nat) (a : Nat → Option Wr) (ss : List Sp) (ms : List Mr) (val : Nat → List Int) (base cnt : Nat) (f : Nat → List Int) (ps : List Int) (g cp : Nat) (w' : World) : Prop :=
 ∃ Y' a' ss' val', w'.ownsRow w.heap.size 9 1 (.slice (some ⟨g, 0, none⟩) cnt cp) cnt ((strsP base cnt f (laidP base cnt (LofA a val) ps)).map Value.string) ∧ StM Y' w' j c p st nb (K + ps.length) fr bl d s t x m (n + ps.length) a' ss' ms val' ∧ LofA a' val' = laidP base cnt (LofA a val) ps ∧ (∀ (i p : Nat) (b : Nat → Option Wr), ms[i]? = some (p, b) → LofA b val' = LofA b val) ∧ ss'.length ≤ ss.length + ps.length ∧ ¬ Y' g ∧ (∀ k, Y' k → k < w'.heap.size) ∧ Gr Y Y' w ∧ But Y w w'
set_option maxRecDepth 100000 in
set_option maxHeartbeats 4000000 in
theorem StM.wrote {Y : Nat → Prop} {w : World} {j c p st nb K fr bl : Nat} {d : Pd} {s : Js} {t x m n : Nat} {a : Nat → Option Wr} {ss : List Sp} {ms : List Mr} {val : Nat → List Int} (h : StM Y w j c p st nb K fr bl d s t x m n a ss ms val) (h1 : fr + bl ≤ nb) (hon : d.off = false) (hl : d.puts.length ≤ 1073741824) (hnb : nb ≤ 524288) (base cnt : Nat) (f : Nat → List Int) (hcnt : 0 < cnt) (hb : fr + bl ≤ base) (hbc : base + cnt ≤ nb) (ha : Option Addr) (hc : Nat) (hS : StrL w (.slice ha cnt hc) (strsP base cnt f (LofA a val))) (pa : Option Addr) (pc : Nat) (ps : List Int) (hP : IntL Y w pa ps) (hN : n + ps.length ≤ 1073741823) (hNs : ss.length + ps.length ≤ 1073741823) (hK : K + ps.length < 4611686018427387904) :
  Calls Tryz.prog 28 #[.pointer (some ⟨t, 0, none⟩), .slice ha cnt hc, .int .i64 (base : Int), .slice pa ps.length pc] w fun e w' => ∃ g cp, e = .returned (.tuple #[.slice (some ⟨g, 0, none⟩) cnt cp, .bool true]) ∧ w.heap.size ≤ g ∧ WroM Y w j c p st nb K fr bl d s t x m n a ss ms val base cnt f ps g cp w' := by
 obtain ⟨PO, hPO⟩ : ∃ PO : Ending → World → Prop, PO = fun e w' => ∃ g cp, e = .returned (.tuple #[.slice (some ⟨g, 0, none⟩) cnt cp, .bool true]) ∧ w.heap.size ≤ g ∧ WroM Y w j c p st nb K fr bl d s t x m n a ss ms val base cnt f ps g cp w' := ⟨_, rfl⟩
 rw [← hPO]
 obtain ⟨i9, hi9, hz9, hs9, hb9⟩ := info_parts info9
 obtain ⟨ha', hc', eS, hS⟩ := hS
 have eS' : ha = ha' := by injection eS
 subst eS'
 clear eS
 obtain ⟨g0, rfl, hg0, _⟩ := hS 0 _ (List.getElem?_eq_getElem (by rw [strsP_len]; exact hcnt))
 have HNews : Hid (∀ i u, ((strsP base cnt f (LofA a val)).map Value.string)[i]? = some u → w.cell? ((⟨g0, 0, none⟩ : Addr).add i) = some u) := fun i u hu => by
  rw [List.getElem?_map] at hu
  cases hq : (strsP base cnt f (LofA a val))[i]? with
  | none => rw [hq] at hu; cases hu
  | some S =>
   rw [hq] at hu
   obtain ⟨g', e1, _, e3⟩ := hS i S hq
   cases e1
   rw [Addr.add_lit]
   simp at hu
   rw [← hu]
   simpa using e3
 have hlen : ((strsP base cnt f (LofA a val)).map Value.string).length = cnt * 1 := by simp [strsP_len]
 have hone : ∀ u ∈ (strsP base cnt f (LofA a val)).map Value.string, u.oneCell' = true := fun u hu => by
  obtain ⟨S, _, rfl⟩ := List.mem_map.1 hu
  rfl
 obtain ⟨N, hNe⟩ : ∃ N, N = ps.length := ⟨_, rfl⟩
 rw [← hNe] at hN hNs hK ⊢
 have HN := hid hNe
 have H0 := hid h
 have HPk := hid hP
 have HP : Hid (∀ g cp w', w.heap.size ≤ g → WroM Y w j c p st nb K fr bl d s t x m n a ss ms val base cnt f ps g cp w' → PO (.returned (.tuple #[.slice (some ⟨g, 0, none⟩) cnt cp, .bool true])) w') := fun g cp w' q1 q2 => by rw [hPO]; exact ⟨g, cp, rfl, q1, q2⟩
 clear h hP hNe hS hPO
 go_enter Tryz.func28, Tryz.ntmps28
 go_wp2_with (at_builtin; refine wpList_append_lies _ rfl _ _ _ rfl w.heap.size 9 i9 (.string ByteArray.empty) 1 16 Tryz.underlying70 hi9 hz9 hs9 hb9 rfl (by decide) _ 0 [] rfl (by exact ⟨rfl, .inl ⟨rfl, rfl⟩⟩) ⟨g0, 0, none⟩ cnt hc ((strsP base cnt f (LofA a val)).map Value.string) rfl hlen (by exact HNews.out) hone hcnt (by unfold maxLen; omega) (by omega) (Nat.le_refl _) w.heap.size rfl ?_)
 intro gR cR w1 ho1 hg1 hlie1 hl1
 have hgR : gR = w.heap.size := by
  rcases hlie1 with r | r
  ·cases r
  ·exact r
 subst hgR
 have b1 : Below w.heap.size w w1 := ((But.refl (fun _ => False) w).of_grown hg1 (fun x e _ => by cases e)).below (Nat.le_refl _) (fun _ _ q => q)
 have HI : Hid (WroM Y w j c p st nb K fr bl d s t x m n a ss ms val base cnt f (ps.take 0) w.heap.size cR w1) := by
  have hs1 := b1.size
  exact ⟨fun k => Y k ∧ k < w.heap.size, a, ss, val, ho1, H0.out.cut.keep (But.of_below b1 (X := fun _ => False)) (fun _ q _ => q), rfl, fun _ _ _ _ => rfl, by simp, fun q => by omega, fun k q => by omega, fun k _ q => q.1, But.of_below b1⟩
 clear H0 HNews hlen hone ho1 hg1 hlie1 b1
 go_wp2_with fail
 go_loopw [11] (fun iv wr => ∃ q : Nat, q ≤ N ∧ iv = .int .i64 (q : Int) ∧ WroM Y w j c p st nb K fr bl d s t x m n a ss ms val base cnt f (ps.take q) w.heap.size cR wr) (fun iv _ => N - (intOf iv).toNat)
 case atStart => exact ⟨0, Nat.zero_le _, rfl, HI.out⟩
 case round =>
  clear HI
  obtain ⟨q, hqN, rfl, hWr⟩ := hrel
  by_cases hq : q < N
  ·have hq' : (q : Int) < (N : Int) := by omega
   obtain ⟨v, hv⟩ : ∃ v, ps[q]? = some v := ⟨_, List.getElem?_eq_getElem (by have := HN.out; omega)⟩
   obtain ⟨pb, po, rfl, hpb, hpx, hpc⟩ := HPk.out q v hv
   obtain ⟨Y', a', ss', val', hrow, hSt, hLA, hMs, hssl, hng, hYl, hG, hB⟩ := hWr
   have hpl : (ps.take q).length = q := by rw [List.length_take]; have := HN.out; omega
   rw [hpl] at hSt hssl
   have k1 := (hB.cell (p := ⟨pb, po + q, none⟩) hpb hpx).trans hpc
   have hidx := into_lt v hcnt
   have hie := into_eq cnt v
   have hp62 := and62_pos v
   have hsw := hB.size
   have HBk := hid (Block_any v wr)
   have hy : base + into cnt v < nb := by omega
   have HTw : Hid (∀ w2 gb, Below wr.heap.size wr w2 → wr.heap.size ≤ gb → Blk .u8 5 w2 gb (blkZ v) → Calls Tryz.prog 86 #[.pointer (some ⟨t, 0, none⟩), .int .i64 ((base + into cnt v : Nat) : Int), .slice (some ⟨gb, 0, none⟩) 512 512] w2 fun e w3 => e = .returned (.int .i64 0) ∧ WrM Y' w2 j c p st nb (K + q) fr bl d s t x m (n + q) a' ss' ms val' (base + into cnt v) (blkZ v) w3) := fun w2 gb b2 hgb hbk => by
    have s2 := b2.size
    have ho := Own.of_blk hbk (length_blkZ v) (by unfold maxLen; omega)
    exact (hSt.keep (But.of_below b2 (X := fun _ => False)) (fun _ q _ => q)).write (by omega) (by omega) h1 hon hl (by omega) hnb _ hy (homeC_ok (by omega) (by omega)) ⟨gb, 0, none⟩ 512 (blkZ v) (fun w' b' => ((ho.keep (b'.block gb ho.lt (fun e => by have := hYl gb e; omega))).rdn (X := fun _ => False) (isB_blkZ v) (fun q => q)).rd)
   rw [show ((base + into cnt v : Nat) : Int) = (base : Int) + (into cnt v : Int) by omega] at HTw
   have HST := hid (And.intro hrow (And.intro hLA (And.intro hMs (And.intro hssl (And.intro hng (And.intro hYl (And.intro hG hB)))))))
   have hgl := (World.ownsRow.lt hrow w.heap.size rfl).2
   have HV := hid hv
   clear hrow hSt hLA hMs hssl hng hYl hG hB hpc hv HPk HP
   go_wp2_with fail
   refine Calls.mono HBk.out ?_
   rintro e w2 ⟨gb, rfl, hgb, hbk, b2⟩
   have HTw2 := hid (HTw.out w2 gb b2 hgb hbk)
   have HB2 := hid (And.intro hbk b2)
   have s2 := b2.size
   clear HBk HTw hbk b2 k1
   go_wp2_with fail
   refine Calls.mono HTw2.out ?_
   rintro e w3 ⟨rfl, hX⟩
   have KEY : Hid (w3.ownsRow w.heap.size 9 1 (.slice (some ⟨w.heap.size, 0, none⟩) cnt cR) cnt ((strsP base cnt f (laidP base cnt (LofA a val) (ps.take q))).map Value.string) ∧ Own w3 gb 512 512 (blkZ v) ∧ WroM Y w j c p st nb K fr bl d s t x m n a ss ms val base cnt f (ps.take (q + 1)) w.heap.size cR (w3.setCell ⟨w.heap.size, into cnt v, none⟩ (.string (strOfNums (blkZ v))))) := by
    obtain ⟨hrow, hLA, hMs, hssl, hng, hYl, hG, hB⟩ := HST.out
    obtain ⟨Y3, a3, ss3, val3, r1, r2, r3, r4, r5, r6, r7⟩ := hX
    have s3 := r7.size
    have ho2 := Own.of_blk HB2.out.1 (length_blkZ v) (by unfold maxLen; omega)
    have hgl2 : w.heap.size < w2.heap.size := by omega
    have hro2 := owns_below hrow HB2.out.2
    have hro3 := owns_keep hro2 (fun k e => by
     have ek : k = w.heap.size := by injection e with e; exact e.symm
     subst ek
     exact r7.block _ hgl2 hng)
    refine ⟨hro3, ho2.keep (r7.block gb ho2.lt (fun e => by have := hYl gb e; omega)), ?_⟩
    have hps : ps.take (q + 1) = ps.take q ++ [v] := by rw [List.take_add_one, HV.out]; rfl
    have hpl1 : (ps.take (q + 1)).length = q + 1 := by rw [hps, List.length_append, hpl]; rfl
    have bs : But (fun k => k = w.heap.size) w3 (w3.setCell ⟨w.heap.size, into cnt v, none⟩ (.string (strOfNums (blkZ v)))) := (But.refl (fun k => k = w.heap.size) w3).setCell rfl _
    have hz3 : ¬ Y3 w.heap.size := fun e => hng (r6 _ hgl2 e)
    refine ⟨Y3, a3, ss3, val3, ?_, ?_, ?_, fun i pp b e => (r3 i pp b e).trans (hMs i pp b e), by rw [hpl1]; omega, hz3, fun k e => by rw [World.size_setCell]; exact r5 k e, fun k hk e => hG k hk (r6 k (by omega) e), ?_⟩
    ·rw [hps, laidP_snoc, strsP_put, List.map_set]
     exact (World.ownsRow.stored hro3 (into cnt v) (.string (strOfNums (blkZ v)))).1
    ·rw [hpl1]
     exact r1.keep bs (fun k e e2 => hz3 (e ▸ e2))
    ·rw [r2, hLA, hps, laidP_snoc]
    ·exact ((hB.comp (But.of_below HB2.out.2 (X := fun _ => False)) (fun _ _ q => q.elim)).comp r7 (fun k hk e => hG k hk e)).comp bs (fun k hk e => by omega)
   have hcv := conv_str (KEY.out.2.1.rdn (X := fun _ => False) (isB_blkZ v) (fun q => q)).rd 512
   have hcell := World.ownsRow.cellAt KEY.out.1 (into cnt v) (by simp; exact hidx)
   have hfz := World.ownsRow.frozenAt KEY.out.1 (into cnt v)
   have hcell' : ∃ S, w3.cell? ⟨w.heap.size, into cnt v, none⟩ = some (.string S) := ⟨_, by rw [hcell, List.getElem?_map, List.getElem?_eq_getElem (by rw [strsP_len]; exact hidx)]; rfl⟩
   obtain ⟨S0, hS0⟩ := hcell'
   have FIN := hid KEY.out.2.2
   clear hcell
   clear KEY hX HTw2 HST HB2
   go_wp2_with fail
   go_roundw
   case rel => exact ⟨q + 1, by omega, by go_num, FIN.out⟩
   case measure => simp [intOf]; omega
  ·have hqe : q = N := by omega
   have hq' : ¬ (q : Int) < (N : Int) := by omega
   subst hqe
   rw [List.take_of_length_le (by rw [← HN.out]; exact Nat.le_refl _)] at hWr
   have FIN := hid (HP.out w.heap.size cR wr (Nat.le_refl _) hWr)
   clear hWr HP HPk
   go_wp2
   exact FIN.out
end Go.Proofs.YtldlejpacgphmabGreat
