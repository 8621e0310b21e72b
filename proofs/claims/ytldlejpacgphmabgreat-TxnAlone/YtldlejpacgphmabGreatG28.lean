import Derived.Test.YtldlejpacgphmabGreatG27
namespace Go.Proofs.YtldlejpacgphmabGreat
open Go.RowKit Go.Deep
def Fx (ob ab st : Nat) (v0 v1 v2 : Value) (w : World) : Prop := w.cell? ⟨ob, 1, none⟩ = some (.pointer (some ⟨st, 0, none⟩)) ∧ w.cell? ⟨ab, 0, none⟩ = some v0 ∧ w.cell? ⟨ab, 1, none⟩ = some v1 ∧ w.cell? ⟨ab, 2, none⟩ = some v2
theorem Fx.but {ob ab st : Nat} {v0 v1 v2 : Value} {w w' : World} {Y : Nat → Prop} (h : Fx ob ab st v0 v1 v2 w) (hb : But Y w w') (h1 : ob < w.heap.size ∧ ¬ Y ob) (h2 : ab < w.heap.size ∧ ¬ Y ab) : Fx ob ab st v0 v1 v2 w' :=
 ⟨(hb.cell (p := ⟨ob, 1, none⟩) h1.1 h1.2).trans h.1, (hb.cell (p := ⟨ab, 0, none⟩) h2.1 h2.2).trans h.2.1, (hb.cell (p := ⟨ab, 1, none⟩) h2.1 h2.2).trans h.2.2.1, (hb.cell (p := ⟨ab, 2, none⟩) h2.1 h2.2).trans h.2.2.2⟩
theorem StrL.but {w w' : World} {a : Option Addr} {n c : Nat} {xs : List ByteArray} {Y : Nat → Prop} (h : StrL w (.slice a n c) xs) (hb : But Y w w') (hY : ∀ g o, a = some ⟨g, o, none⟩ → ¬ Y g) : StrL w' (.slice a n c) xs := by
 obtain ⟨a', c', e, h⟩ := h
 obtain ⟨rfl, rfl, rfl⟩ : a = a' ∧ n = xs.length ∧ c = c' := by injection e with x y z; exact ⟨x, y, z⟩
 refine ⟨a, c, rfl, fun i S hi => ?_⟩
 obtain ⟨g, h1, h2, h3⟩ := h i S hi
 exact ⟨g, h1, Nat.lt_of_lt_of_le h2 hb.size, (hb.cell (p := ⟨g, i, none⟩) h2 (hY g 0 h1)).trans h3⟩
theorem StA.keep {Y X : Nat → Prop} {w w' : World} {j c p st nb K fr bl : Nat} {d : Pd} {s : Js} (h : StA Y w j c p st nb K fr bl d s) (hb : But X w w') (hX : ∀ k, X k → Y k → False) : StA Y w' j c p st nb K fr bl d s := by
 obtain ⟨Z, h1, h2, h3, h4, h5⟩ := h
 exact ⟨Z, h1.but hb (fun k _ q r => hX k r (h2 k q)), h2, h3.keep (hb.block st h3.lt (fun r => hX st r h5)), h4, h5⟩
theorem StT.keep {Y X : Nat → Prop} {w w' : World} {j c p st nb K fr bl : Nat} {d : Pd} {s : Js} {t x m n : Nat} {L : Nat → Option (List Int)} (h : StT Y w j c p st nb K fr bl d s t x m n L) (hb : But X w w') (hX : ∀ k, X k → Y k → False) : StT Y w' j c p st nb K fr bl d s t x m n L := by
 obtain ⟨Z, Zw, D, a, q1, q2, q3, q4, q5, q6, q7, q8, q9, q10⟩ := h
 exact ⟨Z, Zw, D, a, q1.but hb (fun k _ q r => hX k r (q5 k q)), q2.but hb (fun k _ q r => hX k r (q6 k q).1), q3.keep (hb.block t q3.lt (fun r => hX t r q9.2.2)), q4.keep (hb.block st q4.lt (fun r => hX st r q10.2.2)), q5, q6, q7, q8, q9, q10⟩
theorem below_but {B : Nat} {Y : Nat → Prop} {w0 w w' : World} (hb : Below B w0 w) (h : But Y w w') (hY : ∀ k, Y k → B ≤ k) (hB : B = w0.heap.size) : Below B w0 w' := hb.trans (h.below (by have := hb.size; omega) (fun k hk q => by have := hY k q; omega))
structure Rw (B : Nat) (w0 : World) (ob ab st : Nat) (v0 v1 v2 : Value) (Y : Nat → Prop) (w : World) : Prop where
 fx : Fx ob ab st v0 v1 v2 w
 o : ob < w.heap.size ∧ ¬ Y ob
 a : ab < w.heap.size ∧ ¬ Y ab
 y : ∀ k, Y k → B ≤ k ∧ k < w.heap.size
 b : Below B w0 w
 z : B = w0.heap.size
theorem Rw.step {B : Nat} {w0 : World} {ob ab st : Nat} {v0 v1 v2 : Value} {Y Y' : Nat → Prop} {w w' : World} (h : Rw B w0 ob ab st v0 v1 v2 Y w) (hb : But Y w w') (hg : Gr Y Y' w) (hl : ∀ k, Y' k → k < w'.heap.size) : Rw B w0 ob ab st v0 v1 v2 Y' w' := by
 have hs := hb.size
 have hs0 := h.b.size
 have hz := h.z
 refine ⟨h.fx.but hb h.o h.a, ⟨by have := h.o.1; omega, fun q => h.o.2 (hg _ h.o.1 q)⟩, ⟨by have := h.a.1; omega, fun q => h.a.2 (hg _ h.a.1 q)⟩, fun k q => ⟨?_, hl k q⟩, below_but h.b hb (fun k q => (h.y k q).1) h.z, h.z⟩
 rcases Nat.lt_or_ge k w.heap.size with e | e
 ·exact (h.y k (hg k e q)).1
 ·omega
def Al (B : Nat) (w0 : World) (ob ab st j c p : Nat) (v0 v1 v2 : Value) (home : Nat → List Int) (M r : Nat) (w : World) (ha : Option Addr) (hc : Nat) : Prop :=
 ∃ Y K d s Ts, StA Y w j c p st 22 K 0 16 d s ∧ d.fu = -1 ∧ On d s 22 0 16 0 home Ts ∧ Ts.length ≤ r ∧ K ≤ 4 + r * (M + 12) ∧ StrL w (.slice ha 4 hc) (strsP 16 4 (fun i => contT home Ts Ts.length (16 + i)) (fun _ => none)) ∧ (∀ g o, ha = some ⟨g, o, none⟩ → g < w.heap.size ∧ ¬ Y g) ∧ Rw B w0 ob ab st v0 v1 v2 Y w
theorem strs_reads (f : Nat → List Int) (n : Nat) : (List.range n).map (fun q => Value.string (strOfNums (f q))) = ((List.range n).map (fun q => strOfNums (f q))).map Value.string := by simp
theorem own_slice {w : World} {base n : Nat} {v : Value} {xs : List Value} (h : w.ownsRow base 9 1 v n xs) : ∃ a c, v = .slice a n c := by
 obtain ⟨a, c, e, _⟩ := owns_slice h
 exact ⟨a, c, e⟩
set_option maxHeartbeats 1000000 in
theorem Al.round {B : Nat} {w0 : World} {ob ab st j c p : Nat} {v0 v1 v2 : Value} {home : Nat → List Int} {M r : Nat} {wr : World} {ha : Option Addr} {hc : Nat} (h : Al B w0 ob ab st j c p v0 v1 v2 home M r wr ha hc) (hr : r < 6) (hM : M ≤ 1048576) (pa : Option Addr) (pc : Nat) (ps : List Int) (hP : IntL (fun k => B ≤ k) w0 pa ps) (hps : ps.length ≤ M) :
  Calls Tryz.prog 27 #[.pointer (some ⟨st, 0, none⟩)] wr fun e w1 => ∃ t, e = .returned (.tuple #[.pointer (some ⟨t, 0, none⟩), .int .i64 0]) ∧ Fx ob ab st v0 v1 v2 w1 ∧
  Calls Tryz.prog 28 #[.pointer (some ⟨t, 0, none⟩), .slice ha 4 hc, .int .i64 16, .slice pa ps.length pc] w1 fun e w2 => ∃ g cp, e = .returned (.tuple #[.slice (some ⟨g, 0, none⟩) 4 cp, .bool true]) ∧ Fx ob ab st v0 v1 v2 w2 ∧
  Calls Tryz.prog 26 #[.pointer (some ⟨st, 0, none⟩), .pointer (some ⟨t, 0, none⟩), .int .i64 16, .int .i64 4] w2 fun e w3 => ∃ ma mc, e = .returned (.tuple #[.slice ma 4 mc, .bool true]) ∧ Fx ob ab st v0 v1 v2 w3 ∧
  Calls Tryz.prog 26 #[.pointer (some ⟨st, 0, none⟩), .pointer none, .int .i64 16, .int .i64 4] w3 fun e w4 => ∃ ta tc, e = .returned (.tuple #[.slice ta 4 tc, .bool true]) ∧
  Calls Tryz.prog 29 #[.slice ma 4 mc, .slice (some ⟨g, 0, none⟩) 4 cp] w4 fun e w5 => e = .returned (.bool true) ∧
  Calls Tryz.prog 29 #[.slice ta 4 tc, .slice ha 4 hc] w5 fun e w6 => e = .returned (.bool true) ∧
  (Calls Tryz.prog 30 #[.pointer (some ⟨t, 0, none⟩)] w6 fun e w7 => e = .returned (.int .i64 0) ∧ Fx ob ab st v0 v1 v2 w7 ∧
   Calls Tryz.prog 26 #[.pointer (some ⟨st, 0, none⟩), .pointer none, .int .i64 16, .int .i64 4] w7 fun e w8 => ∃ xa xc, e = .returned (.tuple #[.slice xa 4 xc, .bool true]) ∧
   Calls Tryz.prog 29 #[.slice xa 4 xc, .slice ha 4 hc] w8 fun e w9 => e = .returned (.bool true) ∧ Al B w0 ob ab st j c p v0 v1 v2 home M (r + 1) w9 ha hc) ∧
  (Calls Tryz.prog 31 #[.pointer (some ⟨t, 0, none⟩)] w6 fun e w7 => e = .returned (.int .i64 0) ∧ Fx ob ab st v0 v1 v2 w7 ∧
   Calls Tryz.prog 26 #[.pointer (some ⟨st, 0, none⟩), .pointer none, .int .i64 16, .int .i64 4] w7 fun e w8 => ∃ xa xc, e = .returned (.tuple #[.slice xa 4 xc, .bool true]) ∧
   Calls Tryz.prog 29 #[.slice xa 4 xc, .slice (some ⟨g, 0, none⟩) 4 cp] w8 fun e w9 => e = .returned (.bool true) ∧ Al B w0 ob ab st j c p v0 v1 v2 home M (r + 1) w9 (some ⟨g, 0, none⟩) cp) := by
 obtain ⟨Y, K, d, s, Ts, hA, hfu, ho, hTs, hK, hS, hg, hR⟩ := h
 have hon := ho.on
 have hpl := ho.puts (by omega) (by omega) (by omega)
 have hKb : K ≤ 4 + 6 * (1048576 + 12) := Nat.le_trans hK (Nat.add_le_add_left (Nat.mul_le_mul (by omega) (by omega)) _)
 have hrd : ∀ i, i < 4 → jread d s (16 + i) = contT home Ts Ts.length (16 + i) := fun i hi => ho.read ⟨by omega, by omega⟩
 refine Calls.mono (hA.begin hon) ?_
 rintro e w1 ⟨t, x, m, rfl, T1, b1⟩
 have R1 : Rw B w0 ob ab st v0 v1 v2 (grow Y wr w1) w1 := hR.step b1 (grow.gr _ _ _) (fun k q => by rcases q with q | q <;> have := b1.size <;> omega)
 have S1 := hS.but b1 (fun g o e => (hg g o e).2)
 have g1 : ∀ g o, ha = some ⟨g, o, none⟩ → g < w1.heap.size ∧ ¬ grow Y wr w1 g := fun g o e => ⟨by have := (hg g o e).1; have := b1.size; omega, fun q => (hg g o e).2 (grow.gr _ _ _ _ (hg g o e).1 q)⟩
 refine ⟨t, rfl, R1.fx, ?_⟩
 generalize grow Y wr w1 = Y1 at T1 R1 g1
 have hP1 : IntL Y1 w1 pa ps := fun i v hv => by
  obtain ⟨b, off, e1, e2, e3, e4⟩ := hP i v hv
  have hz := R1.z
  have hs := R1.b.size
  exact ⟨b, off, e1, by omega, fun q => e3 (R1.y b q).1, (R1.b.cell (p := ⟨b, off + i, none⟩) (by show b < _; omega)).trans e4⟩
 refine Calls.mono (T1.wrote (by omega) hon (by omega) (by omega) 16 4 (fun i => contT home Ts Ts.length (16 + i)) (by omega) (by omega) (by omega) ha hc S1 pa pc ps hP1 (by omega) (by omega)) ?_
 rintro e w2 ⟨g, cp, Y2, rfl, O2, T2, n2, l2, G2, b2⟩
 have R2 := R1.step b2 G2 l2
 have S2 := S1.but b2 (fun g o e => (g1 g o e).2)
 have g2 : ∀ g o, ha = some ⟨g, o, none⟩ → g < w2.heap.size ∧ ¬ Y2 g := fun g o e => ⟨by have := (g1 g o e).1; have := b2.size; omega, fun q => (g1 g o e).2 (G2 _ (g1 g o e).1 q)⟩
 have W2 : StrL w2 (.slice (some ⟨g, 0, none⟩) 4 cp) (strsP 16 4 (fun i => contT home Ts Ts.length (16 + i)) (laidP 16 4 (fun _ => none) ps)) := StrL.of_row (strsP_len _ _ _ _) O2
 have q2 : g < w2.heap.size := (World.ownsRow.lt O2 g rfl).2
 refine ⟨g, cp, rfl, R2.fx, ?_⟩
 generalize hL : laidP 16 4 (fun _ => none) ps = L at T2 W2
 have hrdL : (List.range 4).map (fun q => strOfNums ((L (16 + q)).getD (jread d s (16 + q)))) = strsP 16 4 (fun i => contT home Ts Ts.length (16 + i)) L := by
  unfold strsP
  refine List.map_congr_left (fun i hi => ?_)
  rw [hrd i (List.mem_range.1 hi)]
 have hrd0 : (List.range 4).map (fun q => strOfNums (jread d s (16 + q))) = strsP 16 4 (fun i => contT home Ts Ts.length (16 + i)) (fun _ => none) := by
  unfold strsP
  refine List.map_congr_left (fun i hi => ?_)
  rw [hrd i (List.mem_range.1 hi)]
  rfl
 refine Calls.mono (T2.reads (by omega) hon (by omega) (by omega) _ _ 16 4 (by omega) (by omega) (by omega) (.inr ⟨rfl, rfl⟩)) ?_
 rintro e w3 ⟨mv, Y3, rfl, O3, T3, n3, l3, G3, b3⟩
 rw [strs_reads, hrdL] at O3
 obtain ⟨ma, mc, rfl⟩ := own_slice O3
 have R3 := R2.step b3 G3 l3
 have S3 := S2.but b3 (fun g o e => (g2 g o e).2)
 have g3 : ∀ g o, ha = some ⟨g, o, none⟩ → g < w3.heap.size ∧ ¬ Y3 g := fun g o e => ⟨by have := (g2 g o e).1; have := b3.size; omega, fun q => (g2 g o e).2 (G3 _ (g2 g o e).1 q)⟩
 have W3 := W2.but b3 (fun g' o e => by injection e with e; injection e with e; exact e ▸ n2)
 have n3w : ¬ Y3 g := fun q => n2 (G3 _ q2 q)
 have q3 : g < w3.heap.size := Nat.lt_of_lt_of_le q2 b3.size
 have M3 : StrL w3 (.slice ma 4 mc) _ := StrL.of_row (strsP_len _ _ _ _) O3
 have m3 : ∀ g o, ma = some ⟨g, o, none⟩ → ¬ Y3 g := fun g o e => by subst e; exact n3 g rfl
 refine ⟨ma, mc, rfl, R3.fx, ?_⟩
 refine Calls.mono (T3.reads (by omega) hon (by omega) (by omega) _ _ 16 4 (by omega) (by omega) (by omega) (.inl ⟨rfl, rfl⟩)) ?_
 rintro e w4 ⟨tv, Y4, rfl, O4, T4, n4, l4, G4, b4⟩
 rw [strs_reads, hrd0] at O4
 obtain ⟨ta, tc, rfl⟩ := own_slice O4
 have R4 := R3.step b4 G4 l4
 have S4 := S3.but b4 (fun g o e => (g3 g o e).2)
 have g4 : ∀ g o, ha = some ⟨g, o, none⟩ → g < w4.heap.size ∧ ¬ Y4 g := fun g o e => ⟨by have := (g3 g o e).1; have := b4.size; omega, fun q => (g3 g o e).2 (G4 _ (g3 g o e).1 q)⟩
 have W4 := W3.but b4 (fun g' o e => by injection e with e; injection e with e; exact e ▸ n3w)
 have n4w : ¬ Y4 g := fun q => n3w (G4 _ q3 q)
 have q4 : g < w4.heap.size := Nat.lt_of_lt_of_le q3 b4.size
 have M4 := M3.but b4 m3
 have X4 : StrL w4 (.slice ta 4 tc) _ := StrL.of_row (strsP_len _ _ _ _) O4
 refine ⟨ta, tc, rfl, ?_⟩
 refine Calls.mono (same_eq (by rw [strsP_len]; omega) M4 W4) ?_
 rintro e w5 ⟨rfl, b5⟩
 have c5 : But (fun _ => False) w4 w5 := But.of_below b5
 refine ⟨rfl, ?_⟩
 refine Calls.mono (same_eq (by rw [strsP_len]; omega) (X4.but c5 (fun _ _ _ q => q)) (S4.but c5 (fun _ _ _ q => q))) ?_
 rintro e w6 ⟨rfl, b6⟩
 have c6 : But (fun _ => False) w4 w6 := c5.trans (But.of_below b6)
 have S6 := S4.but c6 (fun _ _ _ q => q)
 have W6 := W4.but c6 (fun _ _ _ q => q)
 have R6 : Rw B w0 ob ab st v0 v1 v2 Y4 w6 := by
  refine R4.step (c6.mono (fun _ _ q => q.elim)) (Gr.refl _ _) (fun k q => ?_)
  have := l4 k q
  have := c6.size
  omega
 have T6 : StT Y4 w6 j c p st 22 (K + ps.length + 4 + 4) 0 16 d s t x m (0 + ps.length) L := T4.keep c6 (fun _ q _ => q)
 have z6 := c6.size
 refine ⟨rfl, ?_, ?_⟩
 ·refine Calls.mono (T6.abort hon) ?_
  rintro e w7 ⟨rfl, A7, b7⟩
  have z7 := b7.size
  have R7 : Rw B w0 ob ab st v0 v1 v2 (grow Y4 w6 w7) w7 := R6.step b7 (grow.gr _ _ _) (fun k q => by rcases q with q | q <;> omega)
  have S7 := S6.but b7 (fun g o e => (g4 g o e).2)
  have g7 : ∀ g o, ha = some ⟨g, o, none⟩ → g < w7.heap.size ∧ ¬ grow Y4 w6 w7 g := fun g o e => ⟨by have := (g4 g o e).1; omega, fun q => (g4 g o e).2 (grow.gr _ _ _ _ (by have := (g4 g o e).1; omega) q)⟩
  refine ⟨rfl, R7.fx, ?_⟩
  generalize grow Y4 w6 w7 = Y7 at A7 R7 g7
  refine Calls.mono (A7.reads (by omega) hon (by omega) (by omega) 16 4 (by omega) (by omega) (by omega)) ?_
  rintro e w8 ⟨xv, Y8, rfl, O8, A8, n8, l8, G8, b8⟩
  rw [strs_reads, hrd0] at O8
  obtain ⟨xa, xc, rfl⟩ := own_slice O8
  have R8 := R7.step b8 G8 l8
  have S8 := S7.but b8 (fun g o e => (g7 g o e).2)
  have g8 : ∀ g o, ha = some ⟨g, o, none⟩ → g < w8.heap.size ∧ ¬ Y8 g := fun g o e => ⟨by have := (g7 g o e).1; have := b8.size; omega, fun q => (g7 g o e).2 (G8 _ (g7 g o e).1 q)⟩
  refine ⟨xa, xc, rfl, ?_⟩
  refine Calls.mono (same_eq (by rw [strsP_len]; omega) (StrL.of_row (strsP_len _ _ _ _) O8) S8) ?_
  rintro e w9 ⟨rfl, b9⟩
  have c9 : But (fun _ => False) w8 w9 := But.of_below b9
  have z9 := b9.size
  refine ⟨rfl, Y8, _, d, s, Ts, A8.keep c9 (fun _ q _ => q), hfu, ho, by omega, ?_, S8.but c9 (fun _ _ _ q => q), fun g o e => ⟨by have := (g8 g o e).1; omega, (g8 g o e).2⟩, R8.step (c9.mono (fun _ _ q => q.elim)) (Gr.refl _ _) (fun k q => by have := l8 k q; omega)⟩
  rw [Nat.add_mul]
  omega
 ·have hk := homeKeys_laidP 16 4 (by omega) ps 22
  rw [hL] at hk
  refine Calls.mono (T6.commit ho hfu (by omega) (by omega) (by omega) (by omega) (by omega) (fun y hy => homeC_ok (by have := (hk.2 y hy).1; omega) (by have := (hk.2 y hy).2; omega))) ?_
  rintro e w7 ⟨rfl, Y7, d', s', Ts', A7, hfu', ho', hT', hc', l7, G7, b7⟩
  have z7 := b7.size
  have R7 := R6.step b7 G7 l7
  have W7 := W6.but b7 (fun g' o e => by injection e with e; injection e with e; exact e ▸ n4w)
  have n7w : ¬ Y7 g := fun q => n4w (G7 _ (by omega) q)
  have hon' := ho'.on
  have hpl' := ho'.puts (by omega) (by omega) (by omega)
  have hrd' : (List.range 4).map (fun q => strOfNums (jread d' s' (16 + q))) = strsP 16 4 (fun i => contT home Ts' Ts'.length (16 + i)) (fun _ => none) := by
   unfold strsP
   refine List.map_congr_left (fun i hi => ?_)
   have := List.mem_range.1 hi
   rw [ho'.read ⟨by omega, by omega⟩]
   rfl
  have hnew : strsP 16 4 (fun i => contT home Ts Ts.length (16 + i)) L = strsP 16 4 (fun i => contT home Ts' Ts'.length (16 + i)) (fun _ => none) := by
   unfold strsP
   refine List.map_congr_left (fun i hi => ?_)
   have := List.mem_range.1 hi
   show _ = strOfNums (contT home Ts' Ts'.length (16 + i))
   rw [hc' (16 + i) (by omega)]
  rw [hnew] at W7
  refine ⟨rfl, R7.fx, ?_⟩
  refine Calls.mono (A7.reads (by omega) hon' (by omega) (by omega) 16 4 (by omega) (by omega) (by omega)) ?_
  rintro e w8 ⟨xv, Y8, rfl, O8, A8, n8, l8, G8, b8⟩
  rw [strs_reads, hrd'] at O8
  obtain ⟨xa, xc, rfl⟩ := own_slice O8
  have R8 := R7.step b8 G8 l8
  have W8 := W7.but b8 (fun g' o e => by injection e with e; injection e with e; exact e ▸ n7w)
  have n8w : ¬ Y8 g := fun q => n7w (G8 _ (by omega) q)
  refine ⟨xa, xc, rfl, ?_⟩
  refine Calls.mono (same_eq (by rw [strsP_len]; omega) (StrL.of_row (strsP_len _ _ _ _) O8) W8) ?_
  rintro e w9 ⟨rfl, b9⟩
  have c9 : But (fun _ => False) w8 w9 := But.of_below b9
  have z9 := b9.size
  have z8 := b8.size
  refine ⟨rfl, Y8, _, d', s', Ts', A8.keep c9 (fun _ q _ => q), hfu', ho', by omega, ?_, W8.but c9 (fun _ _ _ q => q), fun g' o e => ?_, R8.step (c9.mono (fun _ _ q => q.elim)) (Gr.refl _ _) (fun k q => by have := l8 k q; omega)⟩
  ·rw [Nat.add_mul]
   omega
  ·injection e with e
   injection e with e
   exact e ▸ ⟨by omega, n8w⟩
end Go.Proofs.YtldlejpacgphmabGreat
