import Derived.Test.YtlefjidbpjkhlaaGreatN30
import Derived.Test.YtlefjidbpjkhlaaGreatN06
import Derived.Test.YtlefjidbpjkhlaaGreatN10
import Derived.Test.YtlefjidbpjkhlaaGreatN29
import Derived.Test.YtlefjidbpjkhlaaGreatN28
namespace Go.Proofs.YtlefjidbpjkhlaaGreat
open Go.RowKit Go.Deep
theorem sask_nil (w : World) : Calls Tryz.prog 37 #[.pointer none] w fun e w' => e = .returned (.int .i64 1) ∧ Below w.heap.size w w' := by
 go_enter Tryz.func37, Tryz.ntmps37
 go_wp2
 go_ret
 exact ⟨rfl, Below.refl _ _⟩
set_option maxRecDepth 100000 in
set_option maxHeartbeats 4000000 in
theorem SFormat_no {w : World} {tv : Value} {f : Int} {code : Int} (HR : Calls Tryz.prog 47 #[tv, .int .i64 f] w fun e w' => e = .returned (.tuple #[.slice none 0 0, .int .i64 code]) ∧ Below w.heap.size w w') (hc : (code != 0) = true) (hc2 : (code != 42) = true) (r c : Int) :
  Calls Tryz.prog 18 #[tv, .int .i64 f, .int .i64 r, .int .i64 c] w fun e w' => e = .returned (.int .i64 code) ∧ Below w.heap.size w w' := by
 have H := hid HR
 clear HR
 go_enter Tryz.func18, Tryz.ntmps18
 go_wp2_with fail
 refine Calls.mono H.out ?_
 rintro e w1 ⟨rfl, b⟩
 have B := hid b
 clear b H
 go_wp2
 go_ret
 exact ⟨rfl, B.out⟩
set_option maxRecDepth 100000 in
set_option maxHeartbeats 4000000 in
theorem Opn.formatC {Y : Nat → Prop} {w : World} {F : Cf} {K N : Nat} {C : Nat → List Int} {t : Nat} {L : Nat → Option (List Int)} {Ms : List (Nat → Option (List Int))} {n : Nat} (h : Opn Y w F K N C t L Ms n) (hK : K < 4611686018427387904) (f : Nat) (r c : Int) (h1 : 64 ≤ f) (h2 : f < F.nb) (hbad : ¬ (1 ≤ r ∧ r ≤ 262144) ∨ c < 1 ∨ r < c) :
  Calls Tryz.prog 18 #[.pointer (some ⟨t, 0, none⟩), .int .i64 (f : Int), .int .i64 r, .int .i64 c] w fun e w' => ∃ Y', e = .returned (.int .i64 60) ∧ Opn Y' w' F (K + 1) N C t L Ms n ∧ Gr Y Y' w ∧ But Y w w' := by
 obtain ⟨PO, hPO⟩ : ∃ PO : Ending → World → Prop, PO = fun e w' => ∃ Y', e = .returned (.int .i64 60) ∧ Opn Y' w' F (K + 1) N C t L Ms n ∧ Gr Y Y' w ∧ But Y w w' := ⟨_, rfl⟩
 rw [← hPO]
 have HR : Hid (Calls Tryz.prog 47 #[.pointer (some ⟨t, 0, none⟩), .int .i64 (f : Int)] w fun e w' => ∃ g cp, e = .returned (.tuple #[.slice (some ⟨g, 0, none⟩) 512 cp, .int .i64 0]) ∧ PO (.returned (.int .i64 60)) w') := by
  refine Calls.mono (h.read hK f h1 h2) ?_
  rintro e w' ⟨g, cp, Y', rfl, r1, r2, r3, r4, r5, r6, r7⟩
  rw [hPO]
  exact ⟨g, cp, rfl, Y', rfl, r1, r6, r7⟩
 clear hPO h
 go_enter Tryz.func18, Tryz.ntmps18
 go_wp2_with fail
 refine Calls.mono HR.out ?_
 rintro e w1 ⟨g, cp, rfl, q⟩
 have FIN := hid q
 clear q HR
 go_wp2_with fail
 refine Calls.mono (isRoom_any r w1) ?_
 rintro e w9 ⟨rfl, hw9⟩
 rw [hw9]
 clear hw9
 by_cases ha : 1 ≤ r ∧ r ≤ 262144
 ·have hd : decide (1 ≤ r ∧ r ≤ 262144) = true := decide_eq_true ha
  rw [hd]
  by_cases hb : c < 1
  ·go_wp2
   exact FIN.out
  ·have hb2 : r < c := by omega
   go_wp2
   exact FIN.out
 ·have hd : decide (1 ≤ r ∧ r ≤ 262144) = false := decide_eq_false ha
  rw [hd]
  go_wp2
  exact FIN.out
set_option maxRecDepth 100000 in
set_option maxHeartbeats 4000000 in
theorem Opn.format {Y : Nat → Prop} {w : World} {F : Cf} {K N : Nat} {C : Nat → List Int} {t : Nat} {L : Nat → Option (List Int)} {Ms : List (Nat → Option (List Int))} {n : Nat} (h : Opn Y w F K N C t L Ms n) (f r c : Nat) (h1 : 64 ≤ f) (h2 : f + pagesN r ≤ F.nb) (h3 : 1 ≤ r) (h4 : r ≤ 262144) (h5 : 1 ≤ c) (h6 : c ≤ r) (hK : K + 1 + pagesN r + pagesN r < 4611686018427387904) (hn : n + 2 * pagesN r ≤ 1073741823) :
  Calls Tryz.prog 18 #[.pointer (some ⟨t, 0, none⟩), .int .i64 (f : Int), .int .i64 (r : Int), .int .i64 (c : Int)] w fun e w' => ∃ Y', e = .returned (.int .i64 0) ∧ Opn Y' w' F (K + 1 + pagesN r + pagesN r) N C t (layL L f r c 0 (pagesN r)) Ms (n + 2 * pagesN r) ∧ Gr Y Y' w ∧ But Y w w' := by
 obtain ⟨PO, hPO⟩ : ∃ PO : Ending → World → Prop, PO = fun e w' => ∃ Y', e = .returned (.int .i64 0) ∧ Opn Y' w' F (K + 1 + pagesN r + pagesN r) N C t (layL L f r c 0 (pagesN r)) Ms (n + 2 * pagesN r) ∧ Gr Y Y' w ∧ But Y w w' := ⟨_, rfl⟩
 rw [← hPO]
 have hlo := pagesN_lo h3
 have HR : Hid (Calls Tryz.prog 47 #[.pointer (some ⟨t, 0, none⟩), .int .i64 (f : Int)] w fun e w' => ∃ g cp, e = .returned (.tuple #[.slice (some ⟨g, 0, none⟩) 512 cp, .int .i64 0]) ∧ ∀ w0, w0 = w'.alloc (.cells #[.int .i64 (f : Int), .int .i64 (r : Int)] 92) → (Calls Tryz.prog 48 #[.agg #[.int .i64 (f : Int), .int .i64 (r : Int)], .pointer (some ⟨t, 0, none⟩)] w0 fun e w2 => e = .returned (.int .i64 0) ∧ (w2.cell? ⟨w'.heap.size, 0, none⟩ = some (.int .i64 (f : Int)) ∧ w2.cell? ⟨w'.heap.size, 1, none⟩ = some (.int .i64 (r : Int))) ∧ (Calls Tryz.prog 49 #[.agg #[.int .i64 (f : Int), .int .i64 (r : Int)], .pointer (some ⟨t, 0, none⟩), .agg #[.int .i64 (c : Int), .int .i64 0]] w2 fun e w3 => e = .returned (.int .i64 0) ∧ PO (.returned (.int .i64 0)) w3))) := by
  refine Calls.mono (h.read (by omega) f h1 (by omega)) ?_
  rintro e w' ⟨g, cp, Y', rfl, r1, r2, r3, r4, r5, r6, r7⟩
  refine ⟨g, cp, rfl, fun w0 hw0 => ?_⟩
  have z0 : w0.heap.size = w'.heap.size + 1 := by rw [hw0]; simp
  have b0 : Below w'.heap.size w' w0 := by rw [hw0]; exact (Below.refl _ _).alloc (Nat.le_refl _) _
  have hblk : w0.heap[w'.heap.size]? = some (.cells #[.int .i64 (f : Int), .int .i64 (r : Int)] 92 (0, 0)) := by rw [hw0]; exact Array.getElem?_push_size
  have hlt := r1.lt
  refine Calls.mono ((r1.below b0).checkPages f r h4 (by omega) h1 h2) ?_
  rintro e w2 ⟨Y2, rfl, k1, k2, k3⟩
  have hb2 := (k3.block w'.heap.size (by omega) (fun q => by have := hlt _ q; omega)).trans hblk
  refine ⟨rfl, ⟨by simp [World.cell?, hb2], by simp [World.cell?, hb2]⟩, ?_⟩
  refine Calls.mono (k1.lay f r c 0 h4 (by omega) (by decide) (by omega) hn h1 h2) ?_
  rintro e w3 ⟨Y3, rfl, m1, m2, m3⟩
  refine ⟨rfl, ?_⟩
  rw [hPO]
  have s1 := r7.size
  have s3 := k3.size
  have g1 : Gr Y Y2 w := r6.trans (w' := w') (fun k hk q => k2 k (by omega) q) s1
  have bb1 : But Y w w0 := r7.comp (But.of_below b0 (X := fun _ => False)) (fun _ _ q => q.elim)
  have bb2 : But Y w w2 := bb1.comp k3 r6
  exact ⟨Y3, rfl, m1, g1.trans m2 (by omega), bb2.comp m3 g1⟩
 have hd : decide (1 ≤ (r : Int) ∧ (r : Int) ≤ 262144) = true := decide_eq_true (by omega)
 have hc1 : ¬ (c : Int) < 1 := by omega
 have hc2 : ¬ (r : Int) < (c : Int) := by omega
 clear hPO h hlo
 go_enter Tryz.func18, Tryz.ntmps18
 go_wp2_with fail
 refine Calls.mono HR.out ?_
 rintro e w1 ⟨g, cp, rfl, q⟩
 have H1 := hid q
 clear q HR
 go_wp2_with fail
 refine Calls.mono (isRoom_any (r : Int) w1) ?_
 rintro e w9 ⟨rfl, hw9⟩
 rw [hw9, hd]
 clear hw9 hd
 go_wp2_with fail
 obtain ⟨w2, hw2⟩ : ∃ w2, w2 = w1.alloc (.cells #[.int .i64 (f : Int), .int .i64 (r : Int)] 92) := ⟨_, rfl⟩
 rw [← hw2]
 have H2 := hid (H1.out w2 hw2)
 clear H1 hw2
 refine Calls.mono H2.out ?_
 rintro e w3 ⟨rfl, ⟨d0, d1⟩, q⟩
 have H3 := hid q
 clear q H2
 go_wp2_with fail
 refine Calls.mono H3.out ?_
 rintro e w4 ⟨rfl, q⟩
 have FIN := hid q
 clear q H3 d0 d1
 go_wp2
 exact FIN.out
set_option maxRecDepth 100000 in
set_option maxHeartbeats 4000000 in
theorem SOpen_no {w : World} {sv : Value} {f : Int} {code : Int} (HR : Calls Tryz.prog 30 #[sv, .int .i64 f] w fun e w' => e = .returned (.tuple #[.slice none 0 0, .int .i64 code]) ∧ Below w.heap.size w w') (hc : (code != 0) = true) (hc2 : (code != 42) = true) (r : Int) :
  Calls Tryz.prog 17 #[sv, .int .i64 f, .int .i64 r] w fun e w' => e = .returned (.tuple #[.pointer none, .int .i64 code]) ∧ Below w.heap.size w w' := by
 have H := hid HR
 clear HR
 go_enter Tryz.func17, Tryz.ntmps17
 go_wp2_with fail
 refine Calls.mono H.out ?_
 rintro e w1 ⟨rfl, b⟩
 have B := hid b
 clear b H
 go_wp2
 go_ret2
 exact ⟨rfl, B.out⟩
def SoP (Y : Nat → Prop) (w : World) (f : Nat) (r : Int) (st : Nat) (X : (Nat → Prop) → World → Prop) (e : Ending) (w' : World) : Prop :=
 ∃ Y', X Y' w' ∧ (1 ≤ r ∧ r ≤ 262144 → ∃ x, e = .returned (.tuple #[.pointer (some ⟨x, 0, none⟩), .int .i64 0]) ∧ w.heap.size ≤ x ∧ Spb w' x f r.toNat st ∧ ¬ Y' x) ∧ (¬ (1 ≤ r ∧ r ≤ 262144) → e = .returned (.tuple #[.pointer none, .int .i64 60])) ∧ Gr Y Y' w ∧ But Y w w'
set_option maxRecDepth 100000 in
set_option maxHeartbeats 4000000 in
theorem SOpen_any {Y : Nat → Prop} {w : World} {st f : Nat} (X : (Nat → Prop) → World → Prop) (hX : ∀ Y' w1 w2, Below w1.heap.size w1 w2 → X Y' w1 → X Y' w2) (hL : ∀ Y' w1, X Y' w1 → ∀ k, Y' k → k < w1.heap.size) (HR : Calls Tryz.prog 30 #[.pointer (some ⟨st, 0, none⟩), .int .i64 (f : Int)] w fun e w' => ∃ g cp Y', e = .returned (.tuple #[.slice (some ⟨g, 0, none⟩) 512 cp, .int .i64 0]) ∧ X Y' w' ∧ Gr Y Y' w ∧ But Y w w') (r : Int) :
  Calls Tryz.prog 17 #[.pointer (some ⟨st, 0, none⟩), .int .i64 (f : Int), .int .i64 r] w (SoP Y w f r st X) := by
 obtain ⟨PO, hPO⟩ : ∃ PO : Ending → World → Prop, PO = SoP Y w f r st X := ⟨_, rfl⟩
 rw [← hPO]
 have H : Hid (Calls Tryz.prog 30 #[.pointer (some ⟨st, 0, none⟩), .int .i64 (f : Int)] w fun e w' => ∃ g cp, e = .returned (.tuple #[.slice (some ⟨g, 0, none⟩) 512 cp, .int .i64 0]) ∧ (1 ≤ r ∧ r ≤ 262144 → PO (.returned (.tuple #[.pointer (some ⟨w'.heap.size, 0, none⟩), .int .i64 0])) (w'.alloc (.cells #[.int .i64 (f : Int), .int .i64 r, .pointer (some ⟨st, 0, none⟩)] 95))) ∧ (¬ (1 ≤ r ∧ r ≤ 262144) → PO (.returned (.tuple #[.pointer none, .int .i64 60])) w')) := by
  refine Calls.mono HR ?_
  rintro e w' ⟨g, cp, Y', rfl, r1, r2, r3⟩
  have s1 := r3.size
  have hlt := hL Y' w' r1
  have b0 : Below w'.heap.size w' (w'.alloc (.cells #[.int .i64 (f : Int), .int .i64 r, .pointer (some ⟨st, 0, none⟩)] 95)) := (Below.refl _ _).alloc (Nat.le_refl _) _
  refine ⟨g, cp, rfl, fun hr => ?_, fun hr => ?_⟩
  ·rw [hPO]
   refine ⟨Y', hX _ _ _ b0 r1, fun _ => ⟨w'.heap.size, rfl, s1, ?_, fun q => by have := hlt _ q; omega⟩, fun q => absurd hr q, r2, r3.comp (But.of_below b0 (X := fun _ => False)) (fun _ _ q => q.elim)⟩
   unfold Spb
   rw [show ((r.toNat : Nat) : Int) = r by omega]
   exact Array.getElem?_push_size
  ·rw [hPO]
   exact ⟨Y', r1, fun q => absurd q hr, fun _ => rfl, r2, r3⟩
 clear hPO HR hX hL
 go_enter Tryz.func17, Tryz.ntmps17
 go_wp2_with fail
 refine Calls.mono H.out ?_
 rintro e w1 ⟨g, cp, rfl, q1, q2⟩
 have F1 := hid q1
 have F2 := hid q2
 clear q1 q2 H
 go_wp2_with fail
 refine Calls.mono (isRoom_any r w1) ?_
 rintro e w9 ⟨rfl, hw9⟩
 rw [hw9]
 clear hw9
 by_cases ha : 1 ≤ r ∧ r ≤ 262144
 ·have hd : decide (1 ≤ r ∧ r ≤ 262144) = true := decide_eq_true ha
  have FIN := hid (F1.out ha)
  rw [hd]
  clear F1 F2 ha hd
  go_wp2
  exact FIN.out
 ·have hd : decide (1 ≤ r ∧ r ≤ 262144) = false := decide_eq_false ha
  have FIN := hid (F2.out ha)
  rw [hd]
  clear F1 F2 ha hd
  go_wp2
  exact FIN.out
open Go.RowKit
set_option maxRecDepth 100000 in
set_option maxHeartbeats 4000000 in
theorem lblocks_any {r : Nat} (h1 : 1 ≤ r) (h2 : r ≤ 262144) (w : World) : Calls Tryz.prog 21 #[.int .i64 (r : Int)] w fun e w' => e = .returned (.int .i64 (pagesN r : Int)) ∧ Below w.heap.size w w' := by
 have HB := hid (SBlocks_any (r : Int) w)
 have e1 : blkN (r : Int) = ((pagesN r : Int), 0) := by unfold blkN; rw [if_pos (by omega)]; rfl
 rw [e1] at HB
 have a1 := pagesN_lo h1
 have a2 := pagesN_hi h1
 have a3 : ((r : Int).tdiv 256) = ((r / 256 : Nat) : Int) := by rw [Int.tdiv_eq_ediv_of_nonneg (by omega)]; omega
 have a4 : ¬ (pagesN r : Int) < 1 := by omega
 have a5 : ¬ ((r / 256 : Nat) : Int) + 2 < (pagesN r : Int) := by omega
 clear e1
 generalize pagesN r = P at *
 go_enter Tryz.func21, Tryz.ntmps21
 go_wp2_with fail
 refine Calls.mono HB.out ?_
 rintro e w1 ⟨rfl, b1⟩
 have B1 := hid b1
 clear b1 HB
 go_wp2_with fail
 refine Calls.mono (num_any 0 w1) ?_
 rintro e w9 ⟨rfl, hw9⟩
 rw [hw9]
 clear hw9
 go_wp2
 go_ret
 exact ⟨rfl, B1.out⟩
open Go.RowKit
def OpC1 (o st f1 r1 : Nat) (PO : Ending → World → Prop) (w : World) : Prop := (w.drew.cell? ⟨o, 1, none⟩ = some (.pointer (some ⟨st, 0, none⟩)) ∧ w.drew.cell? ⟨o, 6, none⟩ = some (.int .i64 (f1 : Int)) ∧ w.drew.cell? ⟨o, 8, none⟩ = some (.int .i64 (r1 : Int))) ∧ Calls Tryz.prog 17 #[.pointer (some ⟨st, 0, none⟩), .int .i64 (f1 : Int), .int .i64 (r1 : Int)] w.drew fun e w1 => ∃ x, e = .returned (.tuple #[.pointer (some ⟨x, 0, none⟩), .int .i64 0]) ∧ (w1.cell? ⟨o, 1, none⟩ = some (.pointer (some ⟨st, 0, none⟩)) ∧ w1.cell? ⟨o, 6, none⟩ = some (.int .i64 (f1 : Int)) ∧ w1.cell? ⟨o, 8, none⟩ = some (.int .i64 (r1 : Int))) ∧ ((∃ u, w1.cell? ⟨o, 4, none⟩ = some u) ∧ w1.frozen? ⟨o, 4, none⟩ = false) ∧ ∀ w2, w2 = w1.setCell ⟨o, 4, none⟩ (.pointer (some ⟨x, 0, none⟩)) → PO (.returned (.bool true)) w2
def OpC (o st f0 f1 r0 r1 : Nat) (PO : Ending → World → Prop) (w : World) : Prop := (w.drew.cell? ⟨o, 1, none⟩ = some (.pointer (some ⟨st, 0, none⟩)) ∧ w.drew.cell? ⟨o, 5, none⟩ = some (.int .i64 (f0 : Int)) ∧ w.drew.cell? ⟨o, 7, none⟩ = some (.int .i64 (r0 : Int))) ∧ Calls Tryz.prog 17 #[.pointer (some ⟨st, 0, none⟩), .int .i64 (f0 : Int), .int .i64 (r0 : Int)] w.drew fun e w1 => ∃ x, e = .returned (.tuple #[.pointer (some ⟨x, 0, none⟩), .int .i64 0]) ∧ (w1.cell? ⟨o, 1, none⟩ = some (.pointer (some ⟨st, 0, none⟩)) ∧ w1.cell? ⟨o, 5, none⟩ = some (.int .i64 (f0 : Int)) ∧ w1.cell? ⟨o, 7, none⟩ = some (.int .i64 (r0 : Int))) ∧ ((∃ u, w1.cell? ⟨o, 3, none⟩ = some u) ∧ w1.frozen? ⟨o, 3, none⟩ = false) ∧ ∀ w2, w2 = w1.setCell ⟨o, 3, none⟩ (.pointer (some ⟨x, 0, none⟩)) → OpC1 o st f1 r1 PO w2
set_option maxRecDepth 100000 in
set_option maxHeartbeats 4000000 in
theorem wopen_walk {w : World} {o st f0 f1 r0 r1 : Nat} {PO : Ending → World → Prop} (H : OpC o st f0 f1 r0 r1 PO w) : Calls Tryz.prog 36 #[.pointer (some ⟨o, 0, none⟩)] w PO := by
 have HR0 := hid H
 clear H
 go_enter Tryz.func36, Tryz.ntmps36
 go_wp2_with fail
 go_loopw [3] (fun iv wr => ∃ q : Nat, q ≤ 2 ∧ iv = .int .i64 (q : Int) ∧ ((q = 0 ∧ wr = w) ∨ (q = 1 ∧ OpC1 o st f1 r1 PO wr) ∨ (q = 2 ∧ PO (.returned (.bool true)) wr))) (fun iv _ => 2 - (intOf iv).toNat)
 case atStart => exact ⟨0, by decide, rfl, .inl ⟨rfl, rfl⟩⟩
 case round =>
  rename World => wo
  obtain ⟨q, hq2, rfl, hR⟩ := hrel
  rcases hR with ⟨hq, hR⟩ | ⟨hq, hR⟩ | ⟨hq, hR⟩
  ·subst hq
   rw [hR]
   obtain ⟨kS, hcall⟩ := HR0.out
   have HC := hid hcall
   clear hcall
   go_wp2_with fail
   refine Gz (S := fun w' => w'.cell? ⟨o, 1, none⟩ = some (.pointer (some ⟨st, 0, none⟩)) ∧ w'.cell? ⟨o, 5, none⟩ = some (.int .i64 (f0 : Int)) ∧ w'.cell? ⟨o, 7, none⟩ = some (.int .i64 (r0 : Int))) kS (fun hSS => ?_)
   refine Ti 0 rfl ?_
   refine Ti 1 rfl ?_
   refine Ti 2 rfl ?_
   refine Ti 3 rfl ?_
   try simp only [Act.put, zA, zB, zC]
   refine Ti 4 rfl ?_
   refine Ti 5 rfl ?_
   refine Ti 6 rfl ?_
   refine Ti 7 rfl ?_
   try simp only [Act.put, zA, zB, zC]
   refine Ti 8 rfl ?_
   refine Ti 9 rfl ?_
   refine Ti 10 rfl ?_
   refine Ti 11 rfl ?_
   try simp only [Act.put, zA, zB, zC]
   refine Ti 12 rfl ?_
   refine Ti 13 rfl ?_
   refine Ti 14 rfl ?_
   refine Ti 15 rfl ?_
   try simp only [Act.put, zA, zB, zC]
   refine Ri 16 rfl (fun K9 hK9 => ?_)
   go_simp
   go_at_call 17
   refine Calls.mono HC.out ?_
   rintro e w1 ⟨x, rfl, hk1, ⟨⟨u, hu⟩, hf⟩, h3⟩
   have NX := hid h3
   clear h3 HC
   refine hK9.out _ _ hk1 (fun hSS => ?_)
   try simp only [Act.put, zA, zB, zC]
   refine Ti 17 rfl ?_
   try simp only [Act.put, zA, zB, zC]
   refine Ti 18 rfl ?_
   refine Ti 19 rfl ?_
   refine Ti 20 rfl ?_
   refine Ti 21 rfl ?_
   try simp only [Act.put, zA, zB, zC]
   refine Dn ?_
   clear hSS kS hk1
   go_wp2_with fail
   refine Calls.mono (num_any 0 w1) ?_
   rintro e w9 ⟨rfl, hw9⟩
   rw [hw9]
   clear hw9
   go_wp2_with fail
   go_roundw
   case rel => exact ⟨1, by decide, by go_num, .inr (.inl ⟨rfl, NX.out _ rfl⟩)⟩
   case measure => simp [intOf]
  ·subst hq
   obtain ⟨kS, hcall⟩ := hR
   have HC := hid hcall
   clear hcall
   go_wp2_with fail
   refine Gz (S := fun w' => w'.cell? ⟨o, 1, none⟩ = some (.pointer (some ⟨st, 0, none⟩)) ∧ w'.cell? ⟨o, 6, none⟩ = some (.int .i64 (f1 : Int)) ∧ w'.cell? ⟨o, 8, none⟩ = some (.int .i64 (r1 : Int))) kS (fun hSS => ?_)
   refine Ti 0 rfl ?_
   try simp only [Act.put, zA, zB, zC]
   refine Ti 1 rfl ?_
   refine Ti 2 rfl ?_
   refine Ti 3 rfl ?_
   refine Ti 4 rfl ?_
   try simp only [Act.put, zA, zB, zC]
   refine Ti 5 rfl ?_
   refine Ti 6 rfl ?_
   refine Ti 7 rfl ?_
   refine Ti 8 rfl ?_
   try simp only [Act.put, zA, zB, zC]
   refine Ti 9 rfl ?_
   refine Ti 10 rfl ?_
   refine Ti 11 rfl ?_
   refine Ti 12 rfl ?_
   try simp only [Act.put, zA, zB, zC]
   refine Ti 13 rfl ?_
   refine Ti 14 rfl ?_
   refine Ti 15 rfl ?_
   try simp only [Act.put, zA, zB, zC]
   refine Ri 16 rfl (fun K9 hK9 => ?_)
   go_simp
   go_at_call 17
   refine Calls.mono HC.out ?_
   rintro e w1 ⟨x, rfl, hk1, ⟨⟨u, hu⟩, hf⟩, h3⟩
   have NX := hid h3
   clear h3 HC
   refine hK9.out _ _ hk1 (fun hSS => ?_)
   try simp only [Act.put, zA, zB, zC]
   refine Ti 17 rfl ?_
   refine Ti 18 rfl ?_
   try simp only [Act.put, zA, zB, zC]
   refine Ti 19 rfl ?_
   refine Ti 20 rfl ?_
   refine Ti 21 rfl ?_
   try simp only [Act.put, zA, zB, zC]
   refine Dn ?_
   clear hSS kS hk1
   go_wp2_with fail
   refine Calls.mono (num_any 0 w1) ?_
   rintro e w9 ⟨rfl, hw9⟩
   rw [hw9]
   clear hw9
   go_wp2_with fail
   go_roundw
   case rel => exact ⟨2, by decide, by go_num, .inr (.inr ⟨rfl, NX.out _ rfl⟩)⟩
   case measure => simp [intOf]
  ·subst hq
   have FIN := hid hR
   clear hR HR0
   go_wp2
   exact FIN.out
open Go.RowKit Go.Deep
def Wlb (w : World) (o : Nat) (cs : Array Value) : Prop := w.heap[o]? = some (.cells cs 33 (0, 0))
theorem Wlb.lt {w : World} {o : Nat} {cs : Array Value} (h : Wlb w o cs) : o < w.heap.size := (Array.getElem?_eq_some_iff.1 h).1
theorem Wlb.keep {w w' : World} {o : Nat} {cs : Array Value} (h : Wlb w o cs) (hk : w'.heap[o]? = w.heap[o]?) : Wlb w' o cs := hk.trans h
theorem Wlb.cell {w : World} {o : Nat} {cs : Array Value} (h : Wlb w o cs) (i : Nat) : w.cell? ⟨o, i, none⟩ = cs[i]? := by
 unfold Wlb at h
 simp [World.cell?, h]
theorem Wlb.frozen {w : World} {o : Nat} {cs : Array Value} (h : Wlb w o cs) (i : Nat) : w.frozen? ⟨o, i, none⟩ = false := by
 unfold Wlb at h
 simp [World.frozen?, h]
theorem Wlb.set {w : World} {o : Nat} {cs : Array Value} (h : Wlb w o cs) (i : Nat) (v : Value) : Wlb (w.setCell ⟨o, i, none⟩ v) o (cs.setIfInBounds i v) := by
 unfold Wlb at *
 simp only [World.setCell, Array.getElem?_modify]
 rw [h]
 simp
theorem but_set (w : World) (o i : Nat) (v : Value) : But (fun k => k = o) w (w.setCell ⟨o, i, none⟩ v) := (But.refl (fun k => k = o) w).setCell (p := ⟨o, i, none⟩) rfl v
def wcs (D S Fo X0 X1 : Value) (f0 f1 r0 r1 : Nat) (T Ov : Value) (off : Bool) : Array Value := #[D, S, Fo, X0, X1, .int .i64 (f0 : Int), .int .i64 (f1 : Int), .int .i64 (r0 : Int), .int .i64 (r1 : Int), T, Ov, .bool off]
def WopP (Y : Nat → Prop) (w : World) (o : Nat) (F : Cf) (K N : Nat) (C : Nat → List Int) (D Fo : Value) (f0 f1 r0 r1 : Nat) (T Ov : Value) (off : Bool) (e : Ending) (w' : World) : Prop :=
 ∃ x0 x1 Y', e = .returned (.bool true) ∧ Idl Y' w' F (K + 2) N C ∧ Wlb w' o (wcs D (.pointer (some ⟨F.st, 0, none⟩)) Fo (.pointer (some ⟨x0, 0, none⟩)) (.pointer (some ⟨x1, 0, none⟩)) f0 f1 r0 r1 T Ov off) ∧ Spb w' x0 f0 r0 F.st ∧ Spb w' x1 f1 r1 F.st ∧ (w.heap.size ≤ x0 ∧ w.heap.size ≤ x1 ∧ ¬ Y' x0 ∧ ¬ Y' x1) ∧ Gr Y Y' w ∧ But (fun k => Y k ∨ k = o) w w'
theorem wopen_any {Y : Nat → Prop} {w : World} {F : Cf} {K N : Nat} {C : Nat → List Int} {o : Nat} {D Fo X0 X1 : Value} {f0 f1 r0 r1 : Nat} {T Ov : Value} {off : Bool} (h : Idl Y w F K N C) (hw : Wlb w o (wcs D (.pointer (some ⟨F.st, 0, none⟩)) Fo X0 X1 f0 f1 r0 r1 T Ov off)) (hYo : ¬ Y o) (hK : K + 2 < 4611686018427387904) (hf0 : 64 ≤ f0 ∧ f0 < F.nb) (hf1 : 64 ≤ f1 ∧ f1 < F.nb) (hr0 : 1 ≤ r0 ∧ r0 ≤ 262144) (hr1 : 1 ≤ r1 ∧ r1 ≤ 262144) :
  Calls Tryz.prog 36 #[.pointer (some ⟨o, 0, none⟩)] w (WopP Y w o F K N C D Fo f0 f1 r0 r1 T Ov off) := by
 have hol := hw.lt
 refine wopen_walk (st := F.st) (f0 := f0) (f1 := f1) (r0 := r0) (r1 := r1) ?_
 have hd : Below w.heap.size w w.drew := Below.drew1 w
 have hwd := hw.keep (hd.block o hol)
 refine ⟨⟨hwd.cell 1, hwd.cell 5, hwd.cell 7⟩, ?_⟩
 refine Calls.mono (SOpen_any (Y := Y) (fun Y' w' => Idl Y' w' F (K + 1) N C) (fun Y' a b q1 q2 => q2.below q1) (fun Y' a q => q.lt) (Calls.mono ((h.below hd).sread (by omega) f0 hf0.1 hf0.2) (by
  rintro e w' ⟨g, cp, Y', rfl, r1, r2, r3, r4, r5, r6, r7⟩
  exact ⟨g, cp, Y', rfl, r1, r6, r7⟩)) (r0 : Int)) ?_
 rintro e w1 ⟨Y1, k1, k2, _, k4, k5⟩
 obtain ⟨x, rfl, k6, k7, k8⟩ := k2 (by omega)
 rw [Int.toNat_natCast] at k7
 have s1 : w.heap.size ≤ w1.heap.size := k5.size
 have hw1 := hwd.keep (k5.block o hol hYo)
 have hYo1 : ¬ Y1 o := fun q => hYo (k4 o hol q)
 have k6' : w.heap.size ≤ x := k6
 have hxo : x ≠ o := by omega
 have k5' : But Y w w1 := (But.of_below hd (X := Y)).trans k5
 refine ⟨x, rfl, ⟨hw1.cell 1, hw1.cell 5, hw1.cell 7⟩, ⟨⟨_, hw1.cell 3⟩, hw1.frozen 3⟩, fun w2 hw2 => ?_⟩
 have b2 : But (fun k => k = o) w1 w2.drew := by rw [hw2]; exact (but_set w1 o 3 _).drew
 have hw2' := hw1.set 3 (.pointer (some ⟨x, 0, none⟩))
 rw [← hw2] at hw2'
 have hw2d := hw2'.keep ((Below.drew1 w2).block o hw2'.lt)
 have k1' : Idl Y1 w2.drew F (K + 1) N C := k1.keep b2 (fun k _ e1 e2 => hYo1 (e1 ▸ e2))
 have k7' : Spb w2.drew x f0 r0 F.st := k7.keep (b2.block x k7.lt hxo)
 refine ⟨⟨hw2d.cell 1, hw2d.cell 6, hw2d.cell 8⟩, ?_⟩
 refine Calls.mono (SOpen_any (Y := Y1) (fun Y' w' => Idl Y' w' F (K + 2) N C) (fun Y' a b q1 q2 => q2.below q1) (fun Y' a q => q.lt) (Calls.mono (k1'.sread (by omega) f1 hf1.1 hf1.2) (by
  rintro e w' ⟨g, cp, Y', rfl, r1, r2, r3, r4, r5, r6, r7⟩
  exact ⟨g, cp, Y', rfl, r1, r6, r7⟩)) (r1 : Int)) ?_
 rintro e w3 ⟨Y3, m1, m2, _, m4, m5⟩
 obtain ⟨x1, rfl, m6, m7, m8⟩ := m2 (by omega)
 rw [Int.toNat_natCast] at m7
 have s2 := b2.size
 have s3 := m5.size
 have hol2 := hw2d.lt
 have hw3 := hw2d.keep (m5.block o hol2 hYo1)
 have hYo3 : ¬ Y3 o := fun q => hYo1 (m4 o hol2 q)
 refine ⟨x1, rfl, ⟨hw3.cell 1, hw3.cell 6, hw3.cell 8⟩, ⟨⟨_, hw3.cell 4⟩, hw3.frozen 4⟩, fun w4 hw4 => ?_⟩
 have b4 : But (fun k => k = o) w3 w4 := by rw [hw4]; exact but_set w3 o 4 _
 have hw4' := hw3.set 4 (.pointer (some ⟨x1, 0, none⟩))
 rw [← hw4] at hw4'
 have hx3 : Spb w3 x f0 r0 F.st := k7'.keep (m5.block x k7'.lt k8)
 have g13 : Gr Y Y3 w := (show Gr Y Y1 w from k4).trans m4 (by omega)
 refine ⟨x, x1, Y3, rfl, m1.keep b4 (fun k _ e1 e2 => hYo3 (e1 ▸ e2)), hw4', hx3.keep (b4.block x hx3.lt hxo), m7.keep (b4.block x1 m7.lt (by omega)), ⟨k6', by omega, fun q => k8 (m4 x k7'.lt q), m8⟩, g13, ?_⟩
 have bb1 : But (fun k => Y k ∨ k = o) w w2.drew := (k5'.mono (fun k _ q => .inl q)).comp b2 (fun k _ q => .inr q)
 have bb2 : But (fun k => Y k ∨ k = o) w w3 := bb1.comp m5 (fun k hk q => .inl (k4 k hk q))
 exact bb2.comp b4 (fun k _ q => .inr q)
open Go.RowKit Go.Deep
def zPd (nb : Nat) : Pd := ⟨zeros (512 * nb), [], -1, false⟩
def StoP (Z : Nat → Prop) (w : World) (p nb : Nat) (e : Ending) (w' : World) : Prop :=
 ∃ F Y', e = .returned (.tuple #[.pointer (some ⟨F.st, 0, none⟩), .bool true]) ∧ (F.p = p ∧ F.nb = nb) ∧ Idl Y' w' F 0 0 (zPd nb).read ∧ (∀ k, Y' k → Z k ∨ w.heap.size ≤ k) ∧ But Z w w'
set_option maxRecDepth 100000 in
set_option maxHeartbeats 4000000 in
theorem sstore_fresh {Z : Nat → Prop} {w : World} {p nb : Nat} (hD : Dk Z w p (zeros (512 * nb)) [] (-1) false nb) (h1 : 64 ≤ nb) (h2 : nb ≤ 524288) :
  Calls Tryz.prog 35 #[.pointer (some ⟨p, 0, none⟩), .bool true] w (StoP Z w p nb) := by
 obtain ⟨PO, hPO⟩ : ∃ PO : Ending → World → Prop, PO = StoP Z w p nb := ⟨_, rfl⟩
 rw [← hPO]
 have HF : Hid (∀ w1 c, Below w.heap.size w w1 → Cst (fun k => w.heap.size ≤ k) w1 c p 16 0 0 [] → Calls Tryz.prog 69 #[.pointer (some ⟨c, 0, none⟩), .int .i64 0, .int .i64 64] w1 fun e w2 => e = .returned (.int .i64 0) ∧ Calls Tryz.prog 70 #[.pointer (some ⟨c, 0, none⟩), .int .i64 0, .int .i64 64] w2 fun e w3 => ∃ j, e = .returned (.tuple #[.pointer (some ⟨j, 0, none⟩), .int .i64 0]) ∧ Calls Tryz.prog 71 #[.pointer (some ⟨j, 0, none⟩)] w3 fun e w' => ∃ st, e = .returned (.tuple #[.pointer (some ⟨st, 0, none⟩), .int .i64 0]) ∧ PO (.returned (.tuple #[.pointer (some ⟨st, 0, none⟩), .bool true])) w') := fun w1 c b1 hCs => by
  have s1 := b1.size
  have hq := Cq.new' (d := zPd nb) hD hCs b1
  have hft := hq.fits
  refine Calls.mono (Format_any hq ((0 : Nat) : Int) ((64 : Nat) : Int) (by simp only [zPd, List.length_nil]; omega)) ?_
  rintro e w4 ⟨code, d', rfl, ⟨Z', q1, q2⟩, b4, hcase⟩
  have hlc : layC (zPd nb) nb ((0 : Nat) : Int) ((64 : Nat) : Int) = 0 := by
   unfold layC
   rw [if_neg (by simp [zPd])]
   exact placeC_ok (by decide) (by omega) h2
  rcases hcase with ⟨k1, _⟩ | ⟨_, f', b', ef, eb, _, _, hrun⟩
  ·exact absurd hlc k1
  ·have ef' : f' = 0 := by omega
   have eb' : b' = 64 := by omega
   subst ef' eb'
   obtain ⟨f1, _, f3⟩ := Pd.runs_free (d := zPd nb) rfl rfl (formatCmds 0 64)
   have hon := format_on (by decide) (by omega) hft.1 rfl f1
   rw [hrun] at f1 f3 hon
   simp only at f1 f3 hon
   subst f1
   refine ⟨rfl, ?_⟩
   have hpl := hon.puts (by decide) (by omega) h2
   have s4 := b4.size
   refine Calls.mono (Open_any q1 ((0 : Nat) : Int) ((64 : Nat) : Int) (by omega)) ?_
   intro e w5 hO
   obtain ⟨b5, j, Z5, d5, s5, rfl, hj5, g5, fu5, J5, on5⟩ := OpenP.anew hO hon f3 q1.fits.1 (by decide) (by omega) h2
   have s5 := b5.size
   refine ⟨j, rfl, ?_⟩
   refine Calls.mono (topen_any J5.cut on5.on) ?_
   rintro e w6 ⟨st, rfl, k1, k2, k3⟩
   refine ⟨st, rfl, ?_⟩
   have s6 := k3.size
   have hZ5 : ∀ k, Z5 k → k < w5.heap.size → Z k ∨ w.heap.size ≤ k := fun k e hk => by
    rcases Nat.lt_or_ge k w.heap.size with hk' | hk'
    ·have := (q2 k (by omega) (g5 k (by omega) e)).1
     rcases this with r | r
     ·exact .inl r
     ·omega
    ·exact .inr hk'
   rw [hPO]
   refine ⟨⟨j, c, p, st, nb⟩, fun k => (Z5 k ∧ k < w5.heap.size) ∨ k = st, rfl, ⟨rfl, rfl⟩, ⟨d5, _, _, [], ⟨fun k => Z5 k ∧ k < w5.heap.size, J5.cut.below k3, fun k e => .inl e, k2, fun e => absurd (show st < w5.heap.size from e.2) (by omega), .inr rfl⟩, fu5, on5.mono (Nat.zero_le _), Nat.le_refl _, fun y _ _ => rfl, fun k e => ?_, h1, h2⟩, fun k e => ?_, ?_⟩
   ·rcases e with e | e
    ·exact Nat.lt_of_lt_of_le e.2 s6
    ·exact e ▸ k2.lt
   ·rcases e with e | e
    ·exact hZ5 k e.1 e.2
    ·exact .inr (by omega)
   ·have bb : But Z w w4 := (But.of_below b1 (X := Z)).comp b4 (fun k hk q => by
     rcases q.1 with q | q
     ·exact q
     ·omega)
    have bb2 : But Z w w5 := bb.comp b5 (fun k hk q => by
     have := (q2 k (by omega) q).1
     rcases this with r | r
     ·exact r
     ·omega)
    exact bb2.comp (But.of_below k3 (X := fun _ => False)) (fun _ _ q => q.elim)
 clear hPO hD
 go_enter Tryz.func35, Tryz.ntmps35
 go_wp2_with fail
 refine Calls.mono (CNew_ok (w := w) p 16 (by omega) (by omega)) ?_
 rintro e w1 ⟨c, rfl, hc, hCs, b1⟩
 have HF1 := hid (HF.out w1 c b1 hCs)
 clear HF hc hCs b1
 go_wp2_with fail
 refine Calls.mono (num_any 0 w1) ?_
 rintro e w9 ⟨rfl, hw9⟩
 rw [hw9]
 clear hw9
 go_wp2_with fail
 refine Calls.mono HF1.out ?_
 rintro e w2 ⟨rfl, h3⟩
 have HF2 := hid h3
 clear h3 HF1
 go_wp2_with fail
 refine Calls.mono (num_any 0 w2) ?_
 rintro e w9 ⟨rfl, hw9⟩
 rw [hw9]
 clear hw9
 go_wp2_with fail
 refine Calls.mono HF2.out ?_
 rintro e w3 ⟨j, rfl, h3⟩
 have HF3 := hid h3
 clear h3 HF2
 go_wp2_with fail
 refine Calls.mono (num_any 0 w3) ?_
 rintro e w9 ⟨rfl, hw9⟩
 rw [hw9]
 clear hw9
 go_wp2_with fail
 refine Calls.mono HF3.out ?_
 rintro e w4 ⟨st, rfl, h3⟩
 have FIN := hid h3
 clear h3 HF3
 go_wp2_with fail
 refine Calls.mono (num_any 0 w4) ?_
 rintro e w9 ⟨rfl, hw9⟩
 rw [hw9]
 clear hw9
 go_wp2
 exact FIN.out
end Go.Proofs.YtlefjidbpjkhlaaGreat
