import Derived.Test.YtldlejpacgphmabGreatG16
import Derived.LaidEqlPtr
import Derived.Test.YtldlejpacgphmabGreatG12
import Derived.Maps.Views
namespace Go.Proofs.YtldlejpacgphmabGreat
open Go.RowKit
theorem headAt_le {fr bl : Nat} {zs : List Int} {l q : Nat} (h : headAt fr bl zs = some (l, q)) : l ≤ 1099511627776 ∧ q ≤ 1099511627776 := by
 unfold headAt at h
 cases hu : unZ zs with
 | none => rw [hu] at h; cases h
 | some r =>
  obtain ⟨k, l', body⟩ := r
  rw [hu] at h
  simp only at h
  have hl : l' ≤ 1099511627776 := by
   unfold unZ at hu
   split at hu
   ·cases hu
   ·rename_i q1
    split at hu
    ·cases hu
    ·injection hu with hu
     injection hu with _ hu
     injection hu with hu _
     rw [← hu]
     omega
  split at h
  ·cases hd : hdZ body with
   | none => rw [hd] at h; cases h
   | some t =>
    obtain ⟨f, b, q'⟩ := t
    rw [hd] at h
    simp only at h
    split at h
    ·injection h with h
     injection h with h1 h2
     have hq : q' ≤ 1099511627776 := by
      unfold hdZ at hd
      split at hd
      ·rename_i q1
       injection hd with hd
       injection hd with _ hd
       injection hd with _ hd
       rw [← hd]
       exact q1.2
      ·cases hd
     omega
    ·cases h
  ·cases h
theorem logScan_jn {nb fr bl : Nat} {rd : Nat → List Int} : ∀ (k i : Nat) (found : List Int) (s : Js), Jn nb fr bl s → i + k + 1 ≤ bl → Jn nb fr bl (logScan nb fr bl rd k i found s)
 | 0, _, _, _, h, _ => h
 | k + 1, i, found, s, h, hk => by
  unfold logScan
  cases unZ (rd (fr + 1 + i)) with
  | none => exact h
  | some r =>
   obtain ⟨kd, l, body⟩ := r
   simp only
   split
   ·exact h
   ·split
    ·exact logScan_jn k (i + 1) _ s h (by omega)
    ·split
     ·split
      ·rename_i hok
       have hsq : s.seq < 1099511627776 := by
        unfold okFound at hok
        rw [Bool.and_eq_true, Bool.and_eq_true] at hok
        have := of_decide_eq_true hok.1.2
        omega
       exact logScan_jn k (i + 1) [] _ ⟨h.lo, h.fit, h.nb, h.life, by show s.seq + 1 ≤ _; omega, by show i + 1 + 1 ≤ bl; omega⟩ (by omega)
      ·exact h
     ·exact h
def openS (nb f b : Nat) (d : Pd) (l q : Nat) : Js := logScan nb f b d.read (b - 1) 0 [] ⟨l, q, 0, fun _ => none⟩
def NoOther (f b : Nat) (s : Js) (d : Pd) : Prop := ∀ i, s.used ≤ i → i < b - 1 → otherAt f b s.life d.read i = false
def OpenQ (Z : Nat → Prop) (w : World) (j c p room nb K f b : Nat) (d : Pd) (e : Ending) (w' : World) : Prop :=
 But Z w w' ∧ ((e = .returned (.int .i64 41) ∧ (headAt f b (d.read f) = none ∨ ∃ l q, headAt f b (d.read f) = some (l, q) ∧ ¬ NoOther f b (openS nb f b d l q) d) ∧ ∃ Z' s', Jq Z' w' j c p room nb K f b d s' ∧ Gr Z Z' w) ∨
  (∃ l q, headAt f b (d.read f) = some (l, q) ∧ NoOther f b (openS nb f b d l q) d ∧ Did Z w j c p room nb K f b d (settleCmds nb f b (openS nb f b d l q)) (goS (openS nb f b d l q)) e w'))
theorem open_turn {Z : Nat → Prop} {w w0 : World} {j c p room nb K f b k : Nat} {d : Pd} (h0 : Jq Z w0 j c p room nb K f b d noS) (hb : Below w.heap.size w w0) (l0 : k < w0.heap.size) (k0 : ¬ Z k) (hn : Jn nb f b noS) (hl : d.puts.length + nb + b + 8 ≤ 1073741823) (hon : d.off = false) :
  Turn k (OpenQ Z w j c p room nb K f b d) [((70 : Nat), Value.pointer (some ⟨j, 0, none⟩)), (71, .pointer (some ⟨j, 0, none⟩)), (72, .pointer (some ⟨j, 0, none⟩)), (67, .pointer (some ⟨j, 0, none⟩))] w0 := by
 show Calls _ _ _ _ _
 refine Calls.mono (findHead_any h0 hn (by omega) hon) ?_
 intro e w1 hF
 cases hh : headAt f b (d.read f) with
 | none =>
  rw [hh] at hF
  obtain ⟨rfl, ⟨Z1, s1, hJ1, hG1⟩, b1⟩ := hF
  refine ⟨41, rfl, fun _ => ⟨(But.of_below hb).trans b1, .inl ⟨rfl, .inl hh, Z1, s1, hJ1, fun x hx q => hG1 x (by have := hb.size; omega) q⟩⟩, fun q => absurd q (by decide)⟩
 | some r =>
  obtain ⟨l, q⟩ := r
  rw [hh] at hF
  obtain ⟨rfl, ⟨Z1, hJ1, hG1⟩, b1⟩ := hF
  have hle := headAt_le hh
  have hn1 : Jn nb f b ⟨l, q, 0, fun _ => none⟩ := ⟨hn.lo, hn.fit, hn.nb, hle.1, hle.2, hn.used⟩
  refine ⟨0, rfl, fun q => absurd rfl q, fun _ => ⟨b1.block k l0 k0, ?_⟩⟩
  have k1 : ¬ Z1 k := fun q => k0 (hG1 k l0 q)
  have l1 : k < w1.heap.size := Nat.lt_of_lt_of_le l0 b1.size
  have bt1 : But Z w w1 := (But.of_below hb).trans b1
  have gt1 : Gr Z Z1 w := fun x hx q => hG1 x (by have := hb.size; omega) q
  show Calls _ _ _ _ _
  refine Calls.mono (findLog_any (s := ⟨l, q, 0, fun _ => none⟩) hJ1 hn1 (by omega) hon) ?_
  rintro e w2 ⟨rfl, ⟨Z2, hJ2, hG2⟩, b2⟩
  have hn2 : Jn nb f b (openS nb f b d l q) := logScan_jn (b - 1) 0 [] _ hn1 (by have := hn.lo; omega)
  refine ⟨0, rfl, fun q => absurd rfl q, fun _ => ⟨b2.block k l1 k1, ?_⟩⟩
  have k2 : ¬ Z2 k := fun q => k1 (hG2 k l1 q)
  have l2 : k < w2.heap.size := Nat.lt_of_lt_of_le l1 b2.size
  have bt2 : But Z w w2 := bt1.comp b2 (fun x hx q => gt1 x hx q)
  have gt2 : Gr Z Z2 w := gt1.trans hG2 bt1.size
  show Calls _ _ _ _ _
  refine Calls.mono (findNoOther_any (s := openS nb f b d l q) hJ2 hn2 (by omega) hon) ?_
  rintro e w3 ⟨hno, b3⟩
  rcases hno with ⟨rfl, hno⟩ | ⟨rfl, i, i1, i2, i3⟩
  ·refine ⟨0, rfl, fun q => absurd rfl q, fun _ => ⟨b3.block k l2, ?_⟩⟩
   have hJ3 := hJ2.below b3
   have bt3 : But Z w w3 := bt2.trans (But.of_below b3)
   show Calls _ _ _ _ _
   refine Calls.mono (settle_any (s := openS nb f b d l q) hJ3 hn2 hl) ?_
   intro e w4 hD
   have hD0 := hD.from gt2 bt3
   obtain ⟨he, ⟨Z4, s4, hJ4, hs4, hG4⟩, b4⟩ := hD
   refine ⟨_, he, fun _ => ⟨hD0.2.2, .inr ⟨l, q, hh, hno, hD0⟩⟩, fun hz => ⟨b4.block k (Nat.lt_of_lt_of_le l2 b3.size) k2, ?_⟩⟩
   show OpenQ _ _ _ _ _ _ _ _ _ _ _ _ _
   rw [he, hz] at hD0
   exact ⟨hD0.2.2, .inr ⟨l, q, hh, hno, hD0⟩⟩
  ·refine ⟨41, rfl, fun _ => ⟨bt2.trans (But.of_below b3), .inl ⟨rfl, .inr ⟨l, q, hh, fun r => by rw [r i i1 i2] at i3; cases i3⟩, Z2, _, hJ2.below b3, gt2⟩⟩, fun q => absurd q (by decide)⟩
open Go.RowKit
theorem steps_ready2 (w : World) (vs : Array Value) (fs : List (Nat × Value)) (h : ∀ (i : Nat) (f : Nat × Value), fs[i]? = some f → vs[i]? = some (Value.func (Fn.func f.1) #[f.2] #[])) {w1 : World} (e : w1 = w.alloc (.cells vs 57)) : Below w.heap.size w w1 ∧ w1.heap.size = w.heap.size + 1 ∧ ∀ (i : Nat) (f : Nat × Value), fs[i]? = some f → w1.cell? ⟨w.heap.size, i, none⟩ = some (.func (.func f.1) #[f.2] #[]) := by
 subst e
 exact ⟨(Below.refl _ _).alloc (Nat.le_refl _) _, by simp, fun i f hf => cell_new rfl i _ (h i f hf)⟩
def OpenP (Z : Nat → Prop) (w : World) (c p room nb K : Nat) (d : Pd) (fr bl : Int) (e : Ending) (w' : World) : Prop :=
 But Z w w' ∧ ∃ jv code, e = .returned (.tuple #[.pointer jv, .int .i64 code]) ∧
  ((layC d nb fr bl ≠ 0 ∧ code = layC d nb fr bl ∧ jv = none ∧ ∃ Z', Cq Z' w' c p room nb K d ∧ Gr Z Z' w) ∨
  (layC d nb fr bl = 0 ∧ ∃ f b : Nat, fr = f ∧ bl = b ∧ 16 ≤ b ∧ f + b ≤ nb ∧
   ((code = 41 ∧ jv = none ∧ (headAt f b (d.read f) = none ∨ ∃ l q, headAt f b (d.read f) = some (l, q) ∧ ¬ NoOther f b (openS nb f b d l q) d) ∧ ∃ Z', Cq Z' w' c p room nb K d ∧ Gr Z Z' w) ∨
   (∃ l q, headAt f b (d.read f) = some (l, q) ∧ NoOther f b (openS nb f b d l q) d ∧ code = (d.runs (settleCmds nb f b (openS nb f b d l q))).1 ∧ ∃ Z', Gr Z Z' w ∧
    ((code ≠ 0 ∧ jv = none ∧ Cq Z' w' c p room nb K (d.runs (settleCmds nb f b (openS nb f b d l q))).2) ∨
     (code = 0 ∧ ∃ j, jv = some ⟨j, 0, none⟩ ∧ w.heap.size ≤ j ∧ Jq Z' w' j c p room nb K f b (d.runs (settleCmds nb f b (openS nb f b d l q))).2 (goS (openS nb f b d l q))))))))
set_option maxRecDepth 100000 in
set_option maxHeartbeats 1000000 in
theorem Open_any {Z : Nat → Prop} {w : World} {c p room nb K : Nat} {d : Pd} (h : Cq Z w c p room nb K d) (fr bl : Int) (hl : d.puts.length + nb + nb + 8 ≤ 1073741823) :
  Calls Tryz.prog 20 #[.pointer (some ⟨c, 0, none⟩), .int .i64 fr, .int .i64 bl] w (OpenP Z w c p room nb K d fr bl) := by
 have H := hid (jlay_any h fr bl)
 have HC := hid h
 have hnb := h.fits.2.2
 clear h
 go_enter Tryz.func20, Tryz.ntmps20
 go_wp2_with fail
 refine Calls.mono H.out ?_
 rintro e w2 ⟨jv, rfl, b2, hq⟩
 rcases hq with ⟨hne, rfl⟩ | ⟨hz, j, f, b, rfl, rfl, rfl, q1, q2, q3, Z2, hJ, hG⟩
 ·have FIN : Hid (OpenP Z w c p room nb K d fr bl (.returned (.tuple #[.pointer none, .int .i64 (layC d nb fr bl)])) w2) := ⟨But.of_below b2, none, _, rfl, .inl ⟨hne, rfl, rfl, Z, HC.out.below b2, Gr.refl _ _⟩⟩
  clear b2 H HC hnb hl
  generalize layC d nb fr bl = code at *
  go_wp2
  go_ret2
  exact FIN.out
 ·have hon : d.off = false := by
   unfold layC at hz
   cases ho : d.off
   ·rfl
   ·rw [ho] at hz; simp at hz
  obtain ⟨w3, hw1⟩ : ∃ w3, w3 = (w2.alloc (.cells #[.func (.func 70) #[.pointer (some ⟨j, 0, none⟩)] #[], .func (.func 71) #[.pointer (some ⟨j, 0, none⟩)] #[], .func (.func 72) #[.pointer (some ⟨j, 0, none⟩)] #[], .func (.func 67) #[.pointer (some ⟨j, 0, none⟩)] #[]] 57)) := ⟨_, rfl⟩
  obtain ⟨b1, z1, F1⟩ := steps_ready2 w2 _ [((70 : Nat), Value.pointer (some ⟨j, 0, none⟩)), (71, .pointer (some ⟨j, 0, none⟩)), (72, .pointer (some ⟨j, 0, none⟩)), (67, .pointer (some ⟨j, 0, none⟩))] (fun i f hf => by
    rcases i with _ | _ | _ | _ | i
    ·cases hf; rfl
    ·cases hf; rfl
    ·cases hf; rfl
    ·cases hf; rfl
    ·simp at hf) hw1
  have hn : Jn nb f b noS := ⟨q1, q2, hnb, Nat.zero_le _, Nat.zero_le _, by simp [noS]; omega⟩
  have HT := open_turn (w := w2) (k := w2.heap.size) (hJ.cut.below b1) b1 (by omega) (fun q => by have := q.2; omega) hn (by omega) hon
  have HI := hid (inTurn_any (k := w2.heap.size) _ (by simp) (fun i g hg => by
   have := List.mem_of_getElem? hg
   simp at this
   rcases this with rfl | rfl | rfl | rfl <;> simp) w3 F1 HT)
  have hs := b2.size
  have HF : Hid (∀ e w4, OpenQ (fun k => Z2 k ∧ k < w2.heap.size) w2 j c p room nb K f b d e w4 → ∃ code, e = .returned (.int .i64 code) ∧ (code ≠ 0 → OpenP Z w c p room nb K d (f : Int) (b : Int) (.returned (.tuple #[.pointer none, .int .i64 code])) w4) ∧ (code = 0 → OpenP Z w c p room nb K d (f : Int) (b : Int) (.returned (.tuple #[.pointer (some ⟨j, 0, none⟩), .int .i64 0])) w4)) := fun e w4 q => by
   obtain ⟨bq, hc⟩ := q
   have bw : But Z w w4 := (But.of_below b2).comp bq (fun k hk r => hG k hk r.1)
   rcases hc with ⟨rfl, hno, Z4, s4, hJ4, hG4⟩ | ⟨l, q, hh, hno, hD⟩
   ·exact ⟨41, rfl, fun _ => ⟨bw, none, 41, rfl, .inr ⟨hz, f, b, rfl, rfl, q1, q2, .inl ⟨rfl, rfl, hno, Z4, hJ4.toCq, fun k hk r => hG k hk (hG4 k (by omega) r).1⟩⟩⟩, fun r => absurd r (by decide)⟩
   ·obtain ⟨he, ⟨Z4, s4, hJ4, hs4, hG4⟩, b4⟩ := hD
    have hg : Gr Z Z4 w := fun k hk r => hG k hk (hG4 k (by omega) r).1
    refine ⟨_, he, fun hc => ⟨bw, none, _, rfl, .inr ⟨hz, f, b, rfl, rfl, q1, q2, .inr ⟨l, q, hh, hno, rfl, Z4, hg, .inl ⟨hc, rfl, hJ4.toCq⟩⟩⟩⟩, fun hc => ⟨bw, some ⟨j, 0, none⟩, 0, rfl, .inr ⟨hz, f, b, rfl, rfl, q1, q2, .inr ⟨l, q, hh, hno, hc.symm, Z4, hg, .inr ⟨rfl, j, rfl, q3, ?_⟩⟩⟩⟩⟩
    rw [hs4 hc] at hJ4
    exact hJ4
  clear HT hJ hG b2 H HC hnb hl F1 z1 b1 hn q1 q2 q3 hs hon
  rw [hz]
  have HW1 := hid hw1
  clear hw1 hz
  go_wp2_with fail
  rw [← HW1.out]
  refine Calls.mono HI.out ?_
  intro e w4 hQ
  obtain ⟨code, rfl, r1, r2⟩ := HF.out e w4 hQ
  by_cases hc : code = 0
  ·have FIN := hid (r2 hc)
   clear r1 r2 hQ HI HF HW1
   subst hc
   go_wp2
   go_ret2
   exact FIN.out
  ·have FIN := hid (r1 hc)
   clear r1 r2 hQ HI HF HW1
   go_wp2
   go_ret2
   exact FIN.out
open Go.RowKit
theorem Jq.ask {Z : Nat → Prop} {w : World} {j c p room nb K fr bl : Nat} {d : Pd} {s : Js} (h : Jq Z w j c p room nb K fr bl d s) : Calls Tryz.prog 54 #[.pointer (some ⟨j, 0, none⟩)] w fun e w' => e = .returned (.int .i64 (if d.off then 24 else 0)) ∧ Below w.heap.size w w' := by
 obtain ⟨mv, hJ, _⟩ := h.cells
 obtain ⟨hD, c0, _⟩ := h.dk
 exact jask_any hJ c0 hD
theorem Seq_any {Z : Nat → Prop} {w : World} {j c p room nb K fr bl : Nat} {d : Pd} {s : Js} (h : Jq Z w j c p room nb K fr bl d s) : Calls Tryz.prog 16 #[.pointer (some ⟨j, 0, none⟩)] w fun e w' => e = .returned (.tuple #[.int .i64 (if d.off then 0 else (s.seq : Int)), .int .i64 (if d.off then 24 else 0)]) ∧ Below w.heap.size w w' := by
 have H := hid h.ask
 have HJ := hid h
 clear h
 cases ho : d.off
 ·rw [ho] at H
  go_enter Tryz.func16, Tryz.ntmps16
  go_wp2_with fail
  refine Calls.mono H.out ?_
  rintro e w1 ⟨rfl, b1⟩
  obtain ⟨mv, hJb, _⟩ := (HJ.out.below b1).cells
  have c4 := hJb.cell 4
  simp at c4
  have B1 := hid b1
  clear b1 H HJ hJb
  go_wp2
  go_ret2
  exact ⟨rfl, B1.out⟩
 ·rw [ho] at H
  go_enter Tryz.func16, Tryz.ntmps16
  go_wp2_with fail
  refine Calls.mono H.out ?_
  rintro e w1 ⟨rfl, b1⟩
  have B1 := hid b1
  clear b1 H HJ
  go_wp2
  go_ret2
  exact ⟨rfl, B1.out⟩
open Go.RowKit
def jread (d : Pd) (s : Js) (x : Nat) : List Int := (s.ah x).getD (d.read x)
theorem Jq.checkHome {Z : Nat → Prop} {w : World} {j c p room nb K fr bl : Nat} {d : Pd} {s : Js} (h : Jq Z w j c p room nb K fr bl d s) (h1 : fr + bl ≤ nb) (at_ : Int) : Calls Tryz.prog 55 #[.pointer (some ⟨j, 0, none⟩), .int .i64 at_] w fun e w' => e = .returned (.int .i64 (homeC nb fr bl at_)) ∧ Below w.heap.size w w' := by
 have hnb := h.fits.2.2
 obtain ⟨mv, hJ, _⟩ := h.cells
 obtain ⟨hD, c0, hcl⟩ := h.dk
 exact jcheckHome_any hJ c0 hD (by omega) (by omega) (by omega) (by omega) at_
set_option maxRecDepth 100000 in
set_option maxHeartbeats 1000000 in
theorem Read_home {Z : Nat → Prop} {w : World} {j c p room nb K fr bl : Nat} {d : Pd} {s : Js} (h : Jq Z w j c p room nb K fr bl d s) (h1 : fr + bl ≤ nb) (hon : d.off = false) (hl : d.puts.length ≤ 1073741824) (hK : K < 4611686018427387904) (x : Nat) (hx : x < nb) (hh : homeC nb fr bl (x : Int) = 0) :
  Calls Tryz.prog 13 #[.pointer (some ⟨j, 0, none⟩), .int .i64 (x : Int)] w fun e w' => ∃ g cp, e = .returned (.tuple #[.slice (some ⟨g, 0, none⟩) 512 cp, .int .i64 0]) ∧ w.heap.size ≤ g ∧ Own w' g 512 cp (jread d s x) ∧ Pl.isB (jread d s x) ∧ (∃ Z', Jq Z' w' j c p room nb (K + 1) fr bl d s ∧ Gr Z Z' w ∧ ¬ Z' g) ∧ But Z w w' := by
 have H := hid h.ask
 rw [hon] at H
 have hnb := h.fits.2.2
 have HC : Hid (∀ w1, Below w.heap.size w w1 → Calls Tryz.prog 55 #[.pointer (some ⟨j, 0, none⟩), .int .i64 (x : Int)] w1 fun e w' => e = .returned (.int .i64 0) ∧ Below w1.heap.size w1 w') := fun w1 b1 => by
  have := (h.below b1).checkHome h1 (x : Int)
  rwa [hh] at this
 have hkey := keyOf3 (wf_small (x := (x : Int)) (by omega) (by omega))
 have HJ := hid (And.intro h (And.intro hon (And.intro hl hK)))
 clear h hon h1 hh hl hK
 go_enter Tryz.func13, Tryz.ntmps13
 go_wp2_with fail
 refine Calls.mono H.out ?_
 rintro e w1 ⟨rfl, b1⟩
 have HC1 := hid (HC.out w1 b1)
 have B1 := hid b1
 clear b1 H HC
 go_wp2_with fail
 refine Calls.mono HC1.out ?_
 rintro e w2 ⟨rfl, b2⟩
 have B2 := hid (B1.out.trans (b2.mono B1.out.size))
 clear b2 HC1 B1
 obtain ⟨Zc, m, n, D, a, hW⟩ := (HJ.out.1.cut.below B2.out)
 have j6 := hW.jb.cell 6
 have j0 := hW.jb.cell 0
 simp at j6 j0
 have hm := hW.mp
 have hs2 := B2.out.size
 cases ha : a x with
 | some r =>
  obtain ⟨g, cp⟩ := r
  obtain ⟨zs, e1, e2, e3, e4, e5, e6⟩ := hW.dat x g cp ha
  have hhas := (hW.am.hit x (g, cp) ha).1
  have hatk := (hW.am.hit x (g, cp) ha).2
  have HCl := hid (Clone_any ⟨g, 0, none⟩ 512 cp zs w2 (by omega) (e2.rd e3))
  have HW := hid hW
  have hjr : Hid (jread d s x = zs) := by unfold jread; rw [e1]; rfl
  have HZ3 := hid e3
  clear hW e1 e2 e3 e4 e5 e6 ha
  go_wp2_with (at_lookup; refine wpList_lookup_own_ok _ rfl _ _ 119 rfl 3 22 law3 Tryz.underlying119 slElem (zero22 _) .nil [] rfl m n D rfl hm _ _ rfl hkey ?_; intro v ps hv; rw [hatk .nil] at hv; obtain rfl := slElem_inv hv; clear hv; rw [hhas])
  refine Calls.mono HCl.out ?_
  rintro e w3 ⟨g3, cp3, rfl, hg3, ho3, b3⟩
  have FIN : Hid (w.heap.size ≤ g3 ∧ Own w3 g3 512 cp3 (jread d s x) ∧ Pl.isB (jread d s x) ∧ (∃ Z', Jq Z' w3 j c p room nb (K + 1) fr bl d s ∧ Gr Z Z' w ∧ ¬ Z' g3) ∧ But Z w w3) := by
   rw [hjr.out]
   have hJ3 : Jq (fun k => Z k ∧ k < w.heap.size) w3 j c p room nb K fr bl d s := Jq.below ⟨Zc, m, n, D, a, HW.out⟩ b3
   exact ⟨by omega, ho3, HZ3.out, ⟨_, hJ3.mono (fun _ q => q) (by omega), fun k _ q => q.1, fun q => by have := q.2; omega⟩, But.of_below (B2.out.trans (b3.mono B2.out.size))⟩
  clear hg3 ho3 b3 HCl HW hm j6 j0
  go_wp2
  go_ret2
  exact ⟨g3, cp3, rfl, FIN.out⟩
 | none =>
  have hahn := hW.non x ha
  have hhas : Maps.has D (.int .i64 (x : Int)) = false := hW.am.miss (x : Int) (fun y e => by
   have : y = x := by omega
   rw [this]; exact ha)
  have hjr : Hid (jread d s x = d.read x) := by unfold jread; rw [hahn]; rfl
  have HR := hid (hW.cq.cread HJ.out.2.2.1 HJ.out.2.2.2 HJ.out.2.1 x hx)
  have hib := hid (Pd.read_len hW.cq x hx).2
  have HW := hid hW
  clear hW ha hahn
  go_wp2_with (at_lookup; refine wpList_lookup_own_ok _ rfl _ _ 119 rfl 3 22 law3 Tryz.underlying119 slElem (zero22 _) .nil [] rfl m n D rfl hm _ _ rfl hkey ?_; intro v ps hv; clear hv; rw [hhas])
  refine Calls.mono HR.out ?_
  rintro e w3 ⟨g3, cp3, rfl, hg3, ho3, ⟨Zc3, hq3, hG3, hn3⟩, b3⟩
  have FIN : Hid (w.heap.size ≤ g3 ∧ Own w3 g3 512 cp3 (jread d s x) ∧ Pl.isB (jread d s x) ∧ (∃ Z', Jq Z' w3 j c p room nb (K + 1) fr bl d s ∧ Gr Z Z' w ∧ ¬ Z' g3) ∧ But Z w w3) := by
   rw [hjr.out]
   refine ⟨by omega, ho3, hib.out, ⟨_, ⟨Zc3, m, n, D, a, HW.out.turn hq3 hG3 b3⟩, fun k hk q => ?_, fun q => ?_⟩, (But.of_below B2.out).comp b3 (fun k _ q => (HW.out.sub k q).1)⟩
   ·rcases q with q | q
    ·exact q.1.1
    ·exact (HW.out.sub k (hG3 k (by omega) q)).1
   ·rcases q with q | q
    ·have := q.2; omega
    ·exact hn3 q
  clear hg3 ho3 b3 HR HW hm j6 j0 hq3 hG3 hn3
  go_wp2
  go_ret2
  exact ⟨g3, cp3, rfl, FIN.out⟩
open Go.RowKit Go.Deep
def Stb (w : World) (st j : Nat) (tv : Value) : Prop := w.heap[st]? = some (.cells #[.pointer (some ⟨j, 0, none⟩), .iface 44 (.pointer (some ⟨j, 0, none⟩)), tv] 142 (0, 0))
theorem Stb.lt {w : World} {st j : Nat} {tv : Value} (h : Stb w st j tv) : st < w.heap.size := (Array.getElem?_eq_some_iff.1 h).1
theorem Stb.cell {w : World} {st j : Nat} {tv : Value} (h : Stb w st j tv) (t : Nat) : w.cell? ⟨st, t, none⟩ = #[.pointer (some ⟨j, 0, none⟩), .iface 44 (.pointer (some ⟨j, 0, none⟩)), tv][t]? := by
 unfold Stb at h
 simp [World.cell?, h]
theorem Stb.frozen {w : World} {st j : Nat} {tv : Value} (h : Stb w st j tv) (t : Nat) : w.frozen? ⟨st, t, none⟩ = false := by
 unfold Stb at h
 simp [World.frozen?, h]
theorem Stb.keep {w w' : World} {st j : Nat} {tv : Value} (h : Stb w st j tv) (hk : w'.heap[st]? = w.heap[st]?) : Stb w' st j tv := hk.trans h
theorem Stb.set {w : World} {st j : Nat} {tv : Value} (h : Stb w st j tv) (v : Value) : Stb (w.setCell ⟨st, 2, none⟩ v) st j v := by
 unfold Stb at *
 simp only [World.setCell, Array.getElem?_modify]
 rw [h]
 simp
def Txb (w : World) (t j : Nat) (fv : Value) (st : Nat) (wv : Value) : Prop := w.heap[t]? = some (.cells #[.pointer (some ⟨j, 0, none⟩), fv, .pointer (some ⟨st, 0, none⟩), wv] 146 (0, 0))
theorem Txb.lt {w : World} {t j : Nat} {fv : Value} {st : Nat} {wv : Value} (h : Txb w t j fv st wv) : t < w.heap.size := (Array.getElem?_eq_some_iff.1 h).1
theorem Txb.cell {w : World} {t j : Nat} {fv : Value} {st : Nat} {wv : Value} (h : Txb w t j fv st wv) (i : Nat) : w.cell? ⟨t, i, none⟩ = #[.pointer (some ⟨j, 0, none⟩), fv, .pointer (some ⟨st, 0, none⟩), wv][i]? := by
 unfold Txb at h
 simp [World.cell?, h]
theorem Txb.frozen {w : World} {t j : Nat} {fv : Value} {st : Nat} {wv : Value} (h : Txb w t j fv st wv) (i : Nat) : w.frozen? ⟨t, i, none⟩ = false := by
 unfold Txb at h
 simp [World.frozen?, h]
theorem Txb.keep {w w' : World} {t j : Nat} {fv : Value} {st : Nat} {wv : Value} (h : Txb w t j fv st wv) (hk : w'.heap[t]? = w.heap[t]?) : Txb w' t j fv st wv := hk.trans h
theorem info146 : (Tryz.prog.info? 146).map (fun i => i.size) = some 4 := by kernel_rfl
theorem neq_tsame (w : World) (a : Addr) : (binOp .neq 82 (.pointer (some a)) (.pointer (some a))).run Tryz.prog w = .ok (.bool false) w := by
 obtain ⟨j, hj, _⟩ := Option.map_eq_some_iff.1 info146
 have h : ∀ d : Nat, (Op.equalIn (d + 1) 82 (.pointer (some a)) (.pointer (some a))).run Tryz.prog w = .ok true w := fun d => by
  simp [Op.equalIn, run_underlying Tryz.underlying82, sizeOf, typeInfo, hj, run_sameAddr_same]
 simp only [binOp]
 simp [Op.equal, Op.maxDepth, h 9999]
theorem power_any {Z : Nat → Prop} {w : World} {j c p room nb K fr bl : Nat} {d : Pd} {s : Js} (h : Jq Z w j c p room nb K fr bl d s) {b : Nat} (hc : w.cell? ⟨b, 0, none⟩ = some (.pointer (some ⟨j, 0, none⟩))) : Calls Tryz.prog 133 #[.pointer (some ⟨b, 0, none⟩)] w fun e w' => e = .returned (.int .i64 (if d.off then 24 else 0)) ∧ Below w.heap.size w w' := by
 have H := hid (Seq_any h)
 clear h
 generalize (if d.off then (24 : Int) else 0) = code at *
 generalize (if d.off then (0 : Int) else (s.seq : Int)) = sq at *
 go_enter Tryz.func133, Tryz.ntmps133
 go_wp2_with fail
 refine Calls.mono H.out ?_
 rintro e w1 ⟨rfl, b1⟩
 have B1 := hid b1
 clear b1 H
 go_wp2
 go_ret
 exact ⟨rfl, B1.out⟩
theorem sask_any {Z : Nat → Prop} {w : World} {j c p room nb K fr bl : Nat} {d : Pd} {s : Js} (h : Jq Z w j c p room nb K fr bl d s) {st : Nat} {tv : Value} (hs : Stb w st j tv) : Calls Tryz.prog 84 #[.pointer (some ⟨st, 0, none⟩)] w fun e w' => e = .returned (.int .i64 (if d.off then 24 else 0)) ∧ Below w.heap.size w w' := by
 have H := hid (power_any h (hs.cell 0))
 clear h hs
 generalize (if d.off then (24 : Int) else 0) = code at *
 go_enter Tryz.func84, Tryz.ntmps84
 go_wp2_with fail
 refine Calls.mono H.out ?_
 rintro e w1 ⟨rfl, b1⟩
 have B1 := hid b1
 clear b1 H
 go_wp2
 go_ret
 exact ⟨rfl, B1.out⟩
theorem task_open {Z : Nat → Prop} {w : World} {j c p room nb K fr bl : Nat} {d : Pd} {s : Js} (h : Jq Z w j c p room nb K fr bl d s) (hon : d.off = false) {t st : Nat} {fv wv : Value} (ht : Txb w t j fv st wv) (hs : Stb w st j (.pointer (some ⟨t, 0, none⟩))) : Calls Tryz.prog 87 #[.pointer (some ⟨t, 0, none⟩)] w fun e w' => e = .returned (.int .i64 0) ∧ Below w.heap.size w w' := by
 have H := hid (power_any h (ht.cell 0))
 rw [hon] at H
 have HC : Hid (∀ w', Below w.heap.size w w' → w'.cell? ⟨t, 2, none⟩ = some (.pointer (some ⟨st, 0, none⟩)) ∧ w'.cell? ⟨st, 2, none⟩ = some (.pointer (some ⟨t, 0, none⟩))) := fun w' b => ⟨(b.cell (p := ⟨t, 2, none⟩) ht.lt).trans (ht.cell 2), (b.cell (p := ⟨st, 2, none⟩) hs.lt).trans (hs.cell 2)⟩
 clear h ht hs
 go_enter Tryz.func87, Tryz.ntmps87
 go_wp2_with fail
 refine Calls.mono H.out ?_
 rintro e w1 ⟨rfl, b1⟩
 obtain ⟨c2, c3⟩ := HC.out w1 b1
 have hq := neq_tsame w1 ⟨t, 0, none⟩
 have B1 := hid b1
 clear b1 H HC
 go_wp2
 go_ret
 exact ⟨rfl, B1.out⟩
open Go.RowKit Go.Deep
def cntX {H : Type} (a : Nat → Option H) : Nat → Nat
 | 0 => 0
 | n + 1 => cntX a n + if (a n).isSome then 1 else 0
theorem cntX_le {H : Type} (a : Nat → Option H) (n : Nat) : cntX a n ≤ n := by
 induction n with
 | zero => exact Nat.le_refl _
 | succ n ih => unfold cntX; split <;> omega
structure AMx {H : Type} (nb : Nat) (D : DataW H) (a : Nat → Option H) : Prop where
 tidy : Maps.Tidy D
 cnt : Maps.size D ≤ cntX a nb
 hit : ∀ x q, a x = some q → Maps.has D (.int .i64 (x : Int)) = true ∧ ∀ z, D.atKey (.int .i64 (x : Int)) z = .held q
 miss : ∀ x : Int, (∀ y : Nat, (y : Int) = x → a y = none) → Maps.has D (.int .i64 x) = false
theorem AMx.nil {H : Type} (nb : Nat) : AMx (H := H) nb (.map []) (fun _ => none) := ⟨Maps.tidy_empty, Nat.zero_le _, fun x q h => (by cases h), fun _ _ => rfl⟩
def putX {H : Type} (a : Nat → Option H) (x : Nat) (q : H) : Nat → Option H := fun y => if y = x then some q else a y
theorem cnt_putX {H : Type} (a : Nat → Option H) (x : Nat) (q : H) (n : Nat) : cntX (putX a x q) n = cntX a n + if x < n ∧ a x = none then 1 else 0 := by
 induction n with
 | zero => simp [cntX]
 | succ n ih =>
  unfold cntX
  rw [ih]
  by_cases e : n = x
  ·subst e
   have h1 : (putX a n q n).isSome = true := by simp [putX]
   rw [h1]
   cases ha : a n <;> simp
  ·have h1 : putX a x q n = a n := by simp [putX, e]
   rw [h1]
   by_cases h2 : x < n
   ·have h3 : x < n + 1 := by omega
    simp only [h2, h3, true_and]
    omega
   ·have h3 : ¬ x < n + 1 := by omega
    simp only [h2, h3, false_and, if_false]
    omega
theorem AMx.put {H : Type} {nb : Nat} {D : DataW H} {a : Nat → Option H} (h : AMx nb D a) (x : Nat) (hx : x < nb) (q : H) : AMx nb (D.put (.int .i64 (x : Int)) (.held q)) (putX a x q) := by
 have hk : WideAt.IsKeyLit (.int .i64 (x : Int)) := trivial
 refine ⟨h.tidy.put hk _, ?_, fun y r hr => ?_, fun y hy => ?_⟩
 ·rw [Maps.size_put h.tidy, cnt_putX]
  have hc := h.cnt
  cases ha : a x with
  | none =>
   simp only [hx, true_and, if_true]
   split <;> omega
  | some r =>
   rw [(h.hit x r ha).1]
   simp
   omega
 ·by_cases e : y = x
  ·subst e
   have : q = r := by simpa [putX] using hr
   subst this
   exact ⟨Maps.has_put_same h.tidy.isMap hk _, fun z => Maps.atKey_put_same h.tidy.isMap hk _ z⟩
  ·have hne : (Lit.int .i64 (y : Int)) ≠ .int .i64 (x : Int) := fun q => e (by injection q with _ q; omega)
   have hr' : a y = some r := by simpa [putX, e] using hr
   exact ⟨by rw [Maps.has_put_other hne]; exact (h.hit y r hr').1, fun z => by rw [Maps.atKey_put_other hne]; exact (h.hit y r hr').2 z⟩
 ·have hne : (Lit.int .i64 y) ≠ .int .i64 (x : Int) := fun q => by
   injection q with _ q
   have := hy x q.symm
   simp [putX] at this
  rw [Maps.has_put_other hne]
  refine h.miss y (fun t ht => ?_)
  have := hy t ht
  unfold putX at this
  split at this
  ·cases this
  ·exact this
def wrElem (v : Value) : Option (DataW (Nat × Nat × Int) × List MemPlace) :=
 match v with
 | .agg cs => match cs.toList with
  | [.slice none 0 0, .int .i64 0] => some (.nil, [])
  | [.slice (some ⟨g, 0, none⟩) 512 c, .int .i64 m] => some (.held (g, c, m), [])
  | _ => none
 | _ => none
theorem wrElem_inv {v : Value} {g c : Nat} {m : Int} {ps : List MemPlace} (h : wrElem v = some (.held (g, c, m), ps)) : v = .agg #[.slice (some ⟨g, 0, none⟩) 512 c, .int .i64 m] := by
 unfold wrElem at h
 split at h
 ·rename_i cs
  split at h
  ·cases h
  ·rename_i e
   cases h
   have : cs = #[.slice (some ⟨g, 0, none⟩) 512 c, .int .i64 m] := by
    cases cs
    simpa using e
   rw [this]
  ·cases h
 ·cases h
theorem wrElem_nil {v : Value} {ps : List MemPlace} (h : wrElem v = some (.nil, ps)) : v = .agg #[.slice none 0 0, .int .i64 0] := by
 unfold wrElem at h
 split at h
 ·rename_i cs
  split at h
  ·rename_i e
   have : cs = #[.slice none 0 0, .int .i64 0] := by
    cases cs
    simpa using e
   rw [this]
  ·cases h
  ·cases h
 ·cases h
theorem zero214 (w : World) : (zeroValue 214).run Tryz.prog w = .ok (.agg #[.slice none 0 0, .int .i64 0]) w := by kernel_rfl
structure Wq (Z : Nat → Prop) (w : World) (x j m n nb fr bl : Nat) (D : DataW (Nat × Nat × Int)) (a : Nat → Option (Nat × Nat × Int)) (sv mv : Value) (L : Nat → Option (List Int)) : Prop where
 blk : w.heap[x]? = some (.cells #[.iface 44 (.pointer (some ⟨j, 0, none⟩)), .map (some m), sv, mv] 208 (0, 0))
 mp : w.ownsMap Tryz.prog 3 wrElem m n D
 am : AMx nb D a
 dat : ∀ y g cp k, a y = some (g, cp, k) → ∃ zs, L y = some zs ∧ Own w g 512 cp zs ∧ Pl.isB zs ∧ (y < nb ∧ homeC nb fr bl (y : Int) = 0) ∧ Z g
 non : ∀ y, a y = none → L y = none
 zx : Z x
 zm : Z m
theorem Wq.lt {Z : Nat → Prop} {w : World} {x j m n nb fr bl : Nat} {D : DataW (Nat × Nat × Int)} {a : Nat → Option (Nat × Nat × Int)} {sv mv : Value} {L : Nat → Option (List Int)} (h : Wq Z w x j m n nb fr bl D a sv mv L) : x < w.heap.size := (Array.getElem?_eq_some_iff.1 h.blk).1
theorem Wq.cell {Z : Nat → Prop} {w : World} {x j m n nb fr bl : Nat} {D : DataW (Nat × Nat × Int)} {a : Nat → Option (Nat × Nat × Int)} {sv mv : Value} {L : Nat → Option (List Int)} (h : Wq Z w x j m n nb fr bl D a sv mv L) (t : Nat) : w.cell? ⟨x, t, none⟩ = #[.iface 44 (.pointer (some ⟨j, 0, none⟩)), .map (some m), sv, mv][t]? := by
 have hb := h.blk
 simp [World.cell?, hb]
theorem mapW_keep {w w' : World} {mp n : Nat} {D : DataW (Nat × Nat × Int)} (h : w.ownsMap Tryz.prog 3 wrElem mp n D) (hk : w'.heap[mp]? = w.heap[mp]?) : w'.ownsMap Tryz.prog 3 wrElem mp n D := by
 obtain ⟨es, ck, h1, h2⟩ := h
 exact ⟨es, ck, hk.trans h1, h2⟩
theorem Wq.keep {Z : Nat → Prop} {w w' : World} {x j m n nb fr bl : Nat} {D : DataW (Nat × Nat × Int)} {a : Nat → Option (Nat × Nat × Int)} {sv mv : Value} {L : Nat → Option (List Int)} (h : Wq Z w x j m n nb fr bl D a sv mv L) (hk : ∀ k, Z k → k < w.heap.size → w'.heap[k]? = w.heap[k]?) : Wq Z w' x j m n nb fr bl D a sv mv L where
 blk := (hk x h.zx h.lt).trans h.blk
 mp := mapW_keep h.mp (hk m h.zm h.mp.lt)
 am := h.am
 dat := fun y g cp k e => by
  obtain ⟨zs, e1, e2, e3, e4, e5⟩ := h.dat y g cp k e
  exact ⟨zs, e1, e2.keep (hk g e5 e2.lt), e3, e4, e5⟩
 non := h.non
 zx := h.zx
 zm := h.zm
theorem Wq.but {Z Y : Nat → Prop} {w w' : World} {x j m n nb fr bl : Nat} {D : DataW (Nat × Nat × Int)} {a : Nat → Option (Nat × Nat × Int)} {sv mv : Value} {L : Nat → Option (List Int)} (h : Wq Z w x j m n nb fr bl D a sv mv L) (hb : But Y w w') (hy : ∀ k, k < w.heap.size → Z k → ¬ Y k) : Wq Z w' x j m n nb fr bl D a sv mv L := h.keep (fun k q hk => hb.block k hk (hy k hk q))
set_option maxRecDepth 100000 in
theorem readJ (v : Value) (w : World) : Sem.run Tryz.prog (method 419 44 v "Read") w = .ok (13, v) w := by kernel_rfl
set_option maxRecDepth 100000 in
theorem readW (v : Value) (w : World) : Sem.run Tryz.prog (method 419 143 v "Read") w = .ok (246, v) w := by kernel_rfl
set_option maxRecDepth 100000 in
set_option maxHeartbeats 2000000 in
theorem wread_home {Z Zw : Nat → Prop} {w : World} {x j c p room nb K fr bl m n : Nat} {D : DataW (Nat × Nat × Int)} {a : Nat → Option (Nat × Nat × Int)} {sv mv : Value} {L : Nat → Option (List Int)} {d : Pd} {s : Js} (h : Jq Z w j c p room nb K fr bl d s) (hW : Wq Zw w x j m n nb fr bl D a sv mv L) (h1 : fr + bl ≤ nb) (hon : d.off = false) (hl : d.puts.length ≤ 1073741824) (hK : K < 4611686018427387904) (hnb : nb ≤ 524288) (y : Nat) (hy : y < nb) (hh : homeC nb fr bl (y : Int) = 0) :
  Calls Tryz.prog 246 #[.pointer (some ⟨x, 0, none⟩), .int .i64 (y : Int)] w fun e w' => ∃ g cp, e = .returned (.tuple #[.slice (some ⟨g, 0, none⟩) 512 cp, .int .i64 0]) ∧ w.heap.size ≤ g ∧ Own w' g 512 cp ((L y).getD (jread d s y)) ∧ Pl.isB ((L y).getD (jread d s y)) ∧ (∃ Z', Jq Z' w' j c p room nb (K + 1) fr bl d s ∧ Gr Z Z' w ∧ ¬ Z' g) ∧ But Z w w' := by
 have x0 := hW.cell 0
 have x1 := hW.cell 1
 simp at x0 x1
 have hm := hW.mp
 have hkey : keyOf Tryz.prog 3 (.int .i64 (y : Int)) = some (.int .i64 (y : Int)) := Maps.keyOf_int_mk Tryz.underlying3 (WalkArith.wf_i64 (by omega))
 have hxl := hW.lt
 cases ha : a y with
 | some r =>
  obtain ⟨g, cp, mk⟩ := r
  obtain ⟨zs, e1, e2, e3, e4, e5⟩ := hW.dat y g cp mk ha
  have hhas := (hW.am.hit y (g, cp, mk) ha).1
  have hatk := (hW.am.hit y (g, cp, mk) ha).2
  obtain ⟨w1, hw1⟩ : ∃ w1, w1 = w.alloc (.cells #[.slice (some ⟨g, 0, none⟩) 512 cp, .int .i64 mk] 214) := ⟨_, rfl⟩
  have b1 : Below w.heap.size w w1 := by rw [hw1]; exact (Below.refl _ _).alloc (Nat.le_refl _) _
  have HCl := hid (Clone_any ⟨g, 0, none⟩ 512 cp zs w1 (by omega) ((e2.keep (b1.block g e2.lt)).rd e3))
  have HJ := hid h
  have B1 := hid b1
  have HZ := hid (And.intro e1 e3)
  have HW1 := hid hw1
  clear h hW e1 e2 e3 e4 e5 ha b1 hw1
  go_enter Tryz.func246, Tryz.ntmps246
  go_wp2_with (at_lookup; refine wpList_lookup_own_ok _ rfl _ _ 205 rfl 3 214 law3 Tryz.underlying205 wrElem (zero214 _) .nil [] rfl m n D rfl hm _ _ rfl hkey ?_; intro v ps hv; rw [hatk .nil] at hv; obtain rfl := wrElem_inv hv; clear hv; rw [hhas])
  rw [← HW1.out]
  refine Calls.mono HCl.out ?_
  rintro e w3 ⟨g3, cp3, rfl, hg3, ho3, b3⟩
  have FIN : Hid (w.heap.size ≤ g3 ∧ Own w3 g3 512 cp3 ((L y).getD (jread d s y)) ∧ Pl.isB ((L y).getD (jread d s y)) ∧ (∃ Z', Jq Z' w3 j c p room nb (K + 1) fr bl d s ∧ Gr Z Z' w ∧ ¬ Z' g3) ∧ But Z w w3) := by
   rw [HZ.out.1]
   have b13 : Below w.heap.size w w3 := B1.out.trans (b3.mono B1.out.size)
   have hs1 := B1.out.size
   exact ⟨by omega, ho3, HZ.out.2, ⟨_, Jq.mono (HJ.out.cut.below b13) (fun _ q => q) (by omega), fun k _ q => q.1, fun q => by have := q.2; omega⟩, But.of_below b13⟩
  clear hg3 ho3 b3 HCl hm
  go_wp2
  go_ret2
  exact ⟨g3, cp3, rfl, FIN.out⟩
 | none =>
  have hLn := hW.non y ha
  have hhas : Maps.has D (.int .i64 (y : Int)) = false := hW.am.miss (y : Int) (fun z e => by
   have : z = y := by omega
   rw [this]; exact ha)
  obtain ⟨w1, hw1⟩ : ∃ w1, w1 = w.alloc (.cells #[.slice none 0 0, .int .i64 0] 214) := ⟨_, rfl⟩
  have b1 : Below w.heap.size w w1 := by rw [hw1]; exact (Below.refl _ _).alloc (Nat.le_refl _) _
  have x0' := (b1.cell (p := ⟨x, 0, none⟩) hxl).trans x0
  have HR := hid (Read_home (h.cut.below b1) h1 hon hl hK y hy hh)
  have hatn : ∀ z, D.atKey (.int .i64 (y : Int)) z = z := fun z => Maps.atKey_of_not_has hhas z
  have B1 := hid b1
  have HL := hid hLn
  have HW1 := hid hw1
  clear h hW ha hLn b1
  rw [hw1] at x0'
  clear hw1
  go_enter Tryz.func246, Tryz.ntmps246
  go_wp2_with (first | (rw [readJ]) | (at_lookup; refine wpList_lookup_own_ok _ rfl _ _ 205 rfl 3 214 law3 Tryz.underlying205 wrElem (zero214 _) .nil [] rfl m n D rfl hm _ _ rfl hkey ?_; intro v ps hv; rw [hatn .nil] at hv; obtain rfl := wrElem_nil hv; clear hv; rw [hhas]))
  rw [← HW1.out]
  refine Calls.mono HR.out ?_
  rintro e w3 ⟨g3, cp3, rfl, hg3, ho3, hib, ⟨Z3, hq3, hG3, hn3⟩, b3⟩
  have FIN : Hid (w.heap.size ≤ g3 ∧ Own w3 g3 512 cp3 ((L y).getD (jread d s y)) ∧ Pl.isB ((L y).getD (jread d s y)) ∧ (∃ Z', Jq Z' w3 j c p room nb (K + 1) fr bl d s ∧ Gr Z Z' w ∧ ¬ Z' g3) ∧ But Z w w3) := by
   rw [HL.out]
   have hs1 := B1.out.size
   exact ⟨by omega, ho3, hib, ⟨Z3, hq3, fun k hk q => (hG3 k (by omega) q).1, hn3⟩, (But.of_below B1.out).comp b3 (fun k _ q => q.1)⟩
  clear hg3 ho3 hib hq3 hG3 hn3 b3 HR hm
  go_wp2
  go_ret2
  exact ⟨g3, cp3, rfl, FIN.out⟩
end Go.Proofs.YtldlejpacgphmabGreat
