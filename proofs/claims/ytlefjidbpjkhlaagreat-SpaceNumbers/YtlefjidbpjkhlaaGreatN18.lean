import Derived.Test.YtlefjidbpjkhlaaGreatN17
import Derived.LaidEqlPtr
namespace Go.Proofs.YtlefjidbpjkhlaaGreat
open Go.RowKit
theorem headAt_le {fr bl : Nat} {zs : List Int} {l q : Nat} (h : headAt fr bl zs = some (l, q)) : l ≤ 1099511627776 ∧ q ≤ 1099511627776 := by
 unfold headAt at h
 cases hu : unZ zs with
 | none => rw [hu] at h; cases h
 | some r =>
  obtain ⟨k, l', body⟩ := r
  rw [hu] at h
  simp only at h
  have hl : l' ≤ 1099511627776 := by
   unfold unZ at hu
   split at hu
   ·cases hu
   ·rename_i q1
    split at hu
    ·cases hu
    ·injection hu with hu
     injection hu with _ hu
     injection hu with hu _
     rw [← hu]
     omega
  split at h
  ·cases hd : hdZ body with
   | none => rw [hd] at h; cases h
   | some t =>
    obtain ⟨f, b, q'⟩ := t
    rw [hd] at h
    simp only at h
    split at h
    ·injection h with h
     injection h with h1 h2
     have hq : q' ≤ 1099511627776 := by
      unfold hdZ at hd
      split at hd
      ·rename_i q1
       injection hd with hd
       injection hd with _ hd
       injection hd with _ hd
       rw [← hd]
       exact q1.2
      ·cases hd
     omega
    ·cases h
  ·cases h
theorem logScan_jn {nb fr bl : Nat} {rd : Nat → List Int} : ∀ (k i : Nat) (found : List Int) (s : Js), Jn nb fr bl s → i + k + 1 ≤ bl → Jn nb fr bl (logScan nb fr bl rd k i found s)
 | 0, _, _, _, h, _ => h
 | k + 1, i, found, s, h, hk => by
  unfold logScan
  cases unZ (rd (fr + 1 + i)) with
  | none => exact h
  | some r =>
   obtain ⟨kd, l, body⟩ := r
   simp only
   split
   ·exact h
   ·split
    ·exact logScan_jn k (i + 1) _ s h (by omega)
    ·split
     ·split
      ·rename_i hok
       have hsq : s.seq < 1099511627776 := by
        unfold okFound at hok
        rw [Bool.and_eq_true, Bool.and_eq_true] at hok
        have := of_decide_eq_true hok.1.2
        omega
       exact logScan_jn k (i + 1) [] _ ⟨h.lo, h.fit, h.nb, h.life, by show s.seq + 1 ≤ _; omega, by show i + 1 + 1 ≤ bl; omega⟩ (by omega)
      ·exact h
     ·exact h
def openS (nb f b : Nat) (d : Pd) (l q : Nat) : Js := logScan nb f b d.read (b - 1) 0 [] ⟨l, q, 0, fun _ => none⟩
def NoOther (f b : Nat) (s : Js) (d : Pd) : Prop := ∀ i, s.used ≤ i → i < b - 1 → otherAt f b s.life d.read i = false
def OpenQ (Z : Nat → Prop) (w : World) (j c p room nb K f b : Nat) (d : Pd) (e : Ending) (w' : World) : Prop :=
 But Z w w' ∧ ((e = .returned (.int .i64 41) ∧ (headAt f b (d.read f) = none ∨ ∃ l q, headAt f b (d.read f) = some (l, q) ∧ ¬ NoOther f b (openS nb f b d l q) d) ∧ ∃ Z' s', Jq Z' w' j c p room nb K f b d s' ∧ Gr Z Z' w) ∨
  (∃ l q, headAt f b (d.read f) = some (l, q) ∧ NoOther f b (openS nb f b d l q) d ∧ Did Z w j c p room nb K f b d (settleCmds nb f b (openS nb f b d l q)) (goS (openS nb f b d l q)) e w'))
theorem open_turn {Z : Nat → Prop} {w w0 : World} {j c p room nb K f b k : Nat} {d : Pd} (h0 : Jq Z w0 j c p room nb K f b d noS) (hb : Below w.heap.size w w0) (l0 : k < w0.heap.size) (k0 : ¬ Z k) (hn : Jn nb f b noS) (hl : d.puts.length + nb + b + 8 ≤ 1073741823) (hon : d.off = false) :
  Turn k (OpenQ Z w j c p room nb K f b d) [((124 : Nat), Value.pointer (some ⟨j, 0, none⟩)), (125, .pointer (some ⟨j, 0, none⟩)), (126, .pointer (some ⟨j, 0, none⟩)), (127, .pointer (some ⟨j, 0, none⟩))] w0 := by
 show Calls _ _ _ _ _
 refine Calls.mono (findHead_any h0 hn (by omega) hon) ?_
 intro e w1 hF
 cases hh : headAt f b (d.read f) with
 | none =>
  rw [hh] at hF
  obtain ⟨rfl, ⟨Z1, s1, hJ1, hG1⟩, b1⟩ := hF
  refine ⟨41, rfl, fun _ => ⟨(But.of_below hb).trans b1, .inl ⟨rfl, .inl hh, Z1, s1, hJ1, fun x hx q => hG1 x (by have := hb.size; omega) q⟩⟩, fun q => absurd q (by decide)⟩
 | some r =>
  obtain ⟨l, q⟩ := r
  rw [hh] at hF
  obtain ⟨rfl, ⟨Z1, hJ1, hG1⟩, b1⟩ := hF
  have hle := headAt_le hh
  have hn1 : Jn nb f b ⟨l, q, 0, fun _ => none⟩ := ⟨hn.lo, hn.fit, hn.nb, hle.1, hle.2, hn.used⟩
  refine ⟨0, rfl, fun q => absurd rfl q, fun _ => ⟨b1.block k l0 k0, ?_⟩⟩
  have k1 : ¬ Z1 k := fun q => k0 (hG1 k l0 q)
  have l1 : k < w1.heap.size := Nat.lt_of_lt_of_le l0 b1.size
  have bt1 : But Z w w1 := (But.of_below hb).trans b1
  have gt1 : Gr Z Z1 w := fun x hx q => hG1 x (by have := hb.size; omega) q
  show Calls _ _ _ _ _
  refine Calls.mono (findLog_any (s := ⟨l, q, 0, fun _ => none⟩) hJ1 hn1 (by omega) hon) ?_
  rintro e w2 ⟨rfl, ⟨Z2, hJ2, hG2⟩, b2⟩
  have hn2 : Jn nb f b (openS nb f b d l q) := logScan_jn (b - 1) 0 [] _ hn1 (by have := hn.lo; omega)
  refine ⟨0, rfl, fun q => absurd rfl q, fun _ => ⟨b2.block k l1 k1, ?_⟩⟩
  have k2 : ¬ Z2 k := fun q => k1 (hG2 k l1 q)
  have l2 : k < w2.heap.size := Nat.lt_of_lt_of_le l1 b2.size
  have bt2 : But Z w w2 := bt1.comp b2 (fun x hx q => gt1 x hx q)
  have gt2 : Gr Z Z2 w := gt1.trans hG2 bt1.size
  show Calls _ _ _ _ _
  refine Calls.mono (findNoOther_any (s := openS nb f b d l q) hJ2 hn2 (by omega) hon) ?_
  rintro e w3 ⟨hno, b3⟩
  rcases hno with ⟨rfl, hno⟩ | ⟨rfl, i, i1, i2, i3⟩
  ·refine ⟨0, rfl, fun q => absurd rfl q, fun _ => ⟨b3.block k l2, ?_⟩⟩
   have hJ3 := hJ2.below b3
   have bt3 : But Z w w3 := bt2.trans (But.of_below b3)
   show Calls _ _ _ _ _
   refine Calls.mono (settle_any (s := openS nb f b d l q) hJ3 hn2 hl) ?_
   intro e w4 hD
   have hD0 := hD.from gt2 bt3
   obtain ⟨he, ⟨Z4, s4, hJ4, hs4, hG4⟩, b4⟩ := hD
   refine ⟨_, he, fun _ => ⟨hD0.2.2, .inr ⟨l, q, hh, hno, hD0⟩⟩, fun hz => ⟨b4.block k (Nat.lt_of_lt_of_le l2 b3.size) k2, ?_⟩⟩
   show OpenQ _ _ _ _ _ _ _ _ _ _ _ _ _
   rw [he, hz] at hD0
   exact ⟨hD0.2.2, .inr ⟨l, q, hh, hno, hD0⟩⟩
  ·refine ⟨41, rfl, fun _ => ⟨bt2.trans (But.of_below b3), .inl ⟨rfl, .inr ⟨l, q, hh, fun r => by rw [r i i1 i2] at i3; cases i3⟩, Z2, _, hJ2.below b3, gt2⟩⟩, fun q => absurd q (by decide)⟩
open Go.RowKit
theorem steps_ready2 (w : World) (vs : Array Value) (fs : List (Nat × Value)) (h : ∀ (i : Nat) (f : Nat × Value), fs[i]? = some f → vs[i]? = some (Value.func (Fn.func f.1) #[f.2] #[])) {w1 : World} (e : w1 = w.alloc (.cells vs 42)) : Below w.heap.size w w1 ∧ w1.heap.size = w.heap.size + 1 ∧ ∀ (i : Nat) (f : Nat × Value), fs[i]? = some f → w1.cell? ⟨w.heap.size, i, none⟩ = some (.func (.func f.1) #[f.2] #[]) := by
 subst e
 exact ⟨(Below.refl _ _).alloc (Nat.le_refl _) _, by simp, fun i f hf => cell_new rfl i _ (h i f hf)⟩
def OpenP (Z : Nat → Prop) (w : World) (c p room nb K : Nat) (d : Pd) (fr bl : Int) (e : Ending) (w' : World) : Prop :=
 But Z w w' ∧ ∃ jv code, e = .returned (.tuple #[.pointer jv, .int .i64 code]) ∧
  ((layC d nb fr bl ≠ 0 ∧ code = layC d nb fr bl ∧ jv = none ∧ ∃ Z', Cq Z' w' c p room nb K d ∧ Gr Z Z' w) ∨
  (layC d nb fr bl = 0 ∧ ∃ f b : Nat, fr = f ∧ bl = b ∧ 16 ≤ b ∧ f + b ≤ nb ∧
   ((code = 41 ∧ jv = none ∧ (headAt f b (d.read f) = none ∨ ∃ l q, headAt f b (d.read f) = some (l, q) ∧ ¬ NoOther f b (openS nb f b d l q) d) ∧ ∃ Z', Cq Z' w' c p room nb K d ∧ Gr Z Z' w) ∨
   (∃ l q, headAt f b (d.read f) = some (l, q) ∧ NoOther f b (openS nb f b d l q) d ∧ code = (d.runs (settleCmds nb f b (openS nb f b d l q))).1 ∧ ∃ Z', Gr Z Z' w ∧
    ((code ≠ 0 ∧ jv = none ∧ Cq Z' w' c p room nb K (d.runs (settleCmds nb f b (openS nb f b d l q))).2) ∨
     (code = 0 ∧ ∃ j, jv = some ⟨j, 0, none⟩ ∧ w.heap.size ≤ j ∧ Jq Z' w' j c p room nb K f b (d.runs (settleCmds nb f b (openS nb f b d l q))).2 (goS (openS nb f b d l q))))))))
set_option maxRecDepth 100000 in
set_option maxHeartbeats 1000000 in
theorem Open_any {Z : Nat → Prop} {w : World} {c p room nb K : Nat} {d : Pd} (h : Cq Z w c p room nb K d) (fr bl : Int) (hl : d.puts.length + nb + nb + 8 ≤ 1073741823) :
  Calls Tryz.prog 70 #[.pointer (some ⟨c, 0, none⟩), .int .i64 fr, .int .i64 bl] w (OpenP Z w c p room nb K d fr bl) := by
 have H := hid (jlay_any h fr bl)
 have HC := hid h
 have hnb := h.fits.2.2
 clear h
 go_enter Tryz.func70, Tryz.ntmps70
 go_wp2_with fail
 refine Calls.mono H.out ?_
 rintro e w2 ⟨jv, rfl, b2, hq⟩
 rcases hq with ⟨hne, rfl⟩ | ⟨hz, j, f, b, rfl, rfl, rfl, q1, q2, q3, Z2, hJ, hG⟩
 ·have FIN : Hid (OpenP Z w c p room nb K d fr bl (.returned (.tuple #[.pointer none, .int .i64 (layC d nb fr bl)])) w2) := ⟨But.of_below b2, none, _, rfl, .inl ⟨hne, rfl, rfl, Z, HC.out.below b2, Gr.refl _ _⟩⟩
  clear b2 H HC hnb hl
  generalize layC d nb fr bl = code at *
  go_wp2
  go_ret2
  exact FIN.out
 ·have hon : d.off = false := by
   unfold layC at hz
   cases ho : d.off
   ·rfl
   ·rw [ho] at hz; simp at hz
  obtain ⟨w3, hw1⟩ : ∃ w3, w3 = (w2.alloc (.cells #[.func (.func 124) #[.pointer (some ⟨j, 0, none⟩)] #[], .func (.func 125) #[.pointer (some ⟨j, 0, none⟩)] #[], .func (.func 126) #[.pointer (some ⟨j, 0, none⟩)] #[], .func (.func 127) #[.pointer (some ⟨j, 0, none⟩)] #[]] 42)) := ⟨_, rfl⟩
  obtain ⟨b1, z1, F1⟩ := steps_ready2 w2 _ [((124 : Nat), Value.pointer (some ⟨j, 0, none⟩)), (125, .pointer (some ⟨j, 0, none⟩)), (126, .pointer (some ⟨j, 0, none⟩)), (127, .pointer (some ⟨j, 0, none⟩))] (fun i f hf => by
    rcases i with _ | _ | _ | _ | i
    ·cases hf; rfl
    ·cases hf; rfl
    ·cases hf; rfl
    ·cases hf; rfl
    ·simp at hf) hw1
  have hn : Jn nb f b noS := ⟨q1, q2, hnb, Nat.zero_le _, Nat.zero_le _, by simp [noS]; omega⟩
  have HT := open_turn (w := w2) (k := w2.heap.size) (hJ.cut.below b1) b1 (by omega) (fun q => by have := q.2; omega) hn (by omega) hon
  have HI := hid (inTurn_any (k := w2.heap.size) _ (by simp) (fun i g hg => by
   have := List.mem_of_getElem? hg
   simp at this
   rcases this with rfl | rfl | rfl | rfl <;> simp) w3 F1 HT)
  have hs := b2.size
  have HF : Hid (∀ e w4, OpenQ (fun k => Z2 k ∧ k < w2.heap.size) w2 j c p room nb K f b d e w4 → ∃ code, e = .returned (.int .i64 code) ∧ (code ≠ 0 → OpenP Z w c p room nb K d (f : Int) (b : Int) (.returned (.tuple #[.pointer none, .int .i64 code])) w4) ∧ (code = 0 → OpenP Z w c p room nb K d (f : Int) (b : Int) (.returned (.tuple #[.pointer (some ⟨j, 0, none⟩), .int .i64 0])) w4)) := fun e w4 q => by
   obtain ⟨bq, hc⟩ := q
   have bw : But Z w w4 := (But.of_below b2).comp bq (fun k hk r => hG k hk r.1)
   rcases hc with ⟨rfl, hno, Z4, s4, hJ4, hG4⟩ | ⟨l, q, hh, hno, hD⟩
   ·exact ⟨41, rfl, fun _ => ⟨bw, none, 41, rfl, .inr ⟨hz, f, b, rfl, rfl, q1, q2, .inl ⟨rfl, rfl, hno, Z4, hJ4.toCq, fun k hk r => hG k hk (hG4 k (by omega) r).1⟩⟩⟩, fun r => absurd r (by decide)⟩
   ·obtain ⟨he, ⟨Z4, s4, hJ4, hs4, hG4⟩, b4⟩ := hD
    have hg : Gr Z Z4 w := fun k hk r => hG k hk (hG4 k (by omega) r).1
    refine ⟨_, he, fun hc => ⟨bw, none, _, rfl, .inr ⟨hz, f, b, rfl, rfl, q1, q2, .inr ⟨l, q, hh, hno, rfl, Z4, hg, .inl ⟨hc, rfl, hJ4.toCq⟩⟩⟩⟩, fun hc => ⟨bw, some ⟨j, 0, none⟩, 0, rfl, .inr ⟨hz, f, b, rfl, rfl, q1, q2, .inr ⟨l, q, hh, hno, hc.symm, Z4, hg, .inr ⟨rfl, j, rfl, q3, ?_⟩⟩⟩⟩⟩
    rw [hs4 hc] at hJ4
    exact hJ4
  clear HT hJ hG b2 H HC hnb hl F1 z1 b1 hn q1 q2 q3 hs hon
  rw [hz]
  have HW1 := hid hw1
  clear hw1 hz
  go_wp2_with fail
  rw [← HW1.out]
  refine Calls.mono HI.out ?_
  intro e w4 hQ
  obtain ⟨code, rfl, r1, r2⟩ := HF.out e w4 hQ
  by_cases hc : code = 0
  ·have FIN := hid (r2 hc)
   clear r1 r2 hQ HI HF HW1
   subst hc
   go_wp2
   go_ret2
   exact FIN.out
  ·have FIN := hid (r1 hc)
   clear r1 r2 hQ HI HF HW1
   go_wp2
   go_ret2
   exact FIN.out
open Go.RowKit
theorem Jq.ask {Z : Nat → Prop} {w : World} {j c p room nb K fr bl : Nat} {d : Pd} {s : Js} (h : Jq Z w j c p room nb K fr bl d s) : Calls Tryz.prog 76 #[.pointer (some ⟨j, 0, none⟩)] w fun e w' => e = .returned (.int .i64 (if d.off then 24 else 0)) ∧ Below w.heap.size w w' := by
 obtain ⟨mv, hJ, _⟩ := h.cells
 obtain ⟨hD, c0, _⟩ := h.dk
 exact jask_any hJ c0 hD
theorem Seq_any {Z : Nat → Prop} {w : World} {j c p room nb K fr bl : Nat} {d : Pd} {s : Js} (h : Jq Z w j c p room nb K fr bl d s) : Calls Tryz.prog 128 #[.pointer (some ⟨j, 0, none⟩)] w fun e w' => e = .returned (.tuple #[.int .i64 (if d.off then 0 else (s.seq : Int)), .int .i64 (if d.off then 24 else 0)]) ∧ Below w.heap.size w w' := by
 have H := hid h.ask
 have HJ := hid h
 clear h
 cases ho : d.off
 ·rw [ho] at H
  go_enter Tryz.func128, Tryz.ntmps128
  go_wp2_with fail
  refine Calls.mono H.out ?_
  rintro e w1 ⟨rfl, b1⟩
  obtain ⟨mv, hJb, _⟩ := (HJ.out.below b1).cells
  have c4 := hJb.cell 4
  simp at c4
  have B1 := hid b1
  clear b1 H HJ hJb
  go_wp2
  go_ret2
  exact ⟨rfl, B1.out⟩
 ·rw [ho] at H
  go_enter Tryz.func128, Tryz.ntmps128
  go_wp2_with fail
  refine Calls.mono H.out ?_
  rintro e w1 ⟨rfl, b1⟩
  have B1 := hid b1
  clear b1 H HJ
  go_wp2
  go_ret2
  exact ⟨rfl, B1.out⟩
open Go.RowKit
def jread (d : Pd) (s : Js) (x : Nat) : List Int := (s.ah x).getD (d.read x)
theorem Jq.checkHome {Z : Nat → Prop} {w : World} {j c p room nb K fr bl : Nat} {d : Pd} {s : Js} (h : Jq Z w j c p room nb K fr bl d s) (h1 : fr + bl ≤ nb) (at_ : Int) : Calls Tryz.prog 134 #[.pointer (some ⟨j, 0, none⟩), .int .i64 at_] w fun e w' => e = .returned (.int .i64 (homeC nb fr bl at_)) ∧ Below w.heap.size w w' := by
 have hnb := h.fits.2.2
 obtain ⟨mv, hJ, _⟩ := h.cells
 obtain ⟨hD, c0, hcl⟩ := h.dk
 exact jcheckHome_any hJ c0 hD (by omega) (by omega) (by omega) (by omega) at_
theorem Read_far {Z : Nat → Prop} {w : World} {j c p room nb K fr bl : Nat} {d : Pd} {s : Js} (h : Jq Z w j c p room nb K fr bl d s) (h1 : fr + bl ≤ nb) (hon : d.off = false) (at_ : Int) (hh : homeC nb fr bl at_ ≠ 0) : Calls Tryz.prog 259 #[.pointer (some ⟨j, 0, none⟩), .int .i64 at_] w fun e w' => e = .returned (.tuple #[.slice none 0 0, .int .i64 (homeC nb fr bl at_)]) ∧ Below w.heap.size w w' := by
 have H := hid h.ask
 rw [hon] at H
 have HC : Hid (∀ w1, Below w.heap.size w w1 → Calls Tryz.prog 134 #[.pointer (some ⟨j, 0, none⟩), .int .i64 at_] w1 fun e w' => e = .returned (.int .i64 (homeC nb fr bl at_)) ∧ Below w1.heap.size w1 w') := fun w1 b1 => (h.below b1).checkHome h1 at_
 clear h hon h1
 generalize homeC nb fr bl at_ = hc at *
 go_enter Tryz.func259, Tryz.ntmps259
 go_wp2_with fail
 refine Calls.mono H.out ?_
 rintro e w1 ⟨rfl, b1⟩
 have HC1 := hid (HC.out w1 b1)
 have B1 := hid b1
 clear b1 H HC
 go_wp2_with fail
 refine Calls.mono HC1.out ?_
 rintro e w2 ⟨rfl, b2⟩
 have B2 := hid (B1.out.trans (b2.mono B1.out.size))
 clear b2 HC1 B1
 go_wp2
 go_ret2
 exact ⟨rfl, B2.out⟩
set_option maxRecDepth 100000 in
set_option maxHeartbeats 1000000 in
theorem Read_home {Z : Nat → Prop} {w : World} {j c p room nb K fr bl : Nat} {d : Pd} {s : Js} (h : Jq Z w j c p room nb K fr bl d s) (h1 : fr + bl ≤ nb) (hon : d.off = false) (hl : d.puts.length ≤ 1073741824) (hK : K < 4611686018427387904) (x : Nat) (hx : x < nb) (hh : homeC nb fr bl (x : Int) = 0) :
  Calls Tryz.prog 259 #[.pointer (some ⟨j, 0, none⟩), .int .i64 (x : Int)] w fun e w' => ∃ g cp, e = .returned (.tuple #[.slice (some ⟨g, 0, none⟩) 512 cp, .int .i64 0]) ∧ w.heap.size ≤ g ∧ Own w' g 512 cp (jread d s x) ∧ Pl.isB (jread d s x) ∧ (∃ Z', Jq Z' w' j c p room nb (K + 1) fr bl d s ∧ Gr Z Z' w ∧ ¬ Z' g) ∧ But Z w w' := by
 have H := hid h.ask
 rw [hon] at H
 have hnb := h.fits.2.2
 have HC : Hid (∀ w1, Below w.heap.size w w1 → Calls Tryz.prog 134 #[.pointer (some ⟨j, 0, none⟩), .int .i64 (x : Int)] w1 fun e w' => e = .returned (.int .i64 0) ∧ Below w1.heap.size w1 w') := fun w1 b1 => by
  have := (h.below b1).checkHome h1 (x : Int)
  rwa [hh] at this
 have hkey := keyOf3 (wf_small (x := (x : Int)) (by omega) (by omega))
 have HJ := hid (And.intro h (And.intro hon (And.intro hl hK)))
 clear h hon h1 hh hl hK
 go_enter Tryz.func259, Tryz.ntmps259
 go_wp2_with fail
 refine Calls.mono H.out ?_
 rintro e w1 ⟨rfl, b1⟩
 have HC1 := hid (HC.out w1 b1)
 have B1 := hid b1
 clear b1 H HC
 go_wp2_with fail
 refine Calls.mono HC1.out ?_
 rintro e w2 ⟨rfl, b2⟩
 have B2 := hid (B1.out.trans (b2.mono B1.out.size))
 clear b2 HC1 B1
 obtain ⟨Zc, m, n, D, a, hW⟩ := (HJ.out.1.cut.below B2.out)
 have j6 := hW.jb.cell 6
 have j0 := hW.jb.cell 0
 simp at j6 j0
 have hm := hW.mp
 have hs2 := B2.out.size
 cases ha : a x with
 | some r =>
  obtain ⟨g, cp⟩ := r
  obtain ⟨zs, e1, e2, e3, e4, e5, e6⟩ := hW.dat x g cp ha
  have hhas := (hW.am.hit x (g, cp) ha).1
  have hatk := (hW.am.hit x (g, cp) ha).2
  have HCl := hid (Clone_any ⟨g, 0, none⟩ 512 cp zs w2 (by omega) (e2.rd e3))
  have HW := hid hW
  have hjr : Hid (jread d s x = zs) := by unfold jread; rw [e1]; rfl
  have HZ3 := hid e3
  clear hW e1 e2 e3 e4 e5 e6 ha
  go_wp2_with (at_lookup; refine wpList_lookup_own_ok _ rfl _ _ 149 rfl 3 65 law3 Tryz.underlying149 slElem (zero22 _) .nil [] rfl m n D rfl hm _ _ rfl hkey ?_; intro v ps hv; rw [hatk .nil] at hv; obtain rfl := slElem_inv hv; clear hv; rw [hhas])
  refine Calls.mono HCl.out ?_
  rintro e w3 ⟨g3, cp3, rfl, hg3, ho3, b3⟩
  have FIN : Hid (w.heap.size ≤ g3 ∧ Own w3 g3 512 cp3 (jread d s x) ∧ Pl.isB (jread d s x) ∧ (∃ Z', Jq Z' w3 j c p room nb (K + 1) fr bl d s ∧ Gr Z Z' w ∧ ¬ Z' g3) ∧ But Z w w3) := by
   rw [hjr.out]
   have hJ3 : Jq (fun k => Z k ∧ k < w.heap.size) w3 j c p room nb K fr bl d s := Jq.below ⟨Zc, m, n, D, a, HW.out⟩ b3
   exact ⟨by omega, ho3, HZ3.out, ⟨_, hJ3.mono (fun _ q => q) (by omega), fun k _ q => q.1, fun q => by have := q.2; omega⟩, But.of_below (B2.out.trans (b3.mono B2.out.size))⟩
  clear hg3 ho3 b3 HCl HW hm j6 j0
  go_wp2
  go_ret2
  exact ⟨g3, cp3, rfl, FIN.out⟩
 | none =>
  have hahn := hW.non x ha
  have hhas : Maps.has D (.int .i64 (x : Int)) = false := hW.am.miss (x : Int) (fun y e => by
   have : y = x := by omega
   rw [this]; exact ha)
  have hjr : Hid (jread d s x = d.read x) := by unfold jread; rw [hahn]; rfl
  have HR := hid (hW.cq.cread HJ.out.2.2.1 HJ.out.2.2.2 HJ.out.2.1 x hx)
  have hib := hid (Pd.read_len hW.cq x hx).2
  have HW := hid hW
  clear hW ha hahn
  go_wp2_with (at_lookup; refine wpList_lookup_own_ok _ rfl _ _ 149 rfl 3 65 law3 Tryz.underlying149 slElem (zero22 _) .nil [] rfl m n D rfl hm _ _ rfl hkey ?_; intro v ps hv; clear hv; rw [hhas])
  refine Calls.mono HR.out ?_
  rintro e w3 ⟨g3, cp3, rfl, hg3, ho3, ⟨Zc3, hq3, hG3, hn3⟩, b3⟩
  have FIN : Hid (w.heap.size ≤ g3 ∧ Own w3 g3 512 cp3 (jread d s x) ∧ Pl.isB (jread d s x) ∧ (∃ Z', Jq Z' w3 j c p room nb (K + 1) fr bl d s ∧ Gr Z Z' w ∧ ¬ Z' g3) ∧ But Z w w3) := by
   rw [hjr.out]
   refine ⟨by omega, ho3, hib.out, ⟨_, ⟨Zc3, m, n, D, a, HW.out.turn hq3 hG3 b3⟩, fun k hk q => ?_, fun q => ?_⟩, (But.of_below B2.out).comp b3 (fun k _ q => (HW.out.sub k q).1)⟩
   ·rcases q with q | q
    ·exact q.1.1
    ·exact (HW.out.sub k (hG3 k (by omega) q)).1
   ·rcases q with q | q
    ·have := q.2; omega
    ·exact hn3 q
  clear hg3 ho3 b3 HR HW hm j6 j0 hq3 hG3 hn3
  go_wp2
  go_ret2
  exact ⟨g3, cp3, rfl, FIN.out⟩
open Go.RowKit Go.Deep
def Stb (w : World) (st j : Nat) (tv : Value) : Prop := w.heap[st]? = some (.cells #[.pointer (some ⟨j, 0, none⟩), .iface 76 (.pointer (some ⟨j, 0, none⟩)), tv] 82 (0, 0))
theorem Stb.lt {w : World} {st j : Nat} {tv : Value} (h : Stb w st j tv) : st < w.heap.size := (Array.getElem?_eq_some_iff.1 h).1
theorem Stb.cell {w : World} {st j : Nat} {tv : Value} (h : Stb w st j tv) (t : Nat) : w.cell? ⟨st, t, none⟩ = #[.pointer (some ⟨j, 0, none⟩), .iface 76 (.pointer (some ⟨j, 0, none⟩)), tv][t]? := by
 unfold Stb at h
 simp [World.cell?, h]
theorem Stb.frozen {w : World} {st j : Nat} {tv : Value} (h : Stb w st j tv) (t : Nat) : w.frozen? ⟨st, t, none⟩ = false := by
 unfold Stb at h
 simp [World.frozen?, h]
theorem Stb.keep {w w' : World} {st j : Nat} {tv : Value} (h : Stb w st j tv) (hk : w'.heap[st]? = w.heap[st]?) : Stb w' st j tv := hk.trans h
theorem Stb.set {w : World} {st j : Nat} {tv : Value} (h : Stb w st j tv) (v : Value) : Stb (w.setCell ⟨st, 2, none⟩ v) st j v := by
 unfold Stb at *
 simp only [World.setCell, Array.getElem?_modify]
 rw [h]
 simp
def Txb (w : World) (t j : Nat) (fv : Value) (st : Nat) (wv : Value) : Prop := w.heap[t]? = some (.cells #[.pointer (some ⟨j, 0, none⟩), fv, .pointer (some ⟨st, 0, none⟩), wv] 86 (0, 0))
theorem Txb.lt {w : World} {t j : Nat} {fv : Value} {st : Nat} {wv : Value} (h : Txb w t j fv st wv) : t < w.heap.size := (Array.getElem?_eq_some_iff.1 h).1
theorem Txb.cell {w : World} {t j : Nat} {fv : Value} {st : Nat} {wv : Value} (h : Txb w t j fv st wv) (i : Nat) : w.cell? ⟨t, i, none⟩ = #[.pointer (some ⟨j, 0, none⟩), fv, .pointer (some ⟨st, 0, none⟩), wv][i]? := by
 unfold Txb at h
 simp [World.cell?, h]
theorem Txb.frozen {w : World} {t j : Nat} {fv : Value} {st : Nat} {wv : Value} (h : Txb w t j fv st wv) (i : Nat) : w.frozen? ⟨t, i, none⟩ = false := by
 unfold Txb at h
 simp [World.frozen?, h]
theorem Txb.keep {w w' : World} {t j : Nat} {fv : Value} {st : Nat} {wv : Value} (h : Txb w t j fv st wv) (hk : w'.heap[t]? = w.heap[t]?) : Txb w' t j fv st wv := hk.trans h
theorem info146 : (Tryz.prog.info? 86).map (fun i => i.size) = some 4 := by kernel_rfl
theorem neq_tsame (w : World) (a : Addr) : (binOp .neq 30 (.pointer (some a)) (.pointer (some a))).run Tryz.prog w = .ok (.bool false) w := by
 obtain ⟨j, hj, _⟩ := Option.map_eq_some_iff.1 info146
 have h : ∀ d : Nat, (Op.equalIn (d + 1) 30 (.pointer (some a)) (.pointer (some a))).run Tryz.prog w = .ok true w := fun d => by
  simp [Op.equalIn, run_underlying Tryz.underlying30, sizeOf, typeInfo, hj, run_sameAddr_same]
 simp only [binOp]
 simp [Op.equal, Op.maxDepth, h 9999]
theorem neq_tother {w : World} {x y : Nat} (hne : x ≠ y) {a b : Array Value} {p q : TypeId} (hx : w.heap[x]? = some (.cells a p (0, 0))) (hy : w.heap[y]? = some (.cells b q (0, 0))) : (binOp .neq 30 (.pointer (some ⟨x, 0, none⟩)) (.pointer (some ⟨y, 0, none⟩))).run Tryz.prog w = .ok (.bool true) w := by
 obtain ⟨j, hj, hs⟩ := Option.map_eq_some_iff.1 info146
 have hsz : j.size ≠ 0 := by rw [hs]; decide
 have hne' : (⟨x, 0, none⟩ : Addr) ≠ ⟨y, 0, none⟩ := fun q => hne (by injection q)
 have h : ∀ d : Nat, (Op.equalIn (d + 1) 30 (.pointer (some ⟨x, 0, none⟩)) (.pointer (some ⟨y, 0, none⟩))).run Tryz.prog w = .ok false w := fun d => by
  simp [Op.equalIn, run_underlying Tryz.underlying30, sizeOf, typeInfo, hj, hsz, run_sameAddr_other w hne' hx hy]
 simp only [binOp]
 simp [Op.equal, Op.maxDepth, h 9999]
theorem power_any {Z : Nat → Prop} {w : World} {j c p room nb K fr bl : Nat} {d : Pd} {s : Js} (h : Jq Z w j c p room nb K fr bl d s) {b : Nat} (hc : w.cell? ⟨b, 0, none⟩ = some (.pointer (some ⟨j, 0, none⟩))) : Calls Tryz.prog 72 #[.pointer (some ⟨b, 0, none⟩)] w fun e w' => e = .returned (.int .i64 (if d.off then 24 else 0)) ∧ Below w.heap.size w w' := by
 have H := hid (Seq_any h)
 clear h
 generalize (if d.off then (24 : Int) else 0) = code at *
 generalize (if d.off then (0 : Int) else (s.seq : Int)) = sq at *
 go_enter Tryz.func72, Tryz.ntmps72
 go_wp2_with fail
 refine Calls.mono H.out ?_
 rintro e w1 ⟨rfl, b1⟩
 have B1 := hid b1
 clear b1 H
 go_wp2
 go_ret
 exact ⟨rfl, B1.out⟩
theorem sask_any {Z : Nat → Prop} {w : World} {j c p room nb K fr bl : Nat} {d : Pd} {s : Js} (h : Jq Z w j c p room nb K fr bl d s) {st : Nat} {tv : Value} (hs : Stb w st j tv) : Calls Tryz.prog 37 #[.pointer (some ⟨st, 0, none⟩)] w fun e w' => e = .returned (.int .i64 (if d.off then 24 else 0)) ∧ Below w.heap.size w w' := by
 have H := hid (power_any h (hs.cell 0))
 clear h hs
 generalize (if d.off then (24 : Int) else 0) = code at *
 go_enter Tryz.func37, Tryz.ntmps37
 go_wp2_with fail
 refine Calls.mono H.out ?_
 rintro e w1 ⟨rfl, b1⟩
 have B1 := hid b1
 clear b1 H
 go_wp2
 go_ret
 exact ⟨rfl, B1.out⟩
theorem task_open {Z : Nat → Prop} {w : World} {j c p room nb K fr bl : Nat} {d : Pd} {s : Js} (h : Jq Z w j c p room nb K fr bl d s) (hon : d.off = false) {t st : Nat} {fv wv : Value} (ht : Txb w t j fv st wv) (hs : Stb w st j (.pointer (some ⟨t, 0, none⟩))) : Calls Tryz.prog 40 #[.pointer (some ⟨t, 0, none⟩)] w fun e w' => e = .returned (.int .i64 0) ∧ Below w.heap.size w w' := by
 have H := hid (power_any h (ht.cell 0))
 rw [hon] at H
 have HC : Hid (∀ w', Below w.heap.size w w' → w'.cell? ⟨t, 2, none⟩ = some (.pointer (some ⟨st, 0, none⟩)) ∧ w'.cell? ⟨st, 2, none⟩ = some (.pointer (some ⟨t, 0, none⟩))) := fun w' b => ⟨(b.cell (p := ⟨t, 2, none⟩) ht.lt).trans (ht.cell 2), (b.cell (p := ⟨st, 2, none⟩) hs.lt).trans (hs.cell 2)⟩
 clear h ht hs
 go_enter Tryz.func40, Tryz.ntmps40
 go_wp2_with fail
 refine Calls.mono H.out ?_
 rintro e w1 ⟨rfl, b1⟩
 obtain ⟨c2, c3⟩ := HC.out w1 b1
 have hq := neq_tsame w1 ⟨t, 0, none⟩
 have B1 := hid b1
 clear b1 H HC
 go_wp2
 go_ret
 exact ⟨rfl, B1.out⟩
end Go.Proofs.YtlefjidbpjkhlaaGreat
