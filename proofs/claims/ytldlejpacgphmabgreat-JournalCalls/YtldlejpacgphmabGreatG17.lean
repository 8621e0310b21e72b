import Derived.Test.YtldlejpacgphmabGreatG16
namespace Go.Proofs.YtldlejpacgphmabGreat
open Go.RowKit
theorem headAt_le {fr bl : Nat} {zs : List Int} {l q : Nat} (h : headAt fr bl zs = some (l, q)) : l ≤ 1099511627776 ∧ q ≤ 1099511627776 := by
 unfold headAt at h
 cases hu : unZ zs with
 | none => rw [hu] at h; cases h
 | some r =>
  obtain ⟨k, l', body⟩ := r
  rw [hu] at h
  simp only at h
  have hl : l' ≤ 1099511627776 := by
   unfold unZ at hu
   split at hu
   ·cases hu
   ·rename_i q1
    split at hu
    ·cases hu
    ·injection hu with hu
     injection hu with _ hu
     injection hu with hu _
     rw [← hu]
     omega
  split at h
  ·cases hd : hdZ body with
   | none => rw [hd] at h; cases h
   | some t =>
    obtain ⟨f, b, q'⟩ := t
    rw [hd] at h
    simp only at h
    split at h
    ·injection h with h
     injection h with h1 h2
     have hq : q' ≤ 1099511627776 := by
      unfold hdZ at hd
      split at hd
      ·rename_i q1
       injection hd with hd
       injection hd with _ hd
       injection hd with _ hd
       rw [← hd]
       exact q1.2
      ·cases hd
     omega
    ·cases h
  ·cases h
theorem logScan_jn {nb fr bl : Nat} {rd : Nat → List Int} : ∀ (k i : Nat) (found : List Int) (s : Js), Jn nb fr bl s → i + k + 1 ≤ bl → Jn nb fr bl (logScan nb fr bl rd k i found s)
 | 0, _, _, _, h, _ => h
 | k + 1, i, found, s, h, hk => by
  unfold logScan
  cases unZ (rd (fr + 1 + i)) with
  | none => exact h
  | some r =>
   obtain ⟨kd, l, body⟩ := r
   simp only
   split
   ·exact h
   ·split
    ·exact logScan_jn k (i + 1) _ s h (by omega)
    ·split
     ·split
      ·rename_i hok
       have hsq : s.seq < 1099511627776 := by
        unfold okFound at hok
        rw [Bool.and_eq_true, Bool.and_eq_true] at hok
        have := of_decide_eq_true hok.1.2
        omega
       exact logScan_jn k (i + 1) [] _ ⟨h.lo, h.fit, h.nb, h.life, by show s.seq + 1 ≤ _; omega, by show i + 1 + 1 ≤ bl; omega⟩ (by omega)
      ·exact h
     ·exact h
def openS (nb f b : Nat) (d : Pd) (l q : Nat) : Js := logScan nb f b d.read (b - 1) 0 [] ⟨l, q, 0, fun _ => none⟩
def NoOther (f b : Nat) (s : Js) (d : Pd) : Prop := ∀ i, s.used ≤ i → i < b - 1 → otherAt f b s.life d.read i = false
def OpenQ (Z : Nat → Prop) (w : World) (j c p room nb K f b : Nat) (d : Pd) (e : Ending) (w' : World) : Prop :=
 But Z w w' ∧ ((e = .returned (.int .i64 41) ∧ (headAt f b (d.read f) = none ∨ ∃ l q, headAt f b (d.read f) = some (l, q) ∧ ¬ NoOther f b (openS nb f b d l q) d) ∧ ∃ Z' s', Jq Z' w' j c p room nb K f b d s' ∧ Gr Z Z' w) ∨
  (∃ l q, headAt f b (d.read f) = some (l, q) ∧ NoOther f b (openS nb f b d l q) d ∧ Did Z w j c p room nb K f b d (settleCmds nb f b (openS nb f b d l q)) (goS (openS nb f b d l q)) e w'))
theorem open_turn {Z : Nat → Prop} {w w0 : World} {j c p room nb K f b k : Nat} {d : Pd} (h0 : Jq Z w0 j c p room nb K f b d noS) (hb : Below w.heap.size w w0) (l0 : k < w0.heap.size) (k0 : ¬ Z k) (hn : Jn nb f b noS) (hl : d.puts.length + nb + b + 8 ≤ 1073741823) (hon : d.off = false) :
  Turn k (OpenQ Z w j c p room nb K f b d) [((70 : Nat), Value.pointer (some ⟨j, 0, none⟩)), (71, .pointer (some ⟨j, 0, none⟩)), (72, .pointer (some ⟨j, 0, none⟩)), (67, .pointer (some ⟨j, 0, none⟩))] w0 := by
 show Calls _ _ _ _ _
 refine Calls.mono (findHead_any h0 hn (by omega) hon) ?_
 intro e w1 hF
 cases hh : headAt f b (d.read f) with
 | none =>
  rw [hh] at hF
  obtain ⟨rfl, ⟨Z1, s1, hJ1, hG1⟩, b1⟩ := hF
  refine ⟨41, rfl, fun _ => ⟨(But.of_below hb).trans b1, .inl ⟨rfl, .inl hh, Z1, s1, hJ1, fun x hx q => hG1 x (by have := hb.size; omega) q⟩⟩, fun q => absurd q (by decide)⟩
 | some r =>
  obtain ⟨l, q⟩ := r
  rw [hh] at hF
  obtain ⟨rfl, ⟨Z1, hJ1, hG1⟩, b1⟩ := hF
  have hle := headAt_le hh
  have hn1 : Jn nb f b ⟨l, q, 0, fun _ => none⟩ := ⟨hn.lo, hn.fit, hn.nb, hle.1, hle.2, hn.used⟩
  refine ⟨0, rfl, fun q => absurd rfl q, fun _ => ⟨b1.block k l0 k0, ?_⟩⟩
  have k1 : ¬ Z1 k := fun q => k0 (hG1 k l0 q)
  have l1 : k < w1.heap.size := Nat.lt_of_lt_of_le l0 b1.size
  have bt1 : But Z w w1 := (But.of_below hb).trans b1
  have gt1 : Gr Z Z1 w := fun x hx q => hG1 x (by have := hb.size; omega) q
  show Calls _ _ _ _ _
  refine Calls.mono (findLog_any (s := ⟨l, q, 0, fun _ => none⟩) hJ1 hn1 (by omega) hon) ?_
  rintro e w2 ⟨rfl, ⟨Z2, hJ2, hG2⟩, b2⟩
  have hn2 : Jn nb f b (openS nb f b d l q) := logScan_jn (b - 1) 0 [] _ hn1 (by have := hn.lo; omega)
  refine ⟨0, rfl, fun q => absurd rfl q, fun _ => ⟨b2.block k l1 k1, ?_⟩⟩
  have k2 : ¬ Z2 k := fun q => k1 (hG2 k l1 q)
  have l2 : k < w2.heap.size := Nat.lt_of_lt_of_le l1 b2.size
  have bt2 : But Z w w2 := bt1.comp b2 (fun x hx q => gt1 x hx q)
  have gt2 : Gr Z Z2 w := gt1.trans hG2 bt1.size
  show Calls _ _ _ _ _
  refine Calls.mono (findNoOther_any (s := openS nb f b d l q) hJ2 hn2 (by omega) hon) ?_
  rintro e w3 ⟨hno, b3⟩
  rcases hno with ⟨rfl, hno⟩ | ⟨rfl, i, i1, i2, i3⟩
  ·refine ⟨0, rfl, fun q => absurd rfl q, fun _ => ⟨b3.block k l2, ?_⟩⟩
   have hJ3 := hJ2.below b3
   have bt3 : But Z w w3 := bt2.trans (But.of_below b3)
   show Calls _ _ _ _ _
   refine Calls.mono (settle_any (s := openS nb f b d l q) hJ3 hn2 hl) ?_
   intro e w4 hD
   have hD0 := hD.from gt2 bt3
   obtain ⟨he, ⟨Z4, s4, hJ4, hs4, hG4⟩, b4⟩ := hD
   refine ⟨_, he, fun _ => ⟨hD0.2.2, .inr ⟨l, q, hh, hno, hD0⟩⟩, fun hz => ⟨b4.block k (Nat.lt_of_lt_of_le l2 b3.size) k2, ?_⟩⟩
   show OpenQ _ _ _ _ _ _ _ _ _ _ _ _ _
   rw [he, hz] at hD0
   exact ⟨hD0.2.2, .inr ⟨l, q, hh, hno, hD0⟩⟩
  ·refine ⟨41, rfl, fun _ => ⟨bt2.trans (But.of_below b3), .inl ⟨rfl, .inr ⟨l, q, hh, fun r => by rw [r i i1 i2] at i3; cases i3⟩, Z2, _, hJ2.below b3, gt2⟩⟩, fun q => absurd q (by decide)⟩
open Go.RowKit
theorem steps_ready2 (w : World) (vs : Array Value) (fs : List (Nat × Value)) (h : ∀ (i : Nat) (f : Nat × Value), fs[i]? = some f → vs[i]? = some (Value.func (Fn.func f.1) #[f.2] #[])) {w1 : World} (e : w1 = w.alloc (.cells vs 57)) : Below w.heap.size w w1 ∧ w1.heap.size = w.heap.size + 1 ∧ ∀ (i : Nat) (f : Nat × Value), fs[i]? = some f → w1.cell? ⟨w.heap.size, i, none⟩ = some (.func (.func f.1) #[f.2] #[]) := by
 subst e
 exact ⟨(Below.refl _ _).alloc (Nat.le_refl _) _, by simp, fun i f hf => cell_new rfl i _ (h i f hf)⟩
def OpenP (Z : Nat → Prop) (w : World) (c p room nb K : Nat) (d : Pd) (fr bl : Int) (e : Ending) (w' : World) : Prop :=
 But Z w w' ∧ ∃ jv code, e = .returned (.tuple #[.pointer jv, .int .i64 code]) ∧
  ((layC d nb fr bl ≠ 0 ∧ code = layC d nb fr bl ∧ jv = none ∧ ∃ Z', Cq Z' w' c p room nb K d ∧ Gr Z Z' w) ∨
  (layC d nb fr bl = 0 ∧ ∃ f b : Nat, fr = f ∧ bl = b ∧ 16 ≤ b ∧ f + b ≤ nb ∧
   ((code = 41 ∧ jv = none ∧ (headAt f b (d.read f) = none ∨ ∃ l q, headAt f b (d.read f) = some (l, q) ∧ ¬ NoOther f b (openS nb f b d l q) d) ∧ ∃ Z', Cq Z' w' c p room nb K d ∧ Gr Z Z' w) ∨
   (∃ l q, headAt f b (d.read f) = some (l, q) ∧ NoOther f b (openS nb f b d l q) d ∧ code = (d.runs (settleCmds nb f b (openS nb f b d l q))).1 ∧ ∃ Z', Gr Z Z' w ∧
    ((code ≠ 0 ∧ jv = none ∧ Cq Z' w' c p room nb K (d.runs (settleCmds nb f b (openS nb f b d l q))).2) ∨
     (code = 0 ∧ ∃ j, jv = some ⟨j, 0, none⟩ ∧ w.heap.size ≤ j ∧ Jq Z' w' j c p room nb K f b (d.runs (settleCmds nb f b (openS nb f b d l q))).2 (goS (openS nb f b d l q))))))))
set_option maxRecDepth 100000 in
set_option maxHeartbeats 1000000 in
theorem Open_any {Z : Nat → Prop} {w : World} {c p room nb K : Nat} {d : Pd} (h : Cq Z w c p room nb K d) (fr bl : Int) (hl : d.puts.length + nb + nb + 8 ≤ 1073741823) :
  Calls Tryz.prog 20 #[.pointer (some ⟨c, 0, none⟩), .int .i64 fr, .int .i64 bl] w (OpenP Z w c p room nb K d fr bl) := by
 have H := hid (jlay_any h fr bl)
 have HC := hid h
 have hnb := h.fits.2.2
 clear h
 go_enter Tryz.func20, Tryz.ntmps20
 go_wp2_with fail
 refine Calls.mono H.out ?_
 rintro e w2 ⟨jv, rfl, b2, hq⟩
 rcases hq with ⟨hne, rfl⟩ | ⟨hz, j, f, b, rfl, rfl, rfl, q1, q2, q3, Z2, hJ, hG⟩
 ·have FIN : Hid (OpenP Z w c p room nb K d fr bl (.returned (.tuple #[.pointer none, .int .i64 (layC d nb fr bl)])) w2) := ⟨But.of_below b2, none, _, rfl, .inl ⟨hne, rfl, rfl, Z, HC.out.below b2, Gr.refl _ _⟩⟩
  clear b2 H HC hnb hl
  generalize layC d nb fr bl = code at *
  go_wp2
  go_ret2
  exact FIN.out
 ·have hon : d.off = false := by
   unfold layC at hz
   cases ho : d.off
   ·rfl
   ·rw [ho] at hz; simp at hz
  obtain ⟨w3, hw1⟩ : ∃ w3, w3 = (w2.alloc (.cells #[.func (.func 70) #[.pointer (some ⟨j, 0, none⟩)] #[], .func (.func 71) #[.pointer (some ⟨j, 0, none⟩)] #[], .func (.func 72) #[.pointer (some ⟨j, 0, none⟩)] #[], .func (.func 67) #[.pointer (some ⟨j, 0, none⟩)] #[]] 57)) := ⟨_, rfl⟩
  obtain ⟨b1, z1, F1⟩ := steps_ready2 w2 _ [((70 : Nat), Value.pointer (some ⟨j, 0, none⟩)), (71, .pointer (some ⟨j, 0, none⟩)), (72, .pointer (some ⟨j, 0, none⟩)), (67, .pointer (some ⟨j, 0, none⟩))] (fun i f hf => by
    rcases i with _ | _ | _ | _ | i
    ·cases hf; rfl
    ·cases hf; rfl
    ·cases hf; rfl
    ·cases hf; rfl
    ·simp at hf) hw1
  have hn : Jn nb f b noS := ⟨q1, q2, hnb, Nat.zero_le _, Nat.zero_le _, by simp [noS]; omega⟩
  have HT := open_turn (w := w2) (k := w2.heap.size) (hJ.cut.below b1) b1 (by omega) (fun q => by have := q.2; omega) hn (by omega) hon
  have HI := hid (inTurn_any (k := w2.heap.size) _ (by simp) (fun i g hg => by
   have := List.mem_of_getElem? hg
   simp at this
   rcases this with rfl | rfl | rfl | rfl <;> simp) w3 F1 HT)
  have hs := b2.size
  have HF : Hid (∀ e w4, OpenQ (fun k => Z2 k ∧ k < w2.heap.size) w2 j c p room nb K f b d e w4 → ∃ code, e = .returned (.int .i64 code) ∧ (code ≠ 0 → OpenP Z w c p room nb K d (f : Int) (b : Int) (.returned (.tuple #[.pointer none, .int .i64 code])) w4) ∧ (code = 0 → OpenP Z w c p room nb K d (f : Int) (b : Int) (.returned (.tuple #[.pointer (some ⟨j, 0, none⟩), .int .i64 0])) w4)) := fun e w4 q => by
   obtain ⟨bq, hc⟩ := q
   have bw : But Z w w4 := (But.of_below b2).comp bq (fun k hk r => hG k hk r.1)
   rcases hc with ⟨rfl, hno, Z4, s4, hJ4, hG4⟩ | ⟨l, q, hh, hno, hD⟩
   ·exact ⟨41, rfl, fun _ => ⟨bw, none, 41, rfl, .inr ⟨hz, f, b, rfl, rfl, q1, q2, .inl ⟨rfl, rfl, hno, Z4, hJ4.toCq, fun k hk r => hG k hk (hG4 k (by omega) r).1⟩⟩⟩, fun r => absurd r (by decide)⟩
   ·obtain ⟨he, ⟨Z4, s4, hJ4, hs4, hG4⟩, b4⟩ := hD
    have hg : Gr Z Z4 w := fun k hk r => hG k hk (hG4 k (by omega) r).1
    refine ⟨_, he, fun hc => ⟨bw, none, _, rfl, .inr ⟨hz, f, b, rfl, rfl, q1, q2, .inr ⟨l, q, hh, hno, rfl, Z4, hg, .inl ⟨hc, rfl, hJ4.toCq⟩⟩⟩⟩, fun hc => ⟨bw, some ⟨j, 0, none⟩, 0, rfl, .inr ⟨hz, f, b, rfl, rfl, q1, q2, .inr ⟨l, q, hh, hno, hc.symm, Z4, hg, .inr ⟨rfl, j, rfl, q3, ?_⟩⟩⟩⟩⟩
    rw [hs4 hc] at hJ4
    exact hJ4
  clear HT hJ hG b2 H HC hnb hl F1 z1 b1 hn q1 q2 q3 hs hon
  rw [hz]
  have HW1 := hid hw1
  clear hw1 hz
  go_wp2_with fail
  rw [← HW1.out]
  refine Calls.mono HI.out ?_
  intro e w4 hQ
  obtain ⟨code, rfl, r1, r2⟩ := HF.out e w4 hQ
  by_cases hc : code = 0
  ·have FIN := hid (r2 hc)
   clear r1 r2 hQ HI HF HW1
   subst hc
   go_wp2
   go_ret2
   exact FIN.out
  ·have FIN := hid (r1 hc)
   clear r1 r2 hQ HI HF HW1
   go_wp2
   go_ret2
   exact FIN.out
open Go.RowKit
theorem Jq.ask {Z : Nat → Prop} {w : World} {j c p room nb K fr bl : Nat} {d : Pd} {s : Js} (h : Jq Z w j c p room nb K fr bl d s) : Calls Tryz.prog 54 #[.pointer (some ⟨j, 0, none⟩)] w fun e w' => e = .returned (.int .i64 (if d.off then 24 else 0)) ∧ Below w.heap.size w w' := by
 obtain ⟨mv, hJ, _⟩ := h.cells
 obtain ⟨hD, c0, _⟩ := h.dk
 exact jask_any hJ c0 hD
theorem Flush_on {Z : Nat → Prop} {w : World} {j c p room nb K fr bl : Nat} {d : Pd} {s : Js} (h : Jq Z w j c p room nb K fr bl d s) (hon : d.off = false) (hl : d.puts.length ≤ 1073741824) : Calls Tryz.prog 18 #[.pointer (some ⟨j, 0, none⟩)] w (Did Z w j c p room nb K fr bl d [.fl] s) := by
 have H := hid h.ask
 rw [hon] at H
 have HJ := hid h
 clear h hon
 go_enter Tryz.func18, Tryz.ntmps18
 go_wp2_with fail
 refine Calls.mono H.out ?_
 rintro e w1 ⟨rfl, b1⟩
 have hJ1 := HJ.out.cut.below b1
 obtain ⟨mv, hJb, _⟩ := hJ1.cells
 have c0 := hJb.cell 0
 simp at c0
 have HD := hid (Did.of_one (hJ1.flush hl))
 have B1 := hid b1
 clear b1 H hJ1 hJb
 go_wp2_with fail
 refine Calls.mono HD.out ?_
 intro e w2 q
 have FIN := hid (q.from (fun k _ r => r.1) (But.of_below B1.out))
 obtain ⟨rfl, _⟩ := q
 clear HD c0 B1
 go_wp2
 go_ret
 exact FIN.out
theorem Checkpoint_on {Z : Nat → Prop} {w : World} {j c p room nb K fr bl : Nat} {d : Pd} {s : Js} (h : Jq Z w j c p room nb K fr bl d s) (hn : Jn nb fr bl s) (hon : d.off = false) (hl : d.puts.length + nb + bl + 8 ≤ 1073741823) : Calls Tryz.prog 19 #[.pointer (some ⟨j, 0, none⟩)] w (Did Z w j c p room nb K fr bl d (settleCmds nb fr bl s) (goS s)) := by
 have H := hid h.ask
 rw [hon] at H
 have HJ := hid (And.intro h hn)
 clear h hon hn
 generalize hcs : settleCmds nb fr bl s = cs
 generalize hgs : goS s = sE
 have HQ := hid (And.intro hcs hgs)
 clear hcs hgs
 go_enter Tryz.func19, Tryz.ntmps19
 go_wp2_with fail
 refine Calls.mono H.out ?_
 rintro e w1 ⟨rfl, b1⟩
 have HD := hid (settle_any (HJ.out.1.cut.below b1) HJ.out.2 hl)
 rw [HQ.out.1, HQ.out.2] at HD
 have B1 := hid b1
 clear b1 H HJ HQ
 go_wp2_with fail
 refine Calls.mono HD.out ?_
 intro e w2 q
 have FIN := hid (q.from (fun k _ r => r.1) (But.of_below B1.out))
 obtain ⟨rfl, _⟩ := q
 clear HD B1
 go_wp2
 go_ret
 exact FIN.out
theorem Seq_any {Z : Nat → Prop} {w : World} {j c p room nb K fr bl : Nat} {d : Pd} {s : Js} (h : Jq Z w j c p room nb K fr bl d s) : Calls Tryz.prog 16 #[.pointer (some ⟨j, 0, none⟩)] w fun e w' => e = .returned (.tuple #[.int .i64 (if d.off then 0 else (s.seq : Int)), .int .i64 (if d.off then 24 else 0)]) ∧ Below w.heap.size w w' := by
 have H := hid h.ask
 have HJ := hid h
 clear h
 cases ho : d.off
 ·rw [ho] at H
  go_enter Tryz.func16, Tryz.ntmps16
  go_wp2_with fail
  refine Calls.mono H.out ?_
  rintro e w1 ⟨rfl, b1⟩
  obtain ⟨mv, hJb, _⟩ := (HJ.out.below b1).cells
  have c4 := hJb.cell 4
  simp at c4
  have B1 := hid b1
  clear b1 H HJ hJb
  go_wp2
  go_ret2
  exact ⟨rfl, B1.out⟩
 ·rw [ho] at H
  go_enter Tryz.func16, Tryz.ntmps16
  go_wp2_with fail
  refine Calls.mono H.out ?_
  rintro e w1 ⟨rfl, b1⟩
  have B1 := hid b1
  clear b1 H HJ
  go_wp2
  go_ret2
  exact ⟨rfl, B1.out⟩
open Go.RowKit
def jread (d : Pd) (s : Js) (x : Nat) : List Int := (s.ah x).getD (d.read x)
theorem Jq.checkHome {Z : Nat → Prop} {w : World} {j c p room nb K fr bl : Nat} {d : Pd} {s : Js} (h : Jq Z w j c p room nb K fr bl d s) (h1 : fr + bl ≤ nb) (at_ : Int) : Calls Tryz.prog 55 #[.pointer (some ⟨j, 0, none⟩), .int .i64 at_] w fun e w' => e = .returned (.int .i64 (homeC nb fr bl at_)) ∧ Below w.heap.size w w' := by
 have hnb := h.fits.2.2
 obtain ⟨mv, hJ, _⟩ := h.cells
 obtain ⟨hD, c0, hcl⟩ := h.dk
 exact jcheckHome_any hJ c0 hD (by omega) (by omega) (by omega) (by omega) at_
theorem Read_far {Z : Nat → Prop} {w : World} {j c p room nb K fr bl : Nat} {d : Pd} {s : Js} (h : Jq Z w j c p room nb K fr bl d s) (h1 : fr + bl ≤ nb) (hon : d.off = false) (at_ : Int) (hh : homeC nb fr bl at_ ≠ 0) : Calls Tryz.prog 13 #[.pointer (some ⟨j, 0, none⟩), .int .i64 at_] w fun e w' => e = .returned (.tuple #[.slice none 0 0, .int .i64 (homeC nb fr bl at_)]) ∧ Below w.heap.size w w' := by
 have H := hid h.ask
 rw [hon] at H
 have HC : Hid (∀ w1, Below w.heap.size w w1 → Calls Tryz.prog 55 #[.pointer (some ⟨j, 0, none⟩), .int .i64 at_] w1 fun e w' => e = .returned (.int .i64 (homeC nb fr bl at_)) ∧ Below w1.heap.size w1 w') := fun w1 b1 => (h.below b1).checkHome h1 at_
 clear h hon h1
 generalize homeC nb fr bl at_ = hc at *
 go_enter Tryz.func13, Tryz.ntmps13
 go_wp2_with fail
 refine Calls.mono H.out ?_
 rintro e w1 ⟨rfl, b1⟩
 have HC1 := hid (HC.out w1 b1)
 have B1 := hid b1
 clear b1 H HC
 go_wp2_with fail
 refine Calls.mono HC1.out ?_
 rintro e w2 ⟨rfl, b2⟩
 have B2 := hid (B1.out.trans (b2.mono B1.out.size))
 clear b2 HC1 B1
 go_wp2
 go_ret2
 exact ⟨rfl, B2.out⟩
set_option maxRecDepth 100000 in
set_option maxHeartbeats 1000000 in
theorem Read_home {Z : Nat → Prop} {w : World} {j c p room nb K fr bl : Nat} {d : Pd} {s : Js} (h : Jq Z w j c p room nb K fr bl d s) (h1 : fr + bl ≤ nb) (hon : d.off = false) (hl : d.puts.length ≤ 1073741824) (hK : K < 4611686018427387904) (x : Nat) (hx : x < nb) (hh : homeC nb fr bl (x : Int) = 0) :
  Calls Tryz.prog 13 #[.pointer (some ⟨j, 0, none⟩), .int .i64 (x : Int)] w fun e w' => ∃ g cp, e = .returned (.tuple #[.slice (some ⟨g, 0, none⟩) 512 cp, .int .i64 0]) ∧ w.heap.size ≤ g ∧ Own w' g 512 cp (jread d s x) ∧ Pl.isB (jread d s x) ∧ (∃ Z', Jq Z' w' j c p room nb (K + 1) fr bl d s ∧ Gr Z Z' w ∧ ¬ Z' g) ∧ But Z w w' := by
 have H := hid h.ask
 rw [hon] at H
 have hnb := h.fits.2.2
 have HC : Hid (∀ w1, Below w.heap.size w w1 → Calls Tryz.prog 55 #[.pointer (some ⟨j, 0, none⟩), .int .i64 (x : Int)] w1 fun e w' => e = .returned (.int .i64 0) ∧ Below w1.heap.size w1 w') := fun w1 b1 => by
  have := (h.below b1).checkHome h1 (x : Int)
  rwa [hh] at this
 have hkey := keyOf3 (wf_small (x := (x : Int)) (by omega) (by omega))
 have HJ := hid (And.intro h (And.intro hon (And.intro hl hK)))
 clear h hon h1 hh hl hK
 go_enter Tryz.func13, Tryz.ntmps13
 go_wp2_with fail
 refine Calls.mono H.out ?_
 rintro e w1 ⟨rfl, b1⟩
 have HC1 := hid (HC.out w1 b1)
 have B1 := hid b1
 clear b1 H HC
 go_wp2_with fail
 refine Calls.mono HC1.out ?_
 rintro e w2 ⟨rfl, b2⟩
 have B2 := hid (B1.out.trans (b2.mono B1.out.size))
 clear b2 HC1 B1
 obtain ⟨Zc, m, n, D, a, hW⟩ := (HJ.out.1.cut.below B2.out)
 have j6 := hW.jb.cell 6
 have j0 := hW.jb.cell 0
 simp at j6 j0
 have hm := hW.mp
 have hs2 := B2.out.size
 cases ha : a x with
 | some r =>
  obtain ⟨g, cp⟩ := r
  obtain ⟨zs, e1, e2, e3, e4, e5, e6⟩ := hW.dat x g cp ha
  have hhas := (hW.am.hit x (g, cp) ha).1
  have hatk := (hW.am.hit x (g, cp) ha).2
  have HCl := hid (Clone_any ⟨g, 0, none⟩ 512 cp zs w2 (by omega) (e2.rd e3))
  have HW := hid hW
  have hjr : Hid (jread d s x = zs) := by unfold jread; rw [e1]; rfl
  have HZ3 := hid e3
  clear hW e1 e2 e3 e4 e5 e6 ha
  go_wp2_with (at_lookup; refine wpList_lookup_own_ok _ rfl _ _ 119 rfl 3 22 law3 Tryz.underlying119 slElem (zero22 _) .nil [] rfl m n D rfl hm _ _ rfl hkey ?_; intro v ps hv; rw [hatk .nil] at hv; obtain rfl := slElem_inv hv; clear hv; rw [hhas])
  refine Calls.mono HCl.out ?_
  rintro e w3 ⟨g3, cp3, rfl, hg3, ho3, b3⟩
  have FIN : Hid (w.heap.size ≤ g3 ∧ Own w3 g3 512 cp3 (jread d s x) ∧ Pl.isB (jread d s x) ∧ (∃ Z', Jq Z' w3 j c p room nb (K + 1) fr bl d s ∧ Gr Z Z' w ∧ ¬ Z' g3) ∧ But Z w w3) := by
   rw [hjr.out]
   have hJ3 : Jq (fun k => Z k ∧ k < w.heap.size) w3 j c p room nb K fr bl d s := Jq.below ⟨Zc, m, n, D, a, HW.out⟩ b3
   exact ⟨by omega, ho3, HZ3.out, ⟨_, hJ3.mono (fun _ q => q) (by omega), fun k _ q => q.1, fun q => by have := q.2; omega⟩, But.of_below (B2.out.trans (b3.mono B2.out.size))⟩
  clear hg3 ho3 b3 HCl HW hm j6 j0
  go_wp2
  go_ret2
  exact ⟨g3, cp3, rfl, FIN.out⟩
 | none =>
  have hahn := hW.non x ha
  have hhas : Maps.has D (.int .i64 (x : Int)) = false := hW.am.miss (x : Int) (fun y e => by
   have : y = x := by omega
   rw [this]; exact ha)
  have hjr : Hid (jread d s x = d.read x) := by unfold jread; rw [hahn]; rfl
  have HR := hid (hW.cq.cread HJ.out.2.2.1 HJ.out.2.2.2 HJ.out.2.1 x hx)
  have hib := hid (Pd.read_len hW.cq x hx).2
  have HW := hid hW
  clear hW ha hahn
  go_wp2_with (at_lookup; refine wpList_lookup_own_ok _ rfl _ _ 119 rfl 3 22 law3 Tryz.underlying119 slElem (zero22 _) .nil [] rfl m n D rfl hm _ _ rfl hkey ?_; intro v ps hv; clear hv; rw [hhas])
  refine Calls.mono HR.out ?_
  rintro e w3 ⟨g3, cp3, rfl, hg3, ho3, ⟨Zc3, hq3, hG3, hn3⟩, b3⟩
  have FIN : Hid (w.heap.size ≤ g3 ∧ Own w3 g3 512 cp3 (jread d s x) ∧ Pl.isB (jread d s x) ∧ (∃ Z', Jq Z' w3 j c p room nb (K + 1) fr bl d s ∧ Gr Z Z' w ∧ ¬ Z' g3) ∧ But Z w w3) := by
   rw [hjr.out]
   refine ⟨by omega, ho3, hib.out, ⟨_, ⟨Zc3, m, n, D, a, HW.out.turn hq3 hG3 b3⟩, fun k hk q => ?_, fun q => ?_⟩, (But.of_below B2.out).comp b3 (fun k _ q => (HW.out.sub k q).1)⟩
   ·rcases q with q | q
    ·exact q.1.1
    ·exact (HW.out.sub k (hG3 k (by omega) q)).1
   ·rcases q with q | q
    ·have := q.2; omega
    ·exact hn3 q
  clear hg3 ho3 b3 HR HW hm j6 j0 hq3 hG3 hn3
  go_wp2
  go_ret2
  exact ⟨g3, cp3, rfl, FIN.out⟩
open Go.RowKit
def bytesZ (ps : List (Nat × List Int)) : List Int := ps.flatMap fun p => packZ [(3, (p.1 : Int))] ++ p.2
theorem bytesZ_snoc (ps : List (Nat × List Int)) (p : Nat × List Int) : bytesZ (ps ++ [p]) = bytesZ ps ++ packZ [(3, (p.1 : Int))] ++ p.2 := by simp [bytesZ]
theorem isB_bytesZ {ps : List (Nat × List Int)} (h : ∀ p ∈ ps, Pl.isB p.2) : Pl.isB (bytesZ ps) := by
 intro z hz
 obtain ⟨p, hp, hz⟩ := List.mem_flatMap.1 hz
 rcases List.mem_append.1 hz with hz | hz
 ·exact isB_packZ _ z hz
 ·exact h p hp z hz
theorem length_bytesZ {ps : List (Nat × List Int)} (h : ∀ p ∈ ps, p.2.length = 512) : (bytesZ ps).length = 515 * ps.length := by
 induction ps with
 | nil => rfl
 | cons p ps ih =>
  have e : bytesZ (p :: ps) = packZ [(3, (p.1 : Int))] ++ p.2 ++ bytesZ ps := by simp [bytesZ]
  rw [e, List.length_append, List.length_append, ih (fun q hq => h q (by simp [hq])), h p (by simp)]
  simp [packZ, Pl.dig]
  omega
theorem grow_rd {w : World} {B n : Nat} {a : Option Addr} {c : Nat} {zs : List Int} (ty : TypeId) (ho : w.ownsRow B 5 1 (.slice a n c) n (zs.map (Value.int .u8))) {b off m cp : Nat} {body : List Int} (hl : body.length = m) (hc : ∀ t, t < m → w.cell? ⟨b, off + t, none⟩ = some (.int .u8 (body.getD t 0))) (hm : m ≤ 1048576) (hn : n ≤ 1073741823) (hw : B ≤ w.heap.size) :
  ∃ a' c' w', (Builtin.append_ #[22, 22] ty #[.slice a n c, .slice (some ⟨b, off, none⟩) m cp]).run Tryz.prog w = .ok (.slice a' (n + m) c') w' ∧ w'.ownsRow B 5 1 (.slice a' (n + m) c') (n + m) ((zs ++ body).map (Value.int .u8)) ∧ But (fun k => B ≤ k) w w' ∧ w.grownBy w' (Value.slice a n c).ownBlock := by
 obtain ⟨i0, hi, hz0, hz1, hz2⟩ := info_parts info5
 obtain ⟨v', w', hr, h2, h3, _, _⟩ := run_append_own_at (P := Tryz.prog) w B 22 ty 5 i0 (.int .u8 0) 1 1 Tryz.underlying22 hi hz0 hz1 hz2 rfl (by decide) (.slice a n c) n (zs.map (Value.int .u8)) ho ⟨b, off, none⟩ m cp (body.map (Value.int .u8)) (by simp [hl]) (fun j u hu => by
   rw [Addr.add_lit]
   have hj : j < body.length := by have := (List.getElem?_eq_some_iff.1 hu).1; simpa using this
   rw [hc j (by omega)]
   simp [hj] at hu
   rw [← hu]
   simp [hj]) (fun u hu => by obtain ⟨z, _, rfl⟩ := List.mem_map.1 hu; rfl) (by unfold maxLen; omega) (by omega) hw
 obtain ⟨a', c', rfl, _⟩ := owns_slice h2
 refine ⟨a', c', w', hr, by rw [List.map_append]; exact h2, (But.refl _ w).of_grown h3 (fun x e hx => ?_), h3⟩
 exact (World.ownsRow.lt ho x e).1
set_option maxRecDepth 100000 in
set_option maxHeartbeats 1000000 in
theorem bytesOf_any (X : Nat → Prop) (w : World) (a0 : Option Addr) (cp : Nat) (ps : List Pm) (hR : RdP X w a0 ps) (hp : ∀ p ∈ ps, 0 ≤ p.at_ ∧ p.at_ < 524288 ∧ p.data.length = 512) (hl : ps.length ≤ 524288) :
  Calls Tryz.prog 118 #[.slice a0 ps.length cp] w fun e w' => ∃ a c, e = .returned (.slice a (515 * ps.length) c) ∧ w'.ownsRow w.heap.size 5 1 (.slice a (515 * ps.length) c) (515 * ps.length) ((bytesZ (ps.map Pm.put)).map (Value.int .u8)) ∧ Below w.heap.size w w' := by
 obtain ⟨i0, hi0, hz0, hz1, hz2⟩ := info_parts info5
 have HR := hid hR
 have HP := hid hp
 clear hR hp
 generalize hN : ps.length = N at *
 have hmul : IntKind.i64.wrap ((N : Int) * 515) = ((515 * N : Nat) : Int) := by rw [IntKind.wrap_i64]; omega
 go_enter Tryz.func118, Tryz.ntmps118
 go_wp2_with (at_make; refine wpList_make_own _ rfl _ _ 22 rfl w.heap.size 5 i0 (.int .u8 0) 1 Tryz.underlying22 hi0 hz0 hz1 _ _ _ (515 * N) rfl rfl (by rfl) (by rw [hz2]; omega) (by unfold maxLen; omega) (Nat.le_refl _) ?_; intro w1 hrow1 hgr1)
 have HB0 : Hid (Below w.heap.size w w1) := ((But.refl (fun _ => False) w).of_grown hgr1 (fun x e _ => by cases e)).below (Nat.le_refl _) (fun _ _ q => q)
 have HR0 := hid hrow1
 clear hrow1 hgr1 hmul
 go_loopw [3, 12] (fun dv iv wr => ∃ (q : Nat) (a : Option Addr) (c : Nat), q ≤ N ∧ iv = .int .i64 (q : Int) ∧ dv = .slice a (515 * q) c ∧ wr.ownsRow w.heap.size 5 1 (.slice a (515 * q) c) (515 * q) ((bytesZ ((ps.take q).map Pm.put)).map (Value.int .u8)) ∧ Below w.heap.size w wr) (fun _ iv _ => N - (intOf iv).toNat)
 case atStart => exact ⟨0, _, _, Nat.zero_le _, rfl, rfl, HR0.out, HB0.out⟩
 case round =>
  clear HR0 HB0
  obtain ⟨q, a, c, hq, rfl, rfl, hrow, hbt⟩ := hrel
  by_cases hqn : q < N
  ·have hqn' : (q : Int) < (N : Int) := by omega
   obtain ⟨pp, hpq⟩ : ∃ pp, ps[q]? = some pp := ⟨_, List.getElem?_eq_getElem (by omega)⟩
   obtain ⟨p0, p1, p2⟩ := HP.out pp (List.mem_of_getElem? hpq)
   obtain ⟨bk, off, ha0, hbk, hbZ, hcell⟩ : ∃ b off, a0 = some ⟨b, off, none⟩ ∧ b < w.heap.size ∧ ¬ X b ∧ ∀ (t : Nat) (p : Pm), ps[t]? = some p → w.cell? ⟨b, off + t * 2, none⟩ = some (.int .i64 p.at_) ∧ w.cell? ⟨b, off + t * 2 + 1, none⟩ = some (.slice p.ad p.data.length p.cap) := by
    rcases HR.out.2 with e | e
    ·rw [e] at hpq; cases hpq
    ·exact e
   obtain ⟨c1, c2⟩ := hcell q pp hpq
   obtain ⟨b3, o3, had, hb3, hcs⟩ : ∃ b o, pp.ad = some ⟨b, o, none⟩ ∧ b < w.heap.size ∧ ∀ t, t < 512 → w.cell? ⟨b, o + t, none⟩ = some (.int .u8 (pp.data.getD t 0)) := by
    rcases (HR.out.1 pp (List.mem_of_getElem? hpq)).2.2 with e | ⟨b, o, e, h1, _, h2⟩
    ·omega
    ·exact ⟨b, o, e, h1, by rw [p2] at h2; exact h2⟩
   rw [had, p2] at c2
   replace c1 := (hbt.cell (p := ⟨bk, off + q * 2, none⟩) hbk).trans c1
   replace c2 := (hbt.cell (p := ⟨bk, off + q * 2 + 1, none⟩) hbk).trans c2
   obtain ⟨x, hx⟩ : ∃ x : Nat, pp.at_ = (x : Int) := ⟨pp.at_.toNat, by omega⟩
   rw [hx] at c1
   obtain ⟨w2, hw2⟩ : ∃ w2, w2 = wr.alloc (.cells #[.int .i64 (x : Int), .slice (some ⟨b3, o3, none⟩) 512 pp.cap] 97) := ⟨_, rfl⟩
   have b2 : Below wr.heap.size wr w2 := by rw [hw2]; exact (Below.refl _ _).alloc (Nat.le_refl _) _
   have z2 : w2.heap.size = wr.heap.size + 1 := by rw [hw2]; simp
   have n0 : w2.cell? ⟨wr.heap.size, 0, none⟩ = some (.int .i64 (x : Int)) := by rw [hw2]; exact cell_new rfl 0 _ rfl
   have n1 : w2.cell? ⟨wr.heap.size, 1, none⟩ = some (.slice (some ⟨b3, o3, none⟩) 512 pp.cap) := by rw [hw2]; exact cell_new rfl 1 _ rfl
   have hsw := hbt.size
   have hbw2 : Below w.heap.size w w2 := hbt.trans (b2.mono hsw)
   have hrow2 := owns_below hrow b2
   obtain ⟨w3, hw3⟩ : ∃ w3, w3 = w2.alloc (.cells #[.int .i64 3, .int .i64 (x : Int)] 237) := ⟨_, rfl⟩
   have b3' : Below w2.heap.size w2 w3 := by rw [hw3]; exact (Below.refl _ _).alloc (Nat.le_refl _) _
   have z3 : w3.heap.size = w2.heap.size + 1 := by rw [hw3]; simp
   have HPk := hid (packed_any (some ⟨w2.heap.size, 0, none⟩) 1 1 [(3, (x : Int))] w3 (by omega) ⟨rfl, fun f hf => by simp at hf; subst hf; simp; omega, .inr ⟨w2.heap.size, 0, rfl, by omega, fun t ht => by
    rw [hw3]
    rcases t with _ | t
    ·exact ⟨cell_new rfl 0 _ rfl, cell_new rfl 1 _ rfl⟩
    ·omega⟩⟩ (fun f hf => by simp at hf; subst hf; unfold chk wfB; simp; omega))
   have KK := hid (And.intro hrow2 (And.intro hbw2 (And.intro b3' (And.intro hcs (And.intro hpq (And.intro hx (And.intro p2 (And.intro hb3 z2))))))))
   have hlp : (packZ [((3 : Int), (x : Int))]).length = 3 := by simp [packZ, Pl.dig]
   rw [hlp, z2] at HPk
   have hgl : ∀ g, (Value.slice a (515 * q) c).ownBlock = some g → g < wr.heap.size := fun g e => (World.ownsRow.lt hrow g e).2
   have HGL := hid hgl
   clear hgl
   subst ha0
   clear hcell hrow hbt hbZ had hcs hpq hx p0 p1 p2 b2 hbw2 hrow2 b3' hlp hsw hb3 z2 z3
   go_wp2_with fail
   rw [← hw2, ← hw3]
   refine Calls.mono HPk.out ?_
   rintro e w4 ⟨g4, rfl, hg4, hb4, b4⟩
   obtain ⟨hrow2, hbw2, b3', hcs, hpq, hx, p2, hb3, z2⟩ := KK.out
   have b24 : Below w2.heap.size w2 w4 := b3'.trans (b4.mono b3'.size)
   have hrow4 := owns_below hrow2 b24
   have hs24 := b24.size
   have hsw2 := hbw2.size
   obtain ⟨a5, c5, w5, hrun5, hrow5, b5, gr5⟩ := grow_rd (b := g4) (off := 0) (m := 3) (cp := 3) 22 hrow4 (body := packZ [(3, (x : Int))]) (by simp [packZ, Pl.dig]) (fun t ht => by rw [Nat.zero_add]; exact hb4.cell t (by simp [packZ, Pl.dig]; omega)) (by omega) (by omega) (by omega)
   have m1 : w5.cell? ⟨wr.heap.size, 1, none⟩ = some (.slice (some ⟨b3, o3, none⟩) 512 pp.cap) := (World.cell?_of_block (gr5.block wr.heap.size (by omega) (fun e => by have := HGL.out _ e.symm; omega))).trans ((b24.cell (p := ⟨wr.heap.size, 1, none⟩) (by show wr.heap.size < _; omega)).trans n1)
   have bw5 : Below w.heap.size w w5 := (((But.of_below hbw2 (X := fun k => w.heap.size ≤ k)).trans (But.of_below b24)).trans b5).below (Nat.le_refl _) (fun k hk r => by omega)
   obtain ⟨a6, c6, w6, hrun6, hrow6, b6, _⟩ := grow_rd (b := b3) (off := o3) (m := 512) (cp := pp.cap) 22 hrow5 (body := pp.data) p2 (fun t ht => (bw5.cell (p := ⟨b3, o3 + t, none⟩) hb3).trans (hcs t ht)) (by omega) (by omega) bw5.size
   have FIN : Hid (w6.ownsRow w.heap.size 5 1 (.slice a6 (515 * (q + 1)) c6) (515 * (q + 1)) ((bytesZ ((ps.take (q + 1)).map Pm.put)).map (Value.int .u8)) ∧ Below w.heap.size w w6) := by
    refine ⟨?_, ((But.of_below bw5 (X := fun k => w.heap.size ≤ k)).trans b6).below (Nat.le_refl _) (fun k hk r => by omega)⟩
    rw [List.take_add_one, hpq, List.map_append]
    show w6.ownsRow _ _ _ _ _ ((bytesZ ((ps.take q).map Pm.put ++ [pp.put])).map _)
    rw [bytesZ_snoc, show (515 * (q + 1)) = 515 * q + 3 + 512 by omega]
    have : pp.put = (x, pp.data) := by unfold Pm.put; rw [hx]; rfl
    rw [this]
    exact hrow6
   have e5 : 515 * q + 3 + 512 = 515 * (q + 1) := by omega
   rw [e5] at hrun6
   clear hrow2 hbw2 b3' hcs hpq hx p2 hb3 z2 b24 hrow4 hs24 hsw2 hrow5 b5 gr5 bw5 hrow6 b6 hg4 hb4 b4 KK HPk HGL hw2 hw3 n0 n1 c1 c2
   go_wp2_with (at_builtin; refine Lib.wpList_append_run _ rfl _ _ _ _ rfl _ _ rfl rfl _ _ (by first | exact hrun5 | exact hrun6) ?_)
   refine ⟨⟨q + 1, a6, c6, by omega, by go_num, rfl, FIN.out.1, FIN.out.2⟩, ?_⟩
   simp [intOf]
   omega
  ·have hqn' : ¬ (q : Int) < (N : Int) := by omega
   have hqe : ps.take q = ps := List.take_of_length_le (by omega)
   have hqe2 : q = N := by omega
   subst hqe2
   rw [hqe] at hrow
   have FIN := hid (And.intro hrow hbt)
   clear hrow hbt hqe
   go_wp2
   go_ret
   exact ⟨a, c, rfl, FIN.out.1, FIN.out.2⟩
end Go.Proofs.YtldlejpacgphmabGreat
