import Derived.Test.YtldlejpacgphmabGreatG10
import Derived.Deep.RegionHeld3
import Derived.Shelf.SlIterI.Nil
import Derived.Shelf.SortM.Plain
import Derived.Shelf.SortM.SortNone
namespace Go.Proofs.YtldlejpacgphmabGreat
open Go.RowKit
def Did (Z : Nat → Prop) (w : World) (j c p room nb K fr bl : Nat) (d : Pd) (cs : List Cmd) (sE : Js) (e : Ending) (w' : World) : Prop :=
 e = .returned (.int .i64 (d.runs cs).1) ∧ (∃ Z' s', Jq Z' w' j c p room nb K fr bl (d.runs cs).2 s' ∧ ((d.runs cs).1 = 0 → s' = sE) ∧ Gr Z Z' w) ∧ But Z w w'
theorem Did.of_one {Z : Nat → Prop} {w : World} {j c p room nb K fr bl : Nat} {d : Pd} {x : Cmd} {sE : Js} {f : Nat} {args : Array Value} (H : Calls Tryz.prog f args w fun e w' => e = .returned (.int .i64 (d.run1 x).1) ∧ (∃ Z', Jq Z' w' j c p room nb K fr bl (d.run1 x).2 sE ∧ Gr Z Z' w) ∧ But Z w w') : Calls Tryz.prog f args w (Did Z w j c p room nb K fr bl d [x] sE) := by
 refine Calls.mono H ?_
 rintro e w' ⟨rfl, ⟨Z', h1, h2⟩, b⟩
 unfold Did
 rw [Pd.runs_one]
 exact ⟨rfl, ⟨Z', sE, h1, fun _ => rfl, h2⟩, b⟩
theorem Did.of_list {Z : Nat → Prop} {w : World} {j c p room nb K fr bl : Nat} {d : Pd} {cs : List Cmd} {sE : Js} {f : Nat} {args : Array Value} (H : Calls Tryz.prog f args w fun e w' => e = .returned (.int .i64 (d.runs cs).1) ∧ (∃ Z', Jq Z' w' j c p room nb K fr bl (d.runs cs).2 sE ∧ Gr Z Z' w) ∧ But Z w w') : Calls Tryz.prog f args w (Did Z w j c p room nb K fr bl d cs sE) := by
 refine Calls.mono H ?_
 rintro e w' ⟨rfl, ⟨Z', h1, h2⟩, b⟩
 exact ⟨rfl, ⟨Z', sE, h1, fun _ => rfl, h2⟩, b⟩
theorem Did.from {Z0 Z : Nat → Prop} {w0 w : World} {j c p room nb K fr bl : Nat} {d : Pd} {cs : List Cmd} {sE : Js} {e : Ending} {w' : World} (h : Did Z w j c p room nb K fr bl d cs sE e w') (hg : Gr Z0 Z w0) (hb : But Z0 w0 w) : Did Z0 w0 j c p room nb K fr bl d cs sE e w' := by
 obtain ⟨h1, ⟨Z', s', h2, h3, h4⟩, h5⟩ := h
 exact ⟨h1, ⟨Z', s', h2, h3, hg.trans h4 hb.size⟩, hb.comp h5 (fun k hk q => hg k hk q)⟩
theorem Turn.jstep {Z0 Z : Nat → Prop} {w0 w : World} {j c p room nb K fr bl k f : Nat} {r : Value} {fs : List (Nat × Value)} {d : Pd} {s' sE : Js} {all done cs rest : List Cmd} (hall : all = done ++ cs ++ rest) (hz : (d.runs done).1 = 0) (hG : Gr Z0 Z w0) (hB : But Z0 w0 w) (hk : ¬ Z k) (hkl : k < w.heap.size)
  (H : Calls Tryz.prog f #[r] w (Did Z w j c p room nb K fr bl (d.runs done).2 cs s'))
  (next : ∀ Z' w', (d.runs (done ++ cs)).1 = 0 → Jq Z' w' j c p room nb K fr bl (d.runs (done ++ cs)).2 s' → Gr Z0 Z' w0 → But Z0 w0 w' → ¬ Z' k → k < w'.heap.size → Turn k (Did Z0 w0 j c p room nb K fr bl d all sE) fs w') :
  Turn k (Did Z0 w0 j c p room nb K fr bl d all sE) ((f, r) :: fs) w := by
 have e1 : d.runs (done ++ cs) = (d.runs done).2.runs cs := by rw [Pd.runs_append, if_pos hz]
 refine Calls.mono H ?_
 rintro e w' ⟨rfl, ⟨Z', s1, h2, h3, h4⟩, h5⟩
 refine ⟨((d.runs done).2.runs cs).1, rfl, fun hc => ?_, fun hc => ⟨h5.block k hkl hk, ?_⟩⟩
 ·have e2 : d.runs all = (d.runs done).2.runs cs := by rw [hall, Pd.runs_stop (by rw [e1]; exact hc), e1]
  unfold Did
  rw [e2]
  exact ⟨rfl, ⟨Z', s1, h2, fun q => absurd q hc, hG.trans h4 hB.size⟩, hB.comp h5 (fun k hk q => hG k hk q)⟩
 ·rw [← e1] at hc h2
  rw [← e1] at h3
  rw [h3 hc] at h2
  exact next Z' w' hc h2 (hG.trans h4 hB.size) (hB.comp h5 (fun k hk q => hG k hk q)) (fun q => hk (h4 k hkl q)) (Nat.lt_of_lt_of_le hkl h5.size)
theorem Turn.jend {Z0 Z : Nat → Prop} {w0 w : World} {j c p room nb K fr bl k : Nat} {d : Pd} {sE : Js} {all : List Cmd} (hz : (d.runs all).1 = 0) (hJ : Jq Z w j c p room nb K fr bl (d.runs all).2 sE) (hG : Gr Z0 Z w0) (hB : But Z0 w0 w) : Turn k (Did Z0 w0 j c p room nb K fr bl d all sE) [] w := by
 show Did _ _ _ _ _ _ _ _ _ _ _ _ _ _ _
 exact ⟨by rw [hz], ⟨Z, sE, hJ, fun _ => rfl, hG⟩, hB⟩
theorem steps_ready (w : World) (vs : Array Value) (fs : List (Nat × Value)) (h : ∀ (i : Nat) (f : Nat × Value), fs[i]? = some f → vs[i]? = some (Value.func (Fn.func f.1) #[f.2] #[])) {w1 : World} (e : w1 = (w.alloc (.cells vs 57)).drew) : Below w.heap.size w w1 ∧ w1.heap.size = w.heap.size + 1 ∧ ∀ (i : Nat) (f : Nat × Value), fs[i]? = some f → w1.cell? ⟨w.heap.size, i, none⟩ = some (.func (.func f.1) #[f.2] #[]) := by
 subst e
 exact ⟨((Below.refl _ _).alloc (Nat.le_refl _) _).drew, by simp, fun i f hf => cell_new rfl i _ (h i f hf)⟩
def goCmds (fr bl : Nat) (s : Js) : List Cmd := if s.life ≠ 0 ∧ s.life < 1099511627776 then [.wr fr (headZ fr bl (s.life + 1) s.seq)] else [.wr fr (headZ fr bl 0 s.seq)] ++ [.fl] ++ wipes fr bl (fr + 1) (bl - 1) ++ [.fl] ++ [.wr fr (headZ fr bl 1 s.seq)]
def goS (s : Js) : Js := if s.life ≠ 0 ∧ s.life < 1099511627776 then beginS s else ⟨1, s.seq, 0, fun _ => none⟩
theorem go_turn {Z : Nat → Prop} {w w1 : World} {j c p room nb K fr bl k : Nat} {d : Pd} {s : Js} (h : Jq Z w1 j c p room nb K fr bl d s) (hb : Below w.heap.size w w1) (hk : k < w1.heap.size) (hkZ : ¬ Z k) (hn : Jn nb fr bl s) (hl : d.puts.length + bl + 4 ≤ 1073741823) :
  Turn k (Did Z w j c p room nb K fr bl d ([.wr fr (headZ fr bl 0 s.seq)] ++ [.fl] ++ wipes fr bl (fr + 1) (bl - 1) ++ [.fl] ++ [.wr fr (headZ fr bl 1 s.seq)]) ⟨1, s.seq, 0, fun _ => none⟩) [(166, .pointer (some ⟨j, 0, none⟩)), (66, .pointer (some ⟨c, 0, none⟩)), (74, .pointer (some ⟨j, 0, none⟩)), (66, .pointer (some ⟨c, 0, none⟩)), (75, .pointer (some ⟨j, 0, none⟩))] w1 := by
 have hn1 : Jn nb fr bl (endS s) := ⟨hn.lo, hn.fit, hn.nb, Nat.zero_le _, hn.seq, hn.used⟩
 have hp := fun cs => d.runs_puts cs
 refine Turn.jstep (done := []) (cs := [.wr fr (headZ fr bl 0 s.seq)]) (rest := [.fl] ++ wipes fr bl (fr + 1) (bl - 1) ++ [.fl] ++ [.wr fr (headZ fr bl 1 s.seq)]) (by simp) rfl (Gr.refl _ _) (But.of_below hb) hkZ hk (Did.of_one (endLives_any h hn (by simp [Pd.runs]; omega))) (fun Z1 w1 z1 h1 g1 b1 k1 l1 => ?_)
 have p1 := hp ([] ++ [.wr fr (headZ fr bl 0 s.seq)])
 simp at p1
 refine Turn.jstep (done := [] ++ [.wr fr (headZ fr bl 0 s.seq)]) (cs := [.fl]) (rest := wipes fr bl (fr + 1) (bl - 1) ++ [.fl] ++ [.wr fr (headZ fr bl 1 s.seq)]) (by simp) z1 g1 b1 k1 l1 (Did.of_one (h1.flush (by simp; omega))) (fun Z2 w2 z2 h2 g2 b2 k2 l2 => ?_)
 have p2 := hp ([] ++ [.wr fr (headZ fr bl 0 s.seq)] ++ [.fl])
 simp at p2
 refine Turn.jstep (done := [] ++ [.wr fr (headZ fr bl 0 s.seq)] ++ [.fl]) (cs := wipes fr bl (fr + 1) (bl - 1)) (rest := [.fl] ++ [.wr fr (headZ fr bl 1 s.seq)]) (by simp) z2 g2 b2 k2 l2 (Did.of_list (wipeLog_any h2 hn1 (by simp; omega))) (fun Z3 w3 z3 h3 g3 b3 k3 l3 => ?_)
 have p3 := hp ([] ++ [.wr fr (headZ fr bl 0 s.seq)] ++ [.fl] ++ wipes fr bl (fr + 1) (bl - 1))
 simp [length_wipes] at p3
 refine Turn.jstep (done := [] ++ [.wr fr (headZ fr bl 0 s.seq)] ++ [.fl] ++ wipes fr bl (fr + 1) (bl - 1)) (cs := [.fl]) (rest := [.wr fr (headZ fr bl 1 s.seq)]) (by simp) z3 g3 b3 k3 l3 (Did.of_one (h3.flush (by simp; omega))) (fun Z4 w4 z4 h4 g4 b4 k4 l4 => ?_)
 have p4 := hp ([] ++ [.wr fr (headZ fr bl 0 s.seq)] ++ [.fl] ++ wipes fr bl (fr + 1) (bl - 1) ++ [.fl])
 simp [length_wipes] at p4
 refine Turn.jstep (done := [] ++ [.wr fr (headZ fr bl 0 s.seq)] ++ [.fl] ++ wipes fr bl (fr + 1) (bl - 1) ++ [.fl]) (cs := [.wr fr (headZ fr bl 1 s.seq)]) (rest := []) (by simp) z4 g4 b4 k4 l4 (Did.of_one (beginLife_any h4 hn1 (by simp [endS]) (by simp; omega))) (fun Z5 w5 z5 h5 g5 b5 k5 l5 => ?_)
 exact Turn.jend (by simpa using z5) (by simpa [beginS, endS] using h5) g5 b5
open Go.RowKit
theorem Did.c0 {Z : Nat → Prop} {w : World} {j c p room nb K fr bl : Nat} {d : Pd} {cs : List Cmd} {sE : Js} {e : Ending} {w' : World} (h : Did Z w j c p room nb K fr bl d cs sE e w') : w'.cell? ⟨j, 0, none⟩ = some (.pointer (some ⟨c, 0, none⟩)) := by
 obtain ⟨_, ⟨Z', s', h2, _⟩, _⟩ := h
 obtain ⟨mv, hJ, _⟩ := h2.cells
 exact hJ.cell 0
theorem five_in (a b : Nat) (i : Nat) (g : Nat × Value) (hg : [((166 : Nat), Value.pointer (some ⟨a, 0, none⟩)), (66, .pointer (some ⟨b, 0, none⟩)), (74, .pointer (some ⟨a, 0, none⟩)), (66, .pointer (some ⟨b, 0, none⟩)), (75, .pointer (some ⟨a, 0, none⟩))][i]? = some g) : g.1 = 70 ∨ g.1 = 71 ∨ g.1 = 72 ∨ g.1 = 67 ∨ g.1 = 73 ∨ g.1 = 66 ∨ g.1 = 74 ∨ g.1 = 75 ∨ g.1 = 54 ∨ g.1 = 122 ∨ g.1 = 120 ∨ g.1 = 121 ∨ g.1 = 166 := by
 have := List.mem_of_getElem? hg
 simp at this
 rcases this with rfl | rfl | rfl | rfl | rfl <;> simp
set_option maxRecDepth 100000 in
set_option maxHeartbeats 1000000 in
theorem letLogGo_any {Z : Nat → Prop} {w : World} {j c p room nb K fr bl : Nat} {d : Pd} {s : Js} (h : Jq Z w j c p room nb K fr bl d s) (hn : Jn nb fr bl s) (hl : d.puts.length + bl + 4 ≤ 1073741823) :
  Calls Tryz.prog 121 #[.pointer (some ⟨j, 0, none⟩)] w (Did Z w j c p room nb K fr bl d (goCmds fr bl s) (goS s)) := by
 obtain ⟨mv, hJ, hZj⟩ := h.cells
 have hjl := hJ.lt
 have j3 := hJ.cell 3
 have j0 := hJ.cell 0
 simp at j3 j0
 by_cases hc : s.life ≠ 0 ∧ s.life < 1099511627776
 ·have e1 : goCmds fr bl s = [.wr fr (headZ fr bl (s.life + 1) s.seq)] := if_pos hc
  have e2 : goS s = beginS s := if_pos hc
  rw [e1, e2]
  have HW := hid (Did.of_one (beginLife_any h hn hc.2 (by omega)))
  have c1 : ¬ (s.life : Int) = 0 := by omega
  have c2 : (s.life : Int) < 1099511627776 := by omega
  clear hJ h hn hl hc e1 e2 j0
  generalize (s.life : Int) = lf at j3 c1 c2
  go_enter Tryz.func121, Tryz.ntmps121
  go_wp2_with fail
  refine Calls.mono HW.out ?_
  intro e w2 q
  have FIN := hid q
  obtain ⟨he, _⟩ := q
  subst he
  clear HW j3
  go_wp2
  go_ret
  exact FIN.out
 ·have e1 : goCmds fr bl s = [.wr fr (headZ fr bl 0 s.seq)] ++ [.fl] ++ wipes fr bl (fr + 1) (bl - 1) ++ [.fl] ++ [.wr fr (headZ fr bl 1 s.seq)] := if_neg hc
  have e2 : goS s = ⟨1, s.seq, 0, fun _ => none⟩ := if_neg hc
  rw [e1, e2]
  clear e1 e2
  obtain ⟨w1, hw1⟩ : ∃ w1, w1 = (w.alloc (.cells #[.func (.func 166) #[.pointer (some ⟨j, 0, none⟩)] #[], .func (.func 66) #[.pointer (some ⟨c, 0, none⟩)] #[], .func (.func 74) #[.pointer (some ⟨j, 0, none⟩)] #[], .func (.func 66) #[.pointer (some ⟨c, 0, none⟩)] #[], .func (.func 75) #[.pointer (some ⟨j, 0, none⟩)] #[]] 57)).drew := ⟨_, rfl⟩
  obtain ⟨b1, z1, F1⟩ := steps_ready w _ [((166 : Nat), Value.pointer (some ⟨j, 0, none⟩)), (66, .pointer (some ⟨c, 0, none⟩)), (74, .pointer (some ⟨j, 0, none⟩)), (66, .pointer (some ⟨c, 0, none⟩)), (75, .pointer (some ⟨j, 0, none⟩))] (fun i f hf => by
   rcases i with _ | _ | _ | _ | _ | i
   ·cases hf; rfl
   ·cases hf; rfl
   ·cases hf; rfl
   ·cases hf; rfl
   ·cases hf; rfl
   ·simp at hf) hw1
  have HT := go_turn (w := w) (k := w.heap.size) (h.cut.below b1) b1 (by omega) (fun q => by have := q.2; omega) hn hl
  have HI := hid (inTurn_any (k := w.heap.size) _ (by simp) (five_in j c) w1 F1 HT)
  have c1 : (s.life : Int) = 0 ∨ ¬ (s.life : Int) < 1099511627776 := by omega
  clear HT
  generalize [Cmd.wr fr (headZ fr bl 0 s.seq)] ++ [.fl] ++ wipes fr bl (fr + 1) (bl - 1) ++ [.fl] ++ [.wr fr (headZ fr bl 1 s.seq)] = cs at HI ⊢
  clear hJ h hn hl hc F1 z1 b1
  generalize (s.life : Int) = lf at j3 c1
  have HW1 := hid hw1
  clear hw1
  go_enter Tryz.func121, Tryz.ntmps121
  rcases c1 with c1 | c1
  ·rw [c1] at j3
   go_wp2_with fail
   clear c1 j3
   refine wp_region_noPanic ?_
   refine wp_region_held_drew (S := fun w' => w'.cell? ⟨j, 0, none⟩ = some (.pointer (some ⟨c, 0, none⟩))) (by kernel_rfl) j0 (fun hSS => ?_)
   refine wpAnyH_take (i := 0) (v := ?v0) rfl (by kernel_rfl) (by kernel_rfl) (by kernel_rfl) (fun _ _ _ h => h) (Or.inl ⟨by rfl, ?hy0⟩) hSS ?_
   case hy0 => (intro w9 hSw; (try dsimp only at hSw); go_simp; try with_reducible rfl)
   simp only [Act.put, List.setIfInBounds_toArray]
   refine wpAnyH_take (i := 1) (v := ?v1) rfl (by kernel_rfl) (by kernel_rfl) (by kernel_rfl) (fun _ _ _ h => h) (Or.inl ⟨by rfl, ?hy1⟩) hSS ?_
   case hy1 => (intro w9 hSw; (try dsimp only at hSw); go_simp; try with_reducible rfl)
   simp only [Act.put]
   refine wpAnyH_take (i := 2) (v := ?v2) rfl (by kernel_rfl) (by kernel_rfl) (by kernel_rfl) (fun _ _ _ h => h) (Or.inl ⟨by rfl, ?hy2⟩) hSS ?_
   case hy2 => (intro w9 hSw; (try dsimp only at hSw); go_simp; try with_reducible rfl)
   simp only [Act.put]
   refine wpAnyH_take (i := 3) (v := ?v3) rfl (by kernel_rfl) (by kernel_rfl) (by kernel_rfl) (fun _ _ _ h => h) (Or.inl ⟨by rfl, ?hy3⟩) hSS ?_
   case hy3 => (intro w9 hSw; (try dsimp only at hSw); go_simp; try with_reducible rfl)
   simp only [Act.put]
   refine wpAnyH_take (i := 4) (v := ?v4) rfl (by kernel_rfl) (by kernel_rfl) (by kernel_rfl) (fun _ _ _ h => h) (Or.inl ⟨by rfl, ?hy4⟩) hSS ?_
   case hy4 => (intro w9 hSw; (try dsimp only at hSw); go_simp; try with_reducible rfl)
   simp only [Act.put]
   refine wpAnyH_take (i := 5) (v := ?v5) rfl (by kernel_rfl) (by kernel_rfl) (by kernel_rfl) (fun _ _ _ h => h) (Or.inl ⟨by rfl, ?hy5⟩) hSS ?_
   case hy5 => (intro w9 hSw; (try dsimp only at hSw); go_simp; try with_reducible rfl)
   simp only [Act.put]
   refine wpAnyH_take (i := 6) (v := ?v6) rfl (by kernel_rfl) (by kernel_rfl) (by kernel_rfl) (fun _ _ _ h => h) (Or.inl ⟨by rfl, ?hy6⟩) hSS ?_
   case hy6 => (intro w9 hSw; (try dsimp only at hSw); go_simp; try with_reducible rfl)
   simp only [Act.put]
   refine wpAnyH_take (i := 7) (v := ?v7) rfl (by kernel_rfl) (by kernel_rfl) (by kernel_rfl) (fun _ _ _ h => h) (Or.inl ⟨by rfl, ?hy7⟩) hSS ?_
   case hy7 => (intro w9 hSw; (try dsimp only at hSw); go_simp; try with_reducible rfl)
   simp only [Act.put]
   refine wpAnyH_take (i := 8) (v := ?v8) rfl (by kernel_rfl) (by kernel_rfl) (by kernel_rfl) (fun _ _ _ h => h) (Or.inl ⟨by rfl, ?hy8⟩) hSS ?_
   case hy8 => (intro w9 hSw; (try dsimp only at hSw); go_simp; try with_reducible rfl)
   simp only [Act.put]
   refine wpAnyH_take (i := 9) (v := ?v9) rfl (by kernel_rfl) (by kernel_rfl) (by kernel_rfl) (fun _ _ _ h => h) (Or.inl ⟨by rfl, ?hy9⟩) hSS ?_
   case hy9 => (intro w9 hSw; (try dsimp only at hSw); go_simp; try with_reducible rfl)
   simp only [Act.put]
   refine wpAnyH_take (i := 10) (v := ?v10) rfl (by kernel_rfl) (by kernel_rfl) (by kernel_rfl) (fun _ _ _ h => h) (Or.inl ⟨by rfl, ?hy10⟩) hSS ?_
   case hy10 => (intro w9 hSw; (try dsimp only at hSw); go_simp; try with_reducible rfl)
   simp only [Act.put]
   refine wpAnyH_take (i := 11) (v := ?v11) rfl (by kernel_rfl) (by kernel_rfl) (by kernel_rfl) (fun _ _ _ h => h) (Or.inl ⟨by rfl, ?hy11⟩) hSS ?_
   case hy11 => (intro w9 hSw; (try dsimp only at hSw); go_simp; try with_reducible rfl)
   simp only [Act.put]
   refine wpAnyH_take (i := 12) (v := ?v12) rfl (by kernel_rfl) (by kernel_rfl) (by kernel_rfl) (fun _ _ _ h => h) (Or.inl ⟨by rfl, ?hy12⟩) hSS ?_
   case hy12 => (intro w9 hSw; (try dsimp only at hSw); go_simp; try with_reducible rfl)
   simp only [Act.put]
   refine wpAnyH_take (i := 13) (v := ?v13) rfl (by kernel_rfl) (by kernel_rfl) (by kernel_rfl) (fun _ _ _ h => h) (Or.inl ⟨by rfl, ?hy13⟩) hSS ?_
   case hy13 => (intro w9 hSw; (try dsimp only at hSw); go_simp; try with_reducible rfl)
   simp only [Act.put]
   refine wpAnyH_take (i := 14) (v := ?v14) rfl (by kernel_rfl) (by kernel_rfl) (by kernel_rfl) (fun _ _ _ h => h) (Or.inl ⟨by rfl, ?hy14⟩) hSS ?_
   case hy14 => (intro w9 hSw; (try dsimp only at hSw); go_simp; try with_reducible rfl)
   simp only [Act.put]
   refine wpAnyH_take (i := 15) (v := ?v15) rfl (by kernel_rfl) (by kernel_rfl) (by kernel_rfl) (fun _ _ _ h => h) (Or.inl ⟨by rfl, ?hy15⟩) hSS ?_
   case hy15 => (intro w9 hSw; (try dsimp only at hSw); go_simp; try with_reducible rfl)
   simp only [Act.put]
   refine wpAnyH_ready (rs := [16]) (by kernel_rfl) (by simp) (AllReadyH.cons (i := 16) rfl (fun K9 hK9 => ?_) AllReadyH.nil)
   go_simp
   refine hK9.out _ _ ((World.cell?_alloc_past _ _ _ hjl).trans j0) (fun hSS2 => ?_)
   clear hK9 K9 hSS
   refine wpAnyH_ready (rs := [17]) (by kernel_rfl) (by simp) (AllReadyH.cons (i := 17) rfl (fun K9 hK9 => ?_) AllReadyH.nil)
   go_simp
   go_at_call 69
   rw [← HW1.out]
   refine Calls.mono HI.out ?_
   intro e w2 q
   have FIN := hid q
   have q0 := q.c0
   obtain ⟨he, _⟩ := q
   subst he
   dsimp only
   refine hK9.out _ _ q0 (fun hSS3 => ?_)
   clear hK9 K9 hSS2
   refine wpAnyH_take (i := 18) (v := ?v18) rfl (by kernel_rfl) (by kernel_rfl) (by kernel_rfl) (fun _ _ _ h => h) (Or.inl ⟨by rfl, ?hy18⟩) hSS3 ?_
   case hy18 => (intro w9 hSw; (try dsimp only at hSw); go_simp; try with_reducible rfl)
   dsimp [Act.put]
   refine wpAnyH_done (by kernel_rfl) (NoPanic.normal ?_) _
   clear j0 HI HW1 q0 hSS3
   go_wp2
   go_ret
   exact FIN.out.from (fun k _ q => q.1) (But.refl _ _)
  ·by_cases c0 : lf = 0
   ·omega
   ·go_wp2_with fail
    clear c1 c0 j3
    refine wp_region_noPanic ?_
    refine wp_region_held_drew (S := fun w' => w'.cell? ⟨j, 0, none⟩ = some (.pointer (some ⟨c, 0, none⟩))) (by kernel_rfl) j0 (fun hSS => ?_)
    refine wpAnyH_take (i := 0) (v := ?v0) rfl (by kernel_rfl) (by kernel_rfl) (by kernel_rfl) (fun _ _ _ h => h) (Or.inl ⟨by rfl, ?hy0⟩) hSS ?_
    case hy0 => (intro w9 hSw; (try dsimp only at hSw); go_simp; try with_reducible rfl)
    simp only [Act.put, List.setIfInBounds_toArray]
    refine wpAnyH_take (i := 1) (v := ?v1) rfl (by kernel_rfl) (by kernel_rfl) (by kernel_rfl) (fun _ _ _ h => h) (Or.inl ⟨by rfl, ?hy1⟩) hSS ?_
    case hy1 => (intro w9 hSw; (try dsimp only at hSw); go_simp; try with_reducible rfl)
    simp only [Act.put]
    refine wpAnyH_take (i := 2) (v := ?v2) rfl (by kernel_rfl) (by kernel_rfl) (by kernel_rfl) (fun _ _ _ h => h) (Or.inl ⟨by rfl, ?hy2⟩) hSS ?_
    case hy2 => (intro w9 hSw; (try dsimp only at hSw); go_simp; try with_reducible rfl)
    simp only [Act.put]
    refine wpAnyH_take (i := 3) (v := ?v3) rfl (by kernel_rfl) (by kernel_rfl) (by kernel_rfl) (fun _ _ _ h => h) (Or.inl ⟨by rfl, ?hy3⟩) hSS ?_
    case hy3 => (intro w9 hSw; (try dsimp only at hSw); go_simp; try with_reducible rfl)
    simp only [Act.put]
    refine wpAnyH_take (i := 4) (v := ?v4) rfl (by kernel_rfl) (by kernel_rfl) (by kernel_rfl) (fun _ _ _ h => h) (Or.inl ⟨by rfl, ?hy4⟩) hSS ?_
    case hy4 => (intro w9 hSw; (try dsimp only at hSw); go_simp; try with_reducible rfl)
    simp only [Act.put]
    refine wpAnyH_take (i := 5) (v := ?v5) rfl (by kernel_rfl) (by kernel_rfl) (by kernel_rfl) (fun _ _ _ h => h) (Or.inl ⟨by rfl, ?hy5⟩) hSS ?_
    case hy5 => (intro w9 hSw; (try dsimp only at hSw); go_simp; try with_reducible rfl)
    simp only [Act.put]
    refine wpAnyH_take (i := 6) (v := ?v6) rfl (by kernel_rfl) (by kernel_rfl) (by kernel_rfl) (fun _ _ _ h => h) (Or.inl ⟨by rfl, ?hy6⟩) hSS ?_
    case hy6 => (intro w9 hSw; (try dsimp only at hSw); go_simp; try with_reducible rfl)
    simp only [Act.put]
    refine wpAnyH_take (i := 7) (v := ?v7) rfl (by kernel_rfl) (by kernel_rfl) (by kernel_rfl) (fun _ _ _ h => h) (Or.inl ⟨by rfl, ?hy7⟩) hSS ?_
    case hy7 => (intro w9 hSw; (try dsimp only at hSw); go_simp; try with_reducible rfl)
    simp only [Act.put]
    refine wpAnyH_take (i := 8) (v := ?v8) rfl (by kernel_rfl) (by kernel_rfl) (by kernel_rfl) (fun _ _ _ h => h) (Or.inl ⟨by rfl, ?hy8⟩) hSS ?_
    case hy8 => (intro w9 hSw; (try dsimp only at hSw); go_simp; try with_reducible rfl)
    simp only [Act.put]
    refine wpAnyH_take (i := 9) (v := ?v9) rfl (by kernel_rfl) (by kernel_rfl) (by kernel_rfl) (fun _ _ _ h => h) (Or.inl ⟨by rfl, ?hy9⟩) hSS ?_
    case hy9 => (intro w9 hSw; (try dsimp only at hSw); go_simp; try with_reducible rfl)
    simp only [Act.put]
    refine wpAnyH_take (i := 10) (v := ?v10) rfl (by kernel_rfl) (by kernel_rfl) (by kernel_rfl) (fun _ _ _ h => h) (Or.inl ⟨by rfl, ?hy10⟩) hSS ?_
    case hy10 => (intro w9 hSw; (try dsimp only at hSw); go_simp; try with_reducible rfl)
    simp only [Act.put]
    refine wpAnyH_take (i := 11) (v := ?v11) rfl (by kernel_rfl) (by kernel_rfl) (by kernel_rfl) (fun _ _ _ h => h) (Or.inl ⟨by rfl, ?hy11⟩) hSS ?_
    case hy11 => (intro w9 hSw; (try dsimp only at hSw); go_simp; try with_reducible rfl)
    simp only [Act.put]
    refine wpAnyH_take (i := 12) (v := ?v12) rfl (by kernel_rfl) (by kernel_rfl) (by kernel_rfl) (fun _ _ _ h => h) (Or.inl ⟨by rfl, ?hy12⟩) hSS ?_
    case hy12 => (intro w9 hSw; (try dsimp only at hSw); go_simp; try with_reducible rfl)
    simp only [Act.put]
    refine wpAnyH_take (i := 13) (v := ?v13) rfl (by kernel_rfl) (by kernel_rfl) (by kernel_rfl) (fun _ _ _ h => h) (Or.inl ⟨by rfl, ?hy13⟩) hSS ?_
    case hy13 => (intro w9 hSw; (try dsimp only at hSw); go_simp; try with_reducible rfl)
    simp only [Act.put]
    refine wpAnyH_take (i := 14) (v := ?v14) rfl (by kernel_rfl) (by kernel_rfl) (by kernel_rfl) (fun _ _ _ h => h) (Or.inl ⟨by rfl, ?hy14⟩) hSS ?_
    case hy14 => (intro w9 hSw; (try dsimp only at hSw); go_simp; try with_reducible rfl)
    simp only [Act.put]
    refine wpAnyH_take (i := 15) (v := ?v15) rfl (by kernel_rfl) (by kernel_rfl) (by kernel_rfl) (fun _ _ _ h => h) (Or.inl ⟨by rfl, ?hy15⟩) hSS ?_
    case hy15 => (intro w9 hSw; (try dsimp only at hSw); go_simp; try with_reducible rfl)
    simp only [Act.put]
    refine wpAnyH_ready (rs := [16]) (by kernel_rfl) (by simp) (AllReadyH.cons (i := 16) rfl (fun K9 hK9 => ?_) AllReadyH.nil)
    go_simp
    refine hK9.out _ _ ((World.cell?_alloc_past _ _ _ hjl).trans j0) (fun hSS2 => ?_)
    clear hK9 K9 hSS
    refine wpAnyH_ready (rs := [17]) (by kernel_rfl) (by simp) (AllReadyH.cons (i := 17) rfl (fun K9 hK9 => ?_) AllReadyH.nil)
    go_simp
    go_at_call 69
    rw [← HW1.out]
    refine Calls.mono HI.out ?_
    intro e w2 q
    have FIN := hid q
    have q0 := q.c0
    obtain ⟨he, _⟩ := q
    subst he
    dsimp only
    refine hK9.out _ _ q0 (fun hSS3 => ?_)
    clear hK9 K9 hSS2
    refine wpAnyH_take (i := 18) (v := ?v18) rfl (by kernel_rfl) (by kernel_rfl) (by kernel_rfl) (fun _ _ _ h => h) (Or.inl ⟨by rfl, ?hy18⟩) hSS3 ?_
    case hy18 => (intro w9 hSw; (try dsimp only at hSw); go_simp; try with_reducible rfl)
    dsimp [Act.put]
    refine wpAnyH_done (by kernel_rfl) (NoPanic.normal ?_) _
    clear j0 HI HW1 q0 hSS3
    go_wp2
    go_ret
    exact FIN.out.from (fun k _ q => q.1) (But.refl _ _)
open Go.RowKit Go.Maps Go.Sort Go.Shelf
def keysA_ren : Go.Shelf.Ren := ⟨fun | 7 => 165 | 10 => 193 | n => n, fun | 23 => 119 | 26 => 3 | 3 => 22 | 28 => 211 | 0 => 0 | 27 => 210 | 33 => 149 | 4 => 4 | n => n, fun | n => n⟩
theorem keysA : Go.Proofs.SlLaysZI.n7 Tryz.prog keysA_ren := {
 mixed := by kernel_rfl
 f7 := ⟨Tryz.f165.name, by decide, Tryz.func165.trans (congrArg some (by kernel_rfl))⟩
 f10 := ⟨Tryz.f193.name, by decide, Tryz.func193.trans (congrArg some (by kernel_rfl))⟩
 t0 := Tryz.underlying0
 a0 := Tryz.isAgg0
 z0 := Tryz.sizeOf0
 v0 := Tryz.zeroValue0
 t4 := Tryz.underlying4
 a4 := Tryz.isAgg4
 z4 := Tryz.sizeOf4
 v4 := Tryz.zeroValue4
 t23 := Tryz.underlying119
 a23 := Tryz.isAgg119
 z23 := Tryz.sizeOf119
 v23 := Tryz.zeroValue119
 t26 := Tryz.underlying3
 a26 := Tryz.isAgg3
 z26 := Tryz.sizeOf3
 v26 := Tryz.zeroValue3
 t27 := Tryz.underlying210
 a27 := Tryz.isAgg210
 z27 := Tryz.sizeOf210
 v27 := Tryz.zeroValue210
 t28 := Tryz.underlying211
 a28 := Tryz.isAgg211
 z28 := Tryz.sizeOf211
 v28 := Tryz.zeroValue211
 t33 := Tryz.underlying149
 a33 := Tryz.isAgg149
 z33 := Tryz.sizeOf149
 v33 := Tryz.zeroValue149 }
def sortedA_ren : Go.Shelf.Ren := ⟨fun | 6 => 135 | 8 => 174 | 9 => 175 | 11 => 200 | 13 => 202 | 12 => 201 | 23 => 219 | 24 => 220 | 14 => 210 | 15 => 211 | 16 => 212 | 17 => 213 | 18 => 214 | 19 => 215 | 20 => 216 | 21 => 217 | 22 => 218 | 25 => 223 | 26 => 224 | 27 => 225 | 28 => 226 | 29 => 227 | 30 => 228 | 31 => 229 | n => n, fun | 26 => 3 | 28 => 211 | 24 => 26 | 0 => 0 | 3 => 3 | 37 => 156 | 48 => 268 | 50 => 36 | 4 => 4 | 40 => 285 | 39 => 284 | 45 => 182 | 5 => 5 | 9 => 9 | 51 => 295 | 55 => 299 | 57 => 301 | 58 => 169 | 33 => 149 | n => n, fun | n => n⟩
theorem sortedA : Go.Proofs.SlLaysZI.n6 Tryz.prog sortedA_ren := {
 mixed := by kernel_rfl
 f6 := ⟨Tryz.f135.name, by decide, Tryz.func135.trans (congrArg some (by kernel_rfl))⟩
 f8 := ⟨Tryz.f174.name, by decide, Tryz.func174.trans (congrArg some (by kernel_rfl))⟩
 f11 := ⟨Tryz.f200.name, by decide, Tryz.func200.trans (congrArg some (by kernel_rfl))⟩
 t0 := Tryz.underlying0
 a0 := Tryz.isAgg0
 z0 := Tryz.sizeOf0
 v0 := Tryz.zeroValue0
 t24 := Tryz.underlying26
 a24 := Tryz.isAgg26
 z24 := Tryz.sizeOf26
 v24 := Tryz.zeroValue26
 t26 := Tryz.underlying3
 a26 := Tryz.isAgg3
 z26 := Tryz.sizeOf3
 v26 := Tryz.zeroValue3
 t28 := Tryz.underlying211
 a28 := Tryz.isAgg211
 z28 := Tryz.sizeOf211
 v28 := Tryz.zeroValue211
 i26 := by kernel_rfl }
def sortA_ren : Go.Shelf.Ren := ⟨fun | 5 => 175 | 8 => 202 | 7 => 201 | 19 => 219 | 20 => 220 | 10 => 210 | 11 => 211 | 12 => 212 | 13 => 213 | 14 => 214 | 15 => 215 | 16 => 216 | 17 => 217 | 18 => 218 | 30 => 223 | 31 => 224 | 32 => 225 | 33 => 226 | 34 => 227 | 35 => 228 | 40 => 229 | n => n, fun | 23 => 26 | 25 => 3 | 3 => 3 | 32 => 156 | 22 => 26 | 0 => 0 | 44 => 268 | 46 => 36 | 4 => 4 | 36 => 285 | 35 => 284 | 41 => 182 | 5 => 5 | 9 => 9 | 53 => 295 | 57 => 299 | 63 => 301 | 64 => 169 | n => n, fun | n => n⟩
theorem sortA : Go.Proofs.SlLaysM.n5 Tryz.prog sortA_ren := {
 mixed := by kernel_rfl
 f5 := ⟨Tryz.f175.name, by decide, Tryz.func175.trans (congrArg some (by kernel_rfl))⟩
 f7 := ⟨Tryz.f201.name, by decide, Tryz.func201.trans (congrArg some (by kernel_rfl))⟩
 f8 := Tryz.func202.trans (congrArg some (by kernel_rfl))
 f10 := ⟨Tryz.f210.name, by decide, Tryz.func210.trans (congrArg some (by kernel_rfl))⟩
 f11 := ⟨Tryz.f211.name, by decide, Tryz.func211.trans (congrArg some (by kernel_rfl))⟩
 f12 := ⟨Tryz.f212.name, by decide, Tryz.func212.trans (congrArg some (by kernel_rfl))⟩
 f13 := ⟨Tryz.f213.name, by decide, Tryz.func213.trans (congrArg some (by kernel_rfl))⟩
 f14 := ⟨Tryz.f214.name, by decide, Tryz.func214.trans (congrArg some (by kernel_rfl))⟩
 f15 := ⟨Tryz.f215.name, by decide, Tryz.func215.trans (congrArg some (by kernel_rfl))⟩
 f16 := ⟨Tryz.f216.name, by decide, Tryz.func216.trans (congrArg some (by kernel_rfl))⟩
 f17 := ⟨Tryz.f217.name, by decide, Tryz.func217.trans (congrArg some (by kernel_rfl))⟩
 f18 := ⟨Tryz.f218.name, by decide, Tryz.func218.trans (congrArg some (by kernel_rfl))⟩
 f19 := Tryz.func219.trans (congrArg some (by kernel_rfl))
 f20 := Tryz.func220.trans (congrArg some (by kernel_rfl))
 f30 := ⟨Tryz.f223.name, by decide, Tryz.func223.trans (congrArg some (by kernel_rfl))⟩
 f31 := Tryz.func224.trans (congrArg some (by kernel_rfl))
 f32 := Tryz.func225.trans (congrArg some (by kernel_rfl))
 f33 := ⟨Tryz.f226.name, by decide, Tryz.func226.trans (congrArg some (by kernel_rfl))⟩
 f34 := ⟨Tryz.f227.name, by decide, Tryz.func227.trans (congrArg some (by kernel_rfl))⟩
 f35 := ⟨Tryz.f228.name, by decide, Tryz.func228.trans (congrArg some (by kernel_rfl))⟩
 f40 := ⟨Tryz.f229.name, by decide, Tryz.func229.trans (congrArg some (by kernel_rfl))⟩
 t0 := Tryz.underlying0
 a0 := Tryz.isAgg0
 z0 := Tryz.sizeOf0
 v0 := Tryz.zeroValue0
 t3 := Tryz.underlying3
 a3 := Tryz.isAgg3
 z3 := Tryz.sizeOf3
 v3 := Tryz.zeroValue3
 t4 := Tryz.underlying4
 a4 := Tryz.isAgg4
 z4 := Tryz.sizeOf4
 v4 := Tryz.zeroValue4
 t5 := Tryz.underlying5
 a5 := Tryz.isAgg5
 z5 := Tryz.sizeOf5
 v5 := Tryz.zeroValue5
 t9 := Tryz.underlying9
 a9 := Tryz.isAgg9
 z9 := Tryz.sizeOf9
 v9 := Tryz.zeroValue9
 t22 := Tryz.underlying26
 a22 := Tryz.isAgg26
 z22 := Tryz.sizeOf26
 v22 := Tryz.zeroValue26
 t23 := Tryz.underlying26
 a23 := Tryz.isAgg26
 z23 := Tryz.sizeOf26
 v23 := Tryz.zeroValue26
 t25 := Tryz.underlying3
 a25 := Tryz.isAgg3
 z25 := Tryz.sizeOf3
 v25 := Tryz.zeroValue3
 t32 := Tryz.underlying156
 a32 := Tryz.isAgg156
 z32 := Tryz.sizeOf156
 v32 := Tryz.zeroValue156
 t35 := Tryz.underlying284
 a35 := Tryz.isAgg284
 z35 := Tryz.sizeOf284
 v35 := Tryz.zeroValue284
 t36 := Tryz.underlying285
 a36 := Tryz.isAgg285
 z36 := Tryz.sizeOf285
 v36 := Tryz.zeroValue285
 t41 := Tryz.underlying182
 a41 := Tryz.isAgg182
 z41 := Tryz.sizeOf182
 v41 := Tryz.zeroValue182
 t44 := Tryz.underlying268
 a44 := Tryz.isAgg268
 z44 := Tryz.sizeOf268
 v44 := Tryz.zeroValue268
 t46 := Tryz.underlying36
 a46 := Tryz.isAgg36
 z46 := Tryz.sizeOf36
 v46 := Tryz.zeroValue36
 t53 := Tryz.underlying295
 a53 := Tryz.isAgg295
 z53 := Tryz.sizeOf295
 v53 := Tryz.zeroValue295
 t57 := Tryz.underlying299
 a57 := Tryz.isAgg299
 z57 := Tryz.sizeOf299
 v57 := Tryz.zeroValue299
 t63 := Tryz.underlying301
 a63 := Tryz.isAgg301
 z63 := Tryz.sizeOf301
 v63 := Tryz.zeroValue301
 t64 := Tryz.underlying169
 a64 := Tryz.isAgg169
 z64 := Tryz.sizeOf169
 v64 := Tryz.zeroValue169 }
theorem sortsA (m : Nat) : AnyZI.SortsIn Tryz.prog sortedA_ren Fence.wide m :=
 ⟨fun blk off cap ss W hH hblk hsz => callsIn_wide.2 (AnyM.slices_Sort_int sortA blk off cap ss W hH hblk hsz),
 fun p cap W => callsIn_wide.2 (AnyM.slices_Sort_int_none sortA p cap W)⟩
theorem keys_any (mb : Option Nat) (w : World) : Calls Tryz.prog 165 #[.map mb] w fun e w' => e = .returned (.func (.func 193) #[] #[.pointer (some ⟨w.heap.size, 0, none⟩)]) ∧ w' = w.alloc (.cells #[.map mb] 119) :=
 (callsIn_wide (n := 6)).1 (AnyZI.keys_in keysA Fence.wide 6 trivial rfl mb w)
theorem sorted_any {H : Type} (b nn : Nat) (D0 : DataW H) (R : Value → Option (DataW H × List MemPlace)) (w : World) (hown : w.ownsMap Tryz.prog 3 R b nn D0) (hmax : Maps.size D0 ≤ maxLen) (hbytes : Maps.size D0 * 8 ≤ 140737488355328) :
  Calls Tryz.prog 135 #[.func (.func 193) #[] #[.pointer (some ⟨w.heap.size, 0, none⟩)]] (w.alloc (.cells #[.map (some b)] 119)) fun e w' => ∃ (v : Value) (ss : List Int), e = .returned v ∧ ss.Perm (intKeys D0) ∧
   w'.ownsRow w.heap.size 3 1 v ss.length ((ss.mergeSort (fun x y => decide (x ≤ y))).map encZ) ∧ (v = .slice none 0 0 ↔ ss = []) ∧ Below w.heap.size w w' := by
 have hbl := hown.lt
 have hseq : SeqGives Fence.wide 2 Tryz.prog 193 #[.pointer (some ⟨w.heap.size, 0, none⟩)] encZ (fun ss => ss.Perm (intKeys D0)) (Maps.size D0) (w.alloc (.cells #[.map (some b)] 119)) :=
  AnyZI.keys_gives (ρ := keysA_ren) { keysA with } Fence.wide _ trivial rfl (by omega) w.heap.size b nn D0 _ (by simp) (by simp) (by
   obtain ⟨es, clock, hb, Ft, hs, hD⟩ := hown
   exact ⟨es, clock, (Below.heap_alloc _ _ b hbl).trans hb, Ft, hs, hD⟩)
 have cS := AnyZI.sorted_in sortedA Fence.wide 5 trivial trivial trivial trivial rfl (by omega) (sortsA _) (enters_of Tryz.func175 (by kernel_rfl) rfl) 193 #[.pointer (some ⟨w.heap.size, 0, none⟩)] trivial (enters_of Tryz.func193 (by kernel_rfl) rfl) _ _ hmax hbytes _ hseq
 change CallsIn _ _ Tryz.prog 135 _ _ _ at cS
 refine Calls.mono ((callsIn_wide).1 cS) ?_
 rintro e w' ⟨v, ss, rfl, hS, hrow, hnil, hb⟩
 exact ⟨v, ss, rfl, hS, ownsRow_base_a hrow (by simp), hnil, ((Below.refl _ w).alloc (Nat.le_refl _) _).trans (hb.mono (by simp))⟩
end Go.Proofs.YtldlejpacgphmabGreat
