import Derived.Test.YtldlejpacgphmaaGreatG11
namespace Go.Proofs.YtldlejpacgphmaaGreat
open Go.RowKit
theorem Jb.set {w : World} {j c : Nat} {fr bl life seq used : Int} {mv : Value} (h : Jb w j c fr bl life seq used mv) (t : Nat) (v : Value) : (w.setCell ⟨j, t, none⟩ v).heap[j]? = some (.cells (#[.pointer (some ⟨c, 0, none⟩), .int .i64 fr, .int .i64 bl, .int .i64 life, .int .i64 seq, .int .i64 used, mv].setIfInBounds t v) 115 (0, 0)) := by
 unfold Jb at h
 simp only [World.setCell, Array.getElem?_modify]
 rw [h]
 simp
theorem JqW.rejb {Z Zc : Nat → Prop} {w w' : World} {j c p room nb K fr bl m n : Nat} {D : DataW (Nat × Nat)} {a : Nat → Option (Nat × Nat)} {d : Pd} {s s' : Js} (h : JqW Z Zc w j c p room nb K fr bl m n D a d s) (hb : But (fun k => k = j) w w') (hJ : Jb w' j c fr bl s'.life s'.seq s'.used (.map (some m))) (ha : s'.ah = s.ah) : JqW Z Zc w' j c p room nb K fr bl m n D a d s' where
 cq := h.cq.but hb (fun k _ q e => h.nj (e ▸ q))
 jb := hJ
 mp := mapB_keep h.mp (hb.block m (mapB_lt h.mp) (fun e => h.jb.ne_map h.mp e.symm))
 am := h.am
 dat := fun x g cp hx => by
  obtain ⟨zs, h1, h2, h3, h4, h5, h6⟩ := h.dat x g cp hx
  exact ⟨zs, by rw [ha]; exact h1, h2.keep (hb.block g h2.lt (h2.ne_jb h.jb)), h3, h4, h5, h6⟩
 non := fun x hx => by rw [ha]; exact h.non x hx
 nj := h.nj
 nm := h.nm
 zj := h.zj
 zm := h.zm
 sub := h.sub
 sz := h.sz
theorem JqW.remap {Z Zc : Nat → Prop} {w w' : World} {j c p room nb K fr bl m n : Nat} {D : DataW (Nat × Nat)} {a : Nat → Option (Nat × Nat)} {d : Pd} {s s' : Js} (h : JqW Z Zc w j c p room nb K fr bl m n D a d s) (hb : But (fun k => k = j) w w') {m' : Nat} (hm' : w.heap.size ≤ m') (hJ : Jb w' j c fr bl s'.life s'.seq s'.used (.map (some m'))) (hM : w'.ownsMap Tryz.prog 3 slElem m' 0 (.map [] : DataW (Nat × Nat))) (ha : s'.ah = fun _ => none) :
  ∃ Z', Jq Z' w' j c p room nb K fr bl d s' ∧ Gr Z Z' w := by
 refine ⟨fun k => Z k ∧ k < w.heap.size ∨ k = m', ⟨fun k => Zc k ∧ k < w.heap.size, m', 0, .map [], fun _ => none, h.cq.cut.but hb (fun k _ q e => h.nj (e ▸ q.1)), hJ, hM, AM.nil nb, fun x g cp hx => (by cases hx), fun x _ => (by rw [ha]), fun q => h.nj q.1, fun q => (by omega), .inl ⟨h.zj, h.jb.lt⟩, .inr rfl, fun k q => .inl ⟨h.sub k q.1, q.2⟩, Nat.zero_le _⟩, fun k hk q => ?_⟩
 rcases q with q | q
 ·exact q.1
 ·omega
def beginS (s : Js) : Js := ⟨s.life + 1, s.seq, 0, fun _ => none⟩
def endS (s : Js) : Js := ⟨0, s.seq, s.used, s.ah⟩
set_option maxRecDepth 100000 in
set_option maxHeartbeats 1000000 in
theorem beginLife_any {Z : Nat → Prop} {w : World} {j c p room nb K fr bl : Nat} {d : Pd} {s : Js} (h : Jq Z w j c p room nb K fr bl d s) (hn : Jn nb fr bl s) (hlf : s.life < 1099511627776) (hl : d.puts.length ≤ 1073741823) :
  Calls Tryz.prog 71 #[.pointer (some ⟨j, 0, none⟩)] w fun e w' => e = .returned (.int .i64 (d.run1 (.wr fr (headZ fr bl (s.life + 1) s.seq))).1) ∧ (∃ Z', Jq Z' w' j c p room nb K fr bl (d.run1 (.wr fr (headZ fr bl (s.life + 1) s.seq))).2 (beginS s) ∧ Gr Z Z' w) ∧ But Z w w' := by
 have hz0 := h.cells
 obtain ⟨Zc, m, n, D, a, h⟩ := h
 have j3 := h.jb.cell 3
 have f3 := h.jb.frozen 3
 simp at j3
 obtain ⟨w1, hw1⟩ : ∃ w1, w1 = w.setCell ⟨j, 3, none⟩ (.int .i64 ((s.life : Int) + 1)) := ⟨_, rfl⟩
 have J1 : Jb w1 j c fr bl ((s.life : Int) + 1) s.seq s.used (.map (some m)) := by rw [hw1]; simpa [Jb] using h.jb.set 3 (.int .i64 ((s.life : Int) + 1))
 have j5 := J1.cell 5
 have f5 := J1.frozen 5
 simp at j5
 obtain ⟨w2, hw2⟩ : ∃ w2, w2 = w1.setCell ⟨j, 5, none⟩ (.int .i64 0) := ⟨_, rfl⟩
 have J2 : Jb w2 j c fr bl ((s.life : Int) + 1) s.seq 0 (.map (some m)) := by rw [hw2]; simpa [Jb] using J1.set 5 (.int .i64 0)
 have j6 := J2.cell 6
 have f6 := J2.frozen 6
 simp at j6
 have z2 : w2.heap.size = w.heap.size := by rw [hw2, hw1]; simp [World.setCell]
 obtain ⟨w3, hw3⟩ : ∃ w3, w3 = w2.setCell ⟨j, 6, none⟩ (.map (some w.heap.size)) := ⟨_, rfl⟩
 have J3 : Jb w3 j c fr bl ((s.life : Int) + 1) s.seq 0 (.map (some w.heap.size)) := by rw [hw3]; simpa [Jb] using J2.set 6 (.map (some w.heap.size))
 have z3 : w3.heap.size = w.heap.size := by rw [hw3]; simp [World.setCell]; omega
 obtain ⟨w4, hw4⟩ : ∃ w4, w4 = w3.alloc (.map #[] 0) := ⟨_, rfl⟩
 have b4 : Below w3.heap.size w3 w4 := by rw [hw4]; exact (Below.refl _ _).alloc (Nat.le_refl _) _
 have hjl := h.jb.lt
 have J4 : Jb w4 j c fr bl ((s.life : Int) + 1) s.seq 0 (.map (some w.heap.size)) := (b4.block j (by omega)).trans J3
 have M4 : w4.ownsMap Tryz.prog 3 slElem w.heap.size 0 (.map [] : DataW (Nat × Nat)) := by rw [hw4, ← z3]; exact World.ownsMap_made w3 Tryz.prog 3 slElem
 have B : But (fun k => k = j) w w3 := by
  rw [hw3, hw2, hw1]
  exact (((But.refl (fun y => y = j) w).setCell (p := ⟨j, 3, none⟩) (show (fun y => y = j) j from rfl) _).setCell (p := ⟨j, 5, none⟩) (show (fun y => y = j) j from rfl) _).setCell (p := ⟨j, 6, none⟩) (show (fun y => y = j) j from rfl) _
 have B4 := B.trans (But.of_below b4)
 obtain ⟨Z4, hJ4, hG4⟩ := h.remap (s' := beginS s) B4 (Nat.le_refl _) (by simpa [beginS] using J4) M4 rfl
 have HW := hid (writeHead_any hJ4 (⟨hn.lo, hn.fit, hn.nb, by simp [beginS]; omega, hn.seq, by have := hn.lo; simp [beginS]; omega⟩ : Jn nb fr bl (beginS s)) hl)
 have K4 := hid (And.intro hG4 (And.intro B4 h.zj))
 have hwr : IntKind.i64.wrap ((s.life : Int) + 1) = (s.life : Int) + 1 := by rw [IntKind.wrap_i64]; omega
 have hmm := @run_makeMap Tryz.prog
 rw [hw1] at j5 f5
 rw [hw2, hw1] at j6 f6
 clear J1 J2 J3 J4 M4 B B4 hJ4 hG4 b4 z3 h hn hl hz0
 go_enter Tryz.func71, Tryz.ntmps71
 go_wp2_with fail
 rw [← hw1, ← hw2, ← hw3, ← hw4]
 refine Calls.mono HW.out ?_
 rintro e w5 ⟨rfl, ⟨Z5, hJ5, hG5⟩, b5⟩
 have hs := K4.out.2.1.size
 have FIN := hid (And.intro hJ5 (And.intro (K4.out.1.trans hG5 hs) ((K4.out.2.1.mono (Y := Z) (fun k _ q => by rw [q]; exact K4.out.2.2)).comp b5 (fun k hk q => K4.out.1 k hk q))))
 clear hJ5 hG5 b5 HW K4 j3 j5 j6 f3 f5 f6 hs hw1 hw2 hw3 hw4 z2
 go_wp2
 go_ret
 exact ⟨rfl, ⟨Z5, FIN.out.1, FIN.out.2.1⟩, FIN.out.2.2⟩
end Go.Proofs.YtldlejpacgphmaaGreat
namespace Go.Proofs.YtldlejpacgphmaaGreat
open Go.RowKit
set_option maxRecDepth 100000 in
set_option maxHeartbeats 1000000 in
theorem endLives_any {Z : Nat → Prop} {w : World} {j c p room nb K fr bl : Nat} {d : Pd} {s : Js} (h : Jq Z w j c p room nb K fr bl d s) (hn : Jn nb fr bl s) (hl : d.puts.length ≤ 1073741823) :
  Calls Tryz.prog 132 #[.pointer (some ⟨j, 0, none⟩)] w fun e w' => e = .returned (.int .i64 (d.run1 (.wr fr (headZ fr bl 0 s.seq))).1) ∧ (∃ Z', Jq Z' w' j c p room nb K fr bl (d.run1 (.wr fr (headZ fr bl 0 s.seq))).2 (endS s) ∧ Gr Z Z' w) ∧ But Z w w' := by
 obtain ⟨Zc, m, n, D, a, h⟩ := h
 have j3 := h.jb.cell 3
 have f3 := h.jb.frozen 3
 simp at j3
 obtain ⟨w1, hw1⟩ : ∃ w1, w1 = w.setCell ⟨j, 3, none⟩ (.int .i64 0) := ⟨_, rfl⟩
 have J1 : Jb w1 j c fr bl 0 s.seq s.used (.map (some m)) := by rw [hw1]; simpa [Jb] using h.jb.set 3 (.int .i64 0)
 have B : But (fun k => k = j) w w1 := by
  rw [hw1]
  exact (But.refl (fun y => y = j) w).setCell (p := ⟨j, 3, none⟩) (show (fun y => y = j) j from rfl) _
 have z1 : w1.heap.size = w.heap.size := by rw [hw1]; simp [World.setCell]
 have hJ1 : Jq Z w1 j c p room nb K fr bl d (endS s) := ⟨Zc, m, n, D, a, h.rejb (s' := endS s) B (by simpa [endS] using J1) rfl⟩
 have HW := hid (writeHead_any hJ1 (⟨hn.lo, hn.fit, hn.nb, Nat.zero_le _, hn.seq, hn.used⟩ : Jn nb fr bl (endS s)) hl)
 have K4 := hid (And.intro B h.zj)
 have Z1 := hid z1
 clear J1 B hJ1 h hn hl z1
 go_enter Tryz.func132, Tryz.ntmps132
 go_wp2_with fail
 rw [← hw1]
 refine Calls.mono HW.out ?_
 rintro e w5 ⟨rfl, ⟨Z5, hJ5, hG5⟩, b5⟩
 have FIN := hid (And.intro hJ5 (And.intro (show Gr Z Z5 w from fun k hk q => hG5 k (by have := Z1.out; omega) q) ((K4.out.1.mono (Y := Z) (fun k _ q => by rw [q]; exact K4.out.2)).comp b5 (fun k hk q => q))))
 clear hJ5 hG5 b5 HW K4 j3 f3 hw1 Z1
 go_wp2
 go_ret
 exact ⟨rfl, ⟨Z5, FIN.out.1, FIN.out.2.1⟩, FIN.out.2.2⟩
set_option maxRecDepth 100000 in
theorem wipeHead_any {Z : Nat → Prop} {w : World} {j c p room nb K fr bl : Nat} {d : Pd} {s : Js} (h : Jq Z w j c p room nb K fr bl d s) (hn : Jn nb fr bl s) (hl : d.puts.length ≤ 1073741822) :
  Calls Tryz.prog 68 #[.pointer (some ⟨j, 0, none⟩)] w fun e w' => e = .returned (.int .i64 (d.runs (wipes fr bl fr 1)).1) ∧ (∃ Z', Jq Z' w' j c p room nb K fr bl (d.runs (wipes fr bl fr 1)).2 s ∧ Gr Z Z' w) ∧ But Z w w' := by
 obtain ⟨mv, hJ, hZj⟩ := h.cells
 have j1 := hJ.cell 1
 simp at j1
 have := hn.fit
 have := hn.nb
 have := hn.lo
 have HW := hid (wipe_any h (by omega) (by omega) fr 1 (by omega) (by omega))
 clear hJ h hl hn
 go_enter Tryz.func68, Tryz.ntmps68
 go_wp2_with fail
 refine Calls.mono HW.out ?_
 rintro e w5 ⟨rfl, q⟩
 have FIN := hid q
 clear q HW j1
 go_wp2
 go_ret
 exact ⟨rfl, FIN.out⟩
set_option maxRecDepth 100000 in
set_option maxHeartbeats 4000000 in
theorem wipeLog_any {Z : Nat → Prop} {w : World} {j c p room nb K fr bl : Nat} {d : Pd} {s : Js} (h : Jq Z w j c p room nb K fr bl d s) (hn : Jn nb fr bl s) (hl : d.puts.length + bl ≤ 1073741823) :
  Calls Tryz.prog 70 #[.pointer (some ⟨j, 0, none⟩)] w fun e w' => e = .returned (.int .i64 (d.runs (wipes fr bl (fr + 1) (bl - 1))).1) ∧ (∃ Z', Jq Z' w' j c p room nb K fr bl (d.runs (wipes fr bl (fr + 1) (bl - 1))).2 s ∧ Gr Z Z' w) ∧ But Z w w' := by
 obtain ⟨mv, hJ, hZj⟩ := h.cells
 have j1 := hJ.cell 1
 have j2 := hJ.cell 2
 simp at j1 j2
 have h1 := hn.fit
 have h2 := hn.nb
 have h3 := hn.lo
 have hjl := hid hJ
 have HA := hid (fun w => jlogBlock_any (fr : Int) (bl : Int) 0 (by omega) (by omega) (by omega) (by omega) w)
 have HB := hid (fun w => jlogRoom_any (fr : Int) (bl : Int) (by omega) (by omega) w)
 have HW : Hid (∀ w1, Below w.heap.size w w1 → Calls Tryz.prog 105 #[.pointer (some ⟨j, 0, none⟩), .int .i64 ((fr : Int) + 1), .int .i64 ((bl : Int) - 1)] w1 fun e w' => e = .returned (.int .i64 (d.runs (wipes fr bl (fr + 1) (bl - 1))).1) ∧ (∃ Z', Jq Z' w' j c p room nb K fr bl (d.runs (wipes fr bl (fr + 1) (bl - 1))).2 s ∧ Gr Z Z' w) ∧ But Z w w') := fun w1 b1 => by
  have H := wipe_any (h.cut.below b1) (by omega) (by omega) (fr + 1) (bl - 1) (by omega) (by omega)
  rw [show ((fr + 1 : Nat) : Int) = (fr : Int) + 1 by omega, show ((bl - 1 : Nat) : Int) = (bl : Int) - 1 by omega] at H
  refine Calls.mono H ?_
  rintro e w' ⟨rfl, ⟨Z', q1, q2⟩, b⟩
  have hs := b1.size
  exact ⟨rfl, ⟨Z', q1, fun k hk q => (q2 k (by omega) q).1⟩, (But.of_below b1).comp b (fun k _ q => q.1)⟩
 clear hJ h hl hn h1 h2 h3
 go_enter Tryz.func70, Tryz.ntmps70
 go_wp2_with fail
 go_region_law (first
  | (go_simp; go_at_call 95; refine Calls.mono (HA.out _) ?_; rintro e w2 ⟨rfl, b2⟩; have B2 : Hid (Below w.heap.size w w2) := ⟨b2.os, b2.tape, b2.output, b2.size, b2.block⟩; have k1 := (B2.out.cell (p := ⟨j, 1, none⟩) hjl.out.lt).trans j1; have k2 := (B2.out.cell (p := ⟨j, 2, none⟩) hjl.out.lt).trans j2; clear b2; dsimp only)
  | (go_simp; go_at_call 94; refine Calls.mono (HB.out _) ?_; rintro e w3 ⟨rfl, b3⟩; have B3 := hid (B2.out.trans (b3.mono B2.out.size)); clear b3; dsimp only)
  | (go_simp; go_at_call 105; refine Calls.mono (HW.out _ B3.out) ?_; rintro e w4 ⟨rfl, q⟩; have FIN := hid q; clear q; dsimp only))
 all_goals
  clear j1 j2 HA HB HW hjl
  go_wp2
  go_ret
  exact ⟨rfl, FIN.out⟩
end Go.Proofs.YtldlejpacgphmaaGreat
namespace Go.Proofs.YtldlejpacgphmaaGreat
open Go.RowKit
theorem Turn.step {k f : Nat} {r : Value} {fs : List (Nat × Value)} {Q : Ending → World → Prop} {R : World → Prop} {w : World} {code : Int} (H : Calls Tryz.prog f #[r] w fun e w' => e = .returned (.int .i64 code) ∧ R w') (hk : ∀ w', R w' → w'.heap[k]? = w.heap[k]?) (hbad : ∀ w', code ≠ 0 → R w' → Q (.returned (.int .i64 code)) w') (hgood : ∀ w', code = 0 → R w' → Turn k Q fs w') : Turn k Q ((f, r) :: fs) w := by
 refine Calls.mono H ?_
 rintro e w' ⟨rfl, h⟩
 exact ⟨code, rfl, fun q => hbad w' q h, fun q => ⟨hk w' h, hgood w' q h⟩⟩
def noS : Js := ⟨0, 0, 0, fun _ => none⟩
def layC (d : Pd) (nb : Nat) (fr bl : Int) : Int := if d.off then 24 else placeC nb fr bl
theorem placeC_zero {nb : Nat} {fr bl : Int} (h : placeC nb fr bl = 0) : ∃ f b : Nat, fr = f ∧ bl = b ∧ 16 ≤ b ∧ f + b ≤ nb := by
 unfold placeC at h
 split at h
 ·cases h
 ·split at h
  ·cases h
  ·exact ⟨fr.toNat, bl.toNat, by omega, by omega, by omega, by omega⟩
def LayP (Z : Nat → Prop) (w w' : World) (c p room nb K : Nat) (d : Pd) (fr bl : Int) (code : Int) (jv : Option Addr) : Prop :=
 (code ≠ 0 ∧ jv = none) ∨ (code = 0 ∧ ∃ j f b : Nat, jv = some ⟨j, 0, none⟩ ∧ fr = f ∧ bl = b ∧ 16 ≤ b ∧ f + b ≤ nb ∧ w.heap.size ≤ j ∧ ∃ Z', Jq Z' w' j c p room nb K f b d noS ∧ Gr Z Z' w)
theorem lay_ready {w : World} (c : Nat) (fr bl : Int) {w4 : World} (e : w4 = (((w.alloc (.cells #[.int .i64 fr, .int .i64 bl] 100)).alloc (.map #[] 0)).alloc (.cells #[.pointer (some ⟨c, 0, none⟩), .int .i64 fr, .int .i64 bl, .int .i64 0, .int .i64 0, .int .i64 0, .map (some (w.heap.size + 1))] 115)).alloc (.cells #[.func (.func 83) #[.pointer (some ⟨w.heap.size + 2, 0, none⟩)] #[], .func (.func 92) #[.pointer (some ⟨w.heap.size + 2, 0, none⟩)] #[]] 91)) :
  Below w.heap.size w w4 ∧ w4.heap.size = w.heap.size + 4 ∧ Jb w4 (w.heap.size + 2) c fr bl 0 0 0 (.map (some (w.heap.size + 1))) ∧ w4.ownsMap Tryz.prog 3 slElem (w.heap.size + 1) 0 (.map [] : DataW (Nat × Nat)) ∧ (∀ i f, [((83 : Nat), Value.pointer (some ⟨w.heap.size + 2, 0, none⟩)), (92, Value.pointer (some ⟨w.heap.size + 2, 0, none⟩))][i]? = some f → w4.cell? ⟨w.heap.size + 3, i, none⟩ = some (.func (.func f.1) #[f.2] #[])) := by
 obtain ⟨w1, hw1⟩ : ∃ w1, w1 = w.alloc (.cells #[.int .i64 fr, .int .i64 bl] 100) := ⟨_, rfl⟩
 obtain ⟨w2, hw2⟩ : ∃ w2, w2 = w1.alloc (.map #[] 0) := ⟨_, rfl⟩
 obtain ⟨w3, hw3⟩ : ∃ w3, w3 = w2.alloc (.cells #[.pointer (some ⟨c, 0, none⟩), .int .i64 fr, .int .i64 bl, .int .i64 0, .int .i64 0, .int .i64 0, .map (some (w.heap.size + 1))] 115) := ⟨_, rfl⟩
 rw [← hw1, ← hw2, ← hw3] at e
 have z1 : w1.heap.size = w.heap.size + 1 := by rw [hw1]; simp
 have z2 : w2.heap.size = w.heap.size + 2 := by rw [hw2]; simp [z1]
 have z3 : w3.heap.size = w.heap.size + 3 := by rw [hw3]; simp [z2]
 have z4 : w4.heap.size = w.heap.size + 4 := by rw [e]; simp [z3]
 have b1 : Below w.heap.size w w1 := by rw [hw1]; exact (Below.refl _ _).alloc (Nat.le_refl _) _
 have b2 : Below w1.heap.size w1 w2 := by rw [hw2]; exact (Below.refl _ _).alloc (Nat.le_refl _) _
 have b3 : Below w2.heap.size w2 w3 := by rw [hw3]; exact (Below.refl _ _).alloc (Nat.le_refl _) _
 have b4 : Below w3.heap.size w3 w4 := by rw [e]; exact (Below.refl _ _).alloc (Nat.le_refl _) _
 have m2 : w2.ownsMap Tryz.prog 3 slElem (w.heap.size + 1) 0 (.map [] : DataW (Nat × Nat)) := by rw [hw2, ← z1]; exact World.ownsMap_made w1 Tryz.prog 3 slElem
 have j3 : w3.heap[w2.heap.size]? = some (.cells #[.pointer (some ⟨c, 0, none⟩), .int .i64 fr, .int .i64 bl, .int .i64 0, .int .i64 0, .int .i64 0, .map (some (w.heap.size + 1))] 115 (0, 0)) := by
  rw [hw3]
  show (w2.heap.push _)[w2.heap.size]? = _
  simp
 rw [z2] at j3
 refine ⟨((b1.trans (b2.mono (by omega))).trans (b3.mono (by omega))).trans (b4.mono (by omega)), z4, (b4.block _ (by omega)).trans j3, mapB_keep m2 ((b4.block _ (by omega)).trans (b3.block _ (by omega))), fun i f hf => ?_⟩
 rw [e]
 rcases i with _ | _ | i
 ·cases hf; exact cell_new z3 0 _ rfl
 ·cases hf; exact cell_new z3 1 _ rfl
 ·simp at hf
set_option maxRecDepth 100000 in
set_option maxHeartbeats 1000000 in
theorem jlay_any {Z : Nat → Prop} {w : World} {c p room nb K : Nat} {d : Pd} (h : Cq Z w c p room nb K d) (fr bl : Int) :
  Calls Tryz.prog 60 #[.pointer (some ⟨c, 0, none⟩), .agg #[.int .i64 fr, .int .i64 bl]] w fun e w' => ∃ jv, e = .returned (.tuple #[.pointer jv, .int .i64 (layC d nb fr bl)]) ∧ Below w.heap.size w w' ∧ LayP Z w w' c p room nb K d fr bl (layC d nb fr bl) jv := by
 obtain ⟨w4, hw4⟩ : ∃ w4, w4 = (((w.alloc (.cells #[.int .i64 fr, .int .i64 bl] 100)).alloc (.map #[] 0)).alloc (.cells #[.pointer (some ⟨c, 0, none⟩), .int .i64 fr, .int .i64 bl, .int .i64 0, .int .i64 0, .int .i64 0, .map (some (w.heap.size + 1))] 115)).alloc (.cells #[.func (.func 83) #[.pointer (some ⟨w.heap.size + 2, 0, none⟩)] #[], .func (.func 92) #[.pointer (some ⟨w.heap.size + 2, 0, none⟩)] #[]] 91) := ⟨_, rfl⟩
 obtain ⟨b4, z4, J4, M4, F4⟩ := lay_ready c fr bl hw4
 have hC4 := h.cut.below b4
 have hnb := h.fits.2.2
 have hcs := hC4.c0
 have HT : Turn (w.heap.size + 3) (fun e w' => e = .returned (.int .i64 (layC d nb fr bl)) ∧ Below w4.heap.size w4 w') [(83, Value.pointer (some ⟨w.heap.size + 2, 0, none⟩)), (92, Value.pointer (some ⟨w.heap.size + 2, 0, none⟩))] w4 := by
  refine Turn.step (jask_any J4 hcs.1 hC4.dk) (fun w' b => b.block _ (by omega)) (fun w' hc b => ⟨?_, b⟩) (fun w5 hc b5 => ?_)
  ·unfold layC
   cases ho : d.off
   ·rw [ho] at hc; simp at hc
   ·rfl
  ·have ho : d.off = false := by
    cases ho : d.off
    ·rfl
    ·rw [ho] at hc; simp at hc
   have hC5 := hC4.below b5
   refine Turn.step (jcheckPlace_any (J4.below b5 (by omega)) hC5.c0.1 hC5.c0.2.1 hC5.dk hnb) (fun w' b => b.block _ (by have := b5.size; omega)) (fun w' hc b => ⟨?_, b5.trans (b.mono b5.size)⟩) (fun w6 hc b => ⟨?_, b5.trans (b.mono b5.size)⟩)
   ·unfold layC; rw [ho]; rfl
   ·unfold layC; rw [ho]; simp [hc]
 have HI := hid (inTurn_any (k := w.heap.size + 3) [(83, Value.pointer (some ⟨w.heap.size + 2, 0, none⟩)), (92, Value.pointer (some ⟨w.heap.size + 2, 0, none⟩))] (by simp) (fun i g hg => by
  rcases i with _ | _ | i
  ·cases hg; simp
  ·cases hg; simp
  ·simp at hg) w4 F4 HT)
 have HF : Hid (∀ w5, Below w4.heap.size w4 w5 → Below w.heap.size w w5 ∧ (layC d nb fr bl = 0 → ∃ j f b : Nat, some (⟨w.heap.size + 2, 0, none⟩ : Addr) = some ⟨j, 0, none⟩ ∧ fr = f ∧ bl = b ∧ 16 ≤ b ∧ f + b ≤ nb ∧ w.heap.size ≤ j ∧ ∃ Z', Jq Z' w5 j c p room nb K f b d noS ∧ Gr Z Z' w)) := fun w5 b5 => by
  refine ⟨b4.trans (b5.mono b4.size), fun hc => ?_⟩
  have hpc : placeC nb fr bl = 0 := by
   unfold layC at hc
   split at hc
   ·cases hc
   ·exact hc
  obtain ⟨f, b, rfl, rfl, q3, q4⟩ := placeC_zero hpc
  refine ⟨_, f, b, rfl, rfl, rfl, q3, q4, by omega, fun k => (Z k ∧ k < w.heap.size) ∨ k = w.heap.size + 1 ∨ k = w.heap.size + 2, ⟨fun k => Z k ∧ k < w.heap.size, w.heap.size + 1, 0, .map [], fun _ => none, hC4.below b5, J4.below b5 (by omega), mapB_keep M4 (b5.block _ (by omega)), AM.nil nb, fun x g cp hx => (by cases hx), fun x _ => rfl, fun q => (by have := q.2; omega), fun q => (by have := q.2; omega), .inr (.inr rfl), .inr (.inl rfl), fun k q => .inl q, Nat.zero_le _⟩, fun k hk q => ?_⟩
  rcases q with q | q | q
  ·exact q.1
  ·omega
  ·omega
 have hmm := @run_makeMap Tryz.prog
 clear HT F4 M4 J4 b4 z4 hC4 hcs hnb h
 generalize layC d nb fr bl = code at *
 go_enter Tryz.func60, Tryz.ntmps60
 go_wp2_with fail
 rw [← hw4]
 refine Calls.mono HI.out ?_
 rintro e w5 ⟨rfl, b5⟩
 have FIN := hid (HF.out w5 b5)
 clear b5 HI HF hw4 hmm
 by_cases hc : code = 0
 ·have FIN2 := hid (FIN.out.2 hc)
  have FIN1 := hid FIN.out.1
  clear FIN
  subst hc
  go_wp2
  go_ret2
  exact ⟨_, rfl, FIN1.out, .inr ⟨rfl, FIN2.out⟩⟩
 ·go_wp2
  go_ret2
  exact ⟨none, rfl, FIN.out.1, .inl ⟨hc, rfl⟩⟩
end Go.Proofs.YtldlejpacgphmaaGreat
namespace Go.Proofs.YtldlejpacgphmaaGreat
open Go.RowKit
def Did (Z : Nat → Prop) (w : World) (j c p room nb K fr bl : Nat) (d : Pd) (cs : List Cmd) (sE : Js) (e : Ending) (w' : World) : Prop :=
 e = .returned (.int .i64 (d.runs cs).1) ∧ (∃ Z' s', Jq Z' w' j c p room nb K fr bl (d.runs cs).2 s' ∧ ((d.runs cs).1 = 0 → s' = sE) ∧ Gr Z Z' w) ∧ But Z w w'
theorem Did.of_one {Z : Nat → Prop} {w : World} {j c p room nb K fr bl : Nat} {d : Pd} {x : Cmd} {sE : Js} {f : Nat} {args : Array Value} (H : Calls Tryz.prog f args w fun e w' => e = .returned (.int .i64 (d.run1 x).1) ∧ (∃ Z', Jq Z' w' j c p room nb K fr bl (d.run1 x).2 sE ∧ Gr Z Z' w) ∧ But Z w w') : Calls Tryz.prog f args w (Did Z w j c p room nb K fr bl d [x] sE) := by
 refine Calls.mono H ?_
 rintro e w' ⟨rfl, ⟨Z', h1, h2⟩, b⟩
 unfold Did
 rw [Pd.runs_one]
 exact ⟨rfl, ⟨Z', sE, h1, fun _ => rfl, h2⟩, b⟩
theorem Did.of_list {Z : Nat → Prop} {w : World} {j c p room nb K fr bl : Nat} {d : Pd} {cs : List Cmd} {sE : Js} {f : Nat} {args : Array Value} (H : Calls Tryz.prog f args w fun e w' => e = .returned (.int .i64 (d.runs cs).1) ∧ (∃ Z', Jq Z' w' j c p room nb K fr bl (d.runs cs).2 sE ∧ Gr Z Z' w) ∧ But Z w w') : Calls Tryz.prog f args w (Did Z w j c p room nb K fr bl d cs sE) := by
 refine Calls.mono H ?_
 rintro e w' ⟨rfl, ⟨Z', h1, h2⟩, b⟩
 exact ⟨rfl, ⟨Z', sE, h1, fun _ => rfl, h2⟩, b⟩
theorem Did.from {Z0 Z : Nat → Prop} {w0 w : World} {j c p room nb K fr bl : Nat} {d : Pd} {cs : List Cmd} {sE : Js} {e : Ending} {w' : World} (h : Did Z w j c p room nb K fr bl d cs sE e w') (hg : Gr Z0 Z w0) (hb : But Z0 w0 w) : Did Z0 w0 j c p room nb K fr bl d cs sE e w' := by
 obtain ⟨h1, ⟨Z', s', h2, h3, h4⟩, h5⟩ := h
 exact ⟨h1, ⟨Z', s', h2, h3, hg.trans h4 hb.size⟩, hb.comp h5 (fun k hk q => hg k hk q)⟩
theorem Turn.jstep {Z0 Z : Nat → Prop} {w0 w : World} {j c p room nb K fr bl k f : Nat} {r : Value} {fs : List (Nat × Value)} {d : Pd} {s' sE : Js} {all done cs rest : List Cmd} (hall : all = done ++ cs ++ rest) (hz : (d.runs done).1 = 0) (hG : Gr Z0 Z w0) (hB : But Z0 w0 w) (hk : ¬ Z k) (hkl : k < w.heap.size)
  (H : Calls Tryz.prog f #[r] w (Did Z w j c p room nb K fr bl (d.runs done).2 cs s'))
  (next : ∀ Z' w', (d.runs (done ++ cs)).1 = 0 → Jq Z' w' j c p room nb K fr bl (d.runs (done ++ cs)).2 s' → Gr Z0 Z' w0 → But Z0 w0 w' → ¬ Z' k → k < w'.heap.size → Turn k (Did Z0 w0 j c p room nb K fr bl d all sE) fs w') :
  Turn k (Did Z0 w0 j c p room nb K fr bl d all sE) ((f, r) :: fs) w := by
 have e1 : d.runs (done ++ cs) = (d.runs done).2.runs cs := by rw [Pd.runs_append, if_pos hz]
 refine Calls.mono H ?_
 rintro e w' ⟨rfl, ⟨Z', s1, h2, h3, h4⟩, h5⟩
 refine ⟨((d.runs done).2.runs cs).1, rfl, fun hc => ?_, fun hc => ⟨h5.block k hkl hk, ?_⟩⟩
 ·have e2 : d.runs all = (d.runs done).2.runs cs := by rw [hall, Pd.runs_stop (by rw [e1]; exact hc), e1]
  unfold Did
  rw [e2]
  exact ⟨rfl, ⟨Z', s1, h2, fun q => absurd q hc, hG.trans h4 hB.size⟩, hB.comp h5 (fun k hk q => hG k hk q)⟩
 ·rw [← e1] at hc h2
  rw [← e1] at h3
  rw [h3 hc] at h2
  exact next Z' w' hc h2 (hG.trans h4 hB.size) (hB.comp h5 (fun k hk q => hG k hk q)) (fun q => hk (h4 k hkl q)) (Nat.lt_of_lt_of_le hkl h5.size)
theorem Turn.jend {Z0 Z : Nat → Prop} {w0 w : World} {j c p room nb K fr bl k : Nat} {d : Pd} {sE : Js} {all : List Cmd} (hz : (d.runs all).1 = 0) (hJ : Jq Z w j c p room nb K fr bl (d.runs all).2 sE) (hG : Gr Z0 Z w0) (hB : But Z0 w0 w) : Turn k (Did Z0 w0 j c p room nb K fr bl d all sE) [] w := by
 show Did _ _ _ _ _ _ _ _ _ _ _ _ _ _ _
 exact ⟨by rw [hz], ⟨Z, sE, hJ, fun _ => rfl, hG⟩, hB⟩
theorem steps_ready (w : World) (vs : Array Value) (fs : List (Nat × Value)) (h : ∀ (i : Nat) (f : Nat × Value), fs[i]? = some f → vs[i]? = some (Value.func (Fn.func f.1) #[f.2] #[])) {w1 : World} (e : w1 = (w.alloc (.cells vs 91)).drew) : Below w.heap.size w w1 ∧ w1.heap.size = w.heap.size + 1 ∧ ∀ (i : Nat) (f : Nat × Value), fs[i]? = some f → w1.cell? ⟨w.heap.size, i, none⟩ = some (.func (.func f.1) #[f.2] #[]) := by
 subst e
 exact ⟨((Below.refl _ _).alloc (Nat.le_refl _) _).drew, by simp, fun i f hf => cell_new rfl i _ (h i f hf)⟩
def goCmds (fr bl : Nat) (s : Js) : List Cmd := if s.life ≠ 0 ∧ s.life < 1099511627776 then [.wr fr (headZ fr bl (s.life + 1) s.seq)] else [.wr fr (headZ fr bl 0 s.seq)] ++ [.fl] ++ wipes fr bl (fr + 1) (bl - 1) ++ [.fl] ++ [.wr fr (headZ fr bl 1 s.seq)]
def goS (s : Js) : Js := if s.life ≠ 0 ∧ s.life < 1099511627776 then beginS s else ⟨1, s.seq, 0, fun _ => none⟩
theorem go_turn {Z : Nat → Prop} {w w1 : World} {j c p room nb K fr bl k : Nat} {d : Pd} {s : Js} (h : Jq Z w1 j c p room nb K fr bl d s) (hb : Below w.heap.size w w1) (hk : k < w1.heap.size) (hkZ : ¬ Z k) (hn : Jn nb fr bl s) (hl : d.puts.length + bl + 4 ≤ 1073741823) :
  Turn k (Did Z w j c p room nb K fr bl d ([.wr fr (headZ fr bl 0 s.seq)] ++ [.fl] ++ wipes fr bl (fr + 1) (bl - 1) ++ [.fl] ++ [.wr fr (headZ fr bl 1 s.seq)]) ⟨1, s.seq, 0, fun _ => none⟩) [(132, .pointer (some ⟨j, 0, none⟩)), (69, .pointer (some ⟨c, 0, none⟩)), (70, .pointer (some ⟨j, 0, none⟩)), (69, .pointer (some ⟨c, 0, none⟩)), (71, .pointer (some ⟨j, 0, none⟩))] w1 := by
 have hn1 : Jn nb fr bl (endS s) := ⟨hn.lo, hn.fit, hn.nb, Nat.zero_le _, hn.seq, hn.used⟩
 have hp := fun cs => d.runs_puts cs
 refine Turn.jstep (done := []) (cs := [.wr fr (headZ fr bl 0 s.seq)]) (rest := [.fl] ++ wipes fr bl (fr + 1) (bl - 1) ++ [.fl] ++ [.wr fr (headZ fr bl 1 s.seq)]) (by simp) rfl (Gr.refl _ _) (But.of_below hb) hkZ hk (Did.of_one (endLives_any h hn (by simp [Pd.runs]; omega))) (fun Z1 w1 z1 h1 g1 b1 k1 l1 => ?_)
 have p1 := hp ([] ++ [.wr fr (headZ fr bl 0 s.seq)])
 simp at p1
 refine Turn.jstep (done := [] ++ [.wr fr (headZ fr bl 0 s.seq)]) (cs := [.fl]) (rest := wipes fr bl (fr + 1) (bl - 1) ++ [.fl] ++ [.wr fr (headZ fr bl 1 s.seq)]) (by simp) z1 g1 b1 k1 l1 (Did.of_one (h1.flush (by simp; omega))) (fun Z2 w2 z2 h2 g2 b2 k2 l2 => ?_)
 have p2 := hp ([] ++ [.wr fr (headZ fr bl 0 s.seq)] ++ [.fl])
 simp at p2
 refine Turn.jstep (done := [] ++ [.wr fr (headZ fr bl 0 s.seq)] ++ [.fl]) (cs := wipes fr bl (fr + 1) (bl - 1)) (rest := [.fl] ++ [.wr fr (headZ fr bl 1 s.seq)]) (by simp) z2 g2 b2 k2 l2 (Did.of_list (wipeLog_any h2 hn1 (by simp; omega))) (fun Z3 w3 z3 h3 g3 b3 k3 l3 => ?_)
 have p3 := hp ([] ++ [.wr fr (headZ fr bl 0 s.seq)] ++ [.fl] ++ wipes fr bl (fr + 1) (bl - 1))
 simp [length_wipes] at p3
 refine Turn.jstep (done := [] ++ [.wr fr (headZ fr bl 0 s.seq)] ++ [.fl] ++ wipes fr bl (fr + 1) (bl - 1)) (cs := [.fl]) (rest := [.wr fr (headZ fr bl 1 s.seq)]) (by simp) z3 g3 b3 k3 l3 (Did.of_one (h3.flush (by simp; omega))) (fun Z4 w4 z4 h4 g4 b4 k4 l4 => ?_)
 have p4 := hp ([] ++ [.wr fr (headZ fr bl 0 s.seq)] ++ [.fl] ++ wipes fr bl (fr + 1) (bl - 1) ++ [.fl])
 simp [length_wipes] at p4
 refine Turn.jstep (done := [] ++ [.wr fr (headZ fr bl 0 s.seq)] ++ [.fl] ++ wipes fr bl (fr + 1) (bl - 1) ++ [.fl]) (cs := [.wr fr (headZ fr bl 1 s.seq)]) (rest := []) (by simp) z4 g4 b4 k4 l4 (Did.of_one (beginLife_any h4 hn1 (by simp [endS]) (by simp; omega))) (fun Z5 w5 z5 h5 g5 b5 k5 l5 => ?_)
 exact Turn.jend (by simpa using z5) (by simpa [beginS, endS] using h5) g5 b5
end Go.Proofs.YtldlejpacgphmaaGreat
