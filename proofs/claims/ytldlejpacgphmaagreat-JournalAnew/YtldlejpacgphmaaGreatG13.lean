import Derived.Test.YtldlejpacgphmaaGreatG12
import Derived.Deep.RegionHeld3
import Derived.Shelf.SlIterI.Nil
import Derived.Shelf.SortM.Plain
import Derived.Shelf.SortM.SortNone
namespace Go.Proofs.YtldlejpacgphmaaGreat
open Go.RowKit
theorem Did.c0 {Z : Nat → Prop} {w : World} {j c p room nb K fr bl : Nat} {d : Pd} {cs : List Cmd} {sE : Js} {e : Ending} {w' : World} (h : Did Z w j c p room nb K fr bl d cs sE e w') : w'.cell? ⟨j, 0, none⟩ = some (.pointer (some ⟨c, 0, none⟩)) := by
 obtain ⟨_, ⟨Z', s', h2, _⟩, _⟩ := h
 obtain ⟨mv, hJ, _⟩ := h2.cells
 exact hJ.cell 0
theorem five_in (a b : Nat) (i : Nat) (g : Nat × Value) (hg : [((132 : Nat), Value.pointer (some ⟨a, 0, none⟩)), (69, .pointer (some ⟨b, 0, none⟩)), (70, .pointer (some ⟨a, 0, none⟩)), (69, .pointer (some ⟨b, 0, none⟩)), (71, .pointer (some ⟨a, 0, none⟩))][i]? = some g) : g.1 = 62 ∨ g.1 = 63 ∨ g.1 = 64 ∨ g.1 = 65 ∨ g.1 = 68 ∨ g.1 = 69 ∨ g.1 = 70 ∨ g.1 = 71 ∨ g.1 = 83 ∨ g.1 = 92 ∨ g.1 = 100 ∨ g.1 = 101 ∨ g.1 = 132 := by
 have := List.mem_of_getElem? hg
 simp at this
 rcases this with rfl | rfl | rfl | rfl | rfl <;> simp
set_option maxRecDepth 100000 in
set_option maxHeartbeats 1000000 in
theorem letLogGo_any {Z : Nat → Prop} {w : World} {j c p room nb K fr bl : Nat} {d : Pd} {s : Js} (h : Jq Z w j c p room nb K fr bl d s) (hn : Jn nb fr bl s) (hl : d.puts.length + bl + 4 ≤ 1073741823) :
  Calls Tryz.prog 101 #[.pointer (some ⟨j, 0, none⟩)] w (Did Z w j c p room nb K fr bl d (goCmds fr bl s) (goS s)) := by
 obtain ⟨mv, hJ, hZj⟩ := h.cells
 have hjl := hJ.lt
 have j3 := hJ.cell 3
 have j0 := hJ.cell 0
 simp at j3 j0
 by_cases hc : s.life ≠ 0 ∧ s.life < 1099511627776
 ·have e1 : goCmds fr bl s = [.wr fr (headZ fr bl (s.life + 1) s.seq)] := if_pos hc
  have e2 : goS s = beginS s := if_pos hc
  rw [e1, e2]
  have HW := hid (Did.of_one (beginLife_any h hn hc.2 (by omega)))
  have c1 : ¬ (s.life : Int) = 0 := by omega
  have c2 : (s.life : Int) < 1099511627776 := by omega
  clear hJ h hn hl hc e1 e2 j0
  generalize (s.life : Int) = lf at j3 c1 c2
  go_enter Tryz.func101, Tryz.ntmps101
  go_wp2_with fail
  refine Calls.mono HW.out ?_
  intro e w2 q
  have FIN := hid q
  obtain ⟨he, _⟩ := q
  subst he
  clear HW j3
  go_wp2
  go_ret
  exact FIN.out
 ·have e1 : goCmds fr bl s = [.wr fr (headZ fr bl 0 s.seq)] ++ [.fl] ++ wipes fr bl (fr + 1) (bl - 1) ++ [.fl] ++ [.wr fr (headZ fr bl 1 s.seq)] := if_neg hc
  have e2 : goS s = ⟨1, s.seq, 0, fun _ => none⟩ := if_neg hc
  rw [e1, e2]
  clear e1 e2
  obtain ⟨w1, hw1⟩ : ∃ w1, w1 = (w.alloc (.cells #[.func (.func 132) #[.pointer (some ⟨j, 0, none⟩)] #[], .func (.func 69) #[.pointer (some ⟨c, 0, none⟩)] #[], .func (.func 70) #[.pointer (some ⟨j, 0, none⟩)] #[], .func (.func 69) #[.pointer (some ⟨c, 0, none⟩)] #[], .func (.func 71) #[.pointer (some ⟨j, 0, none⟩)] #[]] 91)).drew := ⟨_, rfl⟩
  obtain ⟨b1, z1, F1⟩ := steps_ready w _ [((132 : Nat), Value.pointer (some ⟨j, 0, none⟩)), (69, .pointer (some ⟨c, 0, none⟩)), (70, .pointer (some ⟨j, 0, none⟩)), (69, .pointer (some ⟨c, 0, none⟩)), (71, .pointer (some ⟨j, 0, none⟩))] (fun i f hf => by
   rcases i with _ | _ | _ | _ | _ | i
   ·cases hf; rfl
   ·cases hf; rfl
   ·cases hf; rfl
   ·cases hf; rfl
   ·cases hf; rfl
   ·simp at hf) hw1
  have HT := go_turn (w := w) (k := w.heap.size) (h.cut.below b1) b1 (by omega) (fun q => by have := q.2; omega) hn hl
  have HI := hid (inTurn_any (k := w.heap.size) _ (by simp) (five_in j c) w1 F1 HT)
  have c1 : (s.life : Int) = 0 ∨ ¬ (s.life : Int) < 1099511627776 := by omega
  clear HT
  generalize [Cmd.wr fr (headZ fr bl 0 s.seq)] ++ [.fl] ++ wipes fr bl (fr + 1) (bl - 1) ++ [.fl] ++ [.wr fr (headZ fr bl 1 s.seq)] = cs at HI ⊢
  clear hJ h hn hl hc F1 z1 b1
  generalize (s.life : Int) = lf at j3 c1
  have HW1 := hid hw1
  clear hw1
  go_enter Tryz.func101, Tryz.ntmps101
  rcases c1 with c1 | c1
  ·rw [c1] at j3
   go_wp2_with fail
   clear c1 j3
   refine wp_region_noPanic ?_
   refine wp_region_held_drew (S := fun w' => w'.cell? ⟨j, 0, none⟩ = some (.pointer (some ⟨c, 0, none⟩))) (by kernel_rfl) j0 (fun hSS => ?_)
   refine wpAnyH_take (i := 0) (v := ?v0) rfl (by kernel_rfl) (by kernel_rfl) (by kernel_rfl) (fun _ _ _ h => h) (Or.inl ⟨by rfl, ?hy0⟩) hSS ?_
   case hy0 => (intro w9 hSw; (try dsimp only at hSw); go_simp; try with_reducible rfl)
   simp only [Act.put, List.setIfInBounds_toArray]
   refine wpAnyH_take (i := 1) (v := ?v1) rfl (by kernel_rfl) (by kernel_rfl) (by kernel_rfl) (fun _ _ _ h => h) (Or.inl ⟨by rfl, ?hy1⟩) hSS ?_
   case hy1 => (intro w9 hSw; (try dsimp only at hSw); go_simp; try with_reducible rfl)
   simp only [Act.put]
   refine wpAnyH_take (i := 2) (v := ?v2) rfl (by kernel_rfl) (by kernel_rfl) (by kernel_rfl) (fun _ _ _ h => h) (Or.inl ⟨by rfl, ?hy2⟩) hSS ?_
   case hy2 => (intro w9 hSw; (try dsimp only at hSw); go_simp; try with_reducible rfl)
   simp only [Act.put]
   refine wpAnyH_take (i := 3) (v := ?v3) rfl (by kernel_rfl) (by kernel_rfl) (by kernel_rfl) (fun _ _ _ h => h) (Or.inl ⟨by rfl, ?hy3⟩) hSS ?_
   case hy3 => (intro w9 hSw; (try dsimp only at hSw); go_simp; try with_reducible rfl)
   simp only [Act.put]
   refine wpAnyH_take (i := 4) (v := ?v4) rfl (by kernel_rfl) (by kernel_rfl) (by kernel_rfl) (fun _ _ _ h => h) (Or.inl ⟨by rfl, ?hy4⟩) hSS ?_
   case hy4 => (intro w9 hSw; (try dsimp only at hSw); go_simp; try with_reducible rfl)
   simp only [Act.put]
   refine wpAnyH_take (i := 5) (v := ?v5) rfl (by kernel_rfl) (by kernel_rfl) (by kernel_rfl) (fun _ _ _ h => h) (Or.inl ⟨by rfl, ?hy5⟩) hSS ?_
   case hy5 => (intro w9 hSw; (try dsimp only at hSw); go_simp; try with_reducible rfl)
   simp only [Act.put]
   refine wpAnyH_take (i := 6) (v := ?v6) rfl (by kernel_rfl) (by kernel_rfl) (by kernel_rfl) (fun _ _ _ h => h) (Or.inl ⟨by rfl, ?hy6⟩) hSS ?_
   case hy6 => (intro w9 hSw; (try dsimp only at hSw); go_simp; try with_reducible rfl)
   simp only [Act.put]
   refine wpAnyH_take (i := 7) (v := ?v7) rfl (by kernel_rfl) (by kernel_rfl) (by kernel_rfl) (fun _ _ _ h => h) (Or.inl ⟨by rfl, ?hy7⟩) hSS ?_
   case hy7 => (intro w9 hSw; (try dsimp only at hSw); go_simp; try with_reducible rfl)
   simp only [Act.put]
   refine wpAnyH_take (i := 8) (v := ?v8) rfl (by kernel_rfl) (by kernel_rfl) (by kernel_rfl) (fun _ _ _ h => h) (Or.inl ⟨by rfl, ?hy8⟩) hSS ?_
   case hy8 => (intro w9 hSw; (try dsimp only at hSw); go_simp; try with_reducible rfl)
   simp only [Act.put]
   refine wpAnyH_take (i := 9) (v := ?v9) rfl (by kernel_rfl) (by kernel_rfl) (by kernel_rfl) (fun _ _ _ h => h) (Or.inl ⟨by rfl, ?hy9⟩) hSS ?_
   case hy9 => (intro w9 hSw; (try dsimp only at hSw); go_simp; try with_reducible rfl)
   simp only [Act.put]
   refine wpAnyH_take (i := 10) (v := ?v10) rfl (by kernel_rfl) (by kernel_rfl) (by kernel_rfl) (fun _ _ _ h => h) (Or.inl ⟨by rfl, ?hy10⟩) hSS ?_
   case hy10 => (intro w9 hSw; (try dsimp only at hSw); go_simp; try with_reducible rfl)
   simp only [Act.put]
   refine wpAnyH_take (i := 11) (v := ?v11) rfl (by kernel_rfl) (by kernel_rfl) (by kernel_rfl) (fun _ _ _ h => h) (Or.inl ⟨by rfl, ?hy11⟩) hSS ?_
   case hy11 => (intro w9 hSw; (try dsimp only at hSw); go_simp; try with_reducible rfl)
   simp only [Act.put]
   refine wpAnyH_take (i := 12) (v := ?v12) rfl (by kernel_rfl) (by kernel_rfl) (by kernel_rfl) (fun _ _ _ h => h) (Or.inl ⟨by rfl, ?hy12⟩) hSS ?_
   case hy12 => (intro w9 hSw; (try dsimp only at hSw); go_simp; try with_reducible rfl)
   simp only [Act.put]
   refine wpAnyH_take (i := 13) (v := ?v13) rfl (by kernel_rfl) (by kernel_rfl) (by kernel_rfl) (fun _ _ _ h => h) (Or.inl ⟨by rfl, ?hy13⟩) hSS ?_
   case hy13 => (intro w9 hSw; (try dsimp only at hSw); go_simp; try with_reducible rfl)
   simp only [Act.put]
   refine wpAnyH_take (i := 14) (v := ?v14) rfl (by kernel_rfl) (by kernel_rfl) (by kernel_rfl) (fun _ _ _ h => h) (Or.inl ⟨by rfl, ?hy14⟩) hSS ?_
   case hy14 => (intro w9 hSw; (try dsimp only at hSw); go_simp; try with_reducible rfl)
   simp only [Act.put]
   refine wpAnyH_take (i := 15) (v := ?v15) rfl (by kernel_rfl) (by kernel_rfl) (by kernel_rfl) (fun _ _ _ h => h) (Or.inl ⟨by rfl, ?hy15⟩) hSS ?_
   case hy15 => (intro w9 hSw; (try dsimp only at hSw); go_simp; try with_reducible rfl)
   simp only [Act.put]
   refine wpAnyH_ready (rs := [16]) (by kernel_rfl) (by simp) (AllReadyH.cons (i := 16) rfl (fun K9 hK9 => ?_) AllReadyH.nil)
   go_simp
   refine hK9.out _ _ ((World.cell?_alloc_past _ _ _ hjl).trans j0) (fun hSS2 => ?_)
   clear hK9 K9 hSS
   refine wpAnyH_ready (rs := [17]) (by kernel_rfl) (by simp) (AllReadyH.cons (i := 17) rfl (fun K9 hK9 => ?_) AllReadyH.nil)
   go_simp
   go_at_call 61
   rw [← HW1.out]
   refine Calls.mono HI.out ?_
   intro e w2 q
   have FIN := hid q
   have q0 := q.c0
   obtain ⟨he, _⟩ := q
   subst he
   dsimp only
   refine hK9.out _ _ q0 (fun hSS3 => ?_)
   clear hK9 K9 hSS2
   refine wpAnyH_take (i := 18) (v := ?v18) rfl (by kernel_rfl) (by kernel_rfl) (by kernel_rfl) (fun _ _ _ h => h) (Or.inl ⟨by rfl, ?hy18⟩) hSS3 ?_
   case hy18 => (intro w9 hSw; (try dsimp only at hSw); go_simp; try with_reducible rfl)
   dsimp [Act.put]
   refine wpAnyH_done (by kernel_rfl) (NoPanic.normal ?_) _
   clear j0 HI HW1 q0 hSS3
   go_wp2
   go_ret
   exact FIN.out.from (fun k _ q => q.1) (But.refl _ _)
  ·by_cases c0 : lf = 0
   ·omega
   ·go_wp2_with fail
    clear c1 c0 j3
    refine wp_region_noPanic ?_
    refine wp_region_held_drew (S := fun w' => w'.cell? ⟨j, 0, none⟩ = some (.pointer (some ⟨c, 0, none⟩))) (by kernel_rfl) j0 (fun hSS => ?_)
    refine wpAnyH_take (i := 0) (v := ?v0) rfl (by kernel_rfl) (by kernel_rfl) (by kernel_rfl) (fun _ _ _ h => h) (Or.inl ⟨by rfl, ?hy0⟩) hSS ?_
    case hy0 => (intro w9 hSw; (try dsimp only at hSw); go_simp; try with_reducible rfl)
    simp only [Act.put, List.setIfInBounds_toArray]
    refine wpAnyH_take (i := 1) (v := ?v1) rfl (by kernel_rfl) (by kernel_rfl) (by kernel_rfl) (fun _ _ _ h => h) (Or.inl ⟨by rfl, ?hy1⟩) hSS ?_
    case hy1 => (intro w9 hSw; (try dsimp only at hSw); go_simp; try with_reducible rfl)
    simp only [Act.put]
    refine wpAnyH_take (i := 2) (v := ?v2) rfl (by kernel_rfl) (by kernel_rfl) (by kernel_rfl) (fun _ _ _ h => h) (Or.inl ⟨by rfl, ?hy2⟩) hSS ?_
    case hy2 => (intro w9 hSw; (try dsimp only at hSw); go_simp; try with_reducible rfl)
    simp only [Act.put]
    refine wpAnyH_take (i := 3) (v := ?v3) rfl (by kernel_rfl) (by kernel_rfl) (by kernel_rfl) (fun _ _ _ h => h) (Or.inl ⟨by rfl, ?hy3⟩) hSS ?_
    case hy3 => (intro w9 hSw; (try dsimp only at hSw); go_simp; try with_reducible rfl)
    simp only [Act.put]
    refine wpAnyH_take (i := 4) (v := ?v4) rfl (by kernel_rfl) (by kernel_rfl) (by kernel_rfl) (fun _ _ _ h => h) (Or.inl ⟨by rfl, ?hy4⟩) hSS ?_
    case hy4 => (intro w9 hSw; (try dsimp only at hSw); go_simp; try with_reducible rfl)
    simp only [Act.put]
    refine wpAnyH_take (i := 5) (v := ?v5) rfl (by kernel_rfl) (by kernel_rfl) (by kernel_rfl) (fun _ _ _ h => h) (Or.inl ⟨by rfl, ?hy5⟩) hSS ?_
    case hy5 => (intro w9 hSw; (try dsimp only at hSw); go_simp; try with_reducible rfl)
    simp only [Act.put]
    refine wpAnyH_take (i := 6) (v := ?v6) rfl (by kernel_rfl) (by kernel_rfl) (by kernel_rfl) (fun _ _ _ h => h) (Or.inl ⟨by rfl, ?hy6⟩) hSS ?_
    case hy6 => (intro w9 hSw; (try dsimp only at hSw); go_simp; try with_reducible rfl)
    simp only [Act.put]
    refine wpAnyH_take (i := 7) (v := ?v7) rfl (by kernel_rfl) (by kernel_rfl) (by kernel_rfl) (fun _ _ _ h => h) (Or.inl ⟨by rfl, ?hy7⟩) hSS ?_
    case hy7 => (intro w9 hSw; (try dsimp only at hSw); go_simp; try with_reducible rfl)
    simp only [Act.put]
    refine wpAnyH_take (i := 8) (v := ?v8) rfl (by kernel_rfl) (by kernel_rfl) (by kernel_rfl) (fun _ _ _ h => h) (Or.inl ⟨by rfl, ?hy8⟩) hSS ?_
    case hy8 => (intro w9 hSw; (try dsimp only at hSw); go_simp; try with_reducible rfl)
    simp only [Act.put]
    refine wpAnyH_take (i := 9) (v := ?v9) rfl (by kernel_rfl) (by kernel_rfl) (by kernel_rfl) (fun _ _ _ h => h) (Or.inl ⟨by rfl, ?hy9⟩) hSS ?_
    case hy9 => (intro w9 hSw; (try dsimp only at hSw); go_simp; try with_reducible rfl)
    simp only [Act.put]
    refine wpAnyH_take (i := 10) (v := ?v10) rfl (by kernel_rfl) (by kernel_rfl) (by kernel_rfl) (fun _ _ _ h => h) (Or.inl ⟨by rfl, ?hy10⟩) hSS ?_
    case hy10 => (intro w9 hSw; (try dsimp only at hSw); go_simp; try with_reducible rfl)
    simp only [Act.put]
    refine wpAnyH_take (i := 11) (v := ?v11) rfl (by kernel_rfl) (by kernel_rfl) (by kernel_rfl) (fun _ _ _ h => h) (Or.inl ⟨by rfl, ?hy11⟩) hSS ?_
    case hy11 => (intro w9 hSw; (try dsimp only at hSw); go_simp; try with_reducible rfl)
    simp only [Act.put]
    refine wpAnyH_take (i := 12) (v := ?v12) rfl (by kernel_rfl) (by kernel_rfl) (by kernel_rfl) (fun _ _ _ h => h) (Or.inl ⟨by rfl, ?hy12⟩) hSS ?_
    case hy12 => (intro w9 hSw; (try dsimp only at hSw); go_simp; try with_reducible rfl)
    simp only [Act.put]
    refine wpAnyH_take (i := 13) (v := ?v13) rfl (by kernel_rfl) (by kernel_rfl) (by kernel_rfl) (fun _ _ _ h => h) (Or.inl ⟨by rfl, ?hy13⟩) hSS ?_
    case hy13 => (intro w9 hSw; (try dsimp only at hSw); go_simp; try with_reducible rfl)
    simp only [Act.put]
    refine wpAnyH_take (i := 14) (v := ?v14) rfl (by kernel_rfl) (by kernel_rfl) (by kernel_rfl) (fun _ _ _ h => h) (Or.inl ⟨by rfl, ?hy14⟩) hSS ?_
    case hy14 => (intro w9 hSw; (try dsimp only at hSw); go_simp; try with_reducible rfl)
    simp only [Act.put]
    refine wpAnyH_take (i := 15) (v := ?v15) rfl (by kernel_rfl) (by kernel_rfl) (by kernel_rfl) (fun _ _ _ h => h) (Or.inl ⟨by rfl, ?hy15⟩) hSS ?_
    case hy15 => (intro w9 hSw; (try dsimp only at hSw); go_simp; try with_reducible rfl)
    simp only [Act.put]
    refine wpAnyH_ready (rs := [16]) (by kernel_rfl) (by simp) (AllReadyH.cons (i := 16) rfl (fun K9 hK9 => ?_) AllReadyH.nil)
    go_simp
    refine hK9.out _ _ ((World.cell?_alloc_past _ _ _ hjl).trans j0) (fun hSS2 => ?_)
    clear hK9 K9 hSS
    refine wpAnyH_ready (rs := [17]) (by kernel_rfl) (by simp) (AllReadyH.cons (i := 17) rfl (fun K9 hK9 => ?_) AllReadyH.nil)
    go_simp
    go_at_call 61
    rw [← HW1.out]
    refine Calls.mono HI.out ?_
    intro e w2 q
    have FIN := hid q
    have q0 := q.c0
    obtain ⟨he, _⟩ := q
    subst he
    dsimp only
    refine hK9.out _ _ q0 (fun hSS3 => ?_)
    clear hK9 K9 hSS2
    refine wpAnyH_take (i := 18) (v := ?v18) rfl (by kernel_rfl) (by kernel_rfl) (by kernel_rfl) (fun _ _ _ h => h) (Or.inl ⟨by rfl, ?hy18⟩) hSS3 ?_
    case hy18 => (intro w9 hSw; (try dsimp only at hSw); go_simp; try with_reducible rfl)
    dsimp [Act.put]
    refine wpAnyH_done (by kernel_rfl) (NoPanic.normal ?_) _
    clear j0 HI HW1 q0 hSS3
    go_wp2
    go_ret
    exact FIN.out.from (fun k _ q => q.1) (But.refl _ _)
end Go.Proofs.YtldlejpacgphmaaGreat
namespace Go.Proofs.YtldlejpacgphmaaGreat
open Go.RowKit Go.Maps Go.Sort Go.Shelf
def keysA_ren : Go.Shelf.Ren := ⟨fun | 7 => 131 | 10 => 144 | n => n, fun | 23 => 113 | 26 => 3 | 3 => 22 | 28 => 171 | 0 => 0 | 27 => 170 | 33 => 162 | 4 => 4 | n => n, fun | n => n⟩
theorem keysA : Go.Proofs.SlLaysZI.n7 Tryz.prog keysA_ren := {
 mixed := by kernel_rfl
 f7 := ⟨Tryz.f131.name, by decide, Tryz.func131.trans (congrArg some (by kernel_rfl))⟩
 f10 := ⟨Tryz.f144.name, by decide, Tryz.func144.trans (congrArg some (by kernel_rfl))⟩
 t0 := Tryz.underlying0
 a0 := Tryz.isAgg0
 z0 := Tryz.sizeOf0
 v0 := Tryz.zeroValue0
 t4 := Tryz.underlying4
 a4 := Tryz.isAgg4
 z4 := Tryz.sizeOf4
 v4 := Tryz.zeroValue4
 t23 := Tryz.underlying113
 a23 := Tryz.isAgg113
 z23 := Tryz.sizeOf113
 v23 := Tryz.zeroValue113
 t26 := Tryz.underlying3
 a26 := Tryz.isAgg3
 z26 := Tryz.sizeOf3
 v26 := Tryz.zeroValue3
 t27 := Tryz.underlying170
 a27 := Tryz.isAgg170
 z27 := Tryz.sizeOf170
 v27 := Tryz.zeroValue170
 t28 := Tryz.underlying171
 a28 := Tryz.isAgg171
 z28 := Tryz.sizeOf171
 v28 := Tryz.zeroValue171
 t33 := Tryz.underlying162
 a33 := Tryz.isAgg162
 z33 := Tryz.sizeOf162
 v33 := Tryz.zeroValue162 }
def sortedA_ren : Go.Shelf.Ren := ⟨fun | 6 => 130 | 8 => 142 | 9 => 143 | 11 => 148 | 13 => 150 | 12 => 149 | 23 => 162 | 24 => 163 | 14 => 153 | 15 => 154 | 16 => 155 | 17 => 156 | 18 => 157 | 19 => 158 | 20 => 159 | 21 => 160 | 22 => 161 | 25 => 165 | 26 => 166 | 27 => 167 | 28 => 168 | 29 => 169 | 30 => 170 | 31 => 171 | n => n, fun | 26 => 3 | 28 => 171 | 24 => 94 | 0 => 0 | 3 => 3 | 37 => 118 | 48 => 178 | 50 => 31 | 4 => 4 | 40 => 198 | 39 => 197 | 45 => 173 | 5 => 5 | 9 => 9 | 51 => 207 | 55 => 211 | 57 => 213 | 58 => 58 | 33 => 162 | n => n, fun | n => n⟩
theorem sortedA : Go.Proofs.SlLaysZI.n6 Tryz.prog sortedA_ren := {
 mixed := by kernel_rfl
 f6 := ⟨Tryz.f130.name, by decide, Tryz.func130.trans (congrArg some (by kernel_rfl))⟩
 f8 := ⟨Tryz.f142.name, by decide, Tryz.func142.trans (congrArg some (by kernel_rfl))⟩
 f11 := ⟨Tryz.f148.name, by decide, Tryz.func148.trans (congrArg some (by kernel_rfl))⟩
 t0 := Tryz.underlying0
 a0 := Tryz.isAgg0
 z0 := Tryz.sizeOf0
 v0 := Tryz.zeroValue0
 t24 := Tryz.underlying94
 a24 := Tryz.isAgg94
 z24 := Tryz.sizeOf94
 v24 := Tryz.zeroValue94
 t26 := Tryz.underlying3
 a26 := Tryz.isAgg3
 z26 := Tryz.sizeOf3
 v26 := Tryz.zeroValue3
 t28 := Tryz.underlying171
 a28 := Tryz.isAgg171
 z28 := Tryz.sizeOf171
 v28 := Tryz.zeroValue171
 i26 := by kernel_rfl }
def sortA_ren : Go.Shelf.Ren := ⟨fun | 5 => 143 | 8 => 150 | 7 => 149 | 19 => 162 | 20 => 163 | 10 => 153 | 11 => 154 | 12 => 155 | 13 => 156 | 14 => 157 | 15 => 158 | 16 => 159 | 17 => 160 | 18 => 161 | 30 => 165 | 31 => 166 | 32 => 167 | 33 => 168 | 34 => 169 | 35 => 170 | 40 => 171 | n => n, fun | 23 => 94 | 25 => 3 | 3 => 3 | 32 => 118 | 22 => 94 | 0 => 0 | 44 => 178 | 46 => 31 | 4 => 4 | 36 => 198 | 35 => 197 | 41 => 173 | 5 => 5 | 9 => 9 | 53 => 207 | 57 => 211 | 63 => 213 | 64 => 58 | n => n, fun | n => n⟩
theorem sortA : Go.Proofs.SlLaysM.n5 Tryz.prog sortA_ren := {
 mixed := by kernel_rfl
 f5 := ⟨Tryz.f143.name, by decide, Tryz.func143.trans (congrArg some (by kernel_rfl))⟩
 f7 := ⟨Tryz.f149.name, by decide, Tryz.func149.trans (congrArg some (by kernel_rfl))⟩
 f8 := Tryz.func150.trans (congrArg some (by kernel_rfl))
 f10 := ⟨Tryz.f153.name, by decide, Tryz.func153.trans (congrArg some (by kernel_rfl))⟩
 f11 := ⟨Tryz.f154.name, by decide, Tryz.func154.trans (congrArg some (by kernel_rfl))⟩
 f12 := ⟨Tryz.f155.name, by decide, Tryz.func155.trans (congrArg some (by kernel_rfl))⟩
 f13 := ⟨Tryz.f156.name, by decide, Tryz.func156.trans (congrArg some (by kernel_rfl))⟩
 f14 := ⟨Tryz.f157.name, by decide, Tryz.func157.trans (congrArg some (by kernel_rfl))⟩
 f15 := ⟨Tryz.f158.name, by decide, Tryz.func158.trans (congrArg some (by kernel_rfl))⟩
 f16 := ⟨Tryz.f159.name, by decide, Tryz.func159.trans (congrArg some (by kernel_rfl))⟩
 f17 := ⟨Tryz.f160.name, by decide, Tryz.func160.trans (congrArg some (by kernel_rfl))⟩
 f18 := ⟨Tryz.f161.name, by decide, Tryz.func161.trans (congrArg some (by kernel_rfl))⟩
 f19 := Tryz.func162.trans (congrArg some (by kernel_rfl))
 f20 := Tryz.func163.trans (congrArg some (by kernel_rfl))
 f30 := ⟨Tryz.f165.name, by decide, Tryz.func165.trans (congrArg some (by kernel_rfl))⟩
 f31 := Tryz.func166.trans (congrArg some (by kernel_rfl))
 f32 := Tryz.func167.trans (congrArg some (by kernel_rfl))
 f33 := ⟨Tryz.f168.name, by decide, Tryz.func168.trans (congrArg some (by kernel_rfl))⟩
 f34 := ⟨Tryz.f169.name, by decide, Tryz.func169.trans (congrArg some (by kernel_rfl))⟩
 f35 := ⟨Tryz.f170.name, by decide, Tryz.func170.trans (congrArg some (by kernel_rfl))⟩
 f40 := ⟨Tryz.f171.name, by decide, Tryz.func171.trans (congrArg some (by kernel_rfl))⟩
 t0 := Tryz.underlying0
 a0 := Tryz.isAgg0
 z0 := Tryz.sizeOf0
 v0 := Tryz.zeroValue0
 t3 := Tryz.underlying3
 a3 := Tryz.isAgg3
 z3 := Tryz.sizeOf3
 v3 := Tryz.zeroValue3
 t4 := Tryz.underlying4
 a4 := Tryz.isAgg4
 z4 := Tryz.sizeOf4
 v4 := Tryz.zeroValue4
 t5 := Tryz.underlying5
 a5 := Tryz.isAgg5
 z5 := Tryz.sizeOf5
 v5 := Tryz.zeroValue5
 t9 := Tryz.underlying9
 a9 := Tryz.isAgg9
 z9 := Tryz.sizeOf9
 v9 := Tryz.zeroValue9
 t22 := Tryz.underlying94
 a22 := Tryz.isAgg94
 z22 := Tryz.sizeOf94
 v22 := Tryz.zeroValue94
 t23 := Tryz.underlying94
 a23 := Tryz.isAgg94
 z23 := Tryz.sizeOf94
 v23 := Tryz.zeroValue94
 t25 := Tryz.underlying3
 a25 := Tryz.isAgg3
 z25 := Tryz.sizeOf3
 v25 := Tryz.zeroValue3
 t32 := Tryz.underlying118
 a32 := Tryz.isAgg118
 z32 := Tryz.sizeOf118
 v32 := Tryz.zeroValue118
 t35 := Tryz.underlying197
 a35 := Tryz.isAgg197
 z35 := Tryz.sizeOf197
 v35 := Tryz.zeroValue197
 t36 := Tryz.underlying198
 a36 := Tryz.isAgg198
 z36 := Tryz.sizeOf198
 v36 := Tryz.zeroValue198
 t41 := Tryz.underlying173
 a41 := Tryz.isAgg173
 z41 := Tryz.sizeOf173
 v41 := Tryz.zeroValue173
 t44 := Tryz.underlying178
 a44 := Tryz.isAgg178
 z44 := Tryz.sizeOf178
 v44 := Tryz.zeroValue178
 t46 := Tryz.underlying31
 a46 := Tryz.isAgg31
 z46 := Tryz.sizeOf31
 v46 := Tryz.zeroValue31
 t53 := Tryz.underlying207
 a53 := Tryz.isAgg207
 z53 := Tryz.sizeOf207
 v53 := Tryz.zeroValue207
 t57 := Tryz.underlying211
 a57 := Tryz.isAgg211
 z57 := Tryz.sizeOf211
 v57 := Tryz.zeroValue211
 t63 := Tryz.underlying213
 a63 := Tryz.isAgg213
 z63 := Tryz.sizeOf213
 v63 := Tryz.zeroValue213
 t64 := Tryz.underlying58
 a64 := Tryz.isAgg58
 z64 := Tryz.sizeOf58
 v64 := Tryz.zeroValue58 }
theorem sortsA (m : Nat) : AnyZI.SortsIn Tryz.prog sortedA_ren Fence.wide m :=
 ⟨fun blk off cap ss W hH hblk hsz => callsIn_wide.2 (AnyM.slices_Sort_int sortA blk off cap ss W hH hblk hsz),
 fun p cap W => callsIn_wide.2 (AnyM.slices_Sort_int_none sortA p cap W)⟩
theorem keys_any (mb : Option Nat) (w : World) : Calls Tryz.prog 131 #[.map mb] w fun e w' => e = .returned (.func (.func 144) #[] #[.pointer (some ⟨w.heap.size, 0, none⟩)]) ∧ w' = w.alloc (.cells #[.map mb] 113) :=
 (callsIn_wide (n := 6)).1 (AnyZI.keys_in keysA Fence.wide 6 trivial rfl mb w)
theorem sorted_any {H : Type} (b nn : Nat) (D0 : DataW H) (R : Value → Option (DataW H × List MemPlace)) (w : World) (hown : w.ownsMap Tryz.prog 3 R b nn D0) (hmax : Maps.size D0 ≤ maxLen) (hbytes : Maps.size D0 * 8 ≤ 140737488355328) :
  Calls Tryz.prog 130 #[.func (.func 144) #[] #[.pointer (some ⟨w.heap.size, 0, none⟩)]] (w.alloc (.cells #[.map (some b)] 113)) fun e w' => ∃ (v : Value) (ss : List Int), e = .returned v ∧ ss.Perm (intKeys D0) ∧
   w'.ownsRow w.heap.size 3 1 v ss.length ((ss.mergeSort (fun x y => decide (x ≤ y))).map encZ) ∧ (v = .slice none 0 0 ↔ ss = []) ∧ Below w.heap.size w w' := by
 have hbl := hown.lt
 have hseq : SeqGives Fence.wide 2 Tryz.prog 144 #[.pointer (some ⟨w.heap.size, 0, none⟩)] encZ (fun ss => ss.Perm (intKeys D0)) (Maps.size D0) (w.alloc (.cells #[.map (some b)] 113)) :=
  AnyZI.keys_gives (ρ := keysA_ren) { keysA with } Fence.wide _ trivial rfl (by omega) w.heap.size b nn D0 _ (by simp) (by simp) (by
   obtain ⟨es, clock, hb, Ft, hs, hD⟩ := hown
   exact ⟨es, clock, (Below.heap_alloc _ _ b hbl).trans hb, Ft, hs, hD⟩)
 have cS := AnyZI.sorted_in sortedA Fence.wide 5 trivial trivial trivial trivial rfl (by omega) (sortsA _) (enters_of Tryz.func143 (by kernel_rfl) rfl) 144 #[.pointer (some ⟨w.heap.size, 0, none⟩)] trivial (enters_of Tryz.func144 (by kernel_rfl) rfl) _ _ hmax hbytes _ hseq
 change CallsIn _ _ Tryz.prog 130 _ _ _ at cS
 refine Calls.mono ((callsIn_wide).1 cS) ?_
 rintro e w' ⟨v, ss, rfl, hS, hrow, hnil, hb⟩
 exact ⟨v, ss, rfl, hS, ownsRow_base_a hrow (by simp), hnil, ((Below.refl _ w).alloc (Nat.le_refl _) _).trans (hb.mono (by simp))⟩
end Go.Proofs.YtldlejpacgphmaaGreat
