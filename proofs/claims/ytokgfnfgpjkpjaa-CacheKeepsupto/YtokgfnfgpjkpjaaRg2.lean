/-
  Package cache: unlink, linkBefore, alone, makeLatest.
-/
import Derived.Test.YtokgfnfgpjkpjaaRg1
import Derived.Deep.RegionHeld3
namespace Go.Proofs.Ytokgfnfgpjkpjaa
open Go.RowKit

theorem EnB.cells {w : World} {x : Nat} {e : En} (h : EnB w x e) : w.cell? ⟨x, 0, none⟩ = some (.int .i64 e.at_) ∧ w.cell? ⟨x, 1, none⟩ = some e.dv ∧ w.cell? ⟨x, 2, none⟩ = some (.pointer (some ⟨e.bf, 0, none⟩)) ∧ w.cell? ⟨x, 3, none⟩ = some (.pointer (some ⟨e.af, 0, none⟩)) := ⟨h.cell 0, h.cell 1, h.cell 2, h.cell 3⟩
set_option maxHeartbeats 1000000 in
theorem unlink_any {w : World} {V : Nat → Prop} {f : Nat → En} (h : Ens w V f) {e : Nat} (he : V e) (hb : V (f e).bf) (ha : V (f e).af) :
    Calls Try.prog 38 #[.pointer (some ⟨e, 0, none⟩)] w fun r w' => r = .returned (.tuple #[]) ∧ Ens w' V (unl f e) ∧ But V w w' := by
  obtain ⟨_, _, c2, c3⟩ := (h e he).cells
  have x3 := (h _ hb).cells.2.2.2
  have y3 := (h _ hb).frozen 3
  have h1 := h.setA hb (f e).af
  have c2' : (w.setCell ⟨(f e).bf, 3, none⟩ (.pointer (some ⟨(f e).af, 0, none⟩))).cell? ⟨e, 2, none⟩ = some (.pointer (some ⟨(f e).bf, 0, none⟩)) := by
    have := (h1 e he).cells.2.2.1
    rw [setAf_bf] at this
    exact this
  have c3' : (w.setCell ⟨(f e).bf, 3, none⟩ (.pointer (some ⟨(f e).af, 0, none⟩))).cell? ⟨e, 3, none⟩ = some (.pointer (some ⟨(f e).af, 0, none⟩)) := by
    have := (h1 e he).cells.2.2.2
    rw [setAf_af] at this
    split at this <;> exact this
  have x2 := (h1 _ ha).cells.2.2.1
  have y2 := (h1 _ ha).frozen 2
  have FIN := hid (And.intro (h1.setB ha (f e).bf) (((But.refl V w).setCell (p := ⟨(f e).bf, 3, none⟩) hb (.pointer (some ⟨(f e).af, 0, none⟩))).setCell (p := ⟨(f e).af, 2, none⟩) ha (.pointer (some ⟨(f e).bf, 0, none⟩))))
  have FE : Hid (unl f e = setBf (setAf f (f e).bf (f e).af) (f e).af (f e).bf) := rfl
  generalize setAf f (f e).bf (f e).af = f1 at *
  generalize (f1 (f e).af).bf = ob at *
  generalize (f (f e).bf).af = oa at *
  generalize (f e).bf = b at *
  generalize (f e).af = a at *
  clear h h1
  go_enter Try.func38, Try.ntmps38
  go_wp2_with fail
  go_region
  all_goals go_wp2_with fail
  all_goals go_region
  all_goals go_wp2
  all_goals
    go_end0
    exact ⟨rfl, by rw [FE.out]; exact FIN.out.1, ⟨FIN.out.2.os, FIN.out.2.tape, FIN.out.2.output, FIN.out.2.size, FIN.out.2.block⟩⟩
set_option maxHeartbeats 2000000 in
theorem linkBefore_any {w : World} {V : Nat → Prop} {f : Nat → En} (h : Ens w V f) {e n : Nat} (he : V e) (hn : V n) (hp : V (f n).bf) :
    Calls Try.prog 39 #[.pointer (some ⟨e, 0, none⟩), .pointer (some ⟨n, 0, none⟩)] w fun r w' => r = .returned (.tuple #[]) ∧ Ens w' V (lnk f e n) ∧ But V w w' := by
  have c2 := (h n hn).cells.2.2.1
  have x2 := (h e he).cells.2.2.1
  have y2 := (h e he).frozen 2
  have h1 := h.setB he (f n).bf
  have x3 := (h1 e he).cells.2.2.2
  have y3 := (h1 e he).frozen 3
  have h2 := h1.setA he n
  have e2 : ((w.setCell ⟨e, 2, none⟩ (.pointer (some ⟨(f n).bf, 0, none⟩))).setCell ⟨e, 3, none⟩ (.pointer (some ⟨n, 0, none⟩))).cell? ⟨e, 2, none⟩ = some (.pointer (some ⟨(f n).bf, 0, none⟩)) := by
    have := (h2 e he).cells.2.2.1
    rw [setAf_bf, setBf_bf, if_pos rfl] at this
    exact this
  have p3 := (h2 _ hp).cells.2.2.2
  have z3 := (h2 _ hp).frozen 3
  have h3 := h2.setA hp e
  have n2 := (h3 n hn).cells.2.2.1
  have z2 := (h3 n hn).frozen 2
  have FIN := hid (And.intro (h3.setB hn e) (((((But.refl V w).setCell (p := ⟨e, 2, none⟩) he (.pointer (some ⟨(f n).bf, 0, none⟩))).setCell (p := ⟨e, 3, none⟩) he (.pointer (some ⟨n, 0, none⟩))).setCell (p := ⟨(f n).bf, 3, none⟩) hp (.pointer (some ⟨e, 0, none⟩))).setCell (p := ⟨n, 2, none⟩) hn (.pointer (some ⟨e, 0, none⟩))))
  have FE : Hid (lnk f e n = setBf (setAf (setAf (setBf f e (f n).bf) e n) (f n).bf e) n e) := rfl
  generalize setBf f e (f n).bf = f1 at *
  generalize setAf f1 e n = f2 at *
  generalize setAf f2 (f n).bf e = f3 at *
  generalize (f3 n).bf = o3 at *
  generalize (f2 (f n).bf).af = o2 at *
  generalize (f1 e).af = o1 at *
  generalize (f e).bf = o0 at *
  generalize (f n).bf = b at *
  clear h h1 h2 h3
  go_enter Try.func39, Try.ntmps39
  go_wp2
  go_end0
  exact ⟨rfl, by rw [FE.out]; exact FIN.out.1, FIN.out.2⟩
theorem alone_any (x : Int) (w : World) : Calls Try.prog 42 #[.int .i64 x] w fun r w' => r = .returned (.pointer (some ⟨w.heap.size, 0, none⟩)) ∧ EnB w' w.heap.size ⟨x, .slice none 0 0, w.heap.size, w.heap.size⟩ ∧ Below w.heap.size w w' ∧ w'.heap.size = w.heap.size + 1 := by
  have FIN : Hid (EnB (w.alloc (.cells #[.int .i64 x, .slice none 0 0, .pointer (some ⟨w.heap.size, 0, none⟩), .pointer (some ⟨w.heap.size, 0, none⟩)] 66)) w.heap.size ⟨x, .slice none 0 0, w.heap.size, w.heap.size⟩) := by
    show (w.heap.push _)[w.heap.size]? = _
    simp
  go_enter Try.func42, Try.ntmps42
  go_wp2
  go_ret
  exact ⟨rfl, FIN.out, (Below.refl _ _).alloc (Nat.le_refl _) _, by simp⟩
set_option maxHeartbeats 1000000 in
/-- makeLatest -/
theorem makeLatest_any {w : World} {V : Nat → Prop} {f : Nat → En} (h : Ens w V f) {c e r : Nat} (hc : w.cell? ⟨c, 2, none⟩ = some (.pointer (some ⟨r, 0, none⟩))) (hcV : ¬ V c) (hcl : c < w.heap.size) (he : V e) (hb : V (f e).bf) (ha : V (f e).af) (hr : V r) (hp : V (unl f e r).bf) :
    Calls Try.prog 26 #[.pointer (some ⟨c, 0, none⟩), .pointer (some ⟨e, 0, none⟩)] w fun q w' => q = .returned (.tuple #[]) ∧ Ens w' V (lnk (unl f e) e r) ∧ But V w w' := by
  have HU := hid (unlink_any h he hb ha)
  clear h
  go_enter Try.func26, Try.ntmps26
  go_wp2_with fail
  refine Calls.mono HU.out ?_
  rintro q w1 ⟨rfl, h1, b1⟩
  have c2 := (b1.cell (p := ⟨c, 2, none⟩) hcl hcV).trans hc
  have HL := hid (linkBefore_any h1 he hr hp)
  have B1 := hid b1
  clear HU h1 b1
  go_wp2_with fail
  refine Calls.mono HL.out ?_
  rintro q w2 ⟨rfl, h2, b2⟩
  have F := hid (And.intro h2 (B1.out.trans b2))
  clear HL h2 b2
  go_wp2
  go_end0
  exact ⟨rfl, F.out.1, F.out.2⟩

end Go.Proofs.Ytokgfnfgpjkpjaa
