/-
  Two lists of ranges, told apart: the law's way, and the library's.
-/
import Derived.Test.YtfglfbiibeffbaaVb0
import Derived.BigQuiet
namespace Go.Proofs.Ytfglfbiibeffbaa
open Go.RowKit

/-- the answer is whether P holds; what was there stays -/
def AnsB (w : World) (P : Prop) (e : Ending) (w' : World) : Prop := ∃ b, e = .returned (.bool b) ∧ (b = true ↔ P) ∧ Below w.heap.size w w'

theorem take_next {α : Type} {l m : List α} {r : Nat} (h1 : r < l.length) (h2 : r < m.length) (h : l.take r = m.take r) (e : l[r] = m[r]) : l.take (r + 1) = m.take (r + 1) := by
  rw [List.take_succ_eq_append_getElem h1, List.take_succ_eq_append_getElem h2, h, e]

theorem below_drewN (B : Nat) (w : World) (n : Nat) : Below B w (w.drewN n) := ⟨rfl, rfl, rfl, Nat.le_refl _, fun _ _ => rfl⟩

set_option maxRecDepth 100000 in
set_option maxHeartbeats 4000000 in
theorem SameRanges_any (a a' : Option Addr) (c c' : Nat) (rs rs' : List Rg) (w : World) (hl : rs.length ≤ 16777216) (h1 : RdR w.heap.size w a rs) (h2 : RdR w.heap.size w a' rs') :
    Calls Try.prog 17 #[.slice a rs.length c, .slice a' rs'.length c'] w fun e w' => AnsB w (rs = rs') e w' := by
  by_cases hn : rs.length = rs'.length
  · have H1 := hid h1
    have H2 := hid h2
    clear h1 h2
    have HN := hid hn
    rw [← hn]
    clear hn
    go_enter Try.func17, Try.ntmps17
    go_wp2_with fail
    go_loopw [5] (fun i wr => ∃ r : Nat, r ≤ rs.length ∧ i = .int .i64 (r : Int) ∧ rs.take r = rs'.take r ∧ Below w.heap.size w wr) (fun i _ => rs.length - (intOf i).toNat)
    case atStart => exact ⟨0, Nat.zero_le _, rfl, by simp, Below.refl _ _⟩
    case round =>
      obtain ⟨r, hr, rfl, ht, hb⟩ := hrel
      by_cases hlt : r < rs.length
      · have hlt' : r < rs'.length := by have := HN.out; omega
        obtain ⟨b, off, rfl, hbl, hc⟩ := (H1.out.below hb).resolve_left (fun e => by rw [e] at hlt; simp at hlt)
        obtain ⟨b', off', rfl, hbl', hc'⟩ := (H2.out.below hb).resolve_left (fun e => by rw [e] at hlt'; simp at hlt')
        obtain ⟨c0, c1⟩ := hc r hlt
        obtain ⟨d0, d1⟩ := hc' r hlt'
        have HB : Hid (∀ q, Below w.heap.size w (wr.drewN q)) := fun q => hb.trans (below_drewN _ _ q)
        have HT := hid ht
        have HE : Hid (rs[r].f = rs'[r].f → rs[r].t = rs'[r].t → rs.take (r + 1) = rs'.take (r + 1)) := fun e1 e2 => take_next hlt hlt' HT.out (rg_ext e1 e2)
        have HX : Hid (rs = rs' → rs[r].f = rs'[r].f ∧ rs[r].t = rs'[r].t) := fun e => by subst e; exact ⟨rfl, rfl⟩
        clear hc hc' ht hb H1 H2
        generalize rs[r].f = x1 at *
        generalize rs[r].t = x2 at *
        generalize rs'[r].f = y1 at *
        generalize rs'[r].t = y2 at *
        have hr1 : (r : Int) < (rs.length : Int) := by omega
        by_cases e1 : x1 = y1
        · by_cases e2 : x2 = y2
          · have HE1 := hid (HE.out e1 e2)
            subst e1
            subst e2
            clear HE HX
            go_wp2_with fail
            go_quiet (fail)
            all_goals go_wp2
            all_goals
              go_roundw
              case rel => exact ⟨r + 1, by omega, by go_num, HE1.out, HB.out _⟩
              case measure => simp [intOf]; omega
          · have hd2 : (x2 == y2) = false := by simpa using e2
            have HX1 : Hid (rs ≠ rs') := fun e => e2 (HX.out e).2
            subst e1
            clear HE HX
            go_wp2_with fail
            go_quiet (fail)
            all_goals go_wp2
            all_goals
              go_ret
              exact ⟨false, rfl, by simpa using HX1.out, HB.out _⟩
        · have hd1 : (x1 == y1) = false := by simpa using e1
          have HX1 : Hid (rs ≠ rs') := fun e => e1 (HX.out e).1
          clear HE HX
          go_wp2_with fail
          go_quiet (fail)
          all_goals go_wp2
          all_goals
            go_ret
            exact ⟨false, rfl, by simpa using HX1.out, HB.out _⟩
      · have e : r = rs.length := by omega
        subst e
        have HB := hid hb
        have HT := hid ht
        clear hb ht
        go_wp2
        go_ret
        refine ⟨true, rfl, ?_, HB.out⟩
        simp only [true_iff]
        have := HT.out
        rwa [List.take_length, HN.out, List.take_length] at this
  · have hnI : ¬ (rs.length : Int) = (rs'.length : Int) := by omega
    clear h1 h2
    go_enter Try.func17, Try.ntmps17
    go_wp2
    go_ret
    exact ⟨false, rfl, by simp; intro e; exact hn (by rw [e]), Below.refl _ _⟩

set_option maxRecDepth 100000 in
set_option maxHeartbeats 4000000 in
theorem neq32_any (x1 x2 y1 y2 : Int) (w : World) : (binOp .neq 32 (.agg #[.int .i64 x1, .int .i64 x2]) (.agg #[.int .i64 y1, .int .i64 y2])).run Try.prog w = .ok (.bool (!(x1 == y1 && x2 == y2))) w := by
  have hp : Try.prog.stoodInHeld 32 = false := by kernel_rfl
  by_cases h1 : x1 = y1 <;> by_cases h2 : x2 = y2 <;>
  simp [go_sem, Try.underlying32, Try.underlying3, hp, h1, h2]

set_option maxRecDepth 100000 in
set_option maxHeartbeats 4000000 in
theorem Equal_any (a a' : Option Addr) (c c' : Nat) (rs rs' : List Rg) (w : World) (hl : rs.length ≤ 16777216) (h1 : RdR w.heap.size w a rs) (h2 : RdR w.heap.size w a' rs') :
    Calls Try.prog 15 #[.slice a rs.length c, .slice a' rs'.length c'] w fun e w' => AnsB w (rs = rs') e w' := by
  by_cases hn : rs.length = rs'.length
  · have H1 := hid h1
    have H2 := hid h2
    clear h1 h2
    have HN := hid hn
    rw [← hn]
    clear hn
    go_enter Try.func15, Try.ntmps15
    go_wp2_with fail
    go_loopw [13] (fun i wr => ∃ r : Nat, r ≤ rs.length ∧ i = .int .i64 (r : Int) ∧ rs.take r = rs'.take r ∧ Below w.heap.size w wr) (fun i _ => rs.length - (intOf i).toNat)
    case atStart => exact ⟨0, Nat.zero_le _, rfl, by simp, Below.refl _ _⟩
    case round =>
      obtain ⟨r, hr, rfl, ht, hb⟩ := hrel
      by_cases hlt : r < rs.length
      · have hlt' : r < rs'.length := by have := HN.out; omega
        obtain ⟨b, off, rfl, hbl, hc⟩ := (H1.out.below hb).resolve_left (fun e => by rw [e] at hlt; simp at hlt)
        obtain ⟨b', off', rfl, hbl', hc'⟩ := (H2.out.below hb).resolve_left (fun e => by rw [e] at hlt'; simp at hlt')
        obtain ⟨c0, c1⟩ := hc r hlt
        obtain ⟨d0, d1⟩ := hc' r hlt'
        have HB : Hid (∀ q, Below w.heap.size w (wr.drewN q)) := fun q => hb.trans (below_drewN _ _ q)
        have HT := hid ht
        have HE : Hid (rs[r].f = rs'[r].f → rs[r].t = rs'[r].t → rs.take (r + 1) = rs'.take (r + 1)) := fun e1 e2 => take_next hlt hlt' HT.out (rg_ext e1 e2)
        have HX : Hid (rs = rs' → rs[r].f = rs'[r].f ∧ rs[r].t = rs'[r].t) := fun e => by subst e; exact ⟨rfl, rfl⟩
        clear hc hc' ht hb H1 H2
        generalize rs[r].f = x1 at *
        generalize rs[r].t = x2 at *
        generalize rs'[r].f = y1 at *
        generalize rs'[r].t = y2 at *
        have hr1 : (r : Int) < (rs.length : Int) := by omega
        have hrun : ∃ ne : Bool, (∀ u, (binOp .neq 32 (.agg #[.int .i64 x1, .int .i64 x2]) (.agg #[.int .i64 y1, .int .i64 y2])).run Try.prog u = .ok (.bool ne) u) ∧ (ne = false → x1 = y1 ∧ x2 = y2) ∧ (ne = true → ¬ (x1 = y1 ∧ x2 = y2)) := ⟨_, fun u => neq32_any x1 x2 y1 y2 u, by simp, by simp; intro h1 h2 h3; rcases h1 with h1 | h1 <;> contradiction⟩
        obtain ⟨ne, hrun, hne0, hne1⟩ := hrun
        have HM0 := hid hne0
        have HM1 := hid hne1
        clear hne0 hne1
        cases ne
        · have HE1 := hid (HE.out (HM0.out rfl).1 (HM0.out rfl).2)
          clear HE HX HM0 HM1
          go_wp2_with fail
          go_quiet (fail)
          all_goals go_wp2
          all_goals
            go_roundw
            case rel => exact ⟨r + 1, by omega, by go_num, HE1.out, HB.out _⟩
            case measure => simp [intOf]; omega
        · have HX1 : Hid (rs ≠ rs') := fun e => HM1.out rfl (HX.out e)
          clear HE HX HM0 HM1
          go_wp2_with fail
          go_quiet (fail)
          all_goals go_wp2
          all_goals
            go_ret
            exact ⟨false, rfl, by simpa using HX1.out, HB.out _⟩
      · have e : r = rs.length := by omega
        subst e
        have HB := hid hb
        have HT := hid ht
        clear hb ht
        go_wp2
        go_ret
        refine ⟨true, rfl, ?_, HB.out⟩
        simp only [true_iff]
        have := HT.out
        rwa [List.take_length, HN.out, List.take_length] at this
  · have hnI : ¬ (rs.length : Int) = (rs'.length : Int) := by omega
    clear h1 h2
    go_enter Try.func15, Try.ntmps15
    go_wp2
    go_ret
    exact ⟨false, rfl, by simp; intro e; exact hn (by rw [e]), Below.refl _ _⟩

end Go.Proofs.Ytfglfbiibeffbaa
