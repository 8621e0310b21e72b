/-
  Two lists of volumes, told apart; two views.
-/
import Derived.Test.YtfglfbiibeffbaaVs1
namespace Go.Proofs.Ytfglfbiibeffbaa
open Go.RowKit

/-- the lists within are not too long -/
def shV (vs : List PV) : Prop := vs.length ≤ 16777216 ∧ ∀ v ∈ vs, v.mp.length ≤ 16777216

set_option maxRecDepth 100000 in
set_option maxHeartbeats 4000000 in
theorem SameVolumes_any (a a' : Option Addr) (c c' : Nat) (vs vs' : List PV) (w : World) (hl : shV vs) (h1 : RdV w.heap.size w a vs) (h2 : RdV w.heap.size w a' vs') :
    Calls Try.prog 12 #[.slice a vs.length c, .slice a' vs'.length c'] w fun e w' => AnsB w (vs = vs') e w' := by
  by_cases hn : vs.length = vs'.length
  · have H1 := hid h1
    have H2 := hid h2
    have HL := hid hl
    have hl1 : vs.length ≤ 16777216 := hl.1
    clear h1 h2 hl
    have HN := hid hn
    rw [← hn]
    clear hn
    go_enter Try.func12, Try.ntmps12
    go_wp2_with fail
    go_loopw [5] (fun i wr => ∃ r : Nat, r ≤ vs.length ∧ i = .int .i64 (r : Int) ∧ vs.take r = vs'.take r ∧ Below w.heap.size w wr) (fun i _ => vs.length - (intOf i).toNat)
    case atStart => exact ⟨0, Nat.zero_le _, rfl, by simp, Below.refl _ _⟩
    case round =>
      obtain ⟨r, hr, rfl, ht, hb⟩ := hrel
      by_cases hlt : r < vs.length
      · have hlt' : r < vs'.length := by have := HN.out; omega
        obtain ⟨b, off, rfl, hbl, hc⟩ := (H1.out.below hb).resolve_left (fun e => by rw [e] at hlt; simp at hlt)
        obtain ⟨b', off', rfl, hbl', hc'⟩ := (H2.out.below hb).resolve_left (fun e => by rw [e] at hlt'; simp at hlt')
        obtain ⟨x, cp, ⟨c0, c1, c2, c3, c4, c5, c6⟩, r1, _⟩ := hc r hlt
        obtain ⟨x', cp', ⟨d0, d1, d2, d3, d4, d5, d6⟩, r2, _⟩ := hc' r hlt'
        have HL2 := HL.out.2 (vs[r]'hlt) (List.getElem_mem hlt)
        have HT := hid ht
        have HE : Hid (vs[r] = vs'[r] → vs.take (r + 1) = vs'.take (r + 1)) := fun e => take_next hlt hlt' HT.out e
        have HX : Hid (vs = vs' → vs[r] = vs'[r]) := fun e => by subst e; rfl
        have hbd : Below w.heap.size w wr.drew := hb.trans (below_drew _ _)
        have HC : Hid (Calls Try.prog 14 #[volA vs[r] x cp, volA vs'[r] x' cp'] wr.drew fun e w' => AnsB wr.drew (vs[r] = vs'[r]) e w') := SameVolume_any vs[r] vs'[r] x x' cp cp' wr.drew HL2 ((r1.below (below_drew _ _)).mono hb.size) ((r2.below (below_drew _ _)).mono hb.size)
        have HB := hid hbd
        generalize vs[r] = v at *
        generalize vs'[r] = v' at *
        clear hc hc' ht hb r1 r2 H1 H2 hbd HL2 HL
        have hr1 : (r : Int) < (vs.length : Int) := by omega
        dsimp only [volA] at HC
        go_wp2_with fail
        go_region_with (go_at_call 14; refine Calls.mono HC.out ?_; rintro e w1 ⟨bb, rfl, hbi, hb1⟩; (have HI := hid hbi; have HB1 := hid (HB.out.trans (hb1.mono HB.out.size)); clear hbi hb1))
        all_goals
          cases bb
          · go_wp2
            go_ret
            refine ⟨false, rfl, ?_, HB1.out⟩
            have := HI.out
            simp only [Bool.false_eq_true, false_iff] at this ⊢
            exact fun e => this (HX.out e)
          · go_wp2
            go_roundw
            case rel => exact ⟨r + 1, by omega, by go_num, HE.out (HI.out.1 rfl), HB1.out⟩
            case measure => simp [intOf]; omega
      · have e : r = vs.length := by omega
        subst e
        have HB := hid hb
        have HT := hid ht
        clear hb ht
        go_wp2
        go_ret
        refine ⟨true, rfl, ?_, HB.out⟩
        simp only [true_iff]
        have := HT.out
        rwa [List.take_length, HN.out, List.take_length] at this
  · have hnI : ¬ (vs.length : Int) = (vs'.length : Int) := by omega
    clear h1 h2
    go_enter Try.func12, Try.ntmps12
    go_wp2
    go_ret
    exact ⟨false, rfl, by simp; intro e; exact hn (by rw [e]), Below.refl _ _⟩

end Go.Proofs.Ytfglfbiibeffbaa
