/-
  The library's EqualFunc.
-/
import Derived.Test.YtfglfbiibeffbaaVs2
namespace Go.Proofs.Ytfglfbiibeffbaa
open Go.RowKit

theorem two_below (w : World) (o o' : Obj) : Below w.heap.size w ((w.alloc o).alloc o') := ((Below.refl _ _).alloc (Nat.le_refl _) _).alloc (by simp) _

set_option maxRecDepth 100000 in
set_option maxHeartbeats 4000000 in
theorem EqualFunc_any (a a' : Option Addr) (c c' : Nat) (vs vs' : List PV) (w : World) (hl : shV vs) (h1 : RdV w.heap.size w a vs) (h2 : RdV w.heap.size w a' vs') :
    Calls Try.prog 9 #[.slice a vs.length c, .slice a' vs'.length c', .func (.func 10) #[] #[]] w fun e w' => AnsB w (vs = vs') e w' := by
  by_cases hn : vs.length = vs'.length
  · have H1 := hid h1
    have H2 := hid h2
    have HL := hid hl
    have hl1 : vs.length ≤ 16777216 := hl.1
    clear h1 h2 hl
    have HN := hid hn
    rw [← hn]
    clear hn
    go_enter Try.func9, Try.ntmps9
    go_wp2_with fail
    go_loopw [17] (fun i wr => ∃ r : Nat, r ≤ vs.length ∧ i = .int .i64 (r : Int) ∧ vs.take r = vs'.take r ∧ Below w.heap.size w wr) (fun i _ => vs.length - (intOf i).toNat)
    case atStart => exact ⟨0, Nat.zero_le _, rfl, by simp, Below.refl _ _⟩
    case round =>
      obtain ⟨r, hr, rfl, ht, hb⟩ := hrel
      by_cases hlt : r < vs.length
      · have hlt' : r < vs'.length := by have := HN.out; omega
        obtain ⟨b, off, rfl, hbl, hc⟩ := (H1.out.below hb).resolve_left (fun e => by rw [e] at hlt; simp at hlt)
        obtain ⟨b', off', rfl, hbl', hc'⟩ := (H2.out.below hb).resolve_left (fun e => by rw [e] at hlt'; simp at hlt')
        obtain ⟨x, cp, ⟨c0, c1, c2, c3, c4, c5, c6⟩, r1, _⟩ := hc r hlt
        obtain ⟨x', cp', ⟨d0, d1, d2, d3, d4, d5, d6⟩, r2, _⟩ := hc' r hlt'
        have HL2 := HL.out.2 (vs[r]'hlt) (List.getElem_mem hlt)
        have HT := hid ht
        have HE : Hid (vs[r] = vs'[r] → vs.take (r + 1) = vs'.take (r + 1)) := fun e => take_next hlt hlt' HT.out e
        have HX : Hid (vs = vs' → vs[r] = vs'[r]) := fun e => by subst e; rfl
        obtain ⟨W2, hW2⟩ : ∃ W2, W2 = (wr.alloc (.cells #[.string vs[r].nm, .int .i64 vs[r].id, .int .i64 vs[r].sz, .int .i64 vs[r].og, .int .i64 vs[r].kd, .bool vs[r].pt, .slice x vs[r].mp.length cp] 30)).alloc (.cells #[.string vs'[r].nm, .int .i64 vs'[r].id, .int .i64 vs'[r].sz, .int .i64 vs'[r].og, .int .i64 vs'[r].kd, .bool vs'[r].pt, .slice x' vs'[r].mp.length cp'] 30) := ⟨_, rfl⟩
        have b2 : Below w.heap.size w W2 := by rw [hW2]; exact hb.trans ((two_below wr _ _).mono hb.size)
        have HC : Hid (Calls Try.prog 10 #[volA vs[r] x cp, volA vs'[r] x' cp'] W2 fun e w' => AnsB W2 (vs[r] = vs'[r]) e w') := isSameVolume_any vs[r] vs'[r] x x' cp cp' W2 HL2 (((r1.mono hb.size).below (by rw [hW2]; exact two_below _ _ _)).mono (by rw [hW2]; simp; omega)) (((r2.mono hb.size).below (by rw [hW2]; exact two_below _ _ _)).mono (by rw [hW2]; simp; omega))
        have HB := hid b2
        have HW2 := hid hW2
        clear hc hc' ht r1 r2 H1 H2 HL2 HL b2 hW2
        dsimp only [volA] at HC
        generalize vs[r] = v at *
        generalize vs'[r] = v' at *
        have hbl2 : b' < wr.heap.size := Nat.lt_of_lt_of_le hbl' hb.size
        clear hb
        have hr1 : (r : Int) < (vs.length : Int) := by omega
        go_wp2_with fail
        rw [← HW2.out]
        refine HC.out.mono ?_
        rintro e w1 ⟨bb, rfl, hbi, hb1⟩
        have HI := hid hbi
        have HB1 := hid (HB.out.trans (hb1.mono HB.out.size))
        clear hbi hb1 HB HW2 HC c0 c1 c2 c3 c4 c5 c6 d0 d1 d2 d3 d4 d5 d6
        cases bb
        · go_wp2
          go_ret
          refine ⟨false, rfl, ?_, HB1.out⟩
          have := HI.out
          simp only [Bool.false_eq_true, false_iff] at this ⊢
          exact fun e => this (HX.out e)
        · go_wp2
          go_roundw
          case rel => exact ⟨r + 1, by omega, by go_num, HE.out (HI.out.1 (by simp)), HB1.out⟩
          case measure => simp [intOf]; omega
      · have e : r = vs.length := by omega
        subst e
        have HB := hid hb
        have HT := hid ht
        clear hb ht
        go_wp2
        go_ret
        refine ⟨true, rfl, ?_, HB.out⟩
        simp only [true_iff]
        have := HT.out
        rwa [List.take_length, HN.out, List.take_length] at this
  · have hnI : ¬ (vs.length : Int) = (vs'.length : Int) := by omega
    clear h1 h2
    go_enter Try.func9, Try.ntmps9
    go_wp2
    go_ret
    exact ⟨false, rfl, by simp; intro e; exact hn (by rw [e]), Below.refl _ _⟩

/-- a view, in plain words but for its volumes -/
structure VW where
  cp : Int
  fr : Int
  nx : Int
  vs : List PV
abbrev viewA (v : VW) (a : Option Addr) (c : Nat) : Value := .agg #[.int .i64 v.cp, .int .i64 v.fr, .int .i64 v.nx, .slice a v.vs.length c]
/-- alike in all but what is free -/
def alkV (x y : VW) : Prop := x.cp = y.cp ∧ x.nx = y.nx ∧ x.vs = y.vs

set_option maxRecDepth 100000 in
set_option maxHeartbeats 4000000 in
theorem AlikeViews_any (x y : VW) (a a' : Option Addr) (c c' : Nat) (w : World) (hl : shV x.vs) (h1 : RdV w.heap.size w a x.vs) (h2 : RdV w.heap.size w a' y.vs) :
    Calls Try.prog 7 #[viewA x a c, viewA y a' c'] w fun e w' => AnsB w (alkV x y) e w' := by
  obtain ⟨W2, hW2⟩ : ∃ W2, W2 = (w.alloc (.cells #[.int .i64 x.cp, .int .i64 x.fr, .int .i64 x.nx, .slice a x.vs.length c] 24)).alloc (.cells #[.int .i64 y.cp, .int .i64 y.fr, .int .i64 y.nx, .slice a' y.vs.length c'] 24) := ⟨_, rfl⟩
  have b2 : Below w.heap.size w W2 := by rw [hW2]; exact ((Below.refl _ _).alloc (Nat.le_refl _) _).alloc (by simp) _
  have HC := hid (SameVolumes_any a a' c c' x.vs y.vs W2 hl ((h1.below b2).mono b2.size) ((h2.below b2).mono b2.size))
  have HB := hid b2
  have HW2 := hid hW2
  clear h1 h2 b2 hW2 hl
  have HQ : Hid (alkV x y ↔ x.cp = y.cp ∧ x.nx = y.nx ∧ x.vs = y.vs) := Iff.rfl
  dsimp only [viewA]
  generalize x.cp = i1 at *
  generalize y.cp = i1' at *
  generalize x.nx = i2 at *
  generalize y.nx = i2' at *
  generalize x.vs.length = n at *
  generalize y.vs.length = n' at *
  by_cases e1 : i1 = i1'
  · by_cases e2 : i2 = i2'
    · have HX : Hid (x.vs = y.vs ↔ alkV x y) := ⟨fun e => HQ.out.2 ⟨e1, e2, e⟩, fun e => (HQ.out.1 e).2.2⟩
      subst e1
      subst e2
      clear HQ
      go_enter Try.func7, Try.ntmps7
      go_wp2_with fail
      rw [← HW2.out]
      refine HC.out.mono ?_
      rintro e w3 ⟨b, rfl, hbi, hw3⟩
      have HI := hid (hbi.trans HX.out)
      have HB3 := hid (HB.out.trans (hw3.mono HB.out.size))
      clear hbi hw3 HX HC
      go_wp2
      go_ret
      exact ⟨b, rfl, HI.out, HB3.out⟩
    · have hd : (i2 == i2') = false := by simpa using e2
      have HX : Hid (¬ alkV x y) := fun e => e2 (HQ.out.1 e).2.1
      clear HQ
      subst e1
      go_enter Try.func7, Try.ntmps7
      go_wp2
      go_ret
      have hb2 := HB.out
      rw [HW2.out] at hb2
      exact ⟨false, rfl, by simpa using HX.out, hb2⟩
  · have hd : (i1 == i1') = false := by simpa using e1
    have HX : Hid (¬ alkV x y) := fun e => e1 (HQ.out.1 e).1
    clear HQ
    go_enter Try.func7, Try.ntmps7
    go_wp2
    go_ret
    have hb2 := HB.out
    rw [HW2.out] at hb2
    exact ⟨false, rfl, by simpa using HX.out, hb2⟩

set_option maxRecDepth 100000 in
set_option maxHeartbeats 4000000 in
theorem Same_any (x y : VW) (a a' : Option Addr) (c c' : Nat) (w : World) (hl : shV x.vs) (h1 : RdV w.heap.size w a x.vs) (h2 : RdV w.heap.size w a' y.vs) :
    Calls Try.prog 5 #[viewA x a c, viewA y a' c'] w fun e w' => AnsB w (alkV x y) e w' := by
  obtain ⟨W2, hW2⟩ : ∃ W2, W2 = (w.alloc (.cells #[.int .i64 x.cp, .int .i64 x.fr, .int .i64 x.nx, .slice a x.vs.length c] 24)).alloc (.cells #[.int .i64 y.cp, .int .i64 y.fr, .int .i64 y.nx, .slice a' y.vs.length c'] 24) := ⟨_, rfl⟩
  have b2 : Below w.heap.size w W2 := by rw [hW2]; exact ((Below.refl _ _).alloc (Nat.le_refl _) _).alloc (by simp) _
  have HC := hid (EqualFunc_any a a' c c' x.vs y.vs W2 hl ((h1.below b2).mono b2.size) ((h2.below b2).mono b2.size))
  have HB := hid b2
  have HW2 := hid hW2
  clear h1 h2 b2 hW2 hl
  have HQ : Hid (alkV x y ↔ x.cp = y.cp ∧ x.nx = y.nx ∧ x.vs = y.vs) := Iff.rfl
  dsimp only [viewA]
  generalize x.cp = i1 at *
  generalize y.cp = i1' at *
  generalize x.nx = i2 at *
  generalize y.nx = i2' at *
  generalize x.vs.length = n at *
  generalize y.vs.length = n' at *
  by_cases e1 : i1 = i1'
  · by_cases e2 : i2 = i2'
    · have HX : Hid (x.vs = y.vs ↔ alkV x y) := ⟨fun e => HQ.out.2 ⟨e1, e2, e⟩, fun e => (HQ.out.1 e).2.2⟩
      subst e1
      subst e2
      clear HQ
      go_enter Try.func5, Try.ntmps5
      go_wp2_with fail
      rw [← HW2.out]
      refine HC.out.mono ?_
      rintro e w3 ⟨b, rfl, hbi, hw3⟩
      have HI := hid (hbi.trans HX.out)
      have HB3 := hid (HB.out.trans (hw3.mono HB.out.size))
      clear hbi hw3 HX HC
      go_wp2
      go_ret
      exact ⟨b, rfl, HI.out, HB3.out⟩
    · have hd : (i2 == i2') = false := by simpa using e2
      have HX : Hid (¬ alkV x y) := fun e => e2 (HQ.out.1 e).2.1
      clear HQ
      subst e1
      go_enter Try.func5, Try.ntmps5
      go_wp2
      go_ret
      have hb2 := HB.out
      rw [HW2.out] at hb2
      exact ⟨false, rfl, by simpa using HX.out, hb2⟩
  · have hd : (i1 == i1') = false := by simpa using e1
    have HX : Hid (¬ alkV x y) := fun e => e1 (HQ.out.1 e).1
    clear HQ
    go_enter Try.func5, Try.ntmps5
    go_wp2
    go_ret
    have hb2 := HB.out
    rw [HW2.out] at hb2
    exact ⟨false, rfl, by simpa using HX.out, hb2⟩

set_option maxRecDepth 100000 in
set_option maxHeartbeats 4000000 in
/-- views of one content -/
theorem SameView_yes (x : VW) (a a' : Option Addr) (c c' : Nat) (w : World) (hl : shV x.vs) (h1 : RdV w.heap.size w a x.vs) (h2 : RdV w.heap.size w a' x.vs) :
    Calls Try.prog 13 #[viewA x a c, viewA x a' c'] w fun e w' => e = .returned (.bool true) ∧ Below w.heap.size w w' := by
  obtain ⟨W2, hW2⟩ : ∃ W2, W2 = (w.alloc (.cells #[.int .i64 x.cp, .int .i64 x.fr, .int .i64 x.nx, .slice a x.vs.length c] 24)).alloc (.cells #[.int .i64 x.cp, .int .i64 x.fr, .int .i64 x.nx, .slice a' x.vs.length c'] 24) := ⟨_, rfl⟩
  have b2 : Below w.heap.size w W2 := by rw [hW2]; exact two_below _ _ _
  have HC := hid (AlikeViews_any x x a a' c c' W2 hl ((h1.below b2).mono b2.size) ((h2.below b2).mono b2.size))
  have HB := hid b2
  have HW2 := hid hW2
  have HQ : Hid (alkV x x) := ⟨rfl, rfl, rfl⟩
  clear h1 h2 b2 hW2 hl
  dsimp only [viewA] at HC ⊢
  go_enter Try.func13, Try.ntmps13
  go_wp2_with fail
  rw [← HW2.out]
  refine HC.out.mono ?_
  rintro e w3 ⟨b, rfl, hbi, hw3⟩
  obtain rfl : b = true := hbi.2 HQ.out
  have HB3 := hid (HB.out.trans (hw3.mono HB.out.size))
  clear hbi hw3 HQ HC
  go_wp2
  go_ret
  exact ⟨rfl, HB3.out⟩

end Go.Proofs.Ytfglfbiibeffbaa
