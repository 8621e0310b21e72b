import Derived.Test.YtddddfankeepkaaGreatDoorF00
import Derived.BigQuiet
namespace Go.Proofs.YtddddfankeepkaaGreatDoor
open Go.RowKit
def AnsB (w : World) (P : Prop) (e : Ending) (w' : World) : Prop := ∃ b, e = .returned (.bool b) ∧ (b = true ↔ P) ∧ Below w.heap.size w w'
theorem take_next {α : Type} {l m : List α} {r : Nat} (h1 : r < l.length) (h2 : r < m.length) (h : l.take r = m.take r) (e : l[r] = m[r]) : l.take (r + 1) = m.take (r + 1) := by
 rw [List.take_succ_eq_append_getElem h1, List.take_succ_eq_append_getElem h2, h, e]
theorem below_drewN (B : Nat) (w : World) (n : Nat) : Below B w (w.drewN n) := ⟨rfl, rfl, rfl, Nat.le_refl _, fun _ _ => rfl⟩
set_option maxRecDepth 100000 in
set_option maxHeartbeats 4000000 in
theorem SameRanges_any (a a' : Option Addr) (c c' : Nat) (rs rs' : List Rg) (w : World) (hl : rs.length ≤ 16777216) (h1 : RdR w.heap.size w a rs) (h2 : RdR w.heap.size w a' rs') :
  Calls Tryz.prog 86 #[.slice a rs.length c, .slice a' rs'.length c'] w fun e w' => AnsB w (rs = rs') e w' := by
 by_cases hn : rs.length = rs'.length
 ·have H1 := hid h1
  have H2 := hid h2
  clear h1 h2
  have HN := hid hn
  rw [← hn]
  clear hn
  go_enter Tryz.func86, Tryz.ntmps86
  go_wp2_with fail
  go_loopw [5] (fun i wr => ∃ r : Nat, r ≤ rs.length ∧ i = .int .i64 (r : Int) ∧ rs.take r = rs'.take r ∧ Below w.heap.size w wr) (fun i _ => rs.length - (intOf i).toNat)
  case atStart => exact ⟨0, Nat.zero_le _, rfl, by simp, Below.refl _ _⟩
  case round =>
   obtain ⟨r, hr, rfl, ht, hb⟩ := hrel
   by_cases hlt : r < rs.length
   ·have hlt' : r < rs'.length := by have := HN.out; omega
    obtain ⟨b, off, rfl, hbl, hc⟩ := (H1.out.below hb).resolve_left (fun e => by rw [e] at hlt; simp at hlt)
    obtain ⟨b', off', rfl, hbl', hc'⟩ := (H2.out.below hb).resolve_left (fun e => by rw [e] at hlt'; simp at hlt')
    obtain ⟨c0, c1⟩ := hc r hlt
    obtain ⟨d0, d1⟩ := hc' r hlt'
    have HB : Hid (∀ q, Below w.heap.size w (wr.drewN q)) := fun q => hb.trans (below_drewN _ _ q)
    have HT := hid ht
    have HE : Hid (rs[r].f = rs'[r].f → rs[r].t = rs'[r].t → rs.take (r + 1) = rs'.take (r + 1)) := fun e1 e2 => take_next hlt hlt' HT.out (rg_ext e1 e2)
    have HX : Hid (rs = rs' → rs[r].f = rs'[r].f ∧ rs[r].t = rs'[r].t) := fun e => by subst e; exact ⟨rfl, rfl⟩
    clear hc hc' ht hb H1 H2
    generalize rs[r].f = x1 at *
    generalize rs[r].t = x2 at *
    generalize rs'[r].f = y1 at *
    generalize rs'[r].t = y2 at *
    have hr1 : (r : Int) < (rs.length : Int) := by omega
    by_cases e1 : x1 = y1
    ·by_cases e2 : x2 = y2
     ·have HE1 := hid (HE.out e1 e2)
      subst e1
      subst e2
      clear HE HX
      go_wp2_with fail
      go_quiet (fail)
      all_goals go_wp2
      all_goals
       go_roundw
       case rel => exact ⟨r + 1, by omega, by go_num, HE1.out, HB.out _⟩
       case measure => simp [intOf]; omega
     ·have hd2 : (x2 == y2) = false := by simpa using e2
      have HX1 : Hid (rs ≠ rs') := fun e => e2 (HX.out e).2
      subst e1
      clear HE HX
      go_wp2_with fail
      go_quiet (fail)
      all_goals go_wp2
      all_goals
       go_ret
       exact ⟨false, rfl, by simpa using HX1.out, HB.out _⟩
    ·have hd1 : (x1 == y1) = false := by simpa using e1
     have HX1 : Hid (rs ≠ rs') := fun e => e1 (HX.out e).1
     clear HE HX
     go_wp2_with fail
     go_quiet (fail)
     all_goals go_wp2
     all_goals
      go_ret
      exact ⟨false, rfl, by simpa using HX1.out, HB.out _⟩
   ·have e : r = rs.length := by omega
    subst e
    have HB := hid hb
    have HT := hid ht
    clear hb ht
    go_wp2
    go_ret
    refine ⟨true, rfl, ?_, HB.out⟩
    simp only [true_iff]
    have := HT.out
    rwa [List.take_length, HN.out, List.take_length] at this
 ·have hnI : ¬ (rs.length : Int) = (rs'.length : Int) := by omega
  clear h1 h2
  go_enter Tryz.func86, Tryz.ntmps86
  go_wp2
  go_ret
  exact ⟨false, rfl, by simp; intro e; exact hn (by rw [e]), Below.refl _ _⟩
end Go.Proofs.YtddddfankeepkaaGreatDoor
namespace Go.Proofs.YtddddfankeepkaaGreatDoor
open Go.RowKit
set_option maxRecDepth 100000 in
set_option maxHeartbeats 8000000 in
theorem SameVolume_any (x y : PV) (a a' : Option Addr) (c c' : Nat) (w : World) (hl : x.mp.length ≤ 16777216) (h1 : RdR w.heap.size w a x.mp) (h2 : RdR w.heap.size w a' y.mp) :
  Calls Tryz.prog 45 #[volA x a c, volA y a' c'] w fun e w' => AnsB w (x = y) e w' := by
 obtain ⟨W2, hW2⟩ : ∃ W2, W2 = (w.alloc (.cells #[.string x.nm, .int .i64 x.id, .int .i64 x.sz, .int .i64 x.og, .int .i64 x.kd, .bool x.pt, .slice a x.mp.length c] 38)).alloc (.cells #[.string y.nm, .int .i64 y.id, .int .i64 y.sz, .int .i64 y.og, .int .i64 y.kd, .bool y.pt, .slice a' y.mp.length c'] 38) := ⟨_, rfl⟩
 have b2 : Below w.heap.size w W2 := by rw [hW2]; exact ((Below.refl _ _).alloc (Nat.le_refl _) _).alloc (by simp) _
 have HC := hid (SameRanges_any a a' c c' x.mp y.mp W2 hl ((h1.below b2).mono b2.size) ((h2.below b2).mono b2.size))
 have HB := hid b2
 have HW2 := hid hW2
 clear h1 h2 b2 hW2
 have HS : Hid (x.nm.toList = y.nm.toList ↔ x.nm = y.nm) := str_toList
 have HQ : Hid (x = y → x.nm = y.nm ∧ x.id = y.id ∧ x.sz = y.sz ∧ x.og = y.og ∧ x.kd = y.kd ∧ x.pt = y.pt ∧ x.mp = y.mp) := fun e => by subst e; exact ⟨rfl, rfl, rfl, rfl, rfl, rfl, rfl⟩
 have HE : Hid (x.nm = y.nm → x.id = y.id → x.sz = y.sz → x.og = y.og → x.kd = y.kd → x.pt = y.pt → x.mp = y.mp → x = y) := pv_ext
 dsimp only [volA]
 generalize x.nm = s at *
 generalize y.nm = s' at *
 generalize x.id = i1 at *
 generalize y.id = i1' at *
 generalize x.sz = i2 at *
 generalize y.sz = i2' at *
 generalize x.og = i3 at *
 generalize y.og = i3' at *
 generalize x.kd = i4 at *
 generalize y.kd = i4' at *
 generalize x.pt = p at *
 generalize y.pt = p' at *
 generalize x.mp.length = n at *
 generalize y.mp.length = n' at *
 by_cases e0 : s.toList = s'.toList
 ·skip
  by_cases e1 : i1 = i1'
  ·skip
   by_cases e2 : i2 = i2'
   ·skip
    by_cases e3 : i3 = i3'
    ·skip
     by_cases e4 : i4 = i4'
     ·skip
      by_cases e5 : p = p'
      ·skip
       have HX : Hid (x.mp = y.mp ↔ x = y) := ⟨fun e => HE.out (HS.out.1 e0) e1 e2 e3 e4 e5 e, fun e => (HQ.out e).2.2.2.2.2.2⟩
       obtain rfl := str_toList.1 e0
       subst e1
       subst e2
       subst e3
       subst e4
       subst e5
       clear HS HQ HE e0
       go_enter Tryz.func45, Tryz.ntmps45
       go_wp2_with fail
       rw [← HW2.out]
       refine HC.out.mono ?_
       rintro e w3 ⟨b, rfl, hbi, hw3⟩
       have HI := hid (hbi.trans HX.out)
       have HB3 := hid (HB.out.trans (hw3.mono HB.out.size))
       clear hbi hw3 HX HC
       go_wp2
       go_ret
       exact ⟨b, rfl, HI.out, HB3.out⟩
      ·have hd : (p == p') = false := by simpa using e5
       have HX : Hid (x ≠ y) := fun e => e5 ((HQ.out e).2.2.2.2.2.1)
       clear HS HQ HE
       obtain rfl := str_toList.1 e0
       subst e1
       subst e2
       subst e3
       subst e4
       go_enter Tryz.func45, Tryz.ntmps45
       go_wp2
       go_ret
       have hb2 := HB.out
       rw [HW2.out] at hb2
       exact ⟨false, rfl, by simpa using HX.out, hb2⟩
     ·have hd : (i4 == i4') = false := by simpa using e4
      have HX : Hid (x ≠ y) := fun e => e4 ((HQ.out e).2.2.2.2.1)
      clear HS HQ HE
      obtain rfl := str_toList.1 e0
      subst e1
      subst e2
      subst e3
      go_enter Tryz.func45, Tryz.ntmps45
      go_wp2
      go_ret
      have hb2 := HB.out
      rw [HW2.out] at hb2
      exact ⟨false, rfl, by simpa using HX.out, hb2⟩
    ·have hd : (i3 == i3') = false := by simpa using e3
     have HX : Hid (x ≠ y) := fun e => e3 ((HQ.out e).2.2.2.1)
     clear HS HQ HE
     obtain rfl := str_toList.1 e0
     subst e1
     subst e2
     go_enter Tryz.func45, Tryz.ntmps45
     go_wp2
     go_ret
     have hb2 := HB.out
     rw [HW2.out] at hb2
     exact ⟨false, rfl, by simpa using HX.out, hb2⟩
   ·have hd : (i2 == i2') = false := by simpa using e2
    have HX : Hid (x ≠ y) := fun e => e2 ((HQ.out e).2.2.1)
    clear HS HQ HE
    obtain rfl := str_toList.1 e0
    subst e1
    go_enter Tryz.func45, Tryz.ntmps45
    go_wp2
    go_ret
    have hb2 := HB.out
    rw [HW2.out] at hb2
    exact ⟨false, rfl, by simpa using HX.out, hb2⟩
  ·have hd : (i1 == i1') = false := by simpa using e1
   have HX : Hid (x ≠ y) := fun e => e1 ((HQ.out e).2.1)
   clear HS HQ HE
   obtain rfl := str_toList.1 e0
   go_enter Tryz.func45, Tryz.ntmps45
   go_wp2
   go_ret
   have hb2 := HB.out
   rw [HW2.out] at hb2
   exact ⟨false, rfl, by simpa using HX.out, hb2⟩
 ·have hd : (s.toList == s'.toList) = false := by simpa using e0
  have HX : Hid (x ≠ y) := fun e => e0 (HS.out.2 (HQ.out e).1)
  clear HS HQ HE
  go_enter Tryz.func45, Tryz.ntmps45
  go_wp2
  go_ret
  have hb2 := HB.out
  rw [HW2.out] at hb2
  exact ⟨false, rfl, by simpa using HX.out, hb2⟩
end Go.Proofs.YtddddfankeepkaaGreatDoor
namespace Go.Proofs.YtddddfankeepkaaGreatDoor
open Go.RowKit
def shV (vs : List PV) : Prop := vs.length ≤ 16777216 ∧ ∀ v ∈ vs, v.mp.length ≤ 16777216
set_option maxRecDepth 100000 in
set_option maxHeartbeats 4000000 in
theorem SameVolumes_any (a a' : Option Addr) (c c' : Nat) (vs vs' : List PV) (w : World) (hl : shV vs) (h1 : RdV w.heap.size w a vs) (h2 : RdV w.heap.size w a' vs') :
  Calls Tryz.prog 78 #[.slice a vs.length c, .slice a' vs'.length c'] w fun e w' => AnsB w (vs = vs') e w' := by
 by_cases hn : vs.length = vs'.length
 ·have H1 := hid h1
  have H2 := hid h2
  have HL := hid hl
  have hl1 : vs.length ≤ 16777216 := hl.1
  clear h1 h2 hl
  have HN := hid hn
  rw [← hn]
  clear hn
  go_enter Tryz.func78, Tryz.ntmps78
  go_wp2_with fail
  go_loopw [5] (fun i wr => ∃ r : Nat, r ≤ vs.length ∧ i = .int .i64 (r : Int) ∧ vs.take r = vs'.take r ∧ Below w.heap.size w wr) (fun i _ => vs.length - (intOf i).toNat)
  case atStart => exact ⟨0, Nat.zero_le _, rfl, by simp, Below.refl _ _⟩
  case round =>
   obtain ⟨r, hr, rfl, ht, hb⟩ := hrel
   by_cases hlt : r < vs.length
   ·have hlt' : r < vs'.length := by have := HN.out; omega
    obtain ⟨b, off, rfl, hbl, hc⟩ := (H1.out.below hb).resolve_left (fun e => by rw [e] at hlt; simp at hlt)
    obtain ⟨b', off', rfl, hbl', hc'⟩ := (H2.out.below hb).resolve_left (fun e => by rw [e] at hlt'; simp at hlt')
    obtain ⟨x, cp, ⟨c0, c1, c2, c3, c4, c5, c6⟩, r1, _⟩ := hc r hlt
    obtain ⟨x', cp', ⟨d0, d1, d2, d3, d4, d5, d6⟩, r2, _⟩ := hc' r hlt'
    have HL2 := HL.out.2 (vs[r]'hlt) (List.getElem_mem hlt)
    have HT := hid ht
    have HE : Hid (vs[r] = vs'[r] → vs.take (r + 1) = vs'.take (r + 1)) := fun e => take_next hlt hlt' HT.out e
    have HX : Hid (vs = vs' → vs[r] = vs'[r]) := fun e => by subst e; rfl
    have hbd : Below w.heap.size w wr.drew := hb.trans (below_drew _ _)
    have HC : Hid (Calls Tryz.prog 45 #[volA vs[r] x cp, volA vs'[r] x' cp'] wr.drew fun e w' => AnsB wr.drew (vs[r] = vs'[r]) e w') := SameVolume_any vs[r] vs'[r] x x' cp cp' wr.drew HL2 ((r1.below (below_drew _ _)).mono hb.size) ((r2.below (below_drew _ _)).mono hb.size)
    have HB := hid hbd
    generalize vs[r] = v at *
    generalize vs'[r] = v' at *
    clear hc hc' ht hb r1 r2 H1 H2 hbd HL2 HL
    have hr1 : (r : Int) < (vs.length : Int) := by omega
    dsimp only [volA] at HC
    go_wp2_with fail
    go_region_with (go_at_call 45; refine Calls.mono HC.out ?_; rintro e w1 ⟨bb, rfl, hbi, hb1⟩; (have HI := hid hbi; have HB1 := hid (HB.out.trans (hb1.mono HB.out.size)); clear hbi hb1))
    all_goals
     cases bb
     ·go_wp2
      go_ret
      refine ⟨false, rfl, ?_, HB1.out⟩
      have := HI.out
      simp only [Bool.false_eq_true, false_iff] at this ⊢
      exact fun e => this (HX.out e)
     ·go_wp2
      go_roundw
      case rel => exact ⟨r + 1, by omega, by go_num, HE.out (HI.out.1 rfl), HB1.out⟩
      case measure => simp [intOf]; omega
   ·have e : r = vs.length := by omega
    subst e
    have HB := hid hb
    have HT := hid ht
    clear hb ht
    go_wp2
    go_ret
    refine ⟨true, rfl, ?_, HB.out⟩
    simp only [true_iff]
    have := HT.out
    rwa [List.take_length, HN.out, List.take_length] at this
 ·have hnI : ¬ (vs.length : Int) = (vs'.length : Int) := by omega
  clear h1 h2
  go_enter Tryz.func78, Tryz.ntmps78
  go_wp2
  go_ret
  exact ⟨false, rfl, by simp; intro e; exact hn (by rw [e]), Below.refl _ _⟩
end Go.Proofs.YtddddfankeepkaaGreatDoor
namespace Go.Proofs.YtddddfankeepkaaGreatDoor
open Go.RowKit
theorem two_below (w : World) (o o' : Obj) : Below w.heap.size w ((w.alloc o).alloc o') := ((Below.refl _ _).alloc (Nat.le_refl _) _).alloc (by simp) _
structure VW where
 cp : Int
 fr : Int
 nx : Int
 vs : List PV
abbrev viewA (v : VW) (a : Option Addr) (c : Nat) : Value := .agg #[.int .i64 v.cp, .int .i64 v.fr, .int .i64 v.nx, .slice a v.vs.length c]
def alkV (x y : VW) : Prop := x.cp = y.cp ∧ x.nx = y.nx ∧ x.vs = y.vs
set_option maxRecDepth 100000 in
set_option maxHeartbeats 4000000 in
theorem AlikeViews_any (x y : VW) (a a' : Option Addr) (c c' : Nat) (w : World) (hl : shV x.vs) (h1 : RdV w.heap.size w a x.vs) (h2 : RdV w.heap.size w a' y.vs) :
  Calls Tryz.prog 35 #[viewA x a c, viewA y a' c'] w fun e w' => AnsB w (alkV x y) e w' := by
 obtain ⟨W2, hW2⟩ : ∃ W2, W2 = (w.alloc (.cells #[.int .i64 x.cp, .int .i64 x.fr, .int .i64 x.nx, .slice a x.vs.length c] 24)).alloc (.cells #[.int .i64 y.cp, .int .i64 y.fr, .int .i64 y.nx, .slice a' y.vs.length c'] 24) := ⟨_, rfl⟩
 have b2 : Below w.heap.size w W2 := by rw [hW2]; exact ((Below.refl _ _).alloc (Nat.le_refl _) _).alloc (by simp) _
 have HC := hid (SameVolumes_any a a' c c' x.vs y.vs W2 hl ((h1.below b2).mono b2.size) ((h2.below b2).mono b2.size))
 have HB := hid b2
 have HW2 := hid hW2
 clear h1 h2 b2 hW2 hl
 have HQ : Hid (alkV x y ↔ x.cp = y.cp ∧ x.nx = y.nx ∧ x.vs = y.vs) := Iff.rfl
 dsimp only [viewA]
 generalize x.cp = i1 at *
 generalize y.cp = i1' at *
 generalize x.nx = i2 at *
 generalize y.nx = i2' at *
 generalize x.vs.length = n at *
 generalize y.vs.length = n' at *
 by_cases e1 : i1 = i1'
 ·by_cases e2 : i2 = i2'
  ·have HX : Hid (x.vs = y.vs ↔ alkV x y) := ⟨fun e => HQ.out.2 ⟨e1, e2, e⟩, fun e => (HQ.out.1 e).2.2⟩
   subst e1
   subst e2
   clear HQ
   go_enter Tryz.func35, Tryz.ntmps35
   go_wp2_with fail
   rw [← HW2.out]
   refine HC.out.mono ?_
   rintro e w3 ⟨b, rfl, hbi, hw3⟩
   have HI := hid (hbi.trans HX.out)
   have HB3 := hid (HB.out.trans (hw3.mono HB.out.size))
   clear hbi hw3 HX HC
   go_wp2
   go_ret
   exact ⟨b, rfl, HI.out, HB3.out⟩
  ·have hd : (i2 == i2') = false := by simpa using e2
   have HX : Hid (¬ alkV x y) := fun e => e2 (HQ.out.1 e).2.1
   clear HQ
   subst e1
   go_enter Tryz.func35, Tryz.ntmps35
   go_wp2
   go_ret
   have hb2 := HB.out
   rw [HW2.out] at hb2
   exact ⟨false, rfl, by simpa using HX.out, hb2⟩
 ·have hd : (i1 == i1') = false := by simpa using e1
  have HX : Hid (¬ alkV x y) := fun e => e1 (HQ.out.1 e).1
  clear HQ
  go_enter Tryz.func35, Tryz.ntmps35
  go_wp2
  go_ret
  have hb2 := HB.out
  rw [HW2.out] at hb2
  exact ⟨false, rfl, by simpa using HX.out, hb2⟩
set_option maxRecDepth 100000 in
set_option maxHeartbeats 4000000 in
theorem SameView_yes (x : VW) (a a' : Option Addr) (c c' : Nat) (w : World) (hl : shV x.vs) (h1 : RdV w.heap.size w a x.vs) (h2 : RdV w.heap.size w a' x.vs) :
  Calls Tryz.prog 13 #[viewA x a c, viewA x a' c'] w fun e w' => e = .returned (.bool true) ∧ Below w.heap.size w w' := by
 obtain ⟨W2, hW2⟩ : ∃ W2, W2 = (w.alloc (.cells #[.int .i64 x.cp, .int .i64 x.fr, .int .i64 x.nx, .slice a x.vs.length c] 24)).alloc (.cells #[.int .i64 x.cp, .int .i64 x.fr, .int .i64 x.nx, .slice a' x.vs.length c'] 24) := ⟨_, rfl⟩
 have b2 : Below w.heap.size w W2 := by rw [hW2]; exact two_below _ _ _
 have HC := hid (AlikeViews_any x x a a' c c' W2 hl ((h1.below b2).mono b2.size) ((h2.below b2).mono b2.size))
 have HB := hid b2
 have HW2 := hid hW2
 have HQ : Hid (alkV x x) := ⟨rfl, rfl, rfl⟩
 clear h1 h2 b2 hW2 hl
 dsimp only [viewA] at HC ⊢
 go_enter Tryz.func13, Tryz.ntmps13
 go_wp2_with fail
 rw [← HW2.out]
 refine HC.out.mono ?_
 rintro e w3 ⟨b, rfl, hbi, hw3⟩
 obtain rfl : b = true := hbi.2 HQ.out
 have HB3 := hid (HB.out.trans (hw3.mono HB.out.size))
 clear hbi hw3 HQ HC
 go_wp2
 go_ret
 exact ⟨rfl, HB3.out⟩
end Go.Proofs.YtddddfankeepkaaGreatDoor
