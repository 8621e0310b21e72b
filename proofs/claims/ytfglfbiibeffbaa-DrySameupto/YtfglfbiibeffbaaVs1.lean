/-
  Two volumes, told apart: the law's way, and the program's.
-/
import Derived.Test.YtfglfbiibeffbaaVs0
namespace Go.Proofs.Ytfglfbiibeffbaa
open Go.RowKit

set_option maxRecDepth 100000 in
set_option maxHeartbeats 8000000 in
theorem SameVolume_any (x y : PV) (a a' : Option Addr) (c c' : Nat) (w : World) (hl : x.mp.length ≤ 16777216) (h1 : RdR w.heap.size w a x.mp) (h2 : RdR w.heap.size w a' y.mp) :
    Calls Try.prog 14 #[volA x a c, volA y a' c'] w fun e w' => AnsB w (x = y) e w' := by
  obtain ⟨W2, hW2⟩ : ∃ W2, W2 = (w.alloc (.cells #[.string x.nm, .int .i64 x.id, .int .i64 x.sz, .int .i64 x.og, .int .i64 x.kd, .bool x.pt, .slice a x.mp.length c] 30)).alloc (.cells #[.string y.nm, .int .i64 y.id, .int .i64 y.sz, .int .i64 y.og, .int .i64 y.kd, .bool y.pt, .slice a' y.mp.length c'] 30) := ⟨_, rfl⟩
  have b2 : Below w.heap.size w W2 := by rw [hW2]; exact ((Below.refl _ _).alloc (Nat.le_refl _) _).alloc (by simp) _
  have HC := hid (SameRanges_any a a' c c' x.mp y.mp W2 hl ((h1.below b2).mono b2.size) ((h2.below b2).mono b2.size))
  have HB := hid b2
  have HW2 := hid hW2
  clear h1 h2 b2 hW2
  have HS : Hid (x.nm.toList = y.nm.toList ↔ x.nm = y.nm) := str_toList
  have HQ : Hid (x = y → x.nm = y.nm ∧ x.id = y.id ∧ x.sz = y.sz ∧ x.og = y.og ∧ x.kd = y.kd ∧ x.pt = y.pt ∧ x.mp = y.mp) := fun e => by subst e; exact ⟨rfl, rfl, rfl, rfl, rfl, rfl, rfl⟩
  have HE : Hid (x.nm = y.nm → x.id = y.id → x.sz = y.sz → x.og = y.og → x.kd = y.kd → x.pt = y.pt → x.mp = y.mp → x = y) := pv_ext
  dsimp only [volA]
  generalize x.nm = s at *
  generalize y.nm = s' at *
  generalize x.id = i1 at *
  generalize y.id = i1' at *
  generalize x.sz = i2 at *
  generalize y.sz = i2' at *
  generalize x.og = i3 at *
  generalize y.og = i3' at *
  generalize x.kd = i4 at *
  generalize y.kd = i4' at *
  generalize x.pt = p at *
  generalize y.pt = p' at *
  generalize x.mp.length = n at *
  generalize y.mp.length = n' at *
  by_cases e0 : s.toList = s'.toList
  · skip
    by_cases e1 : i1 = i1'
    · skip
      by_cases e2 : i2 = i2'
      · skip
        by_cases e3 : i3 = i3'
        · skip
          by_cases e4 : i4 = i4'
          · skip
            by_cases e5 : p = p'
            · skip
              have HX : Hid (x.mp = y.mp ↔ x = y) := ⟨fun e => HE.out (HS.out.1 e0) e1 e2 e3 e4 e5 e, fun e => (HQ.out e).2.2.2.2.2.2⟩
              obtain rfl := str_toList.1 e0
              subst e1
              subst e2
              subst e3
              subst e4
              subst e5
              clear HS HQ HE e0
              go_enter Try.func14, Try.ntmps14
              go_wp2_with fail
              rw [← HW2.out]
              refine HC.out.mono ?_
              rintro e w3 ⟨b, rfl, hbi, hw3⟩
              have HI := hid (hbi.trans HX.out)
              have HB3 := hid (HB.out.trans (hw3.mono HB.out.size))
              clear hbi hw3 HX HC
              go_wp2
              go_ret
              exact ⟨b, rfl, HI.out, HB3.out⟩
            · have hd : (p == p') = false := by simpa using e5
              have HX : Hid (x ≠ y) := fun e => e5 ((HQ.out e).2.2.2.2.2.1)
              clear HS HQ HE
              obtain rfl := str_toList.1 e0
              subst e1
              subst e2
              subst e3
              subst e4
              go_enter Try.func14, Try.ntmps14
              go_wp2
              go_ret
              have hb2 := HB.out
              rw [HW2.out] at hb2
              exact ⟨false, rfl, by simpa using HX.out, hb2⟩
          · have hd : (i4 == i4') = false := by simpa using e4
            have HX : Hid (x ≠ y) := fun e => e4 ((HQ.out e).2.2.2.2.1)
            clear HS HQ HE
            obtain rfl := str_toList.1 e0
            subst e1
            subst e2
            subst e3
            go_enter Try.func14, Try.ntmps14
            go_wp2
            go_ret
            have hb2 := HB.out
            rw [HW2.out] at hb2
            exact ⟨false, rfl, by simpa using HX.out, hb2⟩
        · have hd : (i3 == i3') = false := by simpa using e3
          have HX : Hid (x ≠ y) := fun e => e3 ((HQ.out e).2.2.2.1)
          clear HS HQ HE
          obtain rfl := str_toList.1 e0
          subst e1
          subst e2
          go_enter Try.func14, Try.ntmps14
          go_wp2
          go_ret
          have hb2 := HB.out
          rw [HW2.out] at hb2
          exact ⟨false, rfl, by simpa using HX.out, hb2⟩
      · have hd : (i2 == i2') = false := by simpa using e2
        have HX : Hid (x ≠ y) := fun e => e2 ((HQ.out e).2.2.1)
        clear HS HQ HE
        obtain rfl := str_toList.1 e0
        subst e1
        go_enter Try.func14, Try.ntmps14
        go_wp2
        go_ret
        have hb2 := HB.out
        rw [HW2.out] at hb2
        exact ⟨false, rfl, by simpa using HX.out, hb2⟩
    · have hd : (i1 == i1') = false := by simpa using e1
      have HX : Hid (x ≠ y) := fun e => e1 ((HQ.out e).2.1)
      clear HS HQ HE
      obtain rfl := str_toList.1 e0
      go_enter Try.func14, Try.ntmps14
      go_wp2
      go_ret
      have hb2 := HB.out
      rw [HW2.out] at hb2
      exact ⟨false, rfl, by simpa using HX.out, hb2⟩
  · have hd : (s.toList == s'.toList) = false := by simpa using e0
    have HX : Hid (x ≠ y) := fun e => e0 (HS.out.2 (HQ.out e).1)
    clear HS HQ HE
    go_enter Try.func14, Try.ntmps14
    go_wp2
    go_ret
    have hb2 := HB.out
    rw [HW2.out] at hb2
    exact ⟨false, rfl, by simpa using HX.out, hb2⟩

set_option maxRecDepth 100000 in
set_option maxHeartbeats 8000000 in
theorem isSameVolume_any (x y : PV) (a a' : Option Addr) (c c' : Nat) (w : World) (hl : x.mp.length ≤ 16777216) (h1 : RdR w.heap.size w a x.mp) (h2 : RdR w.heap.size w a' y.mp) :
    Calls Try.prog 10 #[volA x a c, volA y a' c'] w fun e w' => AnsB w (x = y) e w' := by
  obtain ⟨W2, hW2⟩ : ∃ W2, W2 = (w.alloc (.cells #[.string x.nm, .int .i64 x.id, .int .i64 x.sz, .int .i64 x.og, .int .i64 x.kd, .bool x.pt, .slice a x.mp.length c] 30)).alloc (.cells #[.string y.nm, .int .i64 y.id, .int .i64 y.sz, .int .i64 y.og, .int .i64 y.kd, .bool y.pt, .slice a' y.mp.length c'] 30) := ⟨_, rfl⟩
  have b2 : Below w.heap.size w W2 := by rw [hW2]; exact ((Below.refl _ _).alloc (Nat.le_refl _) _).alloc (by simp) _
  have HC := hid (Equal_any a a' c c' x.mp y.mp W2 hl ((h1.below b2).mono b2.size) ((h2.below b2).mono b2.size))
  have HB := hid b2
  have HW2 := hid hW2
  clear h1 h2 b2 hW2
  have HS : Hid (x.nm.toList = y.nm.toList ↔ x.nm = y.nm) := str_toList
  have HQ : Hid (x = y → x.nm = y.nm ∧ x.id = y.id ∧ x.sz = y.sz ∧ x.og = y.og ∧ x.kd = y.kd ∧ x.pt = y.pt ∧ x.mp = y.mp) := fun e => by subst e; exact ⟨rfl, rfl, rfl, rfl, rfl, rfl, rfl⟩
  have HE : Hid (x.nm = y.nm → x.id = y.id → x.sz = y.sz → x.og = y.og → x.kd = y.kd → x.pt = y.pt → x.mp = y.mp → x = y) := pv_ext
  dsimp only [volA]
  generalize x.nm = s at *
  generalize y.nm = s' at *
  generalize x.id = i1 at *
  generalize y.id = i1' at *
  generalize x.sz = i2 at *
  generalize y.sz = i2' at *
  generalize x.og = i3 at *
  generalize y.og = i3' at *
  generalize x.kd = i4 at *
  generalize y.kd = i4' at *
  generalize x.pt = p at *
  generalize y.pt = p' at *
  generalize x.mp.length = n at *
  generalize y.mp.length = n' at *
  by_cases e0 : s.toList = s'.toList
  · skip
    by_cases e1 : i1 = i1'
    · skip
      by_cases e2 : i2 = i2'
      · skip
        by_cases e3 : i3 = i3'
        · skip
          by_cases e4 : i4 = i4'
          · skip
            by_cases e5 : p = p'
            · skip
              have HX : Hid (x.mp = y.mp ↔ x = y) := ⟨fun e => HE.out (HS.out.1 e0) e1 e2 e3 e4 e5 e, fun e => (HQ.out e).2.2.2.2.2.2⟩
              obtain rfl := str_toList.1 e0
              subst e1
              subst e2
              subst e3
              subst e4
              subst e5
              clear HS HQ HE e0
              go_enter Try.func10, Try.ntmps10
              go_wp2_with fail
              rw [← HW2.out]
              refine HC.out.mono ?_
              rintro e w3 ⟨b, rfl, hbi, hw3⟩
              have HI := hid (hbi.trans HX.out)
              have HB3 := hid (HB.out.trans (hw3.mono HB.out.size))
              clear hbi hw3 HX HC
              go_wp2
              go_ret
              exact ⟨b, rfl, HI.out, HB3.out⟩
            · have hd : (p == p') = false := by simpa using e5
              have HX : Hid (x ≠ y) := fun e => e5 ((HQ.out e).2.2.2.2.2.1)
              clear HS HQ HE
              obtain rfl := str_toList.1 e0
              subst e1
              subst e2
              subst e3
              subst e4
              go_enter Try.func10, Try.ntmps10
              go_wp2
              go_ret
              have hb2 := HB.out
              rw [HW2.out] at hb2
              exact ⟨false, rfl, by simpa using HX.out, hb2⟩
          · have hd : (i4 == i4') = false := by simpa using e4
            have HX : Hid (x ≠ y) := fun e => e4 ((HQ.out e).2.2.2.2.1)
            clear HS HQ HE
            obtain rfl := str_toList.1 e0
            subst e1
            subst e2
            subst e3
            go_enter Try.func10, Try.ntmps10
            go_wp2
            go_ret
            have hb2 := HB.out
            rw [HW2.out] at hb2
            exact ⟨false, rfl, by simpa using HX.out, hb2⟩
        · have hd : (i3 == i3') = false := by simpa using e3
          have HX : Hid (x ≠ y) := fun e => e3 ((HQ.out e).2.2.2.1)
          clear HS HQ HE
          obtain rfl := str_toList.1 e0
          subst e1
          subst e2
          go_enter Try.func10, Try.ntmps10
          go_wp2
          go_ret
          have hb2 := HB.out
          rw [HW2.out] at hb2
          exact ⟨false, rfl, by simpa using HX.out, hb2⟩
      · have hd : (i2 == i2') = false := by simpa using e2
        have HX : Hid (x ≠ y) := fun e => e2 ((HQ.out e).2.2.1)
        clear HS HQ HE
        obtain rfl := str_toList.1 e0
        subst e1
        go_enter Try.func10, Try.ntmps10
        go_wp2
        go_ret
        have hb2 := HB.out
        rw [HW2.out] at hb2
        exact ⟨false, rfl, by simpa using HX.out, hb2⟩
    · have hd : (i1 == i1') = false := by simpa using e1
      have HX : Hid (x ≠ y) := fun e => e1 ((HQ.out e).2.1)
      clear HS HQ HE
      obtain rfl := str_toList.1 e0
      go_enter Try.func10, Try.ntmps10
      go_wp2
      go_ret
      have hb2 := HB.out
      rw [HW2.out] at hb2
      exact ⟨false, rfl, by simpa using HX.out, hb2⟩
  · have hd : (s.toList == s'.toList) = false := by simpa using e0
    have HX : Hid (x ≠ y) := fun e => e0 (HS.out.2 (HQ.out e).1)
    clear HS HQ HE
    go_enter Try.func10, Try.ntmps10
    go_wp2
    go_ret
    have hb2 := HB.out
    rw [HW2.out] at hb2
    exact ⟨false, rfl, by simpa using HX.out, hb2⟩

end Go.Proofs.Ytfglfbiibeffbaa
