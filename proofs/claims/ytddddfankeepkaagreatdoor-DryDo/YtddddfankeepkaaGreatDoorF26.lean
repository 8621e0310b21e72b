import Derived.Test.YtddddfankeepkaaGreatDoorF25
namespace Go.Proofs.YtddddfankeepkaaGreatDoor
open Go.RowKit
theorem fm_doc (o : OW) (n : Nat) : fmE o n = if o.k < 1 ∨ 11 < o.k then 100 else if isF o.k.toNat o.nm o.ot o.fr o.tt n = false then 101 else if ((uN o.k.toNat && !nmB o.nm) || (uO o.k.toNat && !nmB o.ot)) = true then 102 else if (uD o.k.toNat && (n : Int) != 512) = true then 103 else 0 := by
 unfold fmE ckO
 grind (splits := 40)
set_option maxRecDepth 100000 in
set_option maxHeartbeats 8000000 in
theorem form_1 (nm ot : ByteArray) (fr tt : Int) (a : Option Addr) (dn c : Nat) (w : World) (hs1 : nm.size ≤ 16777216) (hs2 : ot.size ≤ 16777216) :
  Calls Tryz.prog 79 #[opA ⟨1, nm, ot, fr, tt⟩ a dn c] w fun e w' => LkQ w (fmE ⟨1, nm, ot, fr, tt⟩ dn) e w' := by
 obtain ⟨P, hP⟩ : ∃ P, P = w.heap.size := ⟨_, rfl⟩
 obtain ⟨W1, hW1⟩ : ∃ W1, W1 = w.alloc (.cells #[.int .i64 1, .string nm, .string ot, .int .i64 fr, .int .i64 tt, .slice a dn c] 42) := ⟨_, rfl⟩
 have b1 : Below w.heap.size w W1 := by rw [hW1]; exact below1 _ _
 have hO : W1.heap[P]? = some (.cells #[.int .i64 1, .string nm, .string ot, .int .i64 fr, .int .i64 tt, .slice a dn c] 42 (0, 0)) := by rw [hW1, hP]; exact heap_new _ _
 have HU := hid (uses_any 1 (by decide) (by decide) W1)
 have HNm := hid (fun u => Named_s nm hs1 u)
 have HOt := hid (fun u => Named_s ot hs2 u)
 obtain ⟨z, hzz⟩ : ∃ z, z = fmE ⟨1, nm, ot, fr, tt⟩ dn := ⟨_, rfl⟩
 rw [← hzz]
 have HP := hid hP.symm
 have HW1 := hid hW1
 have HB1 := hid b1
 have HO := hid hO
 obtain ⟨c0, c1, c2, c3, c4, c5⟩ : W1.cell? ⟨P, 0, none⟩ = some (.int .i64 1) ∧ W1.cell? ⟨P, 1, none⟩ = some (.string nm) ∧ W1.cell? ⟨P, 2, none⟩ = some (.string ot) ∧ W1.cell? ⟨P, 3, none⟩ = some (.int .i64 fr) ∧ W1.cell? ⟨P, 4, none⟩ = some (.int .i64 tt) ∧ W1.cell? ⟨P, 5, none⟩ = some (.slice a dn c) := by simp [World.cell?, hO]
 rw [hW1] at c0
 clear hP hW1 b1 hO hs1 hs2
 dsimp only [opA]
 have HZZ := hid hzz
 clear hzz
 have c0' := c0
 rw [← HW1.out] at c0'
 go_enter Tryz.func79, Tryz.ntmps79
 go_wp2_with fail
 rw [← HW1.out]
 try rw [HP.out]
 refine HU.out.mono ?_
 rintro e w2 ⟨rfl, hb2⟩
 obtain ⟨X, hX⟩ : ∃ X, X = w2.heap.size := ⟨_, rfl⟩
 obtain ⟨W3, hW3⟩ : ∃ W3, W3 = w2.alloc (.cells #[.bool true, .bool false, .bool false, .bool true, .bool false] 118) := ⟨_, rfl⟩
 have b3 : Below w2.heap.size w2 W3 := by rw [hW3]; exact below1 _ _
 have hX3 : W3.heap[X]? = some (.cells #[.bool true, .bool false, .bool false, .bool true, .bool false] 118 (0, 0)) := by rw [hW3, hX]; exact heap_new _ _
 have hPl := (Array.getElem?_eq_some_iff.1 HO.out).1
 have hO3 : W3.heap[P]? = some (.cells #[.int .i64 1, .string nm, .string ot, .int .i64 fr, .int .i64 tt, .slice a dn c] 42 (0, 0)) := (b3.block P (Nat.lt_of_lt_of_le hPl hb2.size)).trans ((hb2.block P hPl).trans HO.out)
 have HB3 := hid (HB1.out.trans ((hb2.mono HB1.out.size).trans (b3.mono (Nat.le_trans HB1.out.size hb2.size))))
 obtain ⟨d0, d1, d2, d3, d4, d5⟩ : W3.cell? ⟨P, 0, none⟩ = some (.int .i64 1) ∧ W3.cell? ⟨P, 1, none⟩ = some (.string nm) ∧ W3.cell? ⟨P, 2, none⟩ = some (.string ot) ∧ W3.cell? ⟨P, 3, none⟩ = some (.int .i64 fr) ∧ W3.cell? ⟨P, 4, none⟩ = some (.int .i64 tt) ∧ W3.cell? ⟨P, 5, none⟩ = some (.slice a dn c) := by simp [World.cell?, hO3]
 obtain ⟨x0, x1, x2, x3, x4⟩ : W3.cell? ⟨X, 0, none⟩ = some (.bool true) ∧ W3.cell? ⟨X, 1, none⟩ = some (.bool false) ∧ W3.cell? ⟨X, 2, none⟩ = some (.bool false) ∧ W3.cell? ⟨X, 3, none⟩ = some (.bool true) ∧ W3.cell? ⟨X, 4, none⟩ = some (.bool false) := by simp [World.cell?, hX3]
 rw [hW3] at d0 d1 d2 d3 d4 d5 x0 x1 x2 x3 x4
 rw [hX] at x0 x1 x2 x3 x4
 rw [hW3] at HB3
 clear hW3 hX b3 hX3 hPl hO3 hb2 c0 c1 c2 c3 c4 c5 c0' HU HO HB1
 dsimp only [uN, uO, uF, uT, uD]
 have hzz := HZZ.out
 clear HZZ HW1 HP
 cases hot : (ot.toList == [])
 ·skip
  have HZ : Hid (z = 101) := hid (by rw [hzz, fm_doc]; simp [isF, isF5, uN, uO, uF, uT, uD, empS, *])
  clear hzz
  go_wp2_with (first | (go_at_call 28; with_reducible refine (HNm.out _).mono ?_; rintro e wn ⟨rfl, hwn⟩; have hwn := hwn.symm; subst hwn) | (go_at_call 28; with_reducible refine (HOt.out _).mono ?_; rintro e wn ⟨rfl, hwn⟩; have hwn := hwn.symm; subst hwn))
  go_ret
  exact ⟨by rw [HZ.out]; rfl, HB3.out⟩
 ·skip
  by_cases hfr : fr = 0
  ·have hfr1 : (fr == 0) = true := by simpa using hfr
   have hfr2 : (fr != 0) = false := by simpa using hfr
   clear hfr
   by_cases hda : dn = 0
   ·subst hda
    cases hNnm : nmB nm
    ·rw [hNnm] at HNm
     have HZ : Hid (z = 102) := hid (by rw [hzz, fm_doc]; simp [isF, isF5, uN, uO, uF, uT, uD, empS, *])
     clear hzz
     go_wp2_with (first | (go_at_call 28; with_reducible refine (HNm.out _).mono ?_; rintro e wn ⟨rfl, hwn⟩; have hwn := hwn.symm; subst hwn) | (go_at_call 28; with_reducible refine (HOt.out _).mono ?_; rintro e wn ⟨rfl, hwn⟩; have hwn := hwn.symm; subst hwn))
     go_ret
     exact ⟨by rw [HZ.out]; rfl, HB3.out⟩
    ·rw [hNnm] at HNm
     have HZ : Hid (z = 0) := hid (by rw [hzz, fm_doc]; simp [isF, isF5, uN, uO, uF, uT, uD, empS, *])
     clear hzz
     go_wp2_with (first | (go_at_call 28; with_reducible refine (HNm.out _).mono ?_; rintro e wn ⟨rfl, hwn⟩; have hwn := hwn.symm; subst hwn) | (go_at_call 28; with_reducible refine (HOt.out _).mono ?_; rintro e wn ⟨rfl, hwn⟩; have hwn := hwn.symm; subst hwn))
     go_ret
     exact ⟨by rw [HZ.out]; rfl, HB3.out⟩
   ·have hda1 : (0 : Int) < (dn : Int) := by omega
    have hda2 : ((dn : Int) == 0) = false := by simp; omega
    have hda3 : 0 < dn := by omega
    have HZ : Hid (z = 101) := hid (by rw [hzz, fm_doc]; simp [isF, isF5, uN, uO, uF, uT, uD, empS, *])
    clear hzz
    go_wp2_with (first | (go_at_call 28; with_reducible refine (HNm.out _).mono ?_; rintro e wn ⟨rfl, hwn⟩; have hwn := hwn.symm; subst hwn) | (go_at_call 28; with_reducible refine (HOt.out _).mono ?_; rintro e wn ⟨rfl, hwn⟩; have hwn := hwn.symm; subst hwn))
    go_ret
    exact ⟨by rw [HZ.out]; rfl, HB3.out⟩
  ·have hfr1 : (fr == 0) = false := by simpa using hfr
   have hfr2 : (fr != 0) = true := by simpa using hfr
   clear hfr
   have HZ : Hid (z = 101) := hid (by rw [hzz, fm_doc]; simp [isF, isF5, uN, uO, uF, uT, uD, empS, *])
   clear hzz
   go_wp2_with (first | (go_at_call 28; with_reducible refine (HNm.out _).mono ?_; rintro e wn ⟨rfl, hwn⟩; have hwn := hwn.symm; subst hwn) | (go_at_call 28; with_reducible refine (HOt.out _).mono ?_; rintro e wn ⟨rfl, hwn⟩; have hwn := hwn.symm; subst hwn))
   go_ret
   exact ⟨by rw [HZ.out]; rfl, HB3.out⟩
set_option maxRecDepth 100000 in
set_option maxHeartbeats 8000000 in
theorem form_2 (nm ot : ByteArray) (fr tt : Int) (a : Option Addr) (dn c : Nat) (w : World) (hs1 : nm.size ≤ 16777216) (hs2 : ot.size ≤ 16777216) :
  Calls Tryz.prog 79 #[opA ⟨2, nm, ot, fr, tt⟩ a dn c] w fun e w' => LkQ w (fmE ⟨2, nm, ot, fr, tt⟩ dn) e w' := by
 obtain ⟨P, hP⟩ : ∃ P, P = w.heap.size := ⟨_, rfl⟩
 obtain ⟨W1, hW1⟩ : ∃ W1, W1 = w.alloc (.cells #[.int .i64 2, .string nm, .string ot, .int .i64 fr, .int .i64 tt, .slice a dn c] 42) := ⟨_, rfl⟩
 have b1 : Below w.heap.size w W1 := by rw [hW1]; exact below1 _ _
 have hO : W1.heap[P]? = some (.cells #[.int .i64 2, .string nm, .string ot, .int .i64 fr, .int .i64 tt, .slice a dn c] 42 (0, 0)) := by rw [hW1, hP]; exact heap_new _ _
 have HU := hid (uses_any 2 (by decide) (by decide) W1)
 have HNm := hid (fun u => Named_s nm hs1 u)
 have HOt := hid (fun u => Named_s ot hs2 u)
 obtain ⟨z, hzz⟩ : ∃ z, z = fmE ⟨2, nm, ot, fr, tt⟩ dn := ⟨_, rfl⟩
 rw [← hzz]
 have HP := hid hP.symm
 have HW1 := hid hW1
 have HB1 := hid b1
 have HO := hid hO
 obtain ⟨c0, c1, c2, c3, c4, c5⟩ : W1.cell? ⟨P, 0, none⟩ = some (.int .i64 2) ∧ W1.cell? ⟨P, 1, none⟩ = some (.string nm) ∧ W1.cell? ⟨P, 2, none⟩ = some (.string ot) ∧ W1.cell? ⟨P, 3, none⟩ = some (.int .i64 fr) ∧ W1.cell? ⟨P, 4, none⟩ = some (.int .i64 tt) ∧ W1.cell? ⟨P, 5, none⟩ = some (.slice a dn c) := by simp [World.cell?, hO]
 rw [hW1] at c0
 clear hP hW1 b1 hO hs1 hs2
 dsimp only [opA]
 have HZZ := hid hzz
 clear hzz
 have c0' := c0
 rw [← HW1.out] at c0'
 go_enter Tryz.func79, Tryz.ntmps79
 go_wp2_with fail
 rw [← HW1.out]
 try rw [HP.out]
 refine HU.out.mono ?_
 rintro e w2 ⟨rfl, hb2⟩
 obtain ⟨X, hX⟩ : ∃ X, X = w2.heap.size := ⟨_, rfl⟩
 obtain ⟨W3, hW3⟩ : ∃ W3, W3 = w2.alloc (.cells #[.bool true, .bool true, .bool false, .bool false, .bool false] 118) := ⟨_, rfl⟩
 have b3 : Below w2.heap.size w2 W3 := by rw [hW3]; exact below1 _ _
 have hX3 : W3.heap[X]? = some (.cells #[.bool true, .bool true, .bool false, .bool false, .bool false] 118 (0, 0)) := by rw [hW3, hX]; exact heap_new _ _
 have hPl := (Array.getElem?_eq_some_iff.1 HO.out).1
 have hO3 : W3.heap[P]? = some (.cells #[.int .i64 2, .string nm, .string ot, .int .i64 fr, .int .i64 tt, .slice a dn c] 42 (0, 0)) := (b3.block P (Nat.lt_of_lt_of_le hPl hb2.size)).trans ((hb2.block P hPl).trans HO.out)
 have HB3 := hid (HB1.out.trans ((hb2.mono HB1.out.size).trans (b3.mono (Nat.le_trans HB1.out.size hb2.size))))
 obtain ⟨d0, d1, d2, d3, d4, d5⟩ : W3.cell? ⟨P, 0, none⟩ = some (.int .i64 2) ∧ W3.cell? ⟨P, 1, none⟩ = some (.string nm) ∧ W3.cell? ⟨P, 2, none⟩ = some (.string ot) ∧ W3.cell? ⟨P, 3, none⟩ = some (.int .i64 fr) ∧ W3.cell? ⟨P, 4, none⟩ = some (.int .i64 tt) ∧ W3.cell? ⟨P, 5, none⟩ = some (.slice a dn c) := by simp [World.cell?, hO3]
 obtain ⟨x0, x1, x2, x3, x4⟩ : W3.cell? ⟨X, 0, none⟩ = some (.bool true) ∧ W3.cell? ⟨X, 1, none⟩ = some (.bool true) ∧ W3.cell? ⟨X, 2, none⟩ = some (.bool false) ∧ W3.cell? ⟨X, 3, none⟩ = some (.bool false) ∧ W3.cell? ⟨X, 4, none⟩ = some (.bool false) := by simp [World.cell?, hX3]
 rw [hW3] at d0 d1 d2 d3 d4 d5 x0 x1 x2 x3 x4
 rw [hX] at x0 x1 x2 x3 x4
 rw [hW3] at HB3
 clear hW3 hX b3 hX3 hPl hO3 hb2 c0 c1 c2 c3 c4 c5 c0' HU HO HB1
 dsimp only [uN, uO, uF, uT, uD]
 have hzz := HZZ.out
 clear HZZ HW1 HP
 by_cases hfr : fr = 0
 ·have hfr1 : (fr == 0) = true := by simpa using hfr
  have hfr2 : (fr != 0) = false := by simpa using hfr
  clear hfr
  by_cases htt : tt = 0
  ·have htt1 : (tt == 0) = true := by simpa using htt
   have htt2 : (tt != 0) = false := by simpa using htt
   clear htt
   by_cases hda : dn = 0
   ·subst hda
    cases hNnm : nmB nm
    ·rw [hNnm] at HNm
     have HZ : Hid (z = 102) := hid (by rw [hzz, fm_doc]; simp [isF, isF5, uN, uO, uF, uT, uD, empS, *])
     clear hzz
     go_wp2_with (first | (go_at_call 28; with_reducible refine (HNm.out _).mono ?_; rintro e wn ⟨rfl, hwn⟩; have hwn := hwn.symm; subst hwn) | (go_at_call 28; with_reducible refine (HOt.out _).mono ?_; rintro e wn ⟨rfl, hwn⟩; have hwn := hwn.symm; subst hwn))
     go_ret
     exact ⟨by rw [HZ.out]; rfl, HB3.out⟩
    ·rw [hNnm] at HNm
     cases hNot : nmB ot
     ·rw [hNot] at HOt
      have HZ : Hid (z = 102) := hid (by rw [hzz, fm_doc]; simp [isF, isF5, uN, uO, uF, uT, uD, empS, *])
      clear hzz
      go_wp2_with (first | (go_at_call 28; with_reducible refine (HNm.out _).mono ?_; rintro e wn ⟨rfl, hwn⟩; have hwn := hwn.symm; subst hwn) | (go_at_call 28; with_reducible refine (HOt.out _).mono ?_; rintro e wn ⟨rfl, hwn⟩; have hwn := hwn.symm; subst hwn))
      go_ret
      exact ⟨by rw [HZ.out]; rfl, HB3.out⟩
     ·rw [hNot] at HOt
      have HZ : Hid (z = 0) := hid (by rw [hzz, fm_doc]; simp [isF, isF5, uN, uO, uF, uT, uD, empS, *])
      clear hzz
      go_wp2_with (first | (go_at_call 28; with_reducible refine (HNm.out _).mono ?_; rintro e wn ⟨rfl, hwn⟩; have hwn := hwn.symm; subst hwn) | (go_at_call 28; with_reducible refine (HOt.out _).mono ?_; rintro e wn ⟨rfl, hwn⟩; have hwn := hwn.symm; subst hwn))
      go_ret
      exact ⟨by rw [HZ.out]; rfl, HB3.out⟩
   ·have hda1 : (0 : Int) < (dn : Int) := by omega
    have hda2 : ((dn : Int) == 0) = false := by simp; omega
    have hda3 : 0 < dn := by omega
    have HZ : Hid (z = 101) := hid (by rw [hzz, fm_doc]; simp [isF, isF5, uN, uO, uF, uT, uD, empS, *])
    clear hzz
    go_wp2_with (first | (go_at_call 28; with_reducible refine (HNm.out _).mono ?_; rintro e wn ⟨rfl, hwn⟩; have hwn := hwn.symm; subst hwn) | (go_at_call 28; with_reducible refine (HOt.out _).mono ?_; rintro e wn ⟨rfl, hwn⟩; have hwn := hwn.symm; subst hwn))
    go_ret
    exact ⟨by rw [HZ.out]; rfl, HB3.out⟩
  ·have htt1 : (tt == 0) = false := by simpa using htt
   have htt2 : (tt != 0) = true := by simpa using htt
   clear htt
   have HZ : Hid (z = 101) := hid (by rw [hzz, fm_doc]; simp [isF, isF5, uN, uO, uF, uT, uD, empS, *])
   clear hzz
   go_wp2_with (first | (go_at_call 28; with_reducible refine (HNm.out _).mono ?_; rintro e wn ⟨rfl, hwn⟩; have hwn := hwn.symm; subst hwn) | (go_at_call 28; with_reducible refine (HOt.out _).mono ?_; rintro e wn ⟨rfl, hwn⟩; have hwn := hwn.symm; subst hwn))
   go_ret
   exact ⟨by rw [HZ.out]; rfl, HB3.out⟩
 ·have hfr1 : (fr == 0) = false := by simpa using hfr
  have hfr2 : (fr != 0) = true := by simpa using hfr
  clear hfr
  have HZ : Hid (z = 101) := hid (by rw [hzz, fm_doc]; simp [isF, isF5, uN, uO, uF, uT, uD, empS, *])
  clear hzz
  go_wp2_with (first | (go_at_call 28; with_reducible refine (HNm.out _).mono ?_; rintro e wn ⟨rfl, hwn⟩; have hwn := hwn.symm; subst hwn) | (go_at_call 28; with_reducible refine (HOt.out _).mono ?_; rintro e wn ⟨rfl, hwn⟩; have hwn := hwn.symm; subst hwn))
  go_ret
  exact ⟨by rw [HZ.out]; rfl, HB3.out⟩
set_option maxRecDepth 100000 in
set_option maxHeartbeats 8000000 in
theorem form_3 (nm ot : ByteArray) (fr tt : Int) (a : Option Addr) (dn c : Nat) (w : World) (hs1 : nm.size ≤ 16777216) (hs2 : ot.size ≤ 16777216) :
  Calls Tryz.prog 79 #[opA ⟨3, nm, ot, fr, tt⟩ a dn c] w fun e w' => LkQ w (fmE ⟨3, nm, ot, fr, tt⟩ dn) e w' := by
 obtain ⟨P, hP⟩ : ∃ P, P = w.heap.size := ⟨_, rfl⟩
 obtain ⟨W1, hW1⟩ : ∃ W1, W1 = w.alloc (.cells #[.int .i64 3, .string nm, .string ot, .int .i64 fr, .int .i64 tt, .slice a dn c] 42) := ⟨_, rfl⟩
 have b1 : Below w.heap.size w W1 := by rw [hW1]; exact below1 _ _
 have hO : W1.heap[P]? = some (.cells #[.int .i64 3, .string nm, .string ot, .int .i64 fr, .int .i64 tt, .slice a dn c] 42 (0, 0)) := by rw [hW1, hP]; exact heap_new _ _
 have HU := hid (uses_any 3 (by decide) (by decide) W1)
 have HNm := hid (fun u => Named_s nm hs1 u)
 have HOt := hid (fun u => Named_s ot hs2 u)
 obtain ⟨z, hzz⟩ : ∃ z, z = fmE ⟨3, nm, ot, fr, tt⟩ dn := ⟨_, rfl⟩
 rw [← hzz]
 have HP := hid hP.symm
 have HW1 := hid hW1
 have HB1 := hid b1
 have HO := hid hO
 obtain ⟨c0, c1, c2, c3, c4, c5⟩ : W1.cell? ⟨P, 0, none⟩ = some (.int .i64 3) ∧ W1.cell? ⟨P, 1, none⟩ = some (.string nm) ∧ W1.cell? ⟨P, 2, none⟩ = some (.string ot) ∧ W1.cell? ⟨P, 3, none⟩ = some (.int .i64 fr) ∧ W1.cell? ⟨P, 4, none⟩ = some (.int .i64 tt) ∧ W1.cell? ⟨P, 5, none⟩ = some (.slice a dn c) := by simp [World.cell?, hO]
 rw [hW1] at c0
 clear hP hW1 b1 hO hs1 hs2
 dsimp only [opA]
 have HZZ := hid hzz
 clear hzz
 have c0' := c0
 rw [← HW1.out] at c0'
 go_enter Tryz.func79, Tryz.ntmps79
 go_wp2_with fail
 rw [← HW1.out]
 try rw [HP.out]
 refine HU.out.mono ?_
 rintro e w2 ⟨rfl, hb2⟩
 obtain ⟨X, hX⟩ : ∃ X, X = w2.heap.size := ⟨_, rfl⟩
 obtain ⟨W3, hW3⟩ : ∃ W3, W3 = w2.alloc (.cells #[.bool true, .bool true, .bool false, .bool false, .bool false] 118) := ⟨_, rfl⟩
 have b3 : Below w2.heap.size w2 W3 := by rw [hW3]; exact below1 _ _
 have hX3 : W3.heap[X]? = some (.cells #[.bool true, .bool true, .bool false, .bool false, .bool false] 118 (0, 0)) := by rw [hW3, hX]; exact heap_new _ _
 have hPl := (Array.getElem?_eq_some_iff.1 HO.out).1
 have hO3 : W3.heap[P]? = some (.cells #[.int .i64 3, .string nm, .string ot, .int .i64 fr, .int .i64 tt, .slice a dn c] 42 (0, 0)) := (b3.block P (Nat.lt_of_lt_of_le hPl hb2.size)).trans ((hb2.block P hPl).trans HO.out)
 have HB3 := hid (HB1.out.trans ((hb2.mono HB1.out.size).trans (b3.mono (Nat.le_trans HB1.out.size hb2.size))))
 obtain ⟨d0, d1, d2, d3, d4, d5⟩ : W3.cell? ⟨P, 0, none⟩ = some (.int .i64 3) ∧ W3.cell? ⟨P, 1, none⟩ = some (.string nm) ∧ W3.cell? ⟨P, 2, none⟩ = some (.string ot) ∧ W3.cell? ⟨P, 3, none⟩ = some (.int .i64 fr) ∧ W3.cell? ⟨P, 4, none⟩ = some (.int .i64 tt) ∧ W3.cell? ⟨P, 5, none⟩ = some (.slice a dn c) := by simp [World.cell?, hO3]
 obtain ⟨x0, x1, x2, x3, x4⟩ : W3.cell? ⟨X, 0, none⟩ = some (.bool true) ∧ W3.cell? ⟨X, 1, none⟩ = some (.bool true) ∧ W3.cell? ⟨X, 2, none⟩ = some (.bool false) ∧ W3.cell? ⟨X, 3, none⟩ = some (.bool false) ∧ W3.cell? ⟨X, 4, none⟩ = some (.bool false) := by simp [World.cell?, hX3]
 rw [hW3] at d0 d1 d2 d3 d4 d5 x0 x1 x2 x3 x4
 rw [hX] at x0 x1 x2 x3 x4
 rw [hW3] at HB3
 clear hW3 hX b3 hX3 hPl hO3 hb2 c0 c1 c2 c3 c4 c5 c0' HU HO HB1
 dsimp only [uN, uO, uF, uT, uD]
 have hzz := HZZ.out
 clear HZZ HW1 HP
 by_cases hfr : fr = 0
 ·have hfr1 : (fr == 0) = true := by simpa using hfr
  have hfr2 : (fr != 0) = false := by simpa using hfr
  clear hfr
  by_cases htt : tt = 0
  ·have htt1 : (tt == 0) = true := by simpa using htt
   have htt2 : (tt != 0) = false := by simpa using htt
   clear htt
   by_cases hda : dn = 0
   ·subst hda
    cases hNnm : nmB nm
    ·rw [hNnm] at HNm
     have HZ : Hid (z = 102) := hid (by rw [hzz, fm_doc]; simp [isF, isF5, uN, uO, uF, uT, uD, empS, *])
     clear hzz
     go_wp2_with (first | (go_at_call 28; with_reducible refine (HNm.out _).mono ?_; rintro e wn ⟨rfl, hwn⟩; have hwn := hwn.symm; subst hwn) | (go_at_call 28; with_reducible refine (HOt.out _).mono ?_; rintro e wn ⟨rfl, hwn⟩; have hwn := hwn.symm; subst hwn))
     go_ret
     exact ⟨by rw [HZ.out]; rfl, HB3.out⟩
    ·rw [hNnm] at HNm
     cases hNot : nmB ot
     ·rw [hNot] at HOt
      have HZ : Hid (z = 102) := hid (by rw [hzz, fm_doc]; simp [isF, isF5, uN, uO, uF, uT, uD, empS, *])
      clear hzz
      go_wp2_with (first | (go_at_call 28; with_reducible refine (HNm.out _).mono ?_; rintro e wn ⟨rfl, hwn⟩; have hwn := hwn.symm; subst hwn) | (go_at_call 28; with_reducible refine (HOt.out _).mono ?_; rintro e wn ⟨rfl, hwn⟩; have hwn := hwn.symm; subst hwn))
      go_ret
      exact ⟨by rw [HZ.out]; rfl, HB3.out⟩
     ·rw [hNot] at HOt
      have HZ : Hid (z = 0) := hid (by rw [hzz, fm_doc]; simp [isF, isF5, uN, uO, uF, uT, uD, empS, *])
      clear hzz
      go_wp2_with (first | (go_at_call 28; with_reducible refine (HNm.out _).mono ?_; rintro e wn ⟨rfl, hwn⟩; have hwn := hwn.symm; subst hwn) | (go_at_call 28; with_reducible refine (HOt.out _).mono ?_; rintro e wn ⟨rfl, hwn⟩; have hwn := hwn.symm; subst hwn))
      go_ret
      exact ⟨by rw [HZ.out]; rfl, HB3.out⟩
   ·have hda1 : (0 : Int) < (dn : Int) := by omega
    have hda2 : ((dn : Int) == 0) = false := by simp; omega
    have hda3 : 0 < dn := by omega
    have HZ : Hid (z = 101) := hid (by rw [hzz, fm_doc]; simp [isF, isF5, uN, uO, uF, uT, uD, empS, *])
    clear hzz
    go_wp2_with (first | (go_at_call 28; with_reducible refine (HNm.out _).mono ?_; rintro e wn ⟨rfl, hwn⟩; have hwn := hwn.symm; subst hwn) | (go_at_call 28; with_reducible refine (HOt.out _).mono ?_; rintro e wn ⟨rfl, hwn⟩; have hwn := hwn.symm; subst hwn))
    go_ret
    exact ⟨by rw [HZ.out]; rfl, HB3.out⟩
  ·have htt1 : (tt == 0) = false := by simpa using htt
   have htt2 : (tt != 0) = true := by simpa using htt
   clear htt
   have HZ : Hid (z = 101) := hid (by rw [hzz, fm_doc]; simp [isF, isF5, uN, uO, uF, uT, uD, empS, *])
   clear hzz
   go_wp2_with (first | (go_at_call 28; with_reducible refine (HNm.out _).mono ?_; rintro e wn ⟨rfl, hwn⟩; have hwn := hwn.symm; subst hwn) | (go_at_call 28; with_reducible refine (HOt.out _).mono ?_; rintro e wn ⟨rfl, hwn⟩; have hwn := hwn.symm; subst hwn))
   go_ret
   exact ⟨by rw [HZ.out]; rfl, HB3.out⟩
 ·have hfr1 : (fr == 0) = false := by simpa using hfr
  have hfr2 : (fr != 0) = true := by simpa using hfr
  clear hfr
  have HZ : Hid (z = 101) := hid (by rw [hzz, fm_doc]; simp [isF, isF5, uN, uO, uF, uT, uD, empS, *])
  clear hzz
  go_wp2_with (first | (go_at_call 28; with_reducible refine (HNm.out _).mono ?_; rintro e wn ⟨rfl, hwn⟩; have hwn := hwn.symm; subst hwn) | (go_at_call 28; with_reducible refine (HOt.out _).mono ?_; rintro e wn ⟨rfl, hwn⟩; have hwn := hwn.symm; subst hwn))
  go_ret
  exact ⟨by rw [HZ.out]; rfl, HB3.out⟩
set_option maxRecDepth 100000 in
set_option maxHeartbeats 8000000 in
theorem form_4 (nm ot : ByteArray) (fr tt : Int) (a : Option Addr) (dn c : Nat) (w : World) (hs1 : nm.size ≤ 16777216) (hs2 : ot.size ≤ 16777216) :
  Calls Tryz.prog 79 #[opA ⟨4, nm, ot, fr, tt⟩ a dn c] w fun e w' => LkQ w (fmE ⟨4, nm, ot, fr, tt⟩ dn) e w' := by
 obtain ⟨P, hP⟩ : ∃ P, P = w.heap.size := ⟨_, rfl⟩
 obtain ⟨W1, hW1⟩ : ∃ W1, W1 = w.alloc (.cells #[.int .i64 4, .string nm, .string ot, .int .i64 fr, .int .i64 tt, .slice a dn c] 42) := ⟨_, rfl⟩
 have b1 : Below w.heap.size w W1 := by rw [hW1]; exact below1 _ _
 have hO : W1.heap[P]? = some (.cells #[.int .i64 4, .string nm, .string ot, .int .i64 fr, .int .i64 tt, .slice a dn c] 42 (0, 0)) := by rw [hW1, hP]; exact heap_new _ _
 have HU := hid (uses_any 4 (by decide) (by decide) W1)
 have HNm := hid (fun u => Named_s nm hs1 u)
 have HOt := hid (fun u => Named_s ot hs2 u)
 obtain ⟨z, hzz⟩ : ∃ z, z = fmE ⟨4, nm, ot, fr, tt⟩ dn := ⟨_, rfl⟩
 rw [← hzz]
 have HP := hid hP.symm
 have HW1 := hid hW1
 have HB1 := hid b1
 have HO := hid hO
 obtain ⟨c0, c1, c2, c3, c4, c5⟩ : W1.cell? ⟨P, 0, none⟩ = some (.int .i64 4) ∧ W1.cell? ⟨P, 1, none⟩ = some (.string nm) ∧ W1.cell? ⟨P, 2, none⟩ = some (.string ot) ∧ W1.cell? ⟨P, 3, none⟩ = some (.int .i64 fr) ∧ W1.cell? ⟨P, 4, none⟩ = some (.int .i64 tt) ∧ W1.cell? ⟨P, 5, none⟩ = some (.slice a dn c) := by simp [World.cell?, hO]
 rw [hW1] at c0
 clear hP hW1 b1 hO hs1 hs2
 dsimp only [opA]
 have HZZ := hid hzz
 clear hzz
 have c0' := c0
 rw [← HW1.out] at c0'
 go_enter Tryz.func79, Tryz.ntmps79
 go_wp2_with fail
 rw [← HW1.out]
 try rw [HP.out]
 refine HU.out.mono ?_
 rintro e w2 ⟨rfl, hb2⟩
 obtain ⟨X, hX⟩ : ∃ X, X = w2.heap.size := ⟨_, rfl⟩
 obtain ⟨W3, hW3⟩ : ∃ W3, W3 = w2.alloc (.cells #[.bool true, .bool false, .bool false, .bool true, .bool false] 118) := ⟨_, rfl⟩
 have b3 : Below w2.heap.size w2 W3 := by rw [hW3]; exact below1 _ _
 have hX3 : W3.heap[X]? = some (.cells #[.bool true, .bool false, .bool false, .bool true, .bool false] 118 (0, 0)) := by rw [hW3, hX]; exact heap_new _ _
 have hPl := (Array.getElem?_eq_some_iff.1 HO.out).1
 have hO3 : W3.heap[P]? = some (.cells #[.int .i64 4, .string nm, .string ot, .int .i64 fr, .int .i64 tt, .slice a dn c] 42 (0, 0)) := (b3.block P (Nat.lt_of_lt_of_le hPl hb2.size)).trans ((hb2.block P hPl).trans HO.out)
 have HB3 := hid (HB1.out.trans ((hb2.mono HB1.out.size).trans (b3.mono (Nat.le_trans HB1.out.size hb2.size))))
 obtain ⟨d0, d1, d2, d3, d4, d5⟩ : W3.cell? ⟨P, 0, none⟩ = some (.int .i64 4) ∧ W3.cell? ⟨P, 1, none⟩ = some (.string nm) ∧ W3.cell? ⟨P, 2, none⟩ = some (.string ot) ∧ W3.cell? ⟨P, 3, none⟩ = some (.int .i64 fr) ∧ W3.cell? ⟨P, 4, none⟩ = some (.int .i64 tt) ∧ W3.cell? ⟨P, 5, none⟩ = some (.slice a dn c) := by simp [World.cell?, hO3]
 obtain ⟨x0, x1, x2, x3, x4⟩ : W3.cell? ⟨X, 0, none⟩ = some (.bool true) ∧ W3.cell? ⟨X, 1, none⟩ = some (.bool false) ∧ W3.cell? ⟨X, 2, none⟩ = some (.bool false) ∧ W3.cell? ⟨X, 3, none⟩ = some (.bool true) ∧ W3.cell? ⟨X, 4, none⟩ = some (.bool false) := by simp [World.cell?, hX3]
 rw [hW3] at d0 d1 d2 d3 d4 d5 x0 x1 x2 x3 x4
 rw [hX] at x0 x1 x2 x3 x4
 rw [hW3] at HB3
 clear hW3 hX b3 hX3 hPl hO3 hb2 c0 c1 c2 c3 c4 c5 c0' HU HO HB1
 dsimp only [uN, uO, uF, uT, uD]
 have hzz := HZZ.out
 clear HZZ HW1 HP
 cases hot : (ot.toList == [])
 ·skip
  have HZ : Hid (z = 101) := hid (by rw [hzz, fm_doc]; simp [isF, isF5, uN, uO, uF, uT, uD, empS, *])
  clear hzz
  go_wp2_with (first | (go_at_call 28; with_reducible refine (HNm.out _).mono ?_; rintro e wn ⟨rfl, hwn⟩; have hwn := hwn.symm; subst hwn) | (go_at_call 28; with_reducible refine (HOt.out _).mono ?_; rintro e wn ⟨rfl, hwn⟩; have hwn := hwn.symm; subst hwn))
  go_ret
  exact ⟨by rw [HZ.out]; rfl, HB3.out⟩
 ·skip
  by_cases hfr : fr = 0
  ·have hfr1 : (fr == 0) = true := by simpa using hfr
   have hfr2 : (fr != 0) = false := by simpa using hfr
   clear hfr
   by_cases hda : dn = 0
   ·subst hda
    cases hNnm : nmB nm
    ·rw [hNnm] at HNm
     have HZ : Hid (z = 102) := hid (by rw [hzz, fm_doc]; simp [isF, isF5, uN, uO, uF, uT, uD, empS, *])
     clear hzz
     go_wp2_with (first | (go_at_call 28; with_reducible refine (HNm.out _).mono ?_; rintro e wn ⟨rfl, hwn⟩; have hwn := hwn.symm; subst hwn) | (go_at_call 28; with_reducible refine (HOt.out _).mono ?_; rintro e wn ⟨rfl, hwn⟩; have hwn := hwn.symm; subst hwn))
     go_ret
     exact ⟨by rw [HZ.out]; rfl, HB3.out⟩
    ·rw [hNnm] at HNm
     have HZ : Hid (z = 0) := hid (by rw [hzz, fm_doc]; simp [isF, isF5, uN, uO, uF, uT, uD, empS, *])
     clear hzz
     go_wp2_with (first | (go_at_call 28; with_reducible refine (HNm.out _).mono ?_; rintro e wn ⟨rfl, hwn⟩; have hwn := hwn.symm; subst hwn) | (go_at_call 28; with_reducible refine (HOt.out _).mono ?_; rintro e wn ⟨rfl, hwn⟩; have hwn := hwn.symm; subst hwn))
     go_ret
     exact ⟨by rw [HZ.out]; rfl, HB3.out⟩
   ·have hda1 : (0 : Int) < (dn : Int) := by omega
    have hda2 : ((dn : Int) == 0) = false := by simp; omega
    have hda3 : 0 < dn := by omega
    have HZ : Hid (z = 101) := hid (by rw [hzz, fm_doc]; simp [isF, isF5, uN, uO, uF, uT, uD, empS, *])
    clear hzz
    go_wp2_with (first | (go_at_call 28; with_reducible refine (HNm.out _).mono ?_; rintro e wn ⟨rfl, hwn⟩; have hwn := hwn.symm; subst hwn) | (go_at_call 28; with_reducible refine (HOt.out _).mono ?_; rintro e wn ⟨rfl, hwn⟩; have hwn := hwn.symm; subst hwn))
    go_ret
    exact ⟨by rw [HZ.out]; rfl, HB3.out⟩
  ·have hfr1 : (fr == 0) = false := by simpa using hfr
   have hfr2 : (fr != 0) = true := by simpa using hfr
   clear hfr
   have HZ : Hid (z = 101) := hid (by rw [hzz, fm_doc]; simp [isF, isF5, uN, uO, uF, uT, uD, empS, *])
   clear hzz
   go_wp2_with (first | (go_at_call 28; with_reducible refine (HNm.out _).mono ?_; rintro e wn ⟨rfl, hwn⟩; have hwn := hwn.symm; subst hwn) | (go_at_call 28; with_reducible refine (HOt.out _).mono ?_; rintro e wn ⟨rfl, hwn⟩; have hwn := hwn.symm; subst hwn))
   go_ret
   exact ⟨by rw [HZ.out]; rfl, HB3.out⟩
set_option maxRecDepth 100000 in
set_option maxHeartbeats 8000000 in
theorem form_5 (nm ot : ByteArray) (fr tt : Int) (a : Option Addr) (dn c : Nat) (w : World) (hs1 : nm.size ≤ 16777216) (hs2 : ot.size ≤ 16777216) :
  Calls Tryz.prog 79 #[opA ⟨5, nm, ot, fr, tt⟩ a dn c] w fun e w' => LkQ w (fmE ⟨5, nm, ot, fr, tt⟩ dn) e w' := by
 obtain ⟨P, hP⟩ : ∃ P, P = w.heap.size := ⟨_, rfl⟩
 obtain ⟨W1, hW1⟩ : ∃ W1, W1 = w.alloc (.cells #[.int .i64 5, .string nm, .string ot, .int .i64 fr, .int .i64 tt, .slice a dn c] 42) := ⟨_, rfl⟩
 have b1 : Below w.heap.size w W1 := by rw [hW1]; exact below1 _ _
 have hO : W1.heap[P]? = some (.cells #[.int .i64 5, .string nm, .string ot, .int .i64 fr, .int .i64 tt, .slice a dn c] 42 (0, 0)) := by rw [hW1, hP]; exact heap_new _ _
 have HU := hid (uses_any 5 (by decide) (by decide) W1)
 have HNm := hid (fun u => Named_s nm hs1 u)
 have HOt := hid (fun u => Named_s ot hs2 u)
 obtain ⟨z, hzz⟩ : ∃ z, z = fmE ⟨5, nm, ot, fr, tt⟩ dn := ⟨_, rfl⟩
 rw [← hzz]
 have HP := hid hP.symm
 have HW1 := hid hW1
 have HB1 := hid b1
 have HO := hid hO
 obtain ⟨c0, c1, c2, c3, c4, c5⟩ : W1.cell? ⟨P, 0, none⟩ = some (.int .i64 5) ∧ W1.cell? ⟨P, 1, none⟩ = some (.string nm) ∧ W1.cell? ⟨P, 2, none⟩ = some (.string ot) ∧ W1.cell? ⟨P, 3, none⟩ = some (.int .i64 fr) ∧ W1.cell? ⟨P, 4, none⟩ = some (.int .i64 tt) ∧ W1.cell? ⟨P, 5, none⟩ = some (.slice a dn c) := by simp [World.cell?, hO]
 rw [hW1] at c0
 clear hP hW1 b1 hO hs1 hs2
 dsimp only [opA]
 have HZZ := hid hzz
 clear hzz
 have c0' := c0
 rw [← HW1.out] at c0'
 go_enter Tryz.func79, Tryz.ntmps79
 go_wp2_with fail
 rw [← HW1.out]
 try rw [HP.out]
 refine HU.out.mono ?_
 rintro e w2 ⟨rfl, hb2⟩
 obtain ⟨X, hX⟩ : ∃ X, X = w2.heap.size := ⟨_, rfl⟩
 obtain ⟨W3, hW3⟩ : ∃ W3, W3 = w2.alloc (.cells #[.bool true, .bool true, .bool false, .bool false, .bool false] 118) := ⟨_, rfl⟩
 have b3 : Below w2.heap.size w2 W3 := by rw [hW3]; exact below1 _ _
 have hX3 : W3.heap[X]? = some (.cells #[.bool true, .bool true, .bool false, .bool false, .bool false] 118 (0, 0)) := by rw [hW3, hX]; exact heap_new _ _
 have hPl := (Array.getElem?_eq_some_iff.1 HO.out).1
 have hO3 : W3.heap[P]? = some (.cells #[.int .i64 5, .string nm, .string ot, .int .i64 fr, .int .i64 tt, .slice a dn c] 42 (0, 0)) := (b3.block P (Nat.lt_of_lt_of_le hPl hb2.size)).trans ((hb2.block P hPl).trans HO.out)
 have HB3 := hid (HB1.out.trans ((hb2.mono HB1.out.size).trans (b3.mono (Nat.le_trans HB1.out.size hb2.size))))
 obtain ⟨d0, d1, d2, d3, d4, d5⟩ : W3.cell? ⟨P, 0, none⟩ = some (.int .i64 5) ∧ W3.cell? ⟨P, 1, none⟩ = some (.string nm) ∧ W3.cell? ⟨P, 2, none⟩ = some (.string ot) ∧ W3.cell? ⟨P, 3, none⟩ = some (.int .i64 fr) ∧ W3.cell? ⟨P, 4, none⟩ = some (.int .i64 tt) ∧ W3.cell? ⟨P, 5, none⟩ = some (.slice a dn c) := by simp [World.cell?, hO3]
 obtain ⟨x0, x1, x2, x3, x4⟩ : W3.cell? ⟨X, 0, none⟩ = some (.bool true) ∧ W3.cell? ⟨X, 1, none⟩ = some (.bool true) ∧ W3.cell? ⟨X, 2, none⟩ = some (.bool false) ∧ W3.cell? ⟨X, 3, none⟩ = some (.bool false) ∧ W3.cell? ⟨X, 4, none⟩ = some (.bool false) := by simp [World.cell?, hX3]
 rw [hW3] at d0 d1 d2 d3 d4 d5 x0 x1 x2 x3 x4
 rw [hX] at x0 x1 x2 x3 x4
 rw [hW3] at HB3
 clear hW3 hX b3 hX3 hPl hO3 hb2 c0 c1 c2 c3 c4 c5 c0' HU HO HB1
 dsimp only [uN, uO, uF, uT, uD]
 have hzz := HZZ.out
 clear HZZ HW1 HP
 by_cases hfr : fr = 0
 ·have hfr1 : (fr == 0) = true := by simpa using hfr
  have hfr2 : (fr != 0) = false := by simpa using hfr
  clear hfr
  by_cases htt : tt = 0
  ·have htt1 : (tt == 0) = true := by simpa using htt
   have htt2 : (tt != 0) = false := by simpa using htt
   clear htt
   by_cases hda : dn = 0
   ·subst hda
    cases hNnm : nmB nm
    ·rw [hNnm] at HNm
     have HZ : Hid (z = 102) := hid (by rw [hzz, fm_doc]; simp [isF, isF5, uN, uO, uF, uT, uD, empS, *])
     clear hzz
     go_wp2_with (first | (go_at_call 28; with_reducible refine (HNm.out _).mono ?_; rintro e wn ⟨rfl, hwn⟩; have hwn := hwn.symm; subst hwn) | (go_at_call 28; with_reducible refine (HOt.out _).mono ?_; rintro e wn ⟨rfl, hwn⟩; have hwn := hwn.symm; subst hwn))
     go_ret
     exact ⟨by rw [HZ.out]; rfl, HB3.out⟩
    ·rw [hNnm] at HNm
     cases hNot : nmB ot
     ·rw [hNot] at HOt
      have HZ : Hid (z = 102) := hid (by rw [hzz, fm_doc]; simp [isF, isF5, uN, uO, uF, uT, uD, empS, *])
      clear hzz
      go_wp2_with (first | (go_at_call 28; with_reducible refine (HNm.out _).mono ?_; rintro e wn ⟨rfl, hwn⟩; have hwn := hwn.symm; subst hwn) | (go_at_call 28; with_reducible refine (HOt.out _).mono ?_; rintro e wn ⟨rfl, hwn⟩; have hwn := hwn.symm; subst hwn))
      go_ret
      exact ⟨by rw [HZ.out]; rfl, HB3.out⟩
     ·rw [hNot] at HOt
      have HZ : Hid (z = 0) := hid (by rw [hzz, fm_doc]; simp [isF, isF5, uN, uO, uF, uT, uD, empS, *])
      clear hzz
      go_wp2_with (first | (go_at_call 28; with_reducible refine (HNm.out _).mono ?_; rintro e wn ⟨rfl, hwn⟩; have hwn := hwn.symm; subst hwn) | (go_at_call 28; with_reducible refine (HOt.out _).mono ?_; rintro e wn ⟨rfl, hwn⟩; have hwn := hwn.symm; subst hwn))
      go_ret
      exact ⟨by rw [HZ.out]; rfl, HB3.out⟩
   ·have hda1 : (0 : Int) < (dn : Int) := by omega
    have hda2 : ((dn : Int) == 0) = false := by simp; omega
    have hda3 : 0 < dn := by omega
    have HZ : Hid (z = 101) := hid (by rw [hzz, fm_doc]; simp [isF, isF5, uN, uO, uF, uT, uD, empS, *])
    clear hzz
    go_wp2_with (first | (go_at_call 28; with_reducible refine (HNm.out _).mono ?_; rintro e wn ⟨rfl, hwn⟩; have hwn := hwn.symm; subst hwn) | (go_at_call 28; with_reducible refine (HOt.out _).mono ?_; rintro e wn ⟨rfl, hwn⟩; have hwn := hwn.symm; subst hwn))
    go_ret
    exact ⟨by rw [HZ.out]; rfl, HB3.out⟩
  ·have htt1 : (tt == 0) = false := by simpa using htt
   have htt2 : (tt != 0) = true := by simpa using htt
   clear htt
   have HZ : Hid (z = 101) := hid (by rw [hzz, fm_doc]; simp [isF, isF5, uN, uO, uF, uT, uD, empS, *])
   clear hzz
   go_wp2_with (first | (go_at_call 28; with_reducible refine (HNm.out _).mono ?_; rintro e wn ⟨rfl, hwn⟩; have hwn := hwn.symm; subst hwn) | (go_at_call 28; with_reducible refine (HOt.out _).mono ?_; rintro e wn ⟨rfl, hwn⟩; have hwn := hwn.symm; subst hwn))
   go_ret
   exact ⟨by rw [HZ.out]; rfl, HB3.out⟩
 ·have hfr1 : (fr == 0) = false := by simpa using hfr
  have hfr2 : (fr != 0) = true := by simpa using hfr
  clear hfr
  have HZ : Hid (z = 101) := hid (by rw [hzz, fm_doc]; simp [isF, isF5, uN, uO, uF, uT, uD, empS, *])
  clear hzz
  go_wp2_with (first | (go_at_call 28; with_reducible refine (HNm.out _).mono ?_; rintro e wn ⟨rfl, hwn⟩; have hwn := hwn.symm; subst hwn) | (go_at_call 28; with_reducible refine (HOt.out _).mono ?_; rintro e wn ⟨rfl, hwn⟩; have hwn := hwn.symm; subst hwn))
  go_ret
  exact ⟨by rw [HZ.out]; rfl, HB3.out⟩
set_option maxRecDepth 100000 in
set_option maxHeartbeats 8000000 in
theorem form_6 (nm ot : ByteArray) (fr tt : Int) (a : Option Addr) (dn c : Nat) (w : World) (hs1 : nm.size ≤ 16777216) (hs2 : ot.size ≤ 16777216) :
  Calls Tryz.prog 79 #[opA ⟨6, nm, ot, fr, tt⟩ a dn c] w fun e w' => LkQ w (fmE ⟨6, nm, ot, fr, tt⟩ dn) e w' := by
 obtain ⟨P, hP⟩ : ∃ P, P = w.heap.size := ⟨_, rfl⟩
 obtain ⟨W1, hW1⟩ : ∃ W1, W1 = w.alloc (.cells #[.int .i64 6, .string nm, .string ot, .int .i64 fr, .int .i64 tt, .slice a dn c] 42) := ⟨_, rfl⟩
 have b1 : Below w.heap.size w W1 := by rw [hW1]; exact below1 _ _
 have hO : W1.heap[P]? = some (.cells #[.int .i64 6, .string nm, .string ot, .int .i64 fr, .int .i64 tt, .slice a dn c] 42 (0, 0)) := by rw [hW1, hP]; exact heap_new _ _
 have HU := hid (uses_any 6 (by decide) (by decide) W1)
 have HNm := hid (fun u => Named_s nm hs1 u)
 have HOt := hid (fun u => Named_s ot hs2 u)
 obtain ⟨z, hzz⟩ : ∃ z, z = fmE ⟨6, nm, ot, fr, tt⟩ dn := ⟨_, rfl⟩
 rw [← hzz]
 have HP := hid hP.symm
 have HW1 := hid hW1
 have HB1 := hid b1
 have HO := hid hO
 obtain ⟨c0, c1, c2, c3, c4, c5⟩ : W1.cell? ⟨P, 0, none⟩ = some (.int .i64 6) ∧ W1.cell? ⟨P, 1, none⟩ = some (.string nm) ∧ W1.cell? ⟨P, 2, none⟩ = some (.string ot) ∧ W1.cell? ⟨P, 3, none⟩ = some (.int .i64 fr) ∧ W1.cell? ⟨P, 4, none⟩ = some (.int .i64 tt) ∧ W1.cell? ⟨P, 5, none⟩ = some (.slice a dn c) := by simp [World.cell?, hO]
 rw [hW1] at c0
 clear hP hW1 b1 hO hs1 hs2
 dsimp only [opA]
 have HZZ := hid hzz
 clear hzz
 have c0' := c0
 rw [← HW1.out] at c0'
 go_enter Tryz.func79, Tryz.ntmps79
 go_wp2_with fail
 rw [← HW1.out]
 try rw [HP.out]
 refine HU.out.mono ?_
 rintro e w2 ⟨rfl, hb2⟩
 obtain ⟨X, hX⟩ : ∃ X, X = w2.heap.size := ⟨_, rfl⟩
 obtain ⟨W3, hW3⟩ : ∃ W3, W3 = w2.alloc (.cells #[.bool true, .bool false, .bool false, .bool false, .bool false] 118) := ⟨_, rfl⟩
 have b3 : Below w2.heap.size w2 W3 := by rw [hW3]; exact below1 _ _
 have hX3 : W3.heap[X]? = some (.cells #[.bool true, .bool false, .bool false, .bool false, .bool false] 118 (0, 0)) := by rw [hW3, hX]; exact heap_new _ _
 have hPl := (Array.getElem?_eq_some_iff.1 HO.out).1
 have hO3 : W3.heap[P]? = some (.cells #[.int .i64 6, .string nm, .string ot, .int .i64 fr, .int .i64 tt, .slice a dn c] 42 (0, 0)) := (b3.block P (Nat.lt_of_lt_of_le hPl hb2.size)).trans ((hb2.block P hPl).trans HO.out)
 have HB3 := hid (HB1.out.trans ((hb2.mono HB1.out.size).trans (b3.mono (Nat.le_trans HB1.out.size hb2.size))))
 obtain ⟨d0, d1, d2, d3, d4, d5⟩ : W3.cell? ⟨P, 0, none⟩ = some (.int .i64 6) ∧ W3.cell? ⟨P, 1, none⟩ = some (.string nm) ∧ W3.cell? ⟨P, 2, none⟩ = some (.string ot) ∧ W3.cell? ⟨P, 3, none⟩ = some (.int .i64 fr) ∧ W3.cell? ⟨P, 4, none⟩ = some (.int .i64 tt) ∧ W3.cell? ⟨P, 5, none⟩ = some (.slice a dn c) := by simp [World.cell?, hO3]
 obtain ⟨x0, x1, x2, x3, x4⟩ : W3.cell? ⟨X, 0, none⟩ = some (.bool true) ∧ W3.cell? ⟨X, 1, none⟩ = some (.bool false) ∧ W3.cell? ⟨X, 2, none⟩ = some (.bool false) ∧ W3.cell? ⟨X, 3, none⟩ = some (.bool false) ∧ W3.cell? ⟨X, 4, none⟩ = some (.bool false) := by simp [World.cell?, hX3]
 rw [hW3] at d0 d1 d2 d3 d4 d5 x0 x1 x2 x3 x4
 rw [hX] at x0 x1 x2 x3 x4
 rw [hW3] at HB3
 clear hW3 hX b3 hX3 hPl hO3 hb2 c0 c1 c2 c3 c4 c5 c0' HU HO HB1
 dsimp only [uN, uO, uF, uT, uD]
 have hzz := HZZ.out
 clear HZZ HW1 HP
 cases hot : (ot.toList == [])
 ·skip
  have HZ : Hid (z = 101) := hid (by rw [hzz, fm_doc]; simp [isF, isF5, uN, uO, uF, uT, uD, empS, *])
  clear hzz
  go_wp2_with (first | (go_at_call 28; with_reducible refine (HNm.out _).mono ?_; rintro e wn ⟨rfl, hwn⟩; have hwn := hwn.symm; subst hwn) | (go_at_call 28; with_reducible refine (HOt.out _).mono ?_; rintro e wn ⟨rfl, hwn⟩; have hwn := hwn.symm; subst hwn))
  go_ret
  exact ⟨by rw [HZ.out]; rfl, HB3.out⟩
 ·skip
  by_cases hfr : fr = 0
  ·have hfr1 : (fr == 0) = true := by simpa using hfr
   have hfr2 : (fr != 0) = false := by simpa using hfr
   clear hfr
   by_cases htt : tt = 0
   ·have htt1 : (tt == 0) = true := by simpa using htt
    have htt2 : (tt != 0) = false := by simpa using htt
    clear htt
    by_cases hda : dn = 0
    ·subst hda
     cases hNnm : nmB nm
     ·rw [hNnm] at HNm
      have HZ : Hid (z = 102) := hid (by rw [hzz, fm_doc]; simp [isF, isF5, uN, uO, uF, uT, uD, empS, *])
      clear hzz
      go_wp2_with (first | (go_at_call 28; with_reducible refine (HNm.out _).mono ?_; rintro e wn ⟨rfl, hwn⟩; have hwn := hwn.symm; subst hwn) | (go_at_call 28; with_reducible refine (HOt.out _).mono ?_; rintro e wn ⟨rfl, hwn⟩; have hwn := hwn.symm; subst hwn))
      go_ret
      exact ⟨by rw [HZ.out]; rfl, HB3.out⟩
     ·rw [hNnm] at HNm
      have HZ : Hid (z = 0) := hid (by rw [hzz, fm_doc]; simp [isF, isF5, uN, uO, uF, uT, uD, empS, *])
      clear hzz
      go_wp2_with (first | (go_at_call 28; with_reducible refine (HNm.out _).mono ?_; rintro e wn ⟨rfl, hwn⟩; have hwn := hwn.symm; subst hwn) | (go_at_call 28; with_reducible refine (HOt.out _).mono ?_; rintro e wn ⟨rfl, hwn⟩; have hwn := hwn.symm; subst hwn))
      go_ret
      exact ⟨by rw [HZ.out]; rfl, HB3.out⟩
    ·have hda1 : (0 : Int) < (dn : Int) := by omega
     have hda2 : ((dn : Int) == 0) = false := by simp; omega
     have hda3 : 0 < dn := by omega
     have HZ : Hid (z = 101) := hid (by rw [hzz, fm_doc]; simp [isF, isF5, uN, uO, uF, uT, uD, empS, *])
     clear hzz
     go_wp2_with (first | (go_at_call 28; with_reducible refine (HNm.out _).mono ?_; rintro e wn ⟨rfl, hwn⟩; have hwn := hwn.symm; subst hwn) | (go_at_call 28; with_reducible refine (HOt.out _).mono ?_; rintro e wn ⟨rfl, hwn⟩; have hwn := hwn.symm; subst hwn))
     go_ret
     exact ⟨by rw [HZ.out]; rfl, HB3.out⟩
   ·have htt1 : (tt == 0) = false := by simpa using htt
    have htt2 : (tt != 0) = true := by simpa using htt
    clear htt
    have HZ : Hid (z = 101) := hid (by rw [hzz, fm_doc]; simp [isF, isF5, uN, uO, uF, uT, uD, empS, *])
    clear hzz
    go_wp2_with (first | (go_at_call 28; with_reducible refine (HNm.out _).mono ?_; rintro e wn ⟨rfl, hwn⟩; have hwn := hwn.symm; subst hwn) | (go_at_call 28; with_reducible refine (HOt.out _).mono ?_; rintro e wn ⟨rfl, hwn⟩; have hwn := hwn.symm; subst hwn))
    go_ret
    exact ⟨by rw [HZ.out]; rfl, HB3.out⟩
  ·have hfr1 : (fr == 0) = false := by simpa using hfr
   have hfr2 : (fr != 0) = true := by simpa using hfr
   clear hfr
   have HZ : Hid (z = 101) := hid (by rw [hzz, fm_doc]; simp [isF, isF5, uN, uO, uF, uT, uD, empS, *])
   clear hzz
   go_wp2_with (first | (go_at_call 28; with_reducible refine (HNm.out _).mono ?_; rintro e wn ⟨rfl, hwn⟩; have hwn := hwn.symm; subst hwn) | (go_at_call 28; with_reducible refine (HOt.out _).mono ?_; rintro e wn ⟨rfl, hwn⟩; have hwn := hwn.symm; subst hwn))
   go_ret
   exact ⟨by rw [HZ.out]; rfl, HB3.out⟩
set_option maxRecDepth 100000 in
set_option maxHeartbeats 8000000 in
theorem form_7 (nm ot : ByteArray) (fr tt : Int) (a : Option Addr) (dn c : Nat) (w : World) (hs1 : nm.size ≤ 16777216) (hs2 : ot.size ≤ 16777216) :
  Calls Tryz.prog 79 #[opA ⟨7, nm, ot, fr, tt⟩ a dn c] w fun e w' => LkQ w (fmE ⟨7, nm, ot, fr, tt⟩ dn) e w' := by
 obtain ⟨P, hP⟩ : ∃ P, P = w.heap.size := ⟨_, rfl⟩
 obtain ⟨W1, hW1⟩ : ∃ W1, W1 = w.alloc (.cells #[.int .i64 7, .string nm, .string ot, .int .i64 fr, .int .i64 tt, .slice a dn c] 42) := ⟨_, rfl⟩
 have b1 : Below w.heap.size w W1 := by rw [hW1]; exact below1 _ _
 have hO : W1.heap[P]? = some (.cells #[.int .i64 7, .string nm, .string ot, .int .i64 fr, .int .i64 tt, .slice a dn c] 42 (0, 0)) := by rw [hW1, hP]; exact heap_new _ _
 have HU := hid (uses_any 7 (by decide) (by decide) W1)
 have HNm := hid (fun u => Named_s nm hs1 u)
 have HOt := hid (fun u => Named_s ot hs2 u)
 obtain ⟨z, hzz⟩ : ∃ z, z = fmE ⟨7, nm, ot, fr, tt⟩ dn := ⟨_, rfl⟩
 rw [← hzz]
 have HP := hid hP.symm
 have HW1 := hid hW1
 have HB1 := hid b1
 have HO := hid hO
 obtain ⟨c0, c1, c2, c3, c4, c5⟩ : W1.cell? ⟨P, 0, none⟩ = some (.int .i64 7) ∧ W1.cell? ⟨P, 1, none⟩ = some (.string nm) ∧ W1.cell? ⟨P, 2, none⟩ = some (.string ot) ∧ W1.cell? ⟨P, 3, none⟩ = some (.int .i64 fr) ∧ W1.cell? ⟨P, 4, none⟩ = some (.int .i64 tt) ∧ W1.cell? ⟨P, 5, none⟩ = some (.slice a dn c) := by simp [World.cell?, hO]
 rw [hW1] at c0
 clear hP hW1 b1 hO hs1 hs2
 dsimp only [opA]
 have HZZ := hid hzz
 clear hzz
 have c0' := c0
 rw [← HW1.out] at c0'
 go_enter Tryz.func79, Tryz.ntmps79
 go_wp2_with fail
 rw [← HW1.out]
 try rw [HP.out]
 refine HU.out.mono ?_
 rintro e w2 ⟨rfl, hb2⟩
 obtain ⟨X, hX⟩ : ∃ X, X = w2.heap.size := ⟨_, rfl⟩
 obtain ⟨W3, hW3⟩ : ∃ W3, W3 = w2.alloc (.cells #[.bool true, .bool true, .bool false, .bool false, .bool false] 118) := ⟨_, rfl⟩
 have b3 : Below w2.heap.size w2 W3 := by rw [hW3]; exact below1 _ _
 have hX3 : W3.heap[X]? = some (.cells #[.bool true, .bool true, .bool false, .bool false, .bool false] 118 (0, 0)) := by rw [hW3, hX]; exact heap_new _ _
 have hPl := (Array.getElem?_eq_some_iff.1 HO.out).1
 have hO3 : W3.heap[P]? = some (.cells #[.int .i64 7, .string nm, .string ot, .int .i64 fr, .int .i64 tt, .slice a dn c] 42 (0, 0)) := (b3.block P (Nat.lt_of_lt_of_le hPl hb2.size)).trans ((hb2.block P hPl).trans HO.out)
 have HB3 := hid (HB1.out.trans ((hb2.mono HB1.out.size).trans (b3.mono (Nat.le_trans HB1.out.size hb2.size))))
 obtain ⟨d0, d1, d2, d3, d4, d5⟩ : W3.cell? ⟨P, 0, none⟩ = some (.int .i64 7) ∧ W3.cell? ⟨P, 1, none⟩ = some (.string nm) ∧ W3.cell? ⟨P, 2, none⟩ = some (.string ot) ∧ W3.cell? ⟨P, 3, none⟩ = some (.int .i64 fr) ∧ W3.cell? ⟨P, 4, none⟩ = some (.int .i64 tt) ∧ W3.cell? ⟨P, 5, none⟩ = some (.slice a dn c) := by simp [World.cell?, hO3]
 obtain ⟨x0, x1, x2, x3, x4⟩ : W3.cell? ⟨X, 0, none⟩ = some (.bool true) ∧ W3.cell? ⟨X, 1, none⟩ = some (.bool true) ∧ W3.cell? ⟨X, 2, none⟩ = some (.bool false) ∧ W3.cell? ⟨X, 3, none⟩ = some (.bool false) ∧ W3.cell? ⟨X, 4, none⟩ = some (.bool false) := by simp [World.cell?, hX3]
 rw [hW3] at d0 d1 d2 d3 d4 d5 x0 x1 x2 x3 x4
 rw [hX] at x0 x1 x2 x3 x4
 rw [hW3] at HB3
 clear hW3 hX b3 hX3 hPl hO3 hb2 c0 c1 c2 c3 c4 c5 c0' HU HO HB1
 dsimp only [uN, uO, uF, uT, uD]
 have hzz := HZZ.out
 clear HZZ HW1 HP
 by_cases hfr : fr = 0
 ·have hfr1 : (fr == 0) = true := by simpa using hfr
  have hfr2 : (fr != 0) = false := by simpa using hfr
  clear hfr
  by_cases htt : tt = 0
  ·have htt1 : (tt == 0) = true := by simpa using htt
   have htt2 : (tt != 0) = false := by simpa using htt
   clear htt
   by_cases hda : dn = 0
   ·subst hda
    cases hNnm : nmB nm
    ·rw [hNnm] at HNm
     have HZ : Hid (z = 102) := hid (by rw [hzz, fm_doc]; simp [isF, isF5, uN, uO, uF, uT, uD, empS, *])
     clear hzz
     go_wp2_with (first | (go_at_call 28; with_reducible refine (HNm.out _).mono ?_; rintro e wn ⟨rfl, hwn⟩; have hwn := hwn.symm; subst hwn) | (go_at_call 28; with_reducible refine (HOt.out _).mono ?_; rintro e wn ⟨rfl, hwn⟩; have hwn := hwn.symm; subst hwn))
     go_ret
     exact ⟨by rw [HZ.out]; rfl, HB3.out⟩
    ·rw [hNnm] at HNm
     cases hNot : nmB ot
     ·rw [hNot] at HOt
      have HZ : Hid (z = 102) := hid (by rw [hzz, fm_doc]; simp [isF, isF5, uN, uO, uF, uT, uD, empS, *])
      clear hzz
      go_wp2_with (first | (go_at_call 28; with_reducible refine (HNm.out _).mono ?_; rintro e wn ⟨rfl, hwn⟩; have hwn := hwn.symm; subst hwn) | (go_at_call 28; with_reducible refine (HOt.out _).mono ?_; rintro e wn ⟨rfl, hwn⟩; have hwn := hwn.symm; subst hwn))
      go_ret
      exact ⟨by rw [HZ.out]; rfl, HB3.out⟩
     ·rw [hNot] at HOt
      have HZ : Hid (z = 0) := hid (by rw [hzz, fm_doc]; simp [isF, isF5, uN, uO, uF, uT, uD, empS, *])
      clear hzz
      go_wp2_with (first | (go_at_call 28; with_reducible refine (HNm.out _).mono ?_; rintro e wn ⟨rfl, hwn⟩; have hwn := hwn.symm; subst hwn) | (go_at_call 28; with_reducible refine (HOt.out _).mono ?_; rintro e wn ⟨rfl, hwn⟩; have hwn := hwn.symm; subst hwn))
      go_ret
      exact ⟨by rw [HZ.out]; rfl, HB3.out⟩
   ·have hda1 : (0 : Int) < (dn : Int) := by omega
    have hda2 : ((dn : Int) == 0) = false := by simp; omega
    have hda3 : 0 < dn := by omega
    have HZ : Hid (z = 101) := hid (by rw [hzz, fm_doc]; simp [isF, isF5, uN, uO, uF, uT, uD, empS, *])
    clear hzz
    go_wp2_with (first | (go_at_call 28; with_reducible refine (HNm.out _).mono ?_; rintro e wn ⟨rfl, hwn⟩; have hwn := hwn.symm; subst hwn) | (go_at_call 28; with_reducible refine (HOt.out _).mono ?_; rintro e wn ⟨rfl, hwn⟩; have hwn := hwn.symm; subst hwn))
    go_ret
    exact ⟨by rw [HZ.out]; rfl, HB3.out⟩
  ·have htt1 : (tt == 0) = false := by simpa using htt
   have htt2 : (tt != 0) = true := by simpa using htt
   clear htt
   have HZ : Hid (z = 101) := hid (by rw [hzz, fm_doc]; simp [isF, isF5, uN, uO, uF, uT, uD, empS, *])
   clear hzz
   go_wp2_with (first | (go_at_call 28; with_reducible refine (HNm.out _).mono ?_; rintro e wn ⟨rfl, hwn⟩; have hwn := hwn.symm; subst hwn) | (go_at_call 28; with_reducible refine (HOt.out _).mono ?_; rintro e wn ⟨rfl, hwn⟩; have hwn := hwn.symm; subst hwn))
   go_ret
   exact ⟨by rw [HZ.out]; rfl, HB3.out⟩
 ·have hfr1 : (fr == 0) = false := by simpa using hfr
  have hfr2 : (fr != 0) = true := by simpa using hfr
  clear hfr
  have HZ : Hid (z = 101) := hid (by rw [hzz, fm_doc]; simp [isF, isF5, uN, uO, uF, uT, uD, empS, *])
  clear hzz
  go_wp2_with (first | (go_at_call 28; with_reducible refine (HNm.out _).mono ?_; rintro e wn ⟨rfl, hwn⟩; have hwn := hwn.symm; subst hwn) | (go_at_call 28; with_reducible refine (HOt.out _).mono ?_; rintro e wn ⟨rfl, hwn⟩; have hwn := hwn.symm; subst hwn))
  go_ret
  exact ⟨by rw [HZ.out]; rfl, HB3.out⟩
set_option maxRecDepth 100000 in
set_option maxHeartbeats 8000000 in
theorem form_8 (nm ot : ByteArray) (fr tt : Int) (a : Option Addr) (dn c : Nat) (w : World) (hs1 : nm.size ≤ 16777216) (hs2 : ot.size ≤ 16777216) :
  Calls Tryz.prog 79 #[opA ⟨8, nm, ot, fr, tt⟩ a dn c] w fun e w' => LkQ w (fmE ⟨8, nm, ot, fr, tt⟩ dn) e w' := by
 obtain ⟨P, hP⟩ : ∃ P, P = w.heap.size := ⟨_, rfl⟩
 obtain ⟨W1, hW1⟩ : ∃ W1, W1 = w.alloc (.cells #[.int .i64 8, .string nm, .string ot, .int .i64 fr, .int .i64 tt, .slice a dn c] 42) := ⟨_, rfl⟩
 have b1 : Below w.heap.size w W1 := by rw [hW1]; exact below1 _ _
 have hO : W1.heap[P]? = some (.cells #[.int .i64 8, .string nm, .string ot, .int .i64 fr, .int .i64 tt, .slice a dn c] 42 (0, 0)) := by rw [hW1, hP]; exact heap_new _ _
 have HU := hid (uses_any 8 (by decide) (by decide) W1)
 have HNm := hid (fun u => Named_s nm hs1 u)
 have HOt := hid (fun u => Named_s ot hs2 u)
 obtain ⟨z, hzz⟩ : ∃ z, z = fmE ⟨8, nm, ot, fr, tt⟩ dn := ⟨_, rfl⟩
 rw [← hzz]
 have HP := hid hP.symm
 have HW1 := hid hW1
 have HB1 := hid b1
 have HO := hid hO
 obtain ⟨c0, c1, c2, c3, c4, c5⟩ : W1.cell? ⟨P, 0, none⟩ = some (.int .i64 8) ∧ W1.cell? ⟨P, 1, none⟩ = some (.string nm) ∧ W1.cell? ⟨P, 2, none⟩ = some (.string ot) ∧ W1.cell? ⟨P, 3, none⟩ = some (.int .i64 fr) ∧ W1.cell? ⟨P, 4, none⟩ = some (.int .i64 tt) ∧ W1.cell? ⟨P, 5, none⟩ = some (.slice a dn c) := by simp [World.cell?, hO]
 rw [hW1] at c0
 clear hP hW1 b1 hO hs1 hs2
 dsimp only [opA]
 have HZZ := hid hzz
 clear hzz
 have c0' := c0
 rw [← HW1.out] at c0'
 go_enter Tryz.func79, Tryz.ntmps79
 go_wp2_with fail
 rw [← HW1.out]
 try rw [HP.out]
 refine HU.out.mono ?_
 rintro e w2 ⟨rfl, hb2⟩
 obtain ⟨X, hX⟩ : ∃ X, X = w2.heap.size := ⟨_, rfl⟩
 obtain ⟨W3, hW3⟩ : ∃ W3, W3 = w2.alloc (.cells #[.bool true, .bool false, .bool true, .bool false, .bool true] 118) := ⟨_, rfl⟩
 have b3 : Below w2.heap.size w2 W3 := by rw [hW3]; exact below1 _ _
 have hX3 : W3.heap[X]? = some (.cells #[.bool true, .bool false, .bool true, .bool false, .bool true] 118 (0, 0)) := by rw [hW3, hX]; exact heap_new _ _
 have hPl := (Array.getElem?_eq_some_iff.1 HO.out).1
 have hO3 : W3.heap[P]? = some (.cells #[.int .i64 8, .string nm, .string ot, .int .i64 fr, .int .i64 tt, .slice a dn c] 42 (0, 0)) := (b3.block P (Nat.lt_of_lt_of_le hPl hb2.size)).trans ((hb2.block P hPl).trans HO.out)
 have HB3 := hid (HB1.out.trans ((hb2.mono HB1.out.size).trans (b3.mono (Nat.le_trans HB1.out.size hb2.size))))
 obtain ⟨d0, d1, d2, d3, d4, d5⟩ : W3.cell? ⟨P, 0, none⟩ = some (.int .i64 8) ∧ W3.cell? ⟨P, 1, none⟩ = some (.string nm) ∧ W3.cell? ⟨P, 2, none⟩ = some (.string ot) ∧ W3.cell? ⟨P, 3, none⟩ = some (.int .i64 fr) ∧ W3.cell? ⟨P, 4, none⟩ = some (.int .i64 tt) ∧ W3.cell? ⟨P, 5, none⟩ = some (.slice a dn c) := by simp [World.cell?, hO3]
 obtain ⟨x0, x1, x2, x3, x4⟩ : W3.cell? ⟨X, 0, none⟩ = some (.bool true) ∧ W3.cell? ⟨X, 1, none⟩ = some (.bool false) ∧ W3.cell? ⟨X, 2, none⟩ = some (.bool true) ∧ W3.cell? ⟨X, 3, none⟩ = some (.bool false) ∧ W3.cell? ⟨X, 4, none⟩ = some (.bool true) := by simp [World.cell?, hX3]
 rw [hW3] at d0 d1 d2 d3 d4 d5 x0 x1 x2 x3 x4
 rw [hX] at x0 x1 x2 x3 x4
 rw [hW3] at HB3
 clear hW3 hX b3 hX3 hPl hO3 hb2 c0 c1 c2 c3 c4 c5 c0' HU HO HB1
 dsimp only [uN, uO, uF, uT, uD]
 have hzz := HZZ.out
 clear HZZ HW1 HP
 cases hot : (ot.toList == [])
 ·skip
  have HZ : Hid (z = 101) := hid (by rw [hzz, fm_doc]; simp [isF, isF5, uN, uO, uF, uT, uD, empS, *])
  clear hzz
  go_wp2_with (first | (go_at_call 28; with_reducible refine (HNm.out _).mono ?_; rintro e wn ⟨rfl, hwn⟩; have hwn := hwn.symm; subst hwn) | (go_at_call 28; with_reducible refine (HOt.out _).mono ?_; rintro e wn ⟨rfl, hwn⟩; have hwn := hwn.symm; subst hwn))
  go_ret
  exact ⟨by rw [HZ.out]; rfl, HB3.out⟩
 ·skip
  by_cases htt : tt = 0
  ·have htt1 : (tt == 0) = true := by simpa using htt
   have htt2 : (tt != 0) = false := by simpa using htt
   clear htt
   cases hNnm : nmB nm
   ·rw [hNnm] at HNm
    have HZ : Hid (z = 102) := hid (by rw [hzz, fm_doc]; simp [isF, isF5, uN, uO, uF, uT, uD, empS, *])
    clear hzz
    go_wp2_with (first | (go_at_call 28; with_reducible refine (HNm.out _).mono ?_; rintro e wn ⟨rfl, hwn⟩; have hwn := hwn.symm; subst hwn) | (go_at_call 28; with_reducible refine (HOt.out _).mono ?_; rintro e wn ⟨rfl, hwn⟩; have hwn := hwn.symm; subst hwn))
    go_ret
    exact ⟨by rw [HZ.out]; rfl, HB3.out⟩
   ·rw [hNnm] at HNm
    by_cases hd5 : dn = 512
    ·subst hd5
     have HZ : Hid (z = 0) := hid (by rw [hzz, fm_doc]; simp [isF, isF5, uN, uO, uF, uT, uD, empS, *])
     clear hzz
     go_wp2_with (first | (go_at_call 28; with_reducible refine (HNm.out _).mono ?_; rintro e wn ⟨rfl, hwn⟩; have hwn := hwn.symm; subst hwn) | (go_at_call 28; with_reducible refine (HOt.out _).mono ?_; rintro e wn ⟨rfl, hwn⟩; have hwn := hwn.symm; subst hwn))
     go_ret
     exact ⟨by rw [HZ.out]; rfl, HB3.out⟩
    ·have hd6 : ((dn : Int) != 512) = true := by simp; omega
     have HZ : Hid (z = 103) := hid (by rw [hzz, fm_doc]; simp [isF, isF5, uN, uO, uF, uT, uD, empS, *])
     clear hzz
     go_wp2_with (first | (go_at_call 28; with_reducible refine (HNm.out _).mono ?_; rintro e wn ⟨rfl, hwn⟩; have hwn := hwn.symm; subst hwn) | (go_at_call 28; with_reducible refine (HOt.out _).mono ?_; rintro e wn ⟨rfl, hwn⟩; have hwn := hwn.symm; subst hwn))
     go_ret
     exact ⟨by rw [HZ.out]; rfl, HB3.out⟩
  ·have htt1 : (tt == 0) = false := by simpa using htt
   have htt2 : (tt != 0) = true := by simpa using htt
   clear htt
   have HZ : Hid (z = 101) := hid (by rw [hzz, fm_doc]; simp [isF, isF5, uN, uO, uF, uT, uD, empS, *])
   clear hzz
   go_wp2_with (first | (go_at_call 28; with_reducible refine (HNm.out _).mono ?_; rintro e wn ⟨rfl, hwn⟩; have hwn := hwn.symm; subst hwn) | (go_at_call 28; with_reducible refine (HOt.out _).mono ?_; rintro e wn ⟨rfl, hwn⟩; have hwn := hwn.symm; subst hwn))
   go_ret
   exact ⟨by rw [HZ.out]; rfl, HB3.out⟩
set_option maxRecDepth 100000 in
set_option maxHeartbeats 8000000 in
theorem form_9 (nm ot : ByteArray) (fr tt : Int) (a : Option Addr) (dn c : Nat) (w : World) (hs1 : nm.size ≤ 16777216) (hs2 : ot.size ≤ 16777216) :
  Calls Tryz.prog 79 #[opA ⟨9, nm, ot, fr, tt⟩ a dn c] w fun e w' => LkQ w (fmE ⟨9, nm, ot, fr, tt⟩ dn) e w' := by
 obtain ⟨P, hP⟩ : ∃ P, P = w.heap.size := ⟨_, rfl⟩
 obtain ⟨W1, hW1⟩ : ∃ W1, W1 = w.alloc (.cells #[.int .i64 9, .string nm, .string ot, .int .i64 fr, .int .i64 tt, .slice a dn c] 42) := ⟨_, rfl⟩
 have b1 : Below w.heap.size w W1 := by rw [hW1]; exact below1 _ _
 have hO : W1.heap[P]? = some (.cells #[.int .i64 9, .string nm, .string ot, .int .i64 fr, .int .i64 tt, .slice a dn c] 42 (0, 0)) := by rw [hW1, hP]; exact heap_new _ _
 have HU := hid (uses_any 9 (by decide) (by decide) W1)
 have HNm := hid (fun u => Named_s nm hs1 u)
 have HOt := hid (fun u => Named_s ot hs2 u)
 obtain ⟨z, hzz⟩ : ∃ z, z = fmE ⟨9, nm, ot, fr, tt⟩ dn := ⟨_, rfl⟩
 rw [← hzz]
 have HP := hid hP.symm
 have HW1 := hid hW1
 have HB1 := hid b1
 have HO := hid hO
 obtain ⟨c0, c1, c2, c3, c4, c5⟩ : W1.cell? ⟨P, 0, none⟩ = some (.int .i64 9) ∧ W1.cell? ⟨P, 1, none⟩ = some (.string nm) ∧ W1.cell? ⟨P, 2, none⟩ = some (.string ot) ∧ W1.cell? ⟨P, 3, none⟩ = some (.int .i64 fr) ∧ W1.cell? ⟨P, 4, none⟩ = some (.int .i64 tt) ∧ W1.cell? ⟨P, 5, none⟩ = some (.slice a dn c) := by simp [World.cell?, hO]
 rw [hW1] at c0
 clear hP hW1 b1 hO hs1 hs2
 dsimp only [opA]
 have HZZ := hid hzz
 clear hzz
 have c0' := c0
 rw [← HW1.out] at c0'
 go_enter Tryz.func79, Tryz.ntmps79
 go_wp2_with fail
 rw [← HW1.out]
 try rw [HP.out]
 refine HU.out.mono ?_
 rintro e w2 ⟨rfl, hb2⟩
 obtain ⟨X, hX⟩ : ∃ X, X = w2.heap.size := ⟨_, rfl⟩
 obtain ⟨W3, hW3⟩ : ∃ W3, W3 = w2.alloc (.cells #[.bool true, .bool false, .bool true, .bool true, .bool false] 118) := ⟨_, rfl⟩
 have b3 : Below w2.heap.size w2 W3 := by rw [hW3]; exact below1 _ _
 have hX3 : W3.heap[X]? = some (.cells #[.bool true, .bool false, .bool true, .bool true, .bool false] 118 (0, 0)) := by rw [hW3, hX]; exact heap_new _ _
 have hPl := (Array.getElem?_eq_some_iff.1 HO.out).1
 have hO3 : W3.heap[P]? = some (.cells #[.int .i64 9, .string nm, .string ot, .int .i64 fr, .int .i64 tt, .slice a dn c] 42 (0, 0)) := (b3.block P (Nat.lt_of_lt_of_le hPl hb2.size)).trans ((hb2.block P hPl).trans HO.out)
 have HB3 := hid (HB1.out.trans ((hb2.mono HB1.out.size).trans (b3.mono (Nat.le_trans HB1.out.size hb2.size))))
 obtain ⟨d0, d1, d2, d3, d4, d5⟩ : W3.cell? ⟨P, 0, none⟩ = some (.int .i64 9) ∧ W3.cell? ⟨P, 1, none⟩ = some (.string nm) ∧ W3.cell? ⟨P, 2, none⟩ = some (.string ot) ∧ W3.cell? ⟨P, 3, none⟩ = some (.int .i64 fr) ∧ W3.cell? ⟨P, 4, none⟩ = some (.int .i64 tt) ∧ W3.cell? ⟨P, 5, none⟩ = some (.slice a dn c) := by simp [World.cell?, hO3]
 obtain ⟨x0, x1, x2, x3, x4⟩ : W3.cell? ⟨X, 0, none⟩ = some (.bool true) ∧ W3.cell? ⟨X, 1, none⟩ = some (.bool false) ∧ W3.cell? ⟨X, 2, none⟩ = some (.bool true) ∧ W3.cell? ⟨X, 3, none⟩ = some (.bool true) ∧ W3.cell? ⟨X, 4, none⟩ = some (.bool false) := by simp [World.cell?, hX3]
 rw [hW3] at d0 d1 d2 d3 d4 d5 x0 x1 x2 x3 x4
 rw [hX] at x0 x1 x2 x3 x4
 rw [hW3] at HB3
 clear hW3 hX b3 hX3 hPl hO3 hb2 c0 c1 c2 c3 c4 c5 c0' HU HO HB1
 dsimp only [uN, uO, uF, uT, uD]
 have hzz := HZZ.out
 clear HZZ HW1 HP
 cases hot : (ot.toList == [])
 ·skip
  have HZ : Hid (z = 101) := hid (by rw [hzz, fm_doc]; simp [isF, isF5, uN, uO, uF, uT, uD, empS, *])
  clear hzz
  go_wp2_with (first | (go_at_call 28; with_reducible refine (HNm.out _).mono ?_; rintro e wn ⟨rfl, hwn⟩; have hwn := hwn.symm; subst hwn) | (go_at_call 28; with_reducible refine (HOt.out _).mono ?_; rintro e wn ⟨rfl, hwn⟩; have hwn := hwn.symm; subst hwn))
  go_ret
  exact ⟨by rw [HZ.out]; rfl, HB3.out⟩
 ·skip
  by_cases hda : dn = 0
  ·subst hda
   cases hNnm : nmB nm
   ·rw [hNnm] at HNm
    have HZ : Hid (z = 102) := hid (by rw [hzz, fm_doc]; simp [isF, isF5, uN, uO, uF, uT, uD, empS, *])
    clear hzz
    go_wp2_with (first | (go_at_call 28; with_reducible refine (HNm.out _).mono ?_; rintro e wn ⟨rfl, hwn⟩; have hwn := hwn.symm; subst hwn) | (go_at_call 28; with_reducible refine (HOt.out _).mono ?_; rintro e wn ⟨rfl, hwn⟩; have hwn := hwn.symm; subst hwn))
    go_ret
    exact ⟨by rw [HZ.out]; rfl, HB3.out⟩
   ·rw [hNnm] at HNm
    have HZ : Hid (z = 0) := hid (by rw [hzz, fm_doc]; simp [isF, isF5, uN, uO, uF, uT, uD, empS, *])
    clear hzz
    go_wp2_with (first | (go_at_call 28; with_reducible refine (HNm.out _).mono ?_; rintro e wn ⟨rfl, hwn⟩; have hwn := hwn.symm; subst hwn) | (go_at_call 28; with_reducible refine (HOt.out _).mono ?_; rintro e wn ⟨rfl, hwn⟩; have hwn := hwn.symm; subst hwn))
    go_ret
    exact ⟨by rw [HZ.out]; rfl, HB3.out⟩
  ·have hda1 : (0 : Int) < (dn : Int) := by omega
   have hda2 : ((dn : Int) == 0) = false := by simp; omega
   have hda3 : 0 < dn := by omega
   have HZ : Hid (z = 101) := hid (by rw [hzz, fm_doc]; simp [isF, isF5, uN, uO, uF, uT, uD, empS, *])
   clear hzz
   go_wp2_with (first | (go_at_call 28; with_reducible refine (HNm.out _).mono ?_; rintro e wn ⟨rfl, hwn⟩; have hwn := hwn.symm; subst hwn) | (go_at_call 28; with_reducible refine (HOt.out _).mono ?_; rintro e wn ⟨rfl, hwn⟩; have hwn := hwn.symm; subst hwn))
   go_ret
   exact ⟨by rw [HZ.out]; rfl, HB3.out⟩
set_option maxRecDepth 100000 in
set_option maxHeartbeats 8000000 in
theorem form_10 (nm ot : ByteArray) (fr tt : Int) (a : Option Addr) (dn c : Nat) (w : World) (hs1 : nm.size ≤ 16777216) (hs2 : ot.size ≤ 16777216) :
  Calls Tryz.prog 79 #[opA ⟨10, nm, ot, fr, tt⟩ a dn c] w fun e w' => LkQ w (fmE ⟨10, nm, ot, fr, tt⟩ dn) e w' := by
 obtain ⟨P, hP⟩ : ∃ P, P = w.heap.size := ⟨_, rfl⟩
 obtain ⟨W1, hW1⟩ : ∃ W1, W1 = w.alloc (.cells #[.int .i64 10, .string nm, .string ot, .int .i64 fr, .int .i64 tt, .slice a dn c] 42) := ⟨_, rfl⟩
 have b1 : Below w.heap.size w W1 := by rw [hW1]; exact below1 _ _
 have hO : W1.heap[P]? = some (.cells #[.int .i64 10, .string nm, .string ot, .int .i64 fr, .int .i64 tt, .slice a dn c] 42 (0, 0)) := by rw [hW1, hP]; exact heap_new _ _
 have HU := hid (uses_any 10 (by decide) (by decide) W1)
 have HNm := hid (fun u => Named_s nm hs1 u)
 have HOt := hid (fun u => Named_s ot hs2 u)
 obtain ⟨z, hzz⟩ : ∃ z, z = fmE ⟨10, nm, ot, fr, tt⟩ dn := ⟨_, rfl⟩
 rw [← hzz]
 have HP := hid hP.symm
 have HW1 := hid hW1
 have HB1 := hid b1
 have HO := hid hO
 obtain ⟨c0, c1, c2, c3, c4, c5⟩ : W1.cell? ⟨P, 0, none⟩ = some (.int .i64 10) ∧ W1.cell? ⟨P, 1, none⟩ = some (.string nm) ∧ W1.cell? ⟨P, 2, none⟩ = some (.string ot) ∧ W1.cell? ⟨P, 3, none⟩ = some (.int .i64 fr) ∧ W1.cell? ⟨P, 4, none⟩ = some (.int .i64 tt) ∧ W1.cell? ⟨P, 5, none⟩ = some (.slice a dn c) := by simp [World.cell?, hO]
 rw [hW1] at c0
 clear hP hW1 b1 hO hs1 hs2
 dsimp only [opA]
 have HZZ := hid hzz
 clear hzz
 have c0' := c0
 rw [← HW1.out] at c0'
 go_enter Tryz.func79, Tryz.ntmps79
 go_wp2_with fail
 rw [← HW1.out]
 try rw [HP.out]
 refine HU.out.mono ?_
 rintro e w2 ⟨rfl, hb2⟩
 obtain ⟨X, hX⟩ : ∃ X, X = w2.heap.size := ⟨_, rfl⟩
 obtain ⟨W3, hW3⟩ : ∃ W3, W3 = w2.alloc (.cells #[.bool true, .bool false, .bool true, .bool true, .bool false] 118) := ⟨_, rfl⟩
 have b3 : Below w2.heap.size w2 W3 := by rw [hW3]; exact below1 _ _
 have hX3 : W3.heap[X]? = some (.cells #[.bool true, .bool false, .bool true, .bool true, .bool false] 118 (0, 0)) := by rw [hW3, hX]; exact heap_new _ _
 have hPl := (Array.getElem?_eq_some_iff.1 HO.out).1
 have hO3 : W3.heap[P]? = some (.cells #[.int .i64 10, .string nm, .string ot, .int .i64 fr, .int .i64 tt, .slice a dn c] 42 (0, 0)) := (b3.block P (Nat.lt_of_lt_of_le hPl hb2.size)).trans ((hb2.block P hPl).trans HO.out)
 have HB3 := hid (HB1.out.trans ((hb2.mono HB1.out.size).trans (b3.mono (Nat.le_trans HB1.out.size hb2.size))))
 obtain ⟨d0, d1, d2, d3, d4, d5⟩ : W3.cell? ⟨P, 0, none⟩ = some (.int .i64 10) ∧ W3.cell? ⟨P, 1, none⟩ = some (.string nm) ∧ W3.cell? ⟨P, 2, none⟩ = some (.string ot) ∧ W3.cell? ⟨P, 3, none⟩ = some (.int .i64 fr) ∧ W3.cell? ⟨P, 4, none⟩ = some (.int .i64 tt) ∧ W3.cell? ⟨P, 5, none⟩ = some (.slice a dn c) := by simp [World.cell?, hO3]
 obtain ⟨x0, x1, x2, x3, x4⟩ : W3.cell? ⟨X, 0, none⟩ = some (.bool true) ∧ W3.cell? ⟨X, 1, none⟩ = some (.bool false) ∧ W3.cell? ⟨X, 2, none⟩ = some (.bool true) ∧ W3.cell? ⟨X, 3, none⟩ = some (.bool true) ∧ W3.cell? ⟨X, 4, none⟩ = some (.bool false) := by simp [World.cell?, hX3]
 rw [hW3] at d0 d1 d2 d3 d4 d5 x0 x1 x2 x3 x4
 rw [hX] at x0 x1 x2 x3 x4
 rw [hW3] at HB3
 clear hW3 hX b3 hX3 hPl hO3 hb2 c0 c1 c2 c3 c4 c5 c0' HU HO HB1
 dsimp only [uN, uO, uF, uT, uD]
 have hzz := HZZ.out
 clear HZZ HW1 HP
 cases hot : (ot.toList == [])
 ·skip
  have HZ : Hid (z = 101) := hid (by rw [hzz, fm_doc]; simp [isF, isF5, uN, uO, uF, uT, uD, empS, *])
  clear hzz
  go_wp2_with (first | (go_at_call 28; with_reducible refine (HNm.out _).mono ?_; rintro e wn ⟨rfl, hwn⟩; have hwn := hwn.symm; subst hwn) | (go_at_call 28; with_reducible refine (HOt.out _).mono ?_; rintro e wn ⟨rfl, hwn⟩; have hwn := hwn.symm; subst hwn))
  go_ret
  exact ⟨by rw [HZ.out]; rfl, HB3.out⟩
 ·skip
  by_cases hda : dn = 0
  ·subst hda
   cases hNnm : nmB nm
   ·rw [hNnm] at HNm
    have HZ : Hid (z = 102) := hid (by rw [hzz, fm_doc]; simp [isF, isF5, uN, uO, uF, uT, uD, empS, *])
    clear hzz
    go_wp2_with (first | (go_at_call 28; with_reducible refine (HNm.out _).mono ?_; rintro e wn ⟨rfl, hwn⟩; have hwn := hwn.symm; subst hwn) | (go_at_call 28; with_reducible refine (HOt.out _).mono ?_; rintro e wn ⟨rfl, hwn⟩; have hwn := hwn.symm; subst hwn))
    go_ret
    exact ⟨by rw [HZ.out]; rfl, HB3.out⟩
   ·rw [hNnm] at HNm
    have HZ : Hid (z = 0) := hid (by rw [hzz, fm_doc]; simp [isF, isF5, uN, uO, uF, uT, uD, empS, *])
    clear hzz
    go_wp2_with (first | (go_at_call 28; with_reducible refine (HNm.out _).mono ?_; rintro e wn ⟨rfl, hwn⟩; have hwn := hwn.symm; subst hwn) | (go_at_call 28; with_reducible refine (HOt.out _).mono ?_; rintro e wn ⟨rfl, hwn⟩; have hwn := hwn.symm; subst hwn))
    go_ret
    exact ⟨by rw [HZ.out]; rfl, HB3.out⟩
  ·have hda1 : (0 : Int) < (dn : Int) := by omega
   have hda2 : ((dn : Int) == 0) = false := by simp; omega
   have hda3 : 0 < dn := by omega
   have HZ : Hid (z = 101) := hid (by rw [hzz, fm_doc]; simp [isF, isF5, uN, uO, uF, uT, uD, empS, *])
   clear hzz
   go_wp2_with (first | (go_at_call 28; with_reducible refine (HNm.out _).mono ?_; rintro e wn ⟨rfl, hwn⟩; have hwn := hwn.symm; subst hwn) | (go_at_call 28; with_reducible refine (HOt.out _).mono ?_; rintro e wn ⟨rfl, hwn⟩; have hwn := hwn.symm; subst hwn))
   go_ret
   exact ⟨by rw [HZ.out]; rfl, HB3.out⟩
set_option maxRecDepth 100000 in
set_option maxHeartbeats 8000000 in
theorem form_11 (nm ot : ByteArray) (fr tt : Int) (a : Option Addr) (dn c : Nat) (w : World) (hs1 : nm.size ≤ 16777216) (hs2 : ot.size ≤ 16777216) :
  Calls Tryz.prog 79 #[opA ⟨11, nm, ot, fr, tt⟩ a dn c] w fun e w' => LkQ w (fmE ⟨11, nm, ot, fr, tt⟩ dn) e w' := by
 obtain ⟨P, hP⟩ : ∃ P, P = w.heap.size := ⟨_, rfl⟩
 obtain ⟨W1, hW1⟩ : ∃ W1, W1 = w.alloc (.cells #[.int .i64 11, .string nm, .string ot, .int .i64 fr, .int .i64 tt, .slice a dn c] 42) := ⟨_, rfl⟩
 have b1 : Below w.heap.size w W1 := by rw [hW1]; exact below1 _ _
 have hO : W1.heap[P]? = some (.cells #[.int .i64 11, .string nm, .string ot, .int .i64 fr, .int .i64 tt, .slice a dn c] 42 (0, 0)) := by rw [hW1, hP]; exact heap_new _ _
 have HU := hid (uses_any 11 (by decide) (by decide) W1)
 have HNm := hid (fun u => Named_s nm hs1 u)
 have HOt := hid (fun u => Named_s ot hs2 u)
 obtain ⟨z, hzz⟩ : ∃ z, z = fmE ⟨11, nm, ot, fr, tt⟩ dn := ⟨_, rfl⟩
 rw [← hzz]
 have HP := hid hP.symm
 have HW1 := hid hW1
 have HB1 := hid b1
 have HO := hid hO
 obtain ⟨c0, c1, c2, c3, c4, c5⟩ : W1.cell? ⟨P, 0, none⟩ = some (.int .i64 11) ∧ W1.cell? ⟨P, 1, none⟩ = some (.string nm) ∧ W1.cell? ⟨P, 2, none⟩ = some (.string ot) ∧ W1.cell? ⟨P, 3, none⟩ = some (.int .i64 fr) ∧ W1.cell? ⟨P, 4, none⟩ = some (.int .i64 tt) ∧ W1.cell? ⟨P, 5, none⟩ = some (.slice a dn c) := by simp [World.cell?, hO]
 rw [hW1] at c0
 clear hP hW1 b1 hO hs1 hs2
 dsimp only [opA]
 have HZZ := hid hzz
 clear hzz
 have c0' := c0
 rw [← HW1.out] at c0'
 go_enter Tryz.func79, Tryz.ntmps79
 go_wp2_with fail
 rw [← HW1.out]
 try rw [HP.out]
 refine HU.out.mono ?_
 rintro e w2 ⟨rfl, hb2⟩
 obtain ⟨X, hX⟩ : ∃ X, X = w2.heap.size := ⟨_, rfl⟩
 obtain ⟨W3, hW3⟩ : ∃ W3, W3 = w2.alloc (.cells #[.bool false, .bool false, .bool false, .bool true, .bool false] 118) := ⟨_, rfl⟩
 have b3 : Below w2.heap.size w2 W3 := by rw [hW3]; exact below1 _ _
 have hX3 : W3.heap[X]? = some (.cells #[.bool false, .bool false, .bool false, .bool true, .bool false] 118 (0, 0)) := by rw [hW3, hX]; exact heap_new _ _
 have hPl := (Array.getElem?_eq_some_iff.1 HO.out).1
 have hO3 : W3.heap[P]? = some (.cells #[.int .i64 11, .string nm, .string ot, .int .i64 fr, .int .i64 tt, .slice a dn c] 42 (0, 0)) := (b3.block P (Nat.lt_of_lt_of_le hPl hb2.size)).trans ((hb2.block P hPl).trans HO.out)
 have HB3 := hid (HB1.out.trans ((hb2.mono HB1.out.size).trans (b3.mono (Nat.le_trans HB1.out.size hb2.size))))
 obtain ⟨d0, d1, d2, d3, d4, d5⟩ : W3.cell? ⟨P, 0, none⟩ = some (.int .i64 11) ∧ W3.cell? ⟨P, 1, none⟩ = some (.string nm) ∧ W3.cell? ⟨P, 2, none⟩ = some (.string ot) ∧ W3.cell? ⟨P, 3, none⟩ = some (.int .i64 fr) ∧ W3.cell? ⟨P, 4, none⟩ = some (.int .i64 tt) ∧ W3.cell? ⟨P, 5, none⟩ = some (.slice a dn c) := by simp [World.cell?, hO3]
 obtain ⟨x0, x1, x2, x3, x4⟩ : W3.cell? ⟨X, 0, none⟩ = some (.bool false) ∧ W3.cell? ⟨X, 1, none⟩ = some (.bool false) ∧ W3.cell? ⟨X, 2, none⟩ = some (.bool false) ∧ W3.cell? ⟨X, 3, none⟩ = some (.bool true) ∧ W3.cell? ⟨X, 4, none⟩ = some (.bool false) := by simp [World.cell?, hX3]
 rw [hW3] at d0 d1 d2 d3 d4 d5 x0 x1 x2 x3 x4
 rw [hX] at x0 x1 x2 x3 x4
 rw [hW3] at HB3
 clear hW3 hX b3 hX3 hPl hO3 hb2 c0 c1 c2 c3 c4 c5 c0' HU HO HB1
 dsimp only [uN, uO, uF, uT, uD]
 have hzz := HZZ.out
 clear HZZ HW1 HP
 cases hnm : (nm.toList == [])
 ·skip
  have HZ : Hid (z = 101) := hid (by rw [hzz, fm_doc]; simp [isF, isF5, uN, uO, uF, uT, uD, empS, *])
  clear hzz
  go_wp2_with (first | (go_at_call 28; with_reducible refine (HNm.out _).mono ?_; rintro e wn ⟨rfl, hwn⟩; have hwn := hwn.symm; subst hwn) | (go_at_call 28; with_reducible refine (HOt.out _).mono ?_; rintro e wn ⟨rfl, hwn⟩; have hwn := hwn.symm; subst hwn))
  go_ret
  exact ⟨by rw [HZ.out]; rfl, HB3.out⟩
 ·skip
  cases hot : (ot.toList == [])
  ·skip
   have HZ : Hid (z = 101) := hid (by rw [hzz, fm_doc]; simp [isF, isF5, uN, uO, uF, uT, uD, empS, *])
   clear hzz
   go_wp2_with (first | (go_at_call 28; with_reducible refine (HNm.out _).mono ?_; rintro e wn ⟨rfl, hwn⟩; have hwn := hwn.symm; subst hwn) | (go_at_call 28; with_reducible refine (HOt.out _).mono ?_; rintro e wn ⟨rfl, hwn⟩; have hwn := hwn.symm; subst hwn))
   go_ret
   exact ⟨by rw [HZ.out]; rfl, HB3.out⟩
  ·skip
   by_cases hfr : fr = 0
   ·have hfr1 : (fr == 0) = true := by simpa using hfr
    have hfr2 : (fr != 0) = false := by simpa using hfr
    clear hfr
    by_cases hda : dn = 0
    ·subst hda
     have HZ : Hid (z = 0) := hid (by rw [hzz, fm_doc]; simp [isF, isF5, uN, uO, uF, uT, uD, empS, *])
     clear hzz
     go_wp2_with (first | (go_at_call 28; with_reducible refine (HNm.out _).mono ?_; rintro e wn ⟨rfl, hwn⟩; have hwn := hwn.symm; subst hwn) | (go_at_call 28; with_reducible refine (HOt.out _).mono ?_; rintro e wn ⟨rfl, hwn⟩; have hwn := hwn.symm; subst hwn))
     go_ret
     exact ⟨by rw [HZ.out]; rfl, HB3.out⟩
    ·have hda1 : (0 : Int) < (dn : Int) := by omega
     have hda2 : ((dn : Int) == 0) = false := by simp; omega
     have hda3 : 0 < dn := by omega
     have HZ : Hid (z = 101) := hid (by rw [hzz, fm_doc]; simp [isF, isF5, uN, uO, uF, uT, uD, empS, *])
     clear hzz
     go_wp2_with (first | (go_at_call 28; with_reducible refine (HNm.out _).mono ?_; rintro e wn ⟨rfl, hwn⟩; have hwn := hwn.symm; subst hwn) | (go_at_call 28; with_reducible refine (HOt.out _).mono ?_; rintro e wn ⟨rfl, hwn⟩; have hwn := hwn.symm; subst hwn))
     go_ret
     exact ⟨by rw [HZ.out]; rfl, HB3.out⟩
   ·have hfr1 : (fr == 0) = false := by simpa using hfr
    have hfr2 : (fr != 0) = true := by simpa using hfr
    clear hfr
    have HZ : Hid (z = 101) := hid (by rw [hzz, fm_doc]; simp [isF, isF5, uN, uO, uF, uT, uD, empS, *])
    clear hzz
    go_wp2_with (first | (go_at_call 28; with_reducible refine (HNm.out _).mono ?_; rintro e wn ⟨rfl, hwn⟩; have hwn := hwn.symm; subst hwn) | (go_at_call 28; with_reducible refine (HOt.out _).mono ?_; rintro e wn ⟨rfl, hwn⟩; have hwn := hwn.symm; subst hwn))
    go_ret
    exact ⟨by rw [HZ.out]; rfl, HB3.out⟩
end Go.Proofs.YtddddfankeepkaaGreatDoor
