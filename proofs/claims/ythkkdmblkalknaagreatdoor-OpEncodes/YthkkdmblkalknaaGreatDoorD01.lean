import Derived.Test.YthkkdmblkalknaaGreatDoorD00
/-
  The document's bytes of an operation.
-/
namespace Go.Proofs.YthkkdmblkalknaaGreatDoor
open Go.RowKit

set_option maxRecDepth 100000 in
set_option maxHeartbeats 4000000 in
theorem bytes_4 (o : PO) (a : Option Addr) (c : Nat) (w : World) (hk : o.k = 4) (hF : CkF 4 o) (hR : Rd w.heap.size w a o.da.length o.da) (ha : a = none → c = 0) :
    Calls Tryz.prog 84 #[opV o.k o.nm o.ot o.fr o.to a o.da.length c] w (ByP w o) := by
  have hck := hF.ok
  have HD := hid (hF.e5 rfl)
  have n1 : (o.nm.size : Int) % 256 = (o.nm.size : Int) := by have := hck.nm; omega
  have n2 : (o.ot.size : Int) % 256 = (o.ot.size : Int) := by have := hck.ot; omega
  have hnm := hck.nm
  have hot := hck.ot
  have l1 := nums_len o.nm
  have l2 := nums_len o.ot
  have l3 : (Pl.dig o.fr 4).length = 4 := rfl
  have l4 : (Pl.dig o.to 4).length = 4 := rfl
  have hdn := hck.n
  rw [hk]
  obtain ⟨W0, hW0⟩ : ∃ W0, W0 = (w.alloc (.cells #[.int .i64 4, .string o.nm, .string o.ot, .int .i64 o.fr, .int .i64 o.to, .slice a o.da.length c] 29)).alloc (.cells #[.int .u8 4] 5) := ⟨_, rfl⟩
  have b0 : Below w.heap.size w W0 := by rw [hW0]; exact ((Below.refl _ _).alloc (Nat.le_refl _) _).alloc (by simp) _
  have z0 : W0.heap.size = w.heap.size + 2 := by rw [hW0]; simp
  have q0 : By w o a c W0 (.slice (some ⟨w.heap.size + 1, 0, none⟩) 1 1) [4] := by
    refine ⟨?_, ?_, b0, by omega⟩
    · unfold OpB
      rw [hW0, Below.heap_alloc _ _ _ (by simp), hk]
      exact heap_new _ _
    · have := own_oneB (w.alloc (.cells #[.int .i64 4, .string o.nm, .string o.ot, .int .i64 o.fr, .int .i64 o.to, .slice a o.da.length c] 29)) 4
      rw [World.size_alloc, ← hW0] at this
      exact this
  have U78 := hid (uses_lit 4 78 true (by decide))
  have U79 := hid (uses_lit 4 79 false (by decide))
  have U70 := hid (uses_lit 4 70 false (by decide))
  have U84 := hid (uses_lit 4 84 true (by decide))
  have HR := hid hR
  have HA := hid ha
  have HK := hid hk
  have HW0 := hid hW0
  have hf0 := hck.f0
  have hf1 := hck.f1
  have ht0 := hck.t0
  have ht1 := hck.t1
  clear hF hR ha hck hW0 b0 z0 hk
  generalize hPO : ByP w o = PO
  have HPO := hid hPO
  clear hPO
  go_enter Tryz.func84, Tryz.ntmps84
  go_wp2_with fail
  rw [← HW0.out]
  clear HW0
  refine (U78.out _).mono ?_
  rintro e wu ⟨rfl, hwu⟩
  rw [hwu]
  clear hwu wu
  obtain ⟨c0_0, c0_1, c0_2, c0_3, c0_4, c0_5⟩ := q0.cells
  rw [HK.out] at c0_0
  obtain ⟨va1, vn1, vc1, w1, r1, q1⟩ := q0.one (o.nm.size : Int) (by omega) (by simp; try omega)
  obtain ⟨c1_0, c1_1, c1_2, c1_3, c1_4, c1_5⟩ := q1.cells
  rw [HK.out] at c1_0
  obtain ⟨va2, vn2, vc2, w2, r2, q2⟩ := q1.str o.nm (by omega) (by simp; try omega)
  obtain ⟨c2_0, c2_1, c2_2, c2_3, c2_4, c2_5⟩ := q2.cells
  rw [HK.out] at c2_0
  have Hq0 := hid q0
  clear q0
  have Hq1 := hid q1
  clear q1
  have Hq2 := hid q2
  clear q2
  go_wp2_with (first | (at_builtin; refine Lib.wpList_append_run _ rfl _ _ _ _ rfl _ _ rfl rfl _ _ r1 ?_) | (at_builtin; refine Lib.wpList_append_run _ rfl _ _ _ _ rfl _ _ rfl rfl _ _ r2 ?_) | fail)
  have q2 := Hq2.out
  clear Hq0 Hq1 Hq2
  refine (U79.out _).mono ?_
  rintro e wu ⟨rfl, hwu⟩
  rw [hwu]
  clear hwu wu
  have Hq2 := hid q2
  clear q2
  go_wp2_with fail
  have q2 := Hq2.out
  clear Hq2
  refine (U70.out _).mono ?_
  rintro e wu ⟨rfl, hwu⟩
  rw [hwu]
  clear hwu wu
  have Hq2 := hid q2
  clear q2
  go_wp2_with fail
  have q2 := Hq2.out
  clear Hq2
  refine (U84.out _).mono ?_
  rintro e wu ⟨rfl, hwu⟩
  rw [hwu]
  clear hwu wu
  have H4 := hid (q2.four o.to ht0 (by omega) (by simp; try omega))
  have Hq2 := hid q2
  clear q2
  go_wp2_with fail
  have q2 := Hq2.out
  clear Hq2
  refine H4.out.mono ?_
  rintro e wf3 ⟨fa3, fc3, rfl, va3, vn3, vc3, w3, r3, q3⟩
  clear H4
  obtain ⟨c3_0, c3_1, c3_2, c3_3, c3_4, c3_5⟩ := q3.cells
  rw [HK.out] at c3_0
  obtain ⟨va4, vn4, vc4, w4, r4, q4⟩ := q3.app ((HR.out.below q3.bel).mono q3.bel.size) HA.out (by omega) (by simp; try omega)
  have HF : Hid (PO (.returned (.slice va4 vn4 vc4)) w4) := by
    show PO _ _
    rw [← HPO.out]
    exact q4.fin (enc_4 HK.out HD.out hnm hot)
  have Hq2 := hid q2
  clear q2
  have Hq3 := hid q3
  clear q3
  have Hq4 := hid q4
  clear q4
  go_wp2_with (first | (at_builtin; refine Lib.wpList_append_run _ rfl _ _ _ _ rfl _ _ rfl rfl _ _ r3 ?_) | (at_builtin; refine Lib.wpList_append_run _ rfl _ _ _ _ rfl _ _ rfl rfl _ _ r4 ?_) | fail)
  have q4 := Hq4.out
  clear Hq2 Hq3 Hq4
  exact HF.out
set_option maxRecDepth 100000 in
set_option maxHeartbeats 4000000 in
theorem bytes_5 (o : PO) (a : Option Addr) (c : Nat) (w : World) (hk : o.k = 5) (hF : CkF 5 o) (hR : Rd w.heap.size w a o.da.length o.da) (ha : a = none → c = 0) :
    Calls Tryz.prog 84 #[opV o.k o.nm o.ot o.fr o.to a o.da.length c] w (ByP w o) := by
  have hck := hF.ok
  have HD := hid (hF.e5 rfl)
  have n1 : (o.nm.size : Int) % 256 = (o.nm.size : Int) := by have := hck.nm; omega
  have n2 : (o.ot.size : Int) % 256 = (o.ot.size : Int) := by have := hck.ot; omega
  have hnm := hck.nm
  have hot := hck.ot
  have l1 := nums_len o.nm
  have l2 := nums_len o.ot
  have l3 : (Pl.dig o.fr 4).length = 4 := rfl
  have l4 : (Pl.dig o.to 4).length = 4 := rfl
  have hdn := hck.n
  rw [hk]
  obtain ⟨W0, hW0⟩ : ∃ W0, W0 = (w.alloc (.cells #[.int .i64 5, .string o.nm, .string o.ot, .int .i64 o.fr, .int .i64 o.to, .slice a o.da.length c] 29)).alloc (.cells #[.int .u8 5] 5) := ⟨_, rfl⟩
  have b0 : Below w.heap.size w W0 := by rw [hW0]; exact ((Below.refl _ _).alloc (Nat.le_refl _) _).alloc (by simp) _
  have z0 : W0.heap.size = w.heap.size + 2 := by rw [hW0]; simp
  have q0 : By w o a c W0 (.slice (some ⟨w.heap.size + 1, 0, none⟩) 1 1) [5] := by
    refine ⟨?_, ?_, b0, by omega⟩
    · unfold OpB
      rw [hW0, Below.heap_alloc _ _ _ (by simp), hk]
      exact heap_new _ _
    · have := own_oneB (w.alloc (.cells #[.int .i64 5, .string o.nm, .string o.ot, .int .i64 o.fr, .int .i64 o.to, .slice a o.da.length c] 29)) 5
      rw [World.size_alloc, ← hW0] at this
      exact this
  have U78 := hid (uses_lit 5 78 true (by decide))
  have U79 := hid (uses_lit 5 79 true (by decide))
  have U70 := hid (uses_lit 5 70 false (by decide))
  have U84 := hid (uses_lit 5 84 false (by decide))
  have HR := hid hR
  have HA := hid ha
  have HK := hid hk
  have HW0 := hid hW0
  have hf0 := hck.f0
  have hf1 := hck.f1
  have ht0 := hck.t0
  have ht1 := hck.t1
  clear hF hR ha hck hW0 b0 z0 hk
  generalize hPO : ByP w o = PO
  have HPO := hid hPO
  clear hPO
  go_enter Tryz.func84, Tryz.ntmps84
  go_wp2_with fail
  rw [← HW0.out]
  clear HW0
  refine (U78.out _).mono ?_
  rintro e wu ⟨rfl, hwu⟩
  rw [hwu]
  clear hwu wu
  obtain ⟨c0_0, c0_1, c0_2, c0_3, c0_4, c0_5⟩ := q0.cells
  rw [HK.out] at c0_0
  obtain ⟨va1, vn1, vc1, w1, r1, q1⟩ := q0.one (o.nm.size : Int) (by omega) (by simp; try omega)
  obtain ⟨c1_0, c1_1, c1_2, c1_3, c1_4, c1_5⟩ := q1.cells
  rw [HK.out] at c1_0
  obtain ⟨va2, vn2, vc2, w2, r2, q2⟩ := q1.str o.nm (by omega) (by simp; try omega)
  obtain ⟨c2_0, c2_1, c2_2, c2_3, c2_4, c2_5⟩ := q2.cells
  rw [HK.out] at c2_0
  have Hq0 := hid q0
  clear q0
  have Hq1 := hid q1
  clear q1
  have Hq2 := hid q2
  clear q2
  go_wp2_with (first | (at_builtin; refine Lib.wpList_append_run _ rfl _ _ _ _ rfl _ _ rfl rfl _ _ r1 ?_) | (at_builtin; refine Lib.wpList_append_run _ rfl _ _ _ _ rfl _ _ rfl rfl _ _ r2 ?_) | fail)
  have q2 := Hq2.out
  clear Hq0 Hq1 Hq2
  refine (U79.out _).mono ?_
  rintro e wu ⟨rfl, hwu⟩
  rw [hwu]
  clear hwu wu
  obtain ⟨va3, vn3, vc3, w3, r3, q3⟩ := q2.one (o.ot.size : Int) (by omega) (by simp; try omega)
  obtain ⟨c3_0, c3_1, c3_2, c3_3, c3_4, c3_5⟩ := q3.cells
  rw [HK.out] at c3_0
  obtain ⟨va4, vn4, vc4, w4, r4, q4⟩ := q3.str o.ot (by omega) (by simp; try omega)
  obtain ⟨c4_0, c4_1, c4_2, c4_3, c4_4, c4_5⟩ := q4.cells
  rw [HK.out] at c4_0
  have Hq2 := hid q2
  clear q2
  have Hq3 := hid q3
  clear q3
  have Hq4 := hid q4
  clear q4
  go_wp2_with (first | (at_builtin; refine Lib.wpList_append_run _ rfl _ _ _ _ rfl _ _ rfl rfl _ _ r3 ?_) | (at_builtin; refine Lib.wpList_append_run _ rfl _ _ _ _ rfl _ _ rfl rfl _ _ r4 ?_) | fail)
  have q4 := Hq4.out
  clear Hq2 Hq3 Hq4
  refine (U70.out _).mono ?_
  rintro e wu ⟨rfl, hwu⟩
  rw [hwu]
  clear hwu wu
  have Hq4 := hid q4
  clear q4
  go_wp2_with fail
  have q4 := Hq4.out
  clear Hq4
  refine (U84.out _).mono ?_
  rintro e wu ⟨rfl, hwu⟩
  rw [hwu]
  clear hwu wu
  obtain ⟨va5, vn5, vc5, w5, r5, q5⟩ := q4.app ((HR.out.below q4.bel).mono q4.bel.size) HA.out (by omega) (by simp; try omega)
  have HF : Hid (PO (.returned (.slice va5 vn5 vc5)) w5) := by
    show PO _ _
    rw [← HPO.out]
    exact q5.fin (enc_5 HK.out HD.out hnm hot)
  have Hq4 := hid q4
  clear q4
  have Hq5 := hid q5
  clear q5
  go_wp2_with (first | (at_builtin; refine Lib.wpList_append_run _ rfl _ _ _ _ rfl _ _ rfl rfl _ _ r5 ?_) | fail)
  have q5 := Hq5.out
  clear Hq4 Hq5
  exact HF.out
set_option maxRecDepth 100000 in
set_option maxHeartbeats 4000000 in
theorem bytes_6 (o : PO) (a : Option Addr) (c : Nat) (w : World) (hk : o.k = 6) (hF : CkF 6 o) (hR : Rd w.heap.size w a o.da.length o.da) (ha : a = none → c = 0) :
    Calls Tryz.prog 84 #[opV o.k o.nm o.ot o.fr o.to a o.da.length c] w (ByP w o) := by
  have hck := hF.ok
  have HD := hid (hF.e5 rfl)
  have n1 : (o.nm.size : Int) % 256 = (o.nm.size : Int) := by have := hck.nm; omega
  have n2 : (o.ot.size : Int) % 256 = (o.ot.size : Int) := by have := hck.ot; omega
  have hnm := hck.nm
  have hot := hck.ot
  have l1 := nums_len o.nm
  have l2 := nums_len o.ot
  have l3 : (Pl.dig o.fr 4).length = 4 := rfl
  have l4 : (Pl.dig o.to 4).length = 4 := rfl
  have hdn := hck.n
  rw [hk]
  obtain ⟨W0, hW0⟩ : ∃ W0, W0 = (w.alloc (.cells #[.int .i64 6, .string o.nm, .string o.ot, .int .i64 o.fr, .int .i64 o.to, .slice a o.da.length c] 29)).alloc (.cells #[.int .u8 6] 5) := ⟨_, rfl⟩
  have b0 : Below w.heap.size w W0 := by rw [hW0]; exact ((Below.refl _ _).alloc (Nat.le_refl _) _).alloc (by simp) _
  have z0 : W0.heap.size = w.heap.size + 2 := by rw [hW0]; simp
  have q0 : By w o a c W0 (.slice (some ⟨w.heap.size + 1, 0, none⟩) 1 1) [6] := by
    refine ⟨?_, ?_, b0, by omega⟩
    · unfold OpB
      rw [hW0, Below.heap_alloc _ _ _ (by simp), hk]
      exact heap_new _ _
    · have := own_oneB (w.alloc (.cells #[.int .i64 6, .string o.nm, .string o.ot, .int .i64 o.fr, .int .i64 o.to, .slice a o.da.length c] 29)) 6
      rw [World.size_alloc, ← hW0] at this
      exact this
  have U78 := hid (uses_lit 6 78 true (by decide))
  have U79 := hid (uses_lit 6 79 false (by decide))
  have U70 := hid (uses_lit 6 70 false (by decide))
  have U84 := hid (uses_lit 6 84 false (by decide))
  have HR := hid hR
  have HA := hid ha
  have HK := hid hk
  have HW0 := hid hW0
  have hf0 := hck.f0
  have hf1 := hck.f1
  have ht0 := hck.t0
  have ht1 := hck.t1
  clear hF hR ha hck hW0 b0 z0 hk
  generalize hPO : ByP w o = PO
  have HPO := hid hPO
  clear hPO
  go_enter Tryz.func84, Tryz.ntmps84
  go_wp2_with fail
  rw [← HW0.out]
  clear HW0
  refine (U78.out _).mono ?_
  rintro e wu ⟨rfl, hwu⟩
  rw [hwu]
  clear hwu wu
  obtain ⟨c0_0, c0_1, c0_2, c0_3, c0_4, c0_5⟩ := q0.cells
  rw [HK.out] at c0_0
  obtain ⟨va1, vn1, vc1, w1, r1, q1⟩ := q0.one (o.nm.size : Int) (by omega) (by simp; try omega)
  obtain ⟨c1_0, c1_1, c1_2, c1_3, c1_4, c1_5⟩ := q1.cells
  rw [HK.out] at c1_0
  obtain ⟨va2, vn2, vc2, w2, r2, q2⟩ := q1.str o.nm (by omega) (by simp; try omega)
  obtain ⟨c2_0, c2_1, c2_2, c2_3, c2_4, c2_5⟩ := q2.cells
  rw [HK.out] at c2_0
  have Hq0 := hid q0
  clear q0
  have Hq1 := hid q1
  clear q1
  have Hq2 := hid q2
  clear q2
  go_wp2_with (first | (at_builtin; refine Lib.wpList_append_run _ rfl _ _ _ _ rfl _ _ rfl rfl _ _ r1 ?_) | (at_builtin; refine Lib.wpList_append_run _ rfl _ _ _ _ rfl _ _ rfl rfl _ _ r2 ?_) | fail)
  have q2 := Hq2.out
  clear Hq0 Hq1 Hq2
  refine (U79.out _).mono ?_
  rintro e wu ⟨rfl, hwu⟩
  rw [hwu]
  clear hwu wu
  have Hq2 := hid q2
  clear q2
  go_wp2_with fail
  have q2 := Hq2.out
  clear Hq2
  refine (U70.out _).mono ?_
  rintro e wu ⟨rfl, hwu⟩
  rw [hwu]
  clear hwu wu
  have Hq2 := hid q2
  clear q2
  go_wp2_with fail
  have q2 := Hq2.out
  clear Hq2
  refine (U84.out _).mono ?_
  rintro e wu ⟨rfl, hwu⟩
  rw [hwu]
  clear hwu wu
  obtain ⟨va3, vn3, vc3, w3, r3, q3⟩ := q2.app ((HR.out.below q2.bel).mono q2.bel.size) HA.out (by omega) (by simp; try omega)
  have HF : Hid (PO (.returned (.slice va3 vn3 vc3)) w3) := by
    show PO _ _
    rw [← HPO.out]
    exact q3.fin (enc_6 HK.out HD.out hnm hot)
  have Hq2 := hid q2
  clear q2
  have Hq3 := hid q3
  clear q3
  go_wp2_with (first | (at_builtin; refine Lib.wpList_append_run _ rfl _ _ _ _ rfl _ _ rfl rfl _ _ r3 ?_) | fail)
  have q3 := Hq3.out
  clear Hq2 Hq3
  exact HF.out

end Go.Proofs.YthkkdmblkalknaaGreatDoor
/-
  The document's bytes of an operation.
-/
namespace Go.Proofs.YthkkdmblkalknaaGreatDoor
open Go.RowKit

set_option maxRecDepth 100000 in
set_option maxHeartbeats 4000000 in
theorem bytes_7 (o : PO) (a : Option Addr) (c : Nat) (w : World) (hk : o.k = 7) (hF : CkF 7 o) (hR : Rd w.heap.size w a o.da.length o.da) (ha : a = none → c = 0) :
    Calls Tryz.prog 84 #[opV o.k o.nm o.ot o.fr o.to a o.da.length c] w (ByP w o) := by
  have hck := hF.ok
  have HD := hid (hF.e5 rfl)
  have n1 : (o.nm.size : Int) % 256 = (o.nm.size : Int) := by have := hck.nm; omega
  have n2 : (o.ot.size : Int) % 256 = (o.ot.size : Int) := by have := hck.ot; omega
  have hnm := hck.nm
  have hot := hck.ot
  have l1 := nums_len o.nm
  have l2 := nums_len o.ot
  have l3 : (Pl.dig o.fr 4).length = 4 := rfl
  have l4 : (Pl.dig o.to 4).length = 4 := rfl
  have hdn := hck.n
  rw [hk]
  obtain ⟨W0, hW0⟩ : ∃ W0, W0 = (w.alloc (.cells #[.int .i64 7, .string o.nm, .string o.ot, .int .i64 o.fr, .int .i64 o.to, .slice a o.da.length c] 29)).alloc (.cells #[.int .u8 7] 5) := ⟨_, rfl⟩
  have b0 : Below w.heap.size w W0 := by rw [hW0]; exact ((Below.refl _ _).alloc (Nat.le_refl _) _).alloc (by simp) _
  have z0 : W0.heap.size = w.heap.size + 2 := by rw [hW0]; simp
  have q0 : By w o a c W0 (.slice (some ⟨w.heap.size + 1, 0, none⟩) 1 1) [7] := by
    refine ⟨?_, ?_, b0, by omega⟩
    · unfold OpB
      rw [hW0, Below.heap_alloc _ _ _ (by simp), hk]
      exact heap_new _ _
    · have := own_oneB (w.alloc (.cells #[.int .i64 7, .string o.nm, .string o.ot, .int .i64 o.fr, .int .i64 o.to, .slice a o.da.length c] 29)) 7
      rw [World.size_alloc, ← hW0] at this
      exact this
  have U78 := hid (uses_lit 7 78 true (by decide))
  have U79 := hid (uses_lit 7 79 true (by decide))
  have U70 := hid (uses_lit 7 70 false (by decide))
  have U84 := hid (uses_lit 7 84 false (by decide))
  have HR := hid hR
  have HA := hid ha
  have HK := hid hk
  have HW0 := hid hW0
  have hf0 := hck.f0
  have hf1 := hck.f1
  have ht0 := hck.t0
  have ht1 := hck.t1
  clear hF hR ha hck hW0 b0 z0 hk
  generalize hPO : ByP w o = PO
  have HPO := hid hPO
  clear hPO
  go_enter Tryz.func84, Tryz.ntmps84
  go_wp2_with fail
  rw [← HW0.out]
  clear HW0
  refine (U78.out _).mono ?_
  rintro e wu ⟨rfl, hwu⟩
  rw [hwu]
  clear hwu wu
  obtain ⟨c0_0, c0_1, c0_2, c0_3, c0_4, c0_5⟩ := q0.cells
  rw [HK.out] at c0_0
  obtain ⟨va1, vn1, vc1, w1, r1, q1⟩ := q0.one (o.nm.size : Int) (by omega) (by simp; try omega)
  obtain ⟨c1_0, c1_1, c1_2, c1_3, c1_4, c1_5⟩ := q1.cells
  rw [HK.out] at c1_0
  obtain ⟨va2, vn2, vc2, w2, r2, q2⟩ := q1.str o.nm (by omega) (by simp; try omega)
  obtain ⟨c2_0, c2_1, c2_2, c2_3, c2_4, c2_5⟩ := q2.cells
  rw [HK.out] at c2_0
  have Hq0 := hid q0
  clear q0
  have Hq1 := hid q1
  clear q1
  have Hq2 := hid q2
  clear q2
  go_wp2_with (first | (at_builtin; refine Lib.wpList_append_run _ rfl _ _ _ _ rfl _ _ rfl rfl _ _ r1 ?_) | (at_builtin; refine Lib.wpList_append_run _ rfl _ _ _ _ rfl _ _ rfl rfl _ _ r2 ?_) | fail)
  have q2 := Hq2.out
  clear Hq0 Hq1 Hq2
  refine (U79.out _).mono ?_
  rintro e wu ⟨rfl, hwu⟩
  rw [hwu]
  clear hwu wu
  obtain ⟨va3, vn3, vc3, w3, r3, q3⟩ := q2.one (o.ot.size : Int) (by omega) (by simp; try omega)
  obtain ⟨c3_0, c3_1, c3_2, c3_3, c3_4, c3_5⟩ := q3.cells
  rw [HK.out] at c3_0
  obtain ⟨va4, vn4, vc4, w4, r4, q4⟩ := q3.str o.ot (by omega) (by simp; try omega)
  obtain ⟨c4_0, c4_1, c4_2, c4_3, c4_4, c4_5⟩ := q4.cells
  rw [HK.out] at c4_0
  have Hq2 := hid q2
  clear q2
  have Hq3 := hid q3
  clear q3
  have Hq4 := hid q4
  clear q4
  go_wp2_with (first | (at_builtin; refine Lib.wpList_append_run _ rfl _ _ _ _ rfl _ _ rfl rfl _ _ r3 ?_) | (at_builtin; refine Lib.wpList_append_run _ rfl _ _ _ _ rfl _ _ rfl rfl _ _ r4 ?_) | fail)
  have q4 := Hq4.out
  clear Hq2 Hq3 Hq4
  refine (U70.out _).mono ?_
  rintro e wu ⟨rfl, hwu⟩
  rw [hwu]
  clear hwu wu
  have Hq4 := hid q4
  clear q4
  go_wp2_with fail
  have q4 := Hq4.out
  clear Hq4
  refine (U84.out _).mono ?_
  rintro e wu ⟨rfl, hwu⟩
  rw [hwu]
  clear hwu wu
  obtain ⟨va5, vn5, vc5, w5, r5, q5⟩ := q4.app ((HR.out.below q4.bel).mono q4.bel.size) HA.out (by omega) (by simp; try omega)
  have HF : Hid (PO (.returned (.slice va5 vn5 vc5)) w5) := by
    show PO _ _
    rw [← HPO.out]
    exact q5.fin (enc_7 HK.out HD.out hnm hot)
  have Hq4 := hid q4
  clear q4
  have Hq5 := hid q5
  clear q5
  go_wp2_with (first | (at_builtin; refine Lib.wpList_append_run _ rfl _ _ _ _ rfl _ _ rfl rfl _ _ r5 ?_) | fail)
  have q5 := Hq5.out
  clear Hq4 Hq5
  exact HF.out
set_option maxRecDepth 100000 in
set_option maxHeartbeats 4000000 in
theorem bytes_8 (o : PO) (a : Option Addr) (c : Nat) (w : World) (hk : o.k = 8) (hF : CkF 8 o) (hR : Rd w.heap.size w a o.da.length o.da) (ha : a = none → c = 0) :
    Calls Tryz.prog 84 #[opV o.k o.nm o.ot o.fr o.to a o.da.length c] w (ByP w o) := by
  have hck := hF.ok
  have n1 : (o.nm.size : Int) % 256 = (o.nm.size : Int) := by have := hck.nm; omega
  have n2 : (o.ot.size : Int) % 256 = (o.ot.size : Int) := by have := hck.ot; omega
  have hnm := hck.nm
  have hot := hck.ot
  have l1 := nums_len o.nm
  have l2 := nums_len o.ot
  have l3 : (Pl.dig o.fr 4).length = 4 := rfl
  have l4 : (Pl.dig o.to 4).length = 4 := rfl
  have hdn := hck.n
  rw [hk]
  obtain ⟨W0, hW0⟩ : ∃ W0, W0 = (w.alloc (.cells #[.int .i64 8, .string o.nm, .string o.ot, .int .i64 o.fr, .int .i64 o.to, .slice a o.da.length c] 29)).alloc (.cells #[.int .u8 8] 5) := ⟨_, rfl⟩
  have b0 : Below w.heap.size w W0 := by rw [hW0]; exact ((Below.refl _ _).alloc (Nat.le_refl _) _).alloc (by simp) _
  have z0 : W0.heap.size = w.heap.size + 2 := by rw [hW0]; simp
  have q0 : By w o a c W0 (.slice (some ⟨w.heap.size + 1, 0, none⟩) 1 1) [8] := by
    refine ⟨?_, ?_, b0, by omega⟩
    · unfold OpB
      rw [hW0, Below.heap_alloc _ _ _ (by simp), hk]
      exact heap_new _ _
    · have := own_oneB (w.alloc (.cells #[.int .i64 8, .string o.nm, .string o.ot, .int .i64 o.fr, .int .i64 o.to, .slice a o.da.length c] 29)) 8
      rw [World.size_alloc, ← hW0] at this
      exact this
  have U78 := hid (uses_lit 8 78 true (by decide))
  have U79 := hid (uses_lit 8 79 false (by decide))
  have U70 := hid (uses_lit 8 70 true (by decide))
  have U84 := hid (uses_lit 8 84 false (by decide))
  have HR := hid hR
  have HA := hid ha
  have HK := hid hk
  have HW0 := hid hW0
  have hf0 := hck.f0
  have hf1 := hck.f1
  have ht0 := hck.t0
  have ht1 := hck.t1
  clear hF hR ha hck hW0 b0 z0 hk
  generalize hPO : ByP w o = PO
  have HPO := hid hPO
  clear hPO
  go_enter Tryz.func84, Tryz.ntmps84
  go_wp2_with fail
  rw [← HW0.out]
  clear HW0
  refine (U78.out _).mono ?_
  rintro e wu ⟨rfl, hwu⟩
  rw [hwu]
  clear hwu wu
  obtain ⟨c0_0, c0_1, c0_2, c0_3, c0_4, c0_5⟩ := q0.cells
  rw [HK.out] at c0_0
  obtain ⟨va1, vn1, vc1, w1, r1, q1⟩ := q0.one (o.nm.size : Int) (by omega) (by simp; try omega)
  obtain ⟨c1_0, c1_1, c1_2, c1_3, c1_4, c1_5⟩ := q1.cells
  rw [HK.out] at c1_0
  obtain ⟨va2, vn2, vc2, w2, r2, q2⟩ := q1.str o.nm (by omega) (by simp; try omega)
  obtain ⟨c2_0, c2_1, c2_2, c2_3, c2_4, c2_5⟩ := q2.cells
  rw [HK.out] at c2_0
  have Hq0 := hid q0
  clear q0
  have Hq1 := hid q1
  clear q1
  have Hq2 := hid q2
  clear q2
  go_wp2_with (first | (at_builtin; refine Lib.wpList_append_run _ rfl _ _ _ _ rfl _ _ rfl rfl _ _ r1 ?_) | (at_builtin; refine Lib.wpList_append_run _ rfl _ _ _ _ rfl _ _ rfl rfl _ _ r2 ?_) | fail)
  have q2 := Hq2.out
  clear Hq0 Hq1 Hq2
  refine (U79.out _).mono ?_
  rintro e wu ⟨rfl, hwu⟩
  rw [hwu]
  clear hwu wu
  have Hq2 := hid q2
  clear q2
  go_wp2_with fail
  have q2 := Hq2.out
  clear Hq2
  refine (U70.out _).mono ?_
  rintro e wu ⟨rfl, hwu⟩
  rw [hwu]
  clear hwu wu
  have H4 := hid (q2.four o.fr hf0 (by omega) (by simp; try omega))
  have Hq2 := hid q2
  clear q2
  go_wp2_with fail
  have q2 := Hq2.out
  clear Hq2
  refine H4.out.mono ?_
  rintro e wf3 ⟨fa3, fc3, rfl, va3, vn3, vc3, w3, r3, q3⟩
  clear H4
  obtain ⟨c3_0, c3_1, c3_2, c3_3, c3_4, c3_5⟩ := q3.cells
  rw [HK.out] at c3_0
  have Hq2 := hid q2
  clear q2
  have Hq3 := hid q3
  clear q3
  go_wp2_with (first | (at_builtin; refine Lib.wpList_append_run _ rfl _ _ _ _ rfl _ _ rfl rfl _ _ r3 ?_) | fail)
  have q3 := Hq3.out
  clear Hq2 Hq3
  refine (U84.out _).mono ?_
  rintro e wu ⟨rfl, hwu⟩
  rw [hwu]
  clear hwu wu
  obtain ⟨va4, vn4, vc4, w4, r4, q4⟩ := q3.app ((HR.out.below q3.bel).mono q3.bel.size) HA.out (by omega) (by simp; try omega)
  have HF : Hid (PO (.returned (.slice va4 vn4 vc4)) w4) := by
    show PO _ _
    rw [← HPO.out]
    exact q4.fin (enc_8 HK.out hnm hot)
  have Hq3 := hid q3
  clear q3
  have Hq4 := hid q4
  clear q4
  go_wp2_with (first | (at_builtin; refine Lib.wpList_append_run _ rfl _ _ _ _ rfl _ _ rfl rfl _ _ r4 ?_) | fail)
  have q4 := Hq4.out
  clear Hq3 Hq4
  exact HF.out
set_option maxRecDepth 100000 in
set_option maxHeartbeats 4000000 in
theorem bytes_9 (o : PO) (a : Option Addr) (c : Nat) (w : World) (hk : o.k = 9) (hF : CkF 9 o) (hR : Rd w.heap.size w a o.da.length o.da) (ha : a = none → c = 0) :
    Calls Tryz.prog 84 #[opV o.k o.nm o.ot o.fr o.to a o.da.length c] w (ByP w o) := by
  have hck := hF.ok
  have HD := hid (hF.e5 rfl)
  have n1 : (o.nm.size : Int) % 256 = (o.nm.size : Int) := by have := hck.nm; omega
  have n2 : (o.ot.size : Int) % 256 = (o.ot.size : Int) := by have := hck.ot; omega
  have hnm := hck.nm
  have hot := hck.ot
  have l1 := nums_len o.nm
  have l2 := nums_len o.ot
  have l3 : (Pl.dig o.fr 4).length = 4 := rfl
  have l4 : (Pl.dig o.to 4).length = 4 := rfl
  have hdn := hck.n
  rw [hk]
  obtain ⟨W0, hW0⟩ : ∃ W0, W0 = (w.alloc (.cells #[.int .i64 9, .string o.nm, .string o.ot, .int .i64 o.fr, .int .i64 o.to, .slice a o.da.length c] 29)).alloc (.cells #[.int .u8 9] 5) := ⟨_, rfl⟩
  have b0 : Below w.heap.size w W0 := by rw [hW0]; exact ((Below.refl _ _).alloc (Nat.le_refl _) _).alloc (by simp) _
  have z0 : W0.heap.size = w.heap.size + 2 := by rw [hW0]; simp
  have q0 : By w o a c W0 (.slice (some ⟨w.heap.size + 1, 0, none⟩) 1 1) [9] := by
    refine ⟨?_, ?_, b0, by omega⟩
    · unfold OpB
      rw [hW0, Below.heap_alloc _ _ _ (by simp), hk]
      exact heap_new _ _
    · have := own_oneB (w.alloc (.cells #[.int .i64 9, .string o.nm, .string o.ot, .int .i64 o.fr, .int .i64 o.to, .slice a o.da.length c] 29)) 9
      rw [World.size_alloc, ← hW0] at this
      exact this
  have U78 := hid (uses_lit 9 78 true (by decide))
  have U79 := hid (uses_lit 9 79 false (by decide))
  have U70 := hid (uses_lit 9 70 true (by decide))
  have U84 := hid (uses_lit 9 84 true (by decide))
  have HR := hid hR
  have HA := hid ha
  have HK := hid hk
  have HW0 := hid hW0
  have hf0 := hck.f0
  have hf1 := hck.f1
  have ht0 := hck.t0
  have ht1 := hck.t1
  clear hF hR ha hck hW0 b0 z0 hk
  generalize hPO : ByP w o = PO
  have HPO := hid hPO
  clear hPO
  go_enter Tryz.func84, Tryz.ntmps84
  go_wp2_with fail
  rw [← HW0.out]
  clear HW0
  refine (U78.out _).mono ?_
  rintro e wu ⟨rfl, hwu⟩
  rw [hwu]
  clear hwu wu
  obtain ⟨c0_0, c0_1, c0_2, c0_3, c0_4, c0_5⟩ := q0.cells
  rw [HK.out] at c0_0
  obtain ⟨va1, vn1, vc1, w1, r1, q1⟩ := q0.one (o.nm.size : Int) (by omega) (by simp; try omega)
  obtain ⟨c1_0, c1_1, c1_2, c1_3, c1_4, c1_5⟩ := q1.cells
  rw [HK.out] at c1_0
  obtain ⟨va2, vn2, vc2, w2, r2, q2⟩ := q1.str o.nm (by omega) (by simp; try omega)
  obtain ⟨c2_0, c2_1, c2_2, c2_3, c2_4, c2_5⟩ := q2.cells
  rw [HK.out] at c2_0
  have Hq0 := hid q0
  clear q0
  have Hq1 := hid q1
  clear q1
  have Hq2 := hid q2
  clear q2
  go_wp2_with (first | (at_builtin; refine Lib.wpList_append_run _ rfl _ _ _ _ rfl _ _ rfl rfl _ _ r1 ?_) | (at_builtin; refine Lib.wpList_append_run _ rfl _ _ _ _ rfl _ _ rfl rfl _ _ r2 ?_) | fail)
  have q2 := Hq2.out
  clear Hq0 Hq1 Hq2
  refine (U79.out _).mono ?_
  rintro e wu ⟨rfl, hwu⟩
  rw [hwu]
  clear hwu wu
  have Hq2 := hid q2
  clear q2
  go_wp2_with fail
  have q2 := Hq2.out
  clear Hq2
  refine (U70.out _).mono ?_
  rintro e wu ⟨rfl, hwu⟩
  rw [hwu]
  clear hwu wu
  have H4 := hid (q2.four o.fr hf0 (by omega) (by simp; try omega))
  have Hq2 := hid q2
  clear q2
  go_wp2_with fail
  have q2 := Hq2.out
  clear Hq2
  refine H4.out.mono ?_
  rintro e wf3 ⟨fa3, fc3, rfl, va3, vn3, vc3, w3, r3, q3⟩
  clear H4
  obtain ⟨c3_0, c3_1, c3_2, c3_3, c3_4, c3_5⟩ := q3.cells
  rw [HK.out] at c3_0
  have Hq2 := hid q2
  clear q2
  have Hq3 := hid q3
  clear q3
  go_wp2_with (first | (at_builtin; refine Lib.wpList_append_run _ rfl _ _ _ _ rfl _ _ rfl rfl _ _ r3 ?_) | fail)
  have q3 := Hq3.out
  clear Hq2 Hq3
  refine (U84.out _).mono ?_
  rintro e wu ⟨rfl, hwu⟩
  rw [hwu]
  clear hwu wu
  have H4 := hid (q3.four o.to ht0 (by omega) (by simp; try omega))
  have Hq3 := hid q3
  clear q3
  go_wp2_with fail
  have q3 := Hq3.out
  clear Hq3
  refine H4.out.mono ?_
  rintro e wf4 ⟨fa4, fc4, rfl, va4, vn4, vc4, w4, r4, q4⟩
  clear H4
  obtain ⟨c4_0, c4_1, c4_2, c4_3, c4_4, c4_5⟩ := q4.cells
  rw [HK.out] at c4_0
  obtain ⟨va5, vn5, vc5, w5, r5, q5⟩ := q4.app ((HR.out.below q4.bel).mono q4.bel.size) HA.out (by omega) (by simp; try omega)
  have HF : Hid (PO (.returned (.slice va5 vn5 vc5)) w5) := by
    show PO _ _
    rw [← HPO.out]
    exact q5.fin (enc_9 HK.out HD.out hnm hot)
  have Hq3 := hid q3
  clear q3
  have Hq4 := hid q4
  clear q4
  have Hq5 := hid q5
  clear q5
  go_wp2_with (first | (at_builtin; refine Lib.wpList_append_run _ rfl _ _ _ _ rfl _ _ rfl rfl _ _ r4 ?_) | (at_builtin; refine Lib.wpList_append_run _ rfl _ _ _ _ rfl _ _ rfl rfl _ _ r5 ?_) | fail)
  have q5 := Hq5.out
  clear Hq3 Hq4 Hq5
  exact HF.out

end Go.Proofs.YthkkdmblkalknaaGreatDoor
/-
  The document's bytes of an operation.
-/
namespace Go.Proofs.YthkkdmblkalknaaGreatDoor
open Go.RowKit

set_option maxRecDepth 100000 in
set_option maxHeartbeats 4000000 in
theorem bytes_10 (o : PO) (a : Option Addr) (c : Nat) (w : World) (hk : o.k = 10) (hF : CkF 10 o) (hR : Rd w.heap.size w a o.da.length o.da) (ha : a = none → c = 0) :
    Calls Tryz.prog 84 #[opV o.k o.nm o.ot o.fr o.to a o.da.length c] w (ByP w o) := by
  have hck := hF.ok
  have HD := hid (hF.e5 rfl)
  have n1 : (o.nm.size : Int) % 256 = (o.nm.size : Int) := by have := hck.nm; omega
  have n2 : (o.ot.size : Int) % 256 = (o.ot.size : Int) := by have := hck.ot; omega
  have hnm := hck.nm
  have hot := hck.ot
  have l1 := nums_len o.nm
  have l2 := nums_len o.ot
  have l3 : (Pl.dig o.fr 4).length = 4 := rfl
  have l4 : (Pl.dig o.to 4).length = 4 := rfl
  have hdn := hck.n
  rw [hk]
  obtain ⟨W0, hW0⟩ : ∃ W0, W0 = (w.alloc (.cells #[.int .i64 10, .string o.nm, .string o.ot, .int .i64 o.fr, .int .i64 o.to, .slice a o.da.length c] 29)).alloc (.cells #[.int .u8 10] 5) := ⟨_, rfl⟩
  have b0 : Below w.heap.size w W0 := by rw [hW0]; exact ((Below.refl _ _).alloc (Nat.le_refl _) _).alloc (by simp) _
  have z0 : W0.heap.size = w.heap.size + 2 := by rw [hW0]; simp
  have q0 : By w o a c W0 (.slice (some ⟨w.heap.size + 1, 0, none⟩) 1 1) [10] := by
    refine ⟨?_, ?_, b0, by omega⟩
    · unfold OpB
      rw [hW0, Below.heap_alloc _ _ _ (by simp), hk]
      exact heap_new _ _
    · have := own_oneB (w.alloc (.cells #[.int .i64 10, .string o.nm, .string o.ot, .int .i64 o.fr, .int .i64 o.to, .slice a o.da.length c] 29)) 10
      rw [World.size_alloc, ← hW0] at this
      exact this
  have U78 := hid (uses_lit 10 78 true (by decide))
  have U79 := hid (uses_lit 10 79 false (by decide))
  have U70 := hid (uses_lit 10 70 true (by decide))
  have U84 := hid (uses_lit 10 84 true (by decide))
  have HR := hid hR
  have HA := hid ha
  have HK := hid hk
  have HW0 := hid hW0
  have hf0 := hck.f0
  have hf1 := hck.f1
  have ht0 := hck.t0
  have ht1 := hck.t1
  clear hF hR ha hck hW0 b0 z0 hk
  generalize hPO : ByP w o = PO
  have HPO := hid hPO
  clear hPO
  go_enter Tryz.func84, Tryz.ntmps84
  go_wp2_with fail
  rw [← HW0.out]
  clear HW0
  refine (U78.out _).mono ?_
  rintro e wu ⟨rfl, hwu⟩
  rw [hwu]
  clear hwu wu
  obtain ⟨c0_0, c0_1, c0_2, c0_3, c0_4, c0_5⟩ := q0.cells
  rw [HK.out] at c0_0
  obtain ⟨va1, vn1, vc1, w1, r1, q1⟩ := q0.one (o.nm.size : Int) (by omega) (by simp; try omega)
  obtain ⟨c1_0, c1_1, c1_2, c1_3, c1_4, c1_5⟩ := q1.cells
  rw [HK.out] at c1_0
  obtain ⟨va2, vn2, vc2, w2, r2, q2⟩ := q1.str o.nm (by omega) (by simp; try omega)
  obtain ⟨c2_0, c2_1, c2_2, c2_3, c2_4, c2_5⟩ := q2.cells
  rw [HK.out] at c2_0
  have Hq0 := hid q0
  clear q0
  have Hq1 := hid q1
  clear q1
  have Hq2 := hid q2
  clear q2
  go_wp2_with (first | (at_builtin; refine Lib.wpList_append_run _ rfl _ _ _ _ rfl _ _ rfl rfl _ _ r1 ?_) | (at_builtin; refine Lib.wpList_append_run _ rfl _ _ _ _ rfl _ _ rfl rfl _ _ r2 ?_) | fail)
  have q2 := Hq2.out
  clear Hq0 Hq1 Hq2
  refine (U79.out _).mono ?_
  rintro e wu ⟨rfl, hwu⟩
  rw [hwu]
  clear hwu wu
  have Hq2 := hid q2
  clear q2
  go_wp2_with fail
  have q2 := Hq2.out
  clear Hq2
  refine (U70.out _).mono ?_
  rintro e wu ⟨rfl, hwu⟩
  rw [hwu]
  clear hwu wu
  have H4 := hid (q2.four o.fr hf0 (by omega) (by simp; try omega))
  have Hq2 := hid q2
  clear q2
  go_wp2_with fail
  have q2 := Hq2.out
  clear Hq2
  refine H4.out.mono ?_
  rintro e wf3 ⟨fa3, fc3, rfl, va3, vn3, vc3, w3, r3, q3⟩
  clear H4
  obtain ⟨c3_0, c3_1, c3_2, c3_3, c3_4, c3_5⟩ := q3.cells
  rw [HK.out] at c3_0
  have Hq2 := hid q2
  clear q2
  have Hq3 := hid q3
  clear q3
  go_wp2_with (first | (at_builtin; refine Lib.wpList_append_run _ rfl _ _ _ _ rfl _ _ rfl rfl _ _ r3 ?_) | fail)
  have q3 := Hq3.out
  clear Hq2 Hq3
  refine (U84.out _).mono ?_
  rintro e wu ⟨rfl, hwu⟩
  rw [hwu]
  clear hwu wu
  have H4 := hid (q3.four o.to ht0 (by omega) (by simp; try omega))
  have Hq3 := hid q3
  clear q3
  go_wp2_with fail
  have q3 := Hq3.out
  clear Hq3
  refine H4.out.mono ?_
  rintro e wf4 ⟨fa4, fc4, rfl, va4, vn4, vc4, w4, r4, q4⟩
  clear H4
  obtain ⟨c4_0, c4_1, c4_2, c4_3, c4_4, c4_5⟩ := q4.cells
  rw [HK.out] at c4_0
  obtain ⟨va5, vn5, vc5, w5, r5, q5⟩ := q4.app ((HR.out.below q4.bel).mono q4.bel.size) HA.out (by omega) (by simp; try omega)
  have HF : Hid (PO (.returned (.slice va5 vn5 vc5)) w5) := by
    show PO _ _
    rw [← HPO.out]
    exact q5.fin (enc_10 HK.out HD.out hnm hot)
  have Hq3 := hid q3
  clear q3
  have Hq4 := hid q4
  clear q4
  have Hq5 := hid q5
  clear q5
  go_wp2_with (first | (at_builtin; refine Lib.wpList_append_run _ rfl _ _ _ _ rfl _ _ rfl rfl _ _ r4 ?_) | (at_builtin; refine Lib.wpList_append_run _ rfl _ _ _ _ rfl _ _ rfl rfl _ _ r5 ?_) | fail)
  have q5 := Hq5.out
  clear Hq3 Hq4 Hq5
  exact HF.out
set_option maxRecDepth 100000 in
set_option maxHeartbeats 4000000 in
theorem bytes_11 (o : PO) (a : Option Addr) (c : Nat) (w : World) (hk : o.k = 11) (hF : CkF 11 o) (hR : Rd w.heap.size w a o.da.length o.da) (ha : a = none → c = 0) :
    Calls Tryz.prog 84 #[opV o.k o.nm o.ot o.fr o.to a o.da.length c] w (ByP w o) := by
  have hck := hF.ok
  have HD := hid (hF.e5 rfl)
  have n1 : (o.nm.size : Int) % 256 = (o.nm.size : Int) := by have := hck.nm; omega
  have n2 : (o.ot.size : Int) % 256 = (o.ot.size : Int) := by have := hck.ot; omega
  have hnm := hck.nm
  have hot := hck.ot
  have l1 := nums_len o.nm
  have l2 := nums_len o.ot
  have l3 : (Pl.dig o.fr 4).length = 4 := rfl
  have l4 : (Pl.dig o.to 4).length = 4 := rfl
  have hdn := hck.n
  rw [hk]
  obtain ⟨W0, hW0⟩ : ∃ W0, W0 = (w.alloc (.cells #[.int .i64 11, .string o.nm, .string o.ot, .int .i64 o.fr, .int .i64 o.to, .slice a o.da.length c] 29)).alloc (.cells #[.int .u8 11] 5) := ⟨_, rfl⟩
  have b0 : Below w.heap.size w W0 := by rw [hW0]; exact ((Below.refl _ _).alloc (Nat.le_refl _) _).alloc (by simp) _
  have z0 : W0.heap.size = w.heap.size + 2 := by rw [hW0]; simp
  have q0 : By w o a c W0 (.slice (some ⟨w.heap.size + 1, 0, none⟩) 1 1) [11] := by
    refine ⟨?_, ?_, b0, by omega⟩
    · unfold OpB
      rw [hW0, Below.heap_alloc _ _ _ (by simp), hk]
      exact heap_new _ _
    · have := own_oneB (w.alloc (.cells #[.int .i64 11, .string o.nm, .string o.ot, .int .i64 o.fr, .int .i64 o.to, .slice a o.da.length c] 29)) 11
      rw [World.size_alloc, ← hW0] at this
      exact this
  have U78 := hid (uses_lit 11 78 false (by decide))
  have U79 := hid (uses_lit 11 79 false (by decide))
  have U70 := hid (uses_lit 11 70 false (by decide))
  have U84 := hid (uses_lit 11 84 true (by decide))
  have HR := hid hR
  have HA := hid ha
  have HK := hid hk
  have HW0 := hid hW0
  have hf0 := hck.f0
  have hf1 := hck.f1
  have ht0 := hck.t0
  have ht1 := hck.t1
  clear hF hR ha hck hW0 b0 z0 hk
  generalize hPO : ByP w o = PO
  have HPO := hid hPO
  clear hPO
  go_enter Tryz.func84, Tryz.ntmps84
  go_wp2_with fail
  rw [← HW0.out]
  clear HW0
  refine (U78.out _).mono ?_
  rintro e wu ⟨rfl, hwu⟩
  rw [hwu]
  clear hwu wu
  obtain ⟨c0_0, c0_1, c0_2, c0_3, c0_4, c0_5⟩ := q0.cells
  rw [HK.out] at c0_0
  have Hq0 := hid q0
  clear q0
  go_wp2_with fail
  have q0 := Hq0.out
  clear Hq0
  refine (U79.out _).mono ?_
  rintro e wu ⟨rfl, hwu⟩
  rw [hwu]
  clear hwu wu
  have Hq0 := hid q0
  clear q0
  go_wp2_with fail
  have q0 := Hq0.out
  clear Hq0
  refine (U70.out _).mono ?_
  rintro e wu ⟨rfl, hwu⟩
  rw [hwu]
  clear hwu wu
  have Hq0 := hid q0
  clear q0
  go_wp2_with fail
  have q0 := Hq0.out
  clear Hq0
  refine (U84.out _).mono ?_
  rintro e wu ⟨rfl, hwu⟩
  rw [hwu]
  clear hwu wu
  have H4 := hid (q0.four o.to ht0 (by omega) (by simp; try omega))
  have Hq0 := hid q0
  clear q0
  go_wp2_with fail
  have q0 := Hq0.out
  clear Hq0
  refine H4.out.mono ?_
  rintro e wf1 ⟨fa1, fc1, rfl, va1, vn1, vc1, w1, r1, q1⟩
  clear H4
  obtain ⟨c1_0, c1_1, c1_2, c1_3, c1_4, c1_5⟩ := q1.cells
  rw [HK.out] at c1_0
  obtain ⟨va2, vn2, vc2, w2, r2, q2⟩ := q1.app ((HR.out.below q1.bel).mono q1.bel.size) HA.out (by omega) (by simp; try omega)
  have HF : Hid (PO (.returned (.slice va2 vn2 vc2)) w2) := by
    show PO _ _
    rw [← HPO.out]
    exact q2.fin (enc_11 HK.out HD.out hnm hot)
  have Hq0 := hid q0
  clear q0
  have Hq1 := hid q1
  clear q1
  have Hq2 := hid q2
  clear q2
  go_wp2_with (first | (at_builtin; refine Lib.wpList_append_run _ rfl _ _ _ _ rfl _ _ rfl rfl _ _ r1 ?_) | (at_builtin; refine Lib.wpList_append_run _ rfl _ _ _ _ rfl _ _ rfl rfl _ _ r2 ?_) | fail)
  have q2 := Hq2.out
  clear Hq0 Hq1 Hq2
  exact HF.out

end Go.Proofs.YthkkdmblkalknaaGreatDoor
/-
  The document's bytes of an operation.
-/
namespace Go.Proofs.YthkkdmblkalknaaGreatDoor
open Go.RowKit

theorem rbytes_any (o : PO) (a : Option Addr) (c : Nat) (w : World) (hk : o.ck = 0) (hR : Rd w.heap.size w a o.da.length o.da) (ha : a = none → c = 0) :
    Calls Tryz.prog 84 #[opV o.k o.nm o.ot o.fr o.to a o.da.length c] w (ByP w o) := by
  obtain ⟨m, hF⟩ := ck_f hk
  have h1 := hF.m1
  have h2 := hF.m2
  have hkk := hF.kk
  have hm : m = 1 ∨ m = 2 ∨ m = 3 ∨ m = 4 ∨ m = 5 ∨ m = 6 ∨ m = 7 ∨ m = 8 ∨ m = 9 ∨ m = 10 ∨ m = 11 := by omega
  rcases hm with rfl | rfl | rfl | rfl | rfl | rfl | rfl | rfl | rfl | rfl | rfl
  · exact bytes_1 o a c w hkk hF hR ha
  · exact bytes_2 o a c w hkk hF hR ha
  · exact bytes_3 o a c w hkk hF hR ha
  · exact bytes_4 o a c w hkk hF hR ha
  · exact bytes_5 o a c w hkk hF hR ha
  · exact bytes_6 o a c w hkk hF hR ha
  · exact bytes_7 o a c w hkk hF hR ha
  · exact bytes_8 o a c w hkk hF hR ha
  · exact bytes_9 o a c w hkk hF hR ha
  · exact bytes_10 o a c w hkk hF hR ha
  · exact bytes_11 o a c w hkk hF hR ha

end Go.Proofs.YthkkdmblkalknaaGreatDoor
