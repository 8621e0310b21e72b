import Derived.Test.YtddddfankeepkaaGreatDoorF25
import Derived.Test.YtddddfankeepkaaGreatDoorF10
namespace Go.Proofs.YtddddfankeepkaaGreatDoor
open Go.RowKit
set_option maxRecDepth 100000 in
set_option maxHeartbeats 8000000 in
theorem rest_1 (x : VW) (a : Option Addr) (c0 : Nat) (nm ot : ByteArray) (fr tt : Int) (da : Option Addr) (dn dc : Nat) (w : World) (hl : x.vs.length ≤ 16777216) (hR : RdV w.heap.size w a x.vs) :
  Calls Tryz.prog 83 #[viewA x a c0, opA ⟨1, nm, ot, fr, tt⟩ da dn dc] w fun e w' => LkQ w (rRst x 1 (plcF x.vs nm 0)) e w' := by
 obtain ⟨P, hP⟩ : ∃ P, P = w.heap.size := ⟨_, rfl⟩
 obtain ⟨O, hOe⟩ : ∃ O, O = w.heap.size + 1 := ⟨_, rfl⟩
 obtain ⟨W1, hW1⟩ : ∃ W1, W1 = (w.alloc (.cells #[.int .i64 x.cp, .int .i64 x.fr, .int .i64 x.nx, .slice a x.vs.length c0] 24)).alloc (.cells #[.int .i64 1, .string nm, .string ot, .int .i64 fr, .int .i64 tt, .slice da dn dc] 42) := ⟨_, rfl⟩
 have b1 : Below w.heap.size w W1 := by rw [hW1]; exact two_below _ _ _
 have hV : VwB W1 P x (.slice a x.vs.length c0) := by
  unfold VwB
  rw [hW1, hP, Below.heap_alloc _ _ _ (by simp)]
  exact heap_new _ _
 have hO : W1.heap[O]? = some (.cells #[.int .i64 1, .string nm, .string ot, .int .i64 fr, .int .i64 tt, .slice da dn dc] 42 (0, 0)) := by
  have := heap_new (w.alloc (.cells #[.int .i64 x.cp, .int .i64 x.fr, .int .i64 x.nx, .slice a x.vs.length c0] 24)) (.cells #[.int .i64 1, .string nm, .string ot, .int .i64 fr, .int .i64 tt, .slice da dn dc] 42)
  rw [World.size_alloc, ← hOe, ← hW1] at this
  exact this
 have hR1 := (hR.below b1).mono b1.size
 have HMk := hid (fun u => makes_any 1 (by decide) (by decide) u)
 have HTk := hid (fun u => takes_any 1 (by decide) (by decide) u)
 have HR1 := hid hR1
 have HV := hid hV
 have HO := hid hO
 have HB1 := hid b1
 have HFn := hid (fun u (hu : Below W1.heap.size W1 u) (s : ByteArray) => find_any x a c0 s u hl ((hR1.below hu).mono hu.size))
 have HPO := hid (And.intro hP.symm hOe.symm)
 have HW1 := hid hW1
 have HOc : Hid (∀ u, Below W1.heap.size W1 u → u.cell? ⟨O, 0, none⟩ = some (.int .i64 1) ∧ u.cell? ⟨O, 1, none⟩ = some (.string nm) ∧ u.cell? ⟨O, 2, none⟩ = some (.string ot) ∧ u.cell? ⟨O, 3, none⟩ = some (.int .i64 fr) ∧ u.cell? ⟨O, 4, none⟩ = some (.int .i64 tt)) := hid (fun u hu => by
  have := (hu.block O (Array.getElem?_eq_some_iff.1 hO).1).trans hO
  simp [World.cell?, this])
 have hz : rRst x 1 (plcF x.vs nm 0) = if 64 ≤ x.vs.length then 83 else if 1073741824 < x.nx then 85 else 0 := by
  unfold rRst mkK
  simp
 rw [hz]
 clear hz HFn HR1
 obtain ⟨c0', c1, c2, c3, c4⟩ := HOc.out W1 (Below.refl _ _)
 obtain ⟨⟨p0, p1, p2, p3⟩, _⟩ := (HV.out.keep ((Below.refl _ _).block P HV.out.lt)).cs
 rw [hW1] at c0' c1 c2 c3 c4 p0 p1 p2 p3
 rw [hW1] at HB1
 obtain ⟨n, hn⟩ : ∃ n, n = x.vs.length := ⟨_, rfl⟩
 rw [← hn] at p3 hW1 HB1 HW1 HV ⊢
 have HN := hid hn
 clear hn hl HOc
 by_cases q1 : 64 ≤ n
 ·rw [if_pos q1]
  have q2 : (64 : Int) ≤ (n : Int) := by omega
  clear hP hOe hW1 b1 hV hO hR1 hR
  dsimp only [viewA, opA] at *
  try rw [← HN.out]
  go_enter Tryz.func83, Tryz.ntmps83
  go_wp2_with (go_at_call 39; with_reducible refine (HMk.out _).mono ?_; rintro e wn ⟨rfl, hwn⟩; have hwn := hwn.symm; subst hwn)
  go_ret
  exact ⟨rfl, HB1.out⟩
 ·rw [if_neg q1]
  have q2 : ¬ (64 : Int) ≤ (n : Int) := by omega
  by_cases q3 : 1073741824 < x.nx
  ·rw [if_pos q3]
   clear hP hOe hW1 b1 hV hO hR1 hR
   dsimp only [viewA, opA] at *
   try rw [← HN.out]
   go_enter Tryz.func83, Tryz.ntmps83
   go_wp2_with (go_at_call 39; with_reducible refine (HMk.out _).mono ?_; rintro e wn ⟨rfl, hwn⟩; have hwn := hwn.symm; subst hwn)
   go_ret
   exact ⟨rfl, HB1.out⟩
  ·rw [if_neg q3]
   clear hP hOe hW1 b1 hV hO hR1 hR
   dsimp only [viewA, opA] at *
   try rw [← HN.out]
   go_enter Tryz.func83, Tryz.ntmps83
   go_wp2_with (go_at_call 39; with_reducible refine (HMk.out _).mono ?_; rintro e wn ⟨rfl, hwn⟩; have hwn := hwn.symm; subst hwn)
   go_ret
   exact ⟨rfl, HB1.out⟩
set_option maxRecDepth 100000 in
set_option maxHeartbeats 8000000 in
theorem rest_2 (x : VW) (a : Option Addr) (c0 : Nat) (nm ot : ByteArray) (fr tt : Int) (da : Option Addr) (dn dc : Nat) (w : World) (hl : x.vs.length ≤ 16777216) (hR : RdV w.heap.size w a x.vs) :
  Calls Tryz.prog 83 #[viewA x a c0, opA ⟨2, nm, ot, fr, tt⟩ da dn dc] w fun e w' => LkQ w (rRst x 2 (plcF x.vs nm 0)) e w' := by
 obtain ⟨P, hP⟩ : ∃ P, P = w.heap.size := ⟨_, rfl⟩
 obtain ⟨O, hOe⟩ : ∃ O, O = w.heap.size + 1 := ⟨_, rfl⟩
 obtain ⟨W1, hW1⟩ : ∃ W1, W1 = (w.alloc (.cells #[.int .i64 x.cp, .int .i64 x.fr, .int .i64 x.nx, .slice a x.vs.length c0] 24)).alloc (.cells #[.int .i64 2, .string nm, .string ot, .int .i64 fr, .int .i64 tt, .slice da dn dc] 42) := ⟨_, rfl⟩
 have b1 : Below w.heap.size w W1 := by rw [hW1]; exact two_below _ _ _
 have hV : VwB W1 P x (.slice a x.vs.length c0) := by
  unfold VwB
  rw [hW1, hP, Below.heap_alloc _ _ _ (by simp)]
  exact heap_new _ _
 have hO : W1.heap[O]? = some (.cells #[.int .i64 2, .string nm, .string ot, .int .i64 fr, .int .i64 tt, .slice da dn dc] 42 (0, 0)) := by
  have := heap_new (w.alloc (.cells #[.int .i64 x.cp, .int .i64 x.fr, .int .i64 x.nx, .slice a x.vs.length c0] 24)) (.cells #[.int .i64 2, .string nm, .string ot, .int .i64 fr, .int .i64 tt, .slice da dn dc] 42)
  rw [World.size_alloc, ← hOe, ← hW1] at this
  exact this
 have hR1 := (hR.below b1).mono b1.size
 have HMk := hid (fun u => makes_any 2 (by decide) (by decide) u)
 have HTk := hid (fun u => takes_any 2 (by decide) (by decide) u)
 have HR1 := hid hR1
 have HV := hid hV
 have HO := hid hO
 have HB1 := hid b1
 have HFn := hid (fun u (hu : Below W1.heap.size W1 u) (s : ByteArray) => find_any x a c0 s u hl ((hR1.below hu).mono hu.size))
 have HPO := hid (And.intro hP.symm hOe.symm)
 have HW1 := hid hW1
 have HOc : Hid (∀ u, Below W1.heap.size W1 u → u.cell? ⟨O, 0, none⟩ = some (.int .i64 2) ∧ u.cell? ⟨O, 1, none⟩ = some (.string nm) ∧ u.cell? ⟨O, 2, none⟩ = some (.string ot) ∧ u.cell? ⟨O, 3, none⟩ = some (.int .i64 fr) ∧ u.cell? ⟨O, 4, none⟩ = some (.int .i64 tt)) := hid (fun u hu => by
  have := (hu.block O (Array.getElem?_eq_some_iff.1 hO).1).trans hO
  simp [World.cell?, this])
 have hz : rRst x 2 (plcF x.vs nm 0) = if 64 ≤ x.vs.length then 83 else if 1073741824 < x.nx then 85 else 0 := by
  unfold rRst mkK
  simp
 rw [hz]
 clear hz HFn HR1
 obtain ⟨c0', c1, c2, c3, c4⟩ := HOc.out W1 (Below.refl _ _)
 obtain ⟨⟨p0, p1, p2, p3⟩, _⟩ := (HV.out.keep ((Below.refl _ _).block P HV.out.lt)).cs
 rw [hW1] at c0' c1 c2 c3 c4 p0 p1 p2 p3
 rw [hW1] at HB1
 obtain ⟨n, hn⟩ : ∃ n, n = x.vs.length := ⟨_, rfl⟩
 rw [← hn] at p3 hW1 HB1 HW1 HV ⊢
 have HN := hid hn
 clear hn hl HOc
 by_cases q1 : 64 ≤ n
 ·rw [if_pos q1]
  have q2 : (64 : Int) ≤ (n : Int) := by omega
  clear hP hOe hW1 b1 hV hO hR1 hR
  dsimp only [viewA, opA] at *
  try rw [← HN.out]
  go_enter Tryz.func83, Tryz.ntmps83
  go_wp2_with (go_at_call 39; with_reducible refine (HMk.out _).mono ?_; rintro e wn ⟨rfl, hwn⟩; have hwn := hwn.symm; subst hwn)
  go_ret
  exact ⟨rfl, HB1.out⟩
 ·rw [if_neg q1]
  have q2 : ¬ (64 : Int) ≤ (n : Int) := by omega
  by_cases q3 : 1073741824 < x.nx
  ·rw [if_pos q3]
   clear hP hOe hW1 b1 hV hO hR1 hR
   dsimp only [viewA, opA] at *
   try rw [← HN.out]
   go_enter Tryz.func83, Tryz.ntmps83
   go_wp2_with (go_at_call 39; with_reducible refine (HMk.out _).mono ?_; rintro e wn ⟨rfl, hwn⟩; have hwn := hwn.symm; subst hwn)
   go_ret
   exact ⟨rfl, HB1.out⟩
  ·rw [if_neg q3]
   clear hP hOe hW1 b1 hV hO hR1 hR
   dsimp only [viewA, opA] at *
   try rw [← HN.out]
   go_enter Tryz.func83, Tryz.ntmps83
   go_wp2_with (go_at_call 39; with_reducible refine (HMk.out _).mono ?_; rintro e wn ⟨rfl, hwn⟩; have hwn := hwn.symm; subst hwn)
   go_ret
   exact ⟨rfl, HB1.out⟩
set_option maxRecDepth 100000 in
set_option maxHeartbeats 8000000 in
theorem rest_3 (x : VW) (a : Option Addr) (c0 : Nat) (nm ot : ByteArray) (fr tt : Int) (da : Option Addr) (dn dc : Nat) (w : World) (hl : x.vs.length ≤ 16777216) (hR : RdV w.heap.size w a x.vs) :
  Calls Tryz.prog 83 #[viewA x a c0, opA ⟨3, nm, ot, fr, tt⟩ da dn dc] w fun e w' => LkQ w (rRst x 3 (plcF x.vs nm 0)) e w' := by
 obtain ⟨P, hP⟩ : ∃ P, P = w.heap.size := ⟨_, rfl⟩
 obtain ⟨O, hOe⟩ : ∃ O, O = w.heap.size + 1 := ⟨_, rfl⟩
 obtain ⟨W1, hW1⟩ : ∃ W1, W1 = (w.alloc (.cells #[.int .i64 x.cp, .int .i64 x.fr, .int .i64 x.nx, .slice a x.vs.length c0] 24)).alloc (.cells #[.int .i64 3, .string nm, .string ot, .int .i64 fr, .int .i64 tt, .slice da dn dc] 42) := ⟨_, rfl⟩
 have b1 : Below w.heap.size w W1 := by rw [hW1]; exact two_below _ _ _
 have hV : VwB W1 P x (.slice a x.vs.length c0) := by
  unfold VwB
  rw [hW1, hP, Below.heap_alloc _ _ _ (by simp)]
  exact heap_new _ _
 have hO : W1.heap[O]? = some (.cells #[.int .i64 3, .string nm, .string ot, .int .i64 fr, .int .i64 tt, .slice da dn dc] 42 (0, 0)) := by
  have := heap_new (w.alloc (.cells #[.int .i64 x.cp, .int .i64 x.fr, .int .i64 x.nx, .slice a x.vs.length c0] 24)) (.cells #[.int .i64 3, .string nm, .string ot, .int .i64 fr, .int .i64 tt, .slice da dn dc] 42)
  rw [World.size_alloc, ← hOe, ← hW1] at this
  exact this
 have hR1 := (hR.below b1).mono b1.size
 have HMk := hid (fun u => makes_any 3 (by decide) (by decide) u)
 have HTk := hid (fun u => takes_any 3 (by decide) (by decide) u)
 have HR1 := hid hR1
 have HV := hid hV
 have HO := hid hO
 have HB1 := hid b1
 have HFn := hid (fun u (hu : Below W1.heap.size W1 u) (s : ByteArray) => find_any x a c0 s u hl ((hR1.below hu).mono hu.size))
 have HPO := hid (And.intro hP.symm hOe.symm)
 have HW1 := hid hW1
 have HOc : Hid (∀ u, Below W1.heap.size W1 u → u.cell? ⟨O, 0, none⟩ = some (.int .i64 3) ∧ u.cell? ⟨O, 1, none⟩ = some (.string nm) ∧ u.cell? ⟨O, 2, none⟩ = some (.string ot) ∧ u.cell? ⟨O, 3, none⟩ = some (.int .i64 fr) ∧ u.cell? ⟨O, 4, none⟩ = some (.int .i64 tt)) := hid (fun u hu => by
  have := (hu.block O (Array.getElem?_eq_some_iff.1 hO).1).trans hO
  simp [World.cell?, this])
 have hz : rRst x 3 (plcF x.vs nm 0) = if 64 ≤ x.vs.length then 83 else if 1073741824 < x.nx then 85 else 0 := by
  unfold rRst mkK
  simp
 rw [hz]
 clear hz HFn HR1
 obtain ⟨c0', c1, c2, c3, c4⟩ := HOc.out W1 (Below.refl _ _)
 obtain ⟨⟨p0, p1, p2, p3⟩, _⟩ := (HV.out.keep ((Below.refl _ _).block P HV.out.lt)).cs
 rw [hW1] at c0' c1 c2 c3 c4 p0 p1 p2 p3
 rw [hW1] at HB1
 obtain ⟨n, hn⟩ : ∃ n, n = x.vs.length := ⟨_, rfl⟩
 rw [← hn] at p3 hW1 HB1 HW1 HV ⊢
 have HN := hid hn
 clear hn hl HOc
 by_cases q1 : 64 ≤ n
 ·rw [if_pos q1]
  have q2 : (64 : Int) ≤ (n : Int) := by omega
  clear hP hOe hW1 b1 hV hO hR1 hR
  dsimp only [viewA, opA] at *
  try rw [← HN.out]
  go_enter Tryz.func83, Tryz.ntmps83
  go_wp2_with (go_at_call 39; with_reducible refine (HMk.out _).mono ?_; rintro e wn ⟨rfl, hwn⟩; have hwn := hwn.symm; subst hwn)
  go_ret
  exact ⟨rfl, HB1.out⟩
 ·rw [if_neg q1]
  have q2 : ¬ (64 : Int) ≤ (n : Int) := by omega
  by_cases q3 : 1073741824 < x.nx
  ·rw [if_pos q3]
   clear hP hOe hW1 b1 hV hO hR1 hR
   dsimp only [viewA, opA] at *
   try rw [← HN.out]
   go_enter Tryz.func83, Tryz.ntmps83
   go_wp2_with (go_at_call 39; with_reducible refine (HMk.out _).mono ?_; rintro e wn ⟨rfl, hwn⟩; have hwn := hwn.symm; subst hwn)
   go_ret
   exact ⟨rfl, HB1.out⟩
  ·rw [if_neg q3]
   clear hP hOe hW1 b1 hV hO hR1 hR
   dsimp only [viewA, opA] at *
   try rw [← HN.out]
   go_enter Tryz.func83, Tryz.ntmps83
   go_wp2_with (go_at_call 39; with_reducible refine (HMk.out _).mono ?_; rintro e wn ⟨rfl, hwn⟩; have hwn := hwn.symm; subst hwn)
   go_ret
   exact ⟨rfl, HB1.out⟩
set_option maxRecDepth 100000 in
set_option maxHeartbeats 8000000 in
theorem rest_4 (x : VW) (a : Option Addr) (c0 : Nat) (nm ot : ByteArray) (fr tt : Int) (da : Option Addr) (dn dc : Nat) (w : World) (hl : x.vs.length ≤ 16777216) (hR : RdV w.heap.size w a x.vs) :
  Calls Tryz.prog 83 #[viewA x a c0, opA ⟨4, nm, ot, fr, tt⟩ da dn dc] w fun e w' => LkQ w (rRst x 4 (plcF x.vs nm 0)) e w' := by
 obtain ⟨P, hP⟩ : ∃ P, P = w.heap.size := ⟨_, rfl⟩
 obtain ⟨O, hOe⟩ : ∃ O, O = w.heap.size + 1 := ⟨_, rfl⟩
 obtain ⟨W1, hW1⟩ : ∃ W1, W1 = (w.alloc (.cells #[.int .i64 x.cp, .int .i64 x.fr, .int .i64 x.nx, .slice a x.vs.length c0] 24)).alloc (.cells #[.int .i64 4, .string nm, .string ot, .int .i64 fr, .int .i64 tt, .slice da dn dc] 42) := ⟨_, rfl⟩
 have b1 : Below w.heap.size w W1 := by rw [hW1]; exact two_below _ _ _
 have hV : VwB W1 P x (.slice a x.vs.length c0) := by
  unfold VwB
  rw [hW1, hP, Below.heap_alloc _ _ _ (by simp)]
  exact heap_new _ _
 have hO : W1.heap[O]? = some (.cells #[.int .i64 4, .string nm, .string ot, .int .i64 fr, .int .i64 tt, .slice da dn dc] 42 (0, 0)) := by
  have := heap_new (w.alloc (.cells #[.int .i64 x.cp, .int .i64 x.fr, .int .i64 x.nx, .slice a x.vs.length c0] 24)) (.cells #[.int .i64 4, .string nm, .string ot, .int .i64 fr, .int .i64 tt, .slice da dn dc] 42)
  rw [World.size_alloc, ← hOe, ← hW1] at this
  exact this
 have hR1 := (hR.below b1).mono b1.size
 have HMk := hid (fun u => makes_any 4 (by decide) (by decide) u)
 have HTk := hid (fun u => takes_any 4 (by decide) (by decide) u)
 have HR1 := hid hR1
 have HV := hid hV
 have HO := hid hO
 have HB1 := hid b1
 have HFn := hid (fun u (hu : Below W1.heap.size W1 u) (s : ByteArray) => find_any x a c0 s u hl ((hR1.below hu).mono hu.size))
 have HPO := hid (And.intro hP.symm hOe.symm)
 have HW1 := hid hW1
 have HOc : Hid (∀ u, Below W1.heap.size W1 u → u.cell? ⟨O, 0, none⟩ = some (.int .i64 4) ∧ u.cell? ⟨O, 1, none⟩ = some (.string nm) ∧ u.cell? ⟨O, 2, none⟩ = some (.string ot) ∧ u.cell? ⟨O, 3, none⟩ = some (.int .i64 fr) ∧ u.cell? ⟨O, 4, none⟩ = some (.int .i64 tt)) := hid (fun u hu => by
  have := (hu.block O (Array.getElem?_eq_some_iff.1 hO).1).trans hO
  simp [World.cell?, this])
 have hz : rRst x 4 (plcF x.vs nm 0) = 0 := by
  unfold rRst mkK
  simp
 rw [hz]
 clear hz HFn HR1
 obtain ⟨c0', c1, c2, c3, c4⟩ := HOc.out W1 (Below.refl _ _)
 obtain ⟨⟨p0, p1, p2, p3⟩, _⟩ := (HV.out.keep ((Below.refl _ _).block P HV.out.lt)).cs
 rw [hW1] at c0' c1 c2 c3 c4 p0 p1 p2 p3
 rw [hW1] at HB1
 clear hP hOe hW1 b1 hV hO hR1 hR
 dsimp only [viewA, opA] at *
 go_enter Tryz.func83, Tryz.ntmps83
 go_wp2_with (go_at_call 39; with_reducible refine (HMk.out _).mono ?_; rintro e wn ⟨rfl, hwn⟩; have hwn := hwn.symm; subst hwn)
 go_ret
 exact ⟨rfl, HB1.out⟩
set_option maxRecDepth 100000 in
set_option maxHeartbeats 8000000 in
theorem rest_5 (x : VW) (a : Option Addr) (c0 : Nat) (nm ot : ByteArray) (fr tt : Int) (da : Option Addr) (dn dc : Nat) (w : World) (hl : x.vs.length ≤ 16777216) (hR : RdV w.heap.size w a x.vs) :
  Calls Tryz.prog 83 #[viewA x a c0, opA ⟨5, nm, ot, fr, tt⟩ da dn dc] w fun e w' => LkQ w (rRst x 5 (plcF x.vs nm 0)) e w' := by
 obtain ⟨P, hP⟩ : ∃ P, P = w.heap.size := ⟨_, rfl⟩
 obtain ⟨O, hOe⟩ : ∃ O, O = w.heap.size + 1 := ⟨_, rfl⟩
 obtain ⟨W1, hW1⟩ : ∃ W1, W1 = (w.alloc (.cells #[.int .i64 x.cp, .int .i64 x.fr, .int .i64 x.nx, .slice a x.vs.length c0] 24)).alloc (.cells #[.int .i64 5, .string nm, .string ot, .int .i64 fr, .int .i64 tt, .slice da dn dc] 42) := ⟨_, rfl⟩
 have b1 : Below w.heap.size w W1 := by rw [hW1]; exact two_below _ _ _
 have hV : VwB W1 P x (.slice a x.vs.length c0) := by
  unfold VwB
  rw [hW1, hP, Below.heap_alloc _ _ _ (by simp)]
  exact heap_new _ _
 have hO : W1.heap[O]? = some (.cells #[.int .i64 5, .string nm, .string ot, .int .i64 fr, .int .i64 tt, .slice da dn dc] 42 (0, 0)) := by
  have := heap_new (w.alloc (.cells #[.int .i64 x.cp, .int .i64 x.fr, .int .i64 x.nx, .slice a x.vs.length c0] 24)) (.cells #[.int .i64 5, .string nm, .string ot, .int .i64 fr, .int .i64 tt, .slice da dn dc] 42)
  rw [World.size_alloc, ← hOe, ← hW1] at this
  exact this
 have hR1 := (hR.below b1).mono b1.size
 have HMk := hid (fun u => makes_any 5 (by decide) (by decide) u)
 have HTk := hid (fun u => takes_any 5 (by decide) (by decide) u)
 have HR1 := hid hR1
 have HV := hid hV
 have HO := hid hO
 have HB1 := hid b1
 have HFn := hid (fun u (hu : Below W1.heap.size W1 u) (s : ByteArray) => find_any x a c0 s u hl ((hR1.below hu).mono hu.size))
 have HPO := hid (And.intro hP.symm hOe.symm)
 have HW1 := hid hW1
 have HOc : Hid (∀ u, Below W1.heap.size W1 u → u.cell? ⟨O, 0, none⟩ = some (.int .i64 5) ∧ u.cell? ⟨O, 1, none⟩ = some (.string nm) ∧ u.cell? ⟨O, 2, none⟩ = some (.string ot) ∧ u.cell? ⟨O, 3, none⟩ = some (.int .i64 fr) ∧ u.cell? ⟨O, 4, none⟩ = some (.int .i64 tt)) := hid (fun u hu => by
  have := (hu.block O (Array.getElem?_eq_some_iff.1 hO).1).trans hO
  simp [World.cell?, this])
 have hz : rRst x 5 (plcF x.vs nm 0) = 0 := by
  unfold rRst mkK
  simp
 rw [hz]
 clear hz HFn HR1
 obtain ⟨c0', c1, c2, c3, c4⟩ := HOc.out W1 (Below.refl _ _)
 obtain ⟨⟨p0, p1, p2, p3⟩, _⟩ := (HV.out.keep ((Below.refl _ _).block P HV.out.lt)).cs
 rw [hW1] at c0' c1 c2 c3 c4 p0 p1 p2 p3
 rw [hW1] at HB1
 clear hP hOe hW1 b1 hV hO hR1 hR
 dsimp only [viewA, opA] at *
 go_enter Tryz.func83, Tryz.ntmps83
 go_wp2_with (go_at_call 39; with_reducible refine (HMk.out _).mono ?_; rintro e wn ⟨rfl, hwn⟩; have hwn := hwn.symm; subst hwn)
 go_ret
 exact ⟨rfl, HB1.out⟩
set_option maxRecDepth 100000 in
set_option maxHeartbeats 8000000 in
theorem rest_6 (x : VW) (a : Option Addr) (c0 : Nat) (nm ot : ByteArray) (fr tt : Int) (da : Option Addr) (dn dc : Nat) (w : World) (hl : x.vs.length ≤ 16777216) (hR : RdV w.heap.size w a x.vs) (h0 : 0 ≤ plcF x.vs nm 0) :
  Calls Tryz.prog 83 #[viewA x a c0, opA ⟨6, nm, ot, fr, tt⟩ da dn dc] w fun e w' => LkQ w (rRst x 6 (plcF x.vs nm 0)) e w' := by
 obtain ⟨P, hP⟩ : ∃ P, P = w.heap.size := ⟨_, rfl⟩
 obtain ⟨O, hOe⟩ : ∃ O, O = w.heap.size + 1 := ⟨_, rfl⟩
 obtain ⟨W1, hW1⟩ : ∃ W1, W1 = (w.alloc (.cells #[.int .i64 x.cp, .int .i64 x.fr, .int .i64 x.nx, .slice a x.vs.length c0] 24)).alloc (.cells #[.int .i64 6, .string nm, .string ot, .int .i64 fr, .int .i64 tt, .slice da dn dc] 42) := ⟨_, rfl⟩
 have b1 : Below w.heap.size w W1 := by rw [hW1]; exact two_below _ _ _
 have hV : VwB W1 P x (.slice a x.vs.length c0) := by
  unfold VwB
  rw [hW1, hP, Below.heap_alloc _ _ _ (by simp)]
  exact heap_new _ _
 have hO : W1.heap[O]? = some (.cells #[.int .i64 6, .string nm, .string ot, .int .i64 fr, .int .i64 tt, .slice da dn dc] 42 (0, 0)) := by
  have := heap_new (w.alloc (.cells #[.int .i64 x.cp, .int .i64 x.fr, .int .i64 x.nx, .slice a x.vs.length c0] 24)) (.cells #[.int .i64 6, .string nm, .string ot, .int .i64 fr, .int .i64 tt, .slice da dn dc] 42)
  rw [World.size_alloc, ← hOe, ← hW1] at this
  exact this
 have hR1 := (hR.below b1).mono b1.size
 have HMk := hid (fun u => makes_any 6 (by decide) (by decide) u)
 have HTk := hid (fun u => takes_any 6 (by decide) (by decide) u)
 have HR1 := hid hR1
 have HV := hid hV
 have HO := hid hO
 have HB1 := hid b1
 have HFn := hid (fun u (hu : Below W1.heap.size W1 u) (s : ByteArray) => find_any x a c0 s u hl ((hR1.below hu).mono hu.size))
 have HPO := hid (And.intro hP.symm hOe.symm)
 have HW1 := hid hW1
 have HOc : Hid (∀ u, Below W1.heap.size W1 u → u.cell? ⟨O, 0, none⟩ = some (.int .i64 6) ∧ u.cell? ⟨O, 1, none⟩ = some (.string nm) ∧ u.cell? ⟨O, 2, none⟩ = some (.string ot) ∧ u.cell? ⟨O, 3, none⟩ = some (.int .i64 fr) ∧ u.cell? ⟨O, 4, none⟩ = some (.int .i64 tt)) := hid (fun u hu => by
  have := (hu.block O (Array.getElem?_eq_some_iff.1 hO).1).trans hO
  simp [World.cell?, this])
 have hpl := plO x nm
 have HF1 := hid (HFn.out W1.drew (below_drew _ _) nm)
 obtain ⟨i, hi, hp⟩ := hpl.resolve_left (by omega)
 rw [hp] at HF1
 rw [hp]
 clear hp h0
 obtain ⟨id, hid0⟩ : ∃ q, q = x.vs[i].id := ⟨_, rfl⟩
 have hz : rRst x 6 (i : Int) = if 0 ≤ chlF x.vs id 0 then 109 else 0 := by
  unfold rRst mkK
  rw [volAt_eq hi, ← hid0]
  simp
 rw [hz]
 clear hz
 obtain ⟨g, off, rfl, hgl, hc⟩ := hR1.resolve_left (fun e => by rw [e] at hi; simp at hi)
 obtain ⟨ma, mc, ⟨_, y1, _, _, _, _, _⟩, _, _⟩ := hc i hi
 rw [← hid0] at y1
 have hi1 : (i : Int) < (x.vs.length : Int) := by omega
 have HKEEP : Hid (∀ u, Below W1.heap.size W1.drew u → (fun u => (u.cell? ⟨P, 0, none⟩ = some (.int .i64 x.cp) ∧ u.cell? ⟨P, 1, none⟩ = some (.int .i64 x.fr) ∧ u.cell? ⟨P, 2, none⟩ = some (.int .i64 x.nx) ∧ u.cell? ⟨P, 3, none⟩ = some (.slice (some ⟨g, off, none⟩) x.vs.length c0) ∧ u.cell? ⟨O, 1, none⟩ = some (.string nm) ∧ u.cell? ⟨g, off + i * 7 + 1, none⟩ = some (.int .i64 id))) u) := hid (fun u hu => by
  have hu2 : Below W1.heap.size W1 u := (below_drew _ _).trans hu
  obtain ⟨⟨v0, v1, v2, v3⟩, _⟩ := (HV.out.keep (hu2.block P HV.out.lt)).cs
  exact ⟨v0, v1, v2, v3, (HOc.out u hu2).2.1, (hu2.cell (by exact hgl)).trans y1⟩)
 obtain ⟨c0', c1, c2, c3, c4⟩ := HOc.out W1 (Below.refl _ _)
 obtain ⟨⟨p0, p1, p2, p3⟩, _⟩ := (HV.out.keep ((Below.refl _ _).block P HV.out.lt)).cs
 have HS0 : Hid ((fun u => (u.cell? ⟨P, 0, none⟩ = some (.int .i64 x.cp) ∧ u.cell? ⟨P, 1, none⟩ = some (.int .i64 x.fr) ∧ u.cell? ⟨P, 2, none⟩ = some (.int .i64 x.nx) ∧ u.cell? ⟨P, 3, none⟩ = some (.slice (some ⟨g, off, none⟩) x.vs.length c0) ∧ u.cell? ⟨O, 1, none⟩ = some (.string nm) ∧ u.cell? ⟨g, off + i * 7 + 1, none⟩ = some (.int .i64 id))) W1) := hid ⟨p0, p1, p2, p3, c1, y1⟩
 rw [hW1] at c0'
 clear c1 c2 c3 c4 p0 p1 p2 p3 y1
 have HI := hid hi
 clear hc hid0
 obtain ⟨t, ht⟩ : ∃ t, t = chlF x.vs id 0 := ⟨_, rfl⟩
 have HT := hid ht
 rw [← ht]
 clear ht
 obtain ⟨z, hz2⟩ : ∃ z : Int, z = if 0 ≤ t then 109 else 0 := ⟨_, rfl⟩
 have HZ2 := hid hz2
 rw [← hz2]
 clear hz2
 clear hP hOe hW1 b1 hV hO hR
 dsimp only [viewA, opA] at *
 go_enter Tryz.func83, Tryz.ntmps83
 go_wp2_with fail
 rw [← HW1.out]
 try rw [HPO.out.2]
 try rw [HPO.out.1]
 refine Gz (S := (fun u => (u.cell? ⟨P, 0, none⟩ = some (.int .i64 x.cp) ∧ u.cell? ⟨P, 1, none⟩ = some (.int .i64 x.fr) ∧ u.cell? ⟨P, 2, none⟩ = some (.int .i64 x.nx) ∧ u.cell? ⟨P, 3, none⟩ = some (.slice (some ⟨g, off, none⟩) x.vs.length c0) ∧ u.cell? ⟨O, 1, none⟩ = some (.string nm) ∧ u.cell? ⟨g, off + i * 7 + 1, none⟩ = some (.int .i64 id)))) HS0.out (fun hSS => ?_)
 refine Ti 0 rfl ?_
 refine Ti 1 rfl ?_
 refine Ti 2 rfl ?_
 refine Ti 3 rfl ?_
 try simp only [Act.put, zA, zB, zC]
 refine Ti 4 rfl ?_
 try simp only [Act.put, zA, zB, zC]
 refine Ri 5 rfl (fun K9 hK9 => ?_)
 go_simp
 go_at_call 42
 refine Calls.mono HF1.out ?_
 rintro e y3 ⟨rfl, hy3⟩
 have HY3 := hid hy3
 clear hy3
 refine hK9.out _ _ (HKEEP.out _ HY3.out) (fun hSS => ?_)
 try simp only [Act.put, zA, zB, zC]
 refine Ti 6 rfl ?_
 refine Ti 7 rfl ?_
 refine Ti 8 rfl ?_
 refine Ti 9 rfl ?_
 try simp only [Act.put, zA, zB, zC]
 refine Dn ?_
 have hy4 : Below W1.heap.size W1 y3 := (below_drew _ _).trans HY3.out
 have HB2 := hid hy4
 have HRy := hid ((HR1.out.below hy4).mono hy4.size)
 clear hy4 hSS
 obtain ⟨c0', c1, c2, c3, c4⟩ := HOc.out y3 (HB2.out)
 obtain ⟨⟨p0, p1, p2, p3⟩, _⟩ := (HV.out.keep ((HB2.out).block P HV.out.lt)).cs
 have HP3 := hid (And.intro p3 c0')
 clear c0' c1 c2 c3 c4 p0 p1 p2 p3
 clear hi1
 go_wp2_with fail
 go_loopw [6] (fun iv wr => ∃ r : Nat, r ≤ x.vs.length ∧ iv = .int .i64 (r : Int) ∧ t = chlF (x.vs.drop r) id r ∧ wr = y3) (fun iv _ => x.vs.length - (intOf iv).toNat)
 case atStart => exact ⟨0, Nat.zero_le _, rfl, by rw [HT.out]; rfl, rfl⟩
 case round =>
  obtain ⟨r, hr, rfl, hd, hw⟩ := hrel
  have hw := hw.symm
  subst hw
  obtain ⟨p3, c0'⟩ := HP3.out
  by_cases hlt : r < x.vs.length
  ·have hkl := hlt
   obtain ⟨g2, off2, hg2, hgl2, hc⟩ := (HRy.out).resolve_left (fun e => by rw [e] at hkl; simp at hkl)
   obtain ⟨rfl, rfl⟩ : g = g2 ∧ off = off2 := by simpa using hg2
   obtain ⟨ma, mc, ⟨_, _, _, y3', _, _, _⟩, _, _⟩ := hc r hkl
   rw [List.drop_eq_getElem_cons hkl, chlF] at hd
   obtain ⟨og, hy⟩ : ∃ y, y = x.vs[r].og := ⟨_, rfl⟩
   rw [← hy] at y3' hd
   have HD := hid hd
   have hl1 : (r : Int) < (x.vs.length : Int) := by omega
   clear hc hgl2 hy HRy hd
   by_cases e : og = id
   ·have eb : (og == id) = true := by simpa using e
    have HE : Hid (0 ≤ t) := hid (by rw [HD.out, if_pos e]; omega)
    clear e HD
    go_wp2
    go_ret
    exact ⟨by rw [HZ2.out, if_pos HE.out]; rfl, HB1.out.trans (HB2.out.mono HB1.out.size)⟩
   ·have eb : (og == id) = false := by simpa using e
    have HE : Hid (t = chlF (x.vs.drop (r + 1)) id (r + 1)) := hid (by rw [HD.out, if_neg e])
    clear e HD
    go_wp2
    go_roundw
    case rel => exact ⟨r + 1, by omega, by go_num, HE.out, by simp⟩
    case measure => simp [intOf]; omega
  ·have ekn : r = x.vs.length := by omega
   have HE : Hid (t = -1) := hid (by rw [hd, ekn, List.drop_length]; rfl)
   have hl1 : ¬ (r : Int) < (x.vs.length : Int) := by omega
   clear hd HRy ekn
   go_wp2_with (go_at_call 39; with_reducible refine (HMk.out _).mono ?_; rintro e wn ⟨rfl, hwn⟩; have hwn := hwn.symm; subst hwn)
   go_ret
   exact ⟨by rw [HZ2.out, HE.out]; rfl, HB1.out.trans (HB2.out.mono HB1.out.size)⟩
set_option maxRecDepth 100000 in
set_option maxHeartbeats 8000000 in
theorem rest_7 (x : VW) (a : Option Addr) (c0 : Nat) (nm ot : ByteArray) (fr tt : Int) (da : Option Addr) (dn dc : Nat) (w : World) (hl : x.vs.length ≤ 16777216) (hR : RdV w.heap.size w a x.vs) :
  Calls Tryz.prog 83 #[viewA x a c0, opA ⟨7, nm, ot, fr, tt⟩ da dn dc] w fun e w' => LkQ w (rRst x 7 (plcF x.vs nm 0)) e w' := by
 obtain ⟨P, hP⟩ : ∃ P, P = w.heap.size := ⟨_, rfl⟩
 obtain ⟨O, hOe⟩ : ∃ O, O = w.heap.size + 1 := ⟨_, rfl⟩
 obtain ⟨W1, hW1⟩ : ∃ W1, W1 = (w.alloc (.cells #[.int .i64 x.cp, .int .i64 x.fr, .int .i64 x.nx, .slice a x.vs.length c0] 24)).alloc (.cells #[.int .i64 7, .string nm, .string ot, .int .i64 fr, .int .i64 tt, .slice da dn dc] 42) := ⟨_, rfl⟩
 have b1 : Below w.heap.size w W1 := by rw [hW1]; exact two_below _ _ _
 have hV : VwB W1 P x (.slice a x.vs.length c0) := by
  unfold VwB
  rw [hW1, hP, Below.heap_alloc _ _ _ (by simp)]
  exact heap_new _ _
 have hO : W1.heap[O]? = some (.cells #[.int .i64 7, .string nm, .string ot, .int .i64 fr, .int .i64 tt, .slice da dn dc] 42 (0, 0)) := by
  have := heap_new (w.alloc (.cells #[.int .i64 x.cp, .int .i64 x.fr, .int .i64 x.nx, .slice a x.vs.length c0] 24)) (.cells #[.int .i64 7, .string nm, .string ot, .int .i64 fr, .int .i64 tt, .slice da dn dc] 42)
  rw [World.size_alloc, ← hOe, ← hW1] at this
  exact this
 have hR1 := (hR.below b1).mono b1.size
 have HMk := hid (fun u => makes_any 7 (by decide) (by decide) u)
 have HTk := hid (fun u => takes_any 7 (by decide) (by decide) u)
 have HR1 := hid hR1
 have HV := hid hV
 have HO := hid hO
 have HB1 := hid b1
 have HFn := hid (fun u (hu : Below W1.heap.size W1 u) (s : ByteArray) => find_any x a c0 s u hl ((hR1.below hu).mono hu.size))
 have HPO := hid (And.intro hP.symm hOe.symm)
 have HW1 := hid hW1
 have HOc : Hid (∀ u, Below W1.heap.size W1 u → u.cell? ⟨O, 0, none⟩ = some (.int .i64 7) ∧ u.cell? ⟨O, 1, none⟩ = some (.string nm) ∧ u.cell? ⟨O, 2, none⟩ = some (.string ot) ∧ u.cell? ⟨O, 3, none⟩ = some (.int .i64 fr) ∧ u.cell? ⟨O, 4, none⟩ = some (.int .i64 tt)) := hid (fun u hu => by
  have := (hu.block O (Array.getElem?_eq_some_iff.1 hO).1).trans hO
  simp [World.cell?, this])
 have hz : rRst x 7 (plcF x.vs nm 0) = 0 := by
  unfold rRst mkK
  simp
 rw [hz]
 clear hz HFn HR1
 obtain ⟨c0', c1, c2, c3, c4⟩ := HOc.out W1 (Below.refl _ _)
 obtain ⟨⟨p0, p1, p2, p3⟩, _⟩ := (HV.out.keep ((Below.refl _ _).block P HV.out.lt)).cs
 rw [hW1] at c0' c1 c2 c3 c4 p0 p1 p2 p3
 rw [hW1] at HB1
 clear hP hOe hW1 b1 hV hO hR1 hR
 dsimp only [viewA, opA] at *
 go_enter Tryz.func83, Tryz.ntmps83
 go_wp2_with (go_at_call 39; with_reducible refine (HMk.out _).mono ?_; rintro e wn ⟨rfl, hwn⟩; have hwn := hwn.symm; subst hwn)
 go_ret
 exact ⟨rfl, HB1.out⟩
set_option maxRecDepth 100000 in
set_option maxHeartbeats 8000000 in
theorem rest_8 (x : VW) (a : Option Addr) (c0 : Nat) (nm ot : ByteArray) (fr tt : Int) (da : Option Addr) (dn dc : Nat) (w : World) (hl : x.vs.length ≤ 16777216) (hR : RdV w.heap.size w a x.vs) :
  Calls Tryz.prog 83 #[viewA x a c0, opA ⟨8, nm, ot, fr, tt⟩ da dn dc] w fun e w' => LkQ w (rRst x 8 (plcF x.vs nm 0)) e w' := by
 obtain ⟨P, hP⟩ : ∃ P, P = w.heap.size := ⟨_, rfl⟩
 obtain ⟨O, hOe⟩ : ∃ O, O = w.heap.size + 1 := ⟨_, rfl⟩
 obtain ⟨W1, hW1⟩ : ∃ W1, W1 = (w.alloc (.cells #[.int .i64 x.cp, .int .i64 x.fr, .int .i64 x.nx, .slice a x.vs.length c0] 24)).alloc (.cells #[.int .i64 8, .string nm, .string ot, .int .i64 fr, .int .i64 tt, .slice da dn dc] 42) := ⟨_, rfl⟩
 have b1 : Below w.heap.size w W1 := by rw [hW1]; exact two_below _ _ _
 have hV : VwB W1 P x (.slice a x.vs.length c0) := by
  unfold VwB
  rw [hW1, hP, Below.heap_alloc _ _ _ (by simp)]
  exact heap_new _ _
 have hO : W1.heap[O]? = some (.cells #[.int .i64 8, .string nm, .string ot, .int .i64 fr, .int .i64 tt, .slice da dn dc] 42 (0, 0)) := by
  have := heap_new (w.alloc (.cells #[.int .i64 x.cp, .int .i64 x.fr, .int .i64 x.nx, .slice a x.vs.length c0] 24)) (.cells #[.int .i64 8, .string nm, .string ot, .int .i64 fr, .int .i64 tt, .slice da dn dc] 42)
  rw [World.size_alloc, ← hOe, ← hW1] at this
  exact this
 have hR1 := (hR.below b1).mono b1.size
 have HMk := hid (fun u => makes_any 8 (by decide) (by decide) u)
 have HTk := hid (fun u => takes_any 8 (by decide) (by decide) u)
 have HR1 := hid hR1
 have HV := hid hV
 have HO := hid hO
 have HB1 := hid b1
 have HFn := hid (fun u (hu : Below W1.heap.size W1 u) (s : ByteArray) => find_any x a c0 s u hl ((hR1.below hu).mono hu.size))
 have HPO := hid (And.intro hP.symm hOe.symm)
 have HW1 := hid hW1
 have HOc : Hid (∀ u, Below W1.heap.size W1 u → u.cell? ⟨O, 0, none⟩ = some (.int .i64 8) ∧ u.cell? ⟨O, 1, none⟩ = some (.string nm) ∧ u.cell? ⟨O, 2, none⟩ = some (.string ot) ∧ u.cell? ⟨O, 3, none⟩ = some (.int .i64 fr) ∧ u.cell? ⟨O, 4, none⟩ = some (.int .i64 tt)) := hid (fun u hu => by
  have := (hu.block O (Array.getElem?_eq_some_iff.1 hO).1).trans hO
  simp [World.cell?, this])
 have hz : rRst x 8 (plcF x.vs nm 0) = 0 := by
  unfold rRst mkK
  simp
 rw [hz]
 clear hz HFn HR1
 obtain ⟨c0', c1, c2, c3, c4⟩ := HOc.out W1 (Below.refl _ _)
 obtain ⟨⟨p0, p1, p2, p3⟩, _⟩ := (HV.out.keep ((Below.refl _ _).block P HV.out.lt)).cs
 rw [hW1] at c0' c1 c2 c3 c4 p0 p1 p2 p3
 rw [hW1] at HB1
 clear hP hOe hW1 b1 hV hO hR1 hR
 dsimp only [viewA, opA] at *
 go_enter Tryz.func83, Tryz.ntmps83
 go_wp2_with (go_at_call 39; with_reducible refine (HMk.out _).mono ?_; rintro e wn ⟨rfl, hwn⟩; have hwn := hwn.symm; subst hwn)
 go_ret
 exact ⟨rfl, HB1.out⟩
set_option maxRecDepth 100000 in
set_option maxHeartbeats 8000000 in
theorem rest_9 (x : VW) (a : Option Addr) (c0 : Nat) (nm ot : ByteArray) (fr tt : Int) (da : Option Addr) (dn dc : Nat) (w : World) (hl : x.vs.length ≤ 16777216) (hR : RdV w.heap.size w a x.vs) :
  Calls Tryz.prog 83 #[viewA x a c0, opA ⟨9, nm, ot, fr, tt⟩ da dn dc] w fun e w' => LkQ w (rRst x 9 (plcF x.vs nm 0)) e w' := by
 obtain ⟨P, hP⟩ : ∃ P, P = w.heap.size := ⟨_, rfl⟩
 obtain ⟨O, hOe⟩ : ∃ O, O = w.heap.size + 1 := ⟨_, rfl⟩
 obtain ⟨W1, hW1⟩ : ∃ W1, W1 = (w.alloc (.cells #[.int .i64 x.cp, .int .i64 x.fr, .int .i64 x.nx, .slice a x.vs.length c0] 24)).alloc (.cells #[.int .i64 9, .string nm, .string ot, .int .i64 fr, .int .i64 tt, .slice da dn dc] 42) := ⟨_, rfl⟩
 have b1 : Below w.heap.size w W1 := by rw [hW1]; exact two_below _ _ _
 have hV : VwB W1 P x (.slice a x.vs.length c0) := by
  unfold VwB
  rw [hW1, hP, Below.heap_alloc _ _ _ (by simp)]
  exact heap_new _ _
 have hO : W1.heap[O]? = some (.cells #[.int .i64 9, .string nm, .string ot, .int .i64 fr, .int .i64 tt, .slice da dn dc] 42 (0, 0)) := by
  have := heap_new (w.alloc (.cells #[.int .i64 x.cp, .int .i64 x.fr, .int .i64 x.nx, .slice a x.vs.length c0] 24)) (.cells #[.int .i64 9, .string nm, .string ot, .int .i64 fr, .int .i64 tt, .slice da dn dc] 42)
  rw [World.size_alloc, ← hOe, ← hW1] at this
  exact this
 have hR1 := (hR.below b1).mono b1.size
 have HMk := hid (fun u => makes_any 9 (by decide) (by decide) u)
 have HTk := hid (fun u => takes_any 9 (by decide) (by decide) u)
 have HR1 := hid hR1
 have HV := hid hV
 have HO := hid hO
 have HB1 := hid b1
 have HFn := hid (fun u (hu : Below W1.heap.size W1 u) (s : ByteArray) => find_any x a c0 s u hl ((hR1.below hu).mono hu.size))
 have HPO := hid (And.intro hP.symm hOe.symm)
 have HW1 := hid hW1
 have HOc : Hid (∀ u, Below W1.heap.size W1 u → u.cell? ⟨O, 0, none⟩ = some (.int .i64 9) ∧ u.cell? ⟨O, 1, none⟩ = some (.string nm) ∧ u.cell? ⟨O, 2, none⟩ = some (.string ot) ∧ u.cell? ⟨O, 3, none⟩ = some (.int .i64 fr) ∧ u.cell? ⟨O, 4, none⟩ = some (.int .i64 tt)) := hid (fun u hu => by
  have := (hu.block O (Array.getElem?_eq_some_iff.1 hO).1).trans hO
  simp [World.cell?, this])
 have hz : rRst x 9 (plcF x.vs nm 0) = 0 := by
  unfold rRst mkK
  simp
 rw [hz]
 clear hz HFn HR1
 obtain ⟨c0', c1, c2, c3, c4⟩ := HOc.out W1 (Below.refl _ _)
 obtain ⟨⟨p0, p1, p2, p3⟩, _⟩ := (HV.out.keep ((Below.refl _ _).block P HV.out.lt)).cs
 rw [hW1] at c0' c1 c2 c3 c4 p0 p1 p2 p3
 rw [hW1] at HB1
 clear hP hOe hW1 b1 hV hO hR1 hR
 dsimp only [viewA, opA] at *
 go_enter Tryz.func83, Tryz.ntmps83
 go_wp2_with (go_at_call 39; with_reducible refine (HMk.out _).mono ?_; rintro e wn ⟨rfl, hwn⟩; have hwn := hwn.symm; subst hwn)
 go_ret
 exact ⟨rfl, HB1.out⟩
set_option maxRecDepth 100000 in
set_option maxHeartbeats 8000000 in
theorem rest_10 (x : VW) (a : Option Addr) (c0 : Nat) (nm ot : ByteArray) (fr tt : Int) (da : Option Addr) (dn dc : Nat) (w : World) (hl : x.vs.length ≤ 16777216) (hR : RdV w.heap.size w a x.vs) :
  Calls Tryz.prog 83 #[viewA x a c0, opA ⟨10, nm, ot, fr, tt⟩ da dn dc] w fun e w' => LkQ w (rRst x 10 (plcF x.vs nm 0)) e w' := by
 obtain ⟨P, hP⟩ : ∃ P, P = w.heap.size := ⟨_, rfl⟩
 obtain ⟨O, hOe⟩ : ∃ O, O = w.heap.size + 1 := ⟨_, rfl⟩
 obtain ⟨W1, hW1⟩ : ∃ W1, W1 = (w.alloc (.cells #[.int .i64 x.cp, .int .i64 x.fr, .int .i64 x.nx, .slice a x.vs.length c0] 24)).alloc (.cells #[.int .i64 10, .string nm, .string ot, .int .i64 fr, .int .i64 tt, .slice da dn dc] 42) := ⟨_, rfl⟩
 have b1 : Below w.heap.size w W1 := by rw [hW1]; exact two_below _ _ _
 have hV : VwB W1 P x (.slice a x.vs.length c0) := by
  unfold VwB
  rw [hW1, hP, Below.heap_alloc _ _ _ (by simp)]
  exact heap_new _ _
 have hO : W1.heap[O]? = some (.cells #[.int .i64 10, .string nm, .string ot, .int .i64 fr, .int .i64 tt, .slice da dn dc] 42 (0, 0)) := by
  have := heap_new (w.alloc (.cells #[.int .i64 x.cp, .int .i64 x.fr, .int .i64 x.nx, .slice a x.vs.length c0] 24)) (.cells #[.int .i64 10, .string nm, .string ot, .int .i64 fr, .int .i64 tt, .slice da dn dc] 42)
  rw [World.size_alloc, ← hOe, ← hW1] at this
  exact this
 have hR1 := (hR.below b1).mono b1.size
 have HMk := hid (fun u => makes_any 10 (by decide) (by decide) u)
 have HTk := hid (fun u => takes_any 10 (by decide) (by decide) u)
 have HR1 := hid hR1
 have HV := hid hV
 have HO := hid hO
 have HB1 := hid b1
 have HFn := hid (fun u (hu : Below W1.heap.size W1 u) (s : ByteArray) => find_any x a c0 s u hl ((hR1.below hu).mono hu.size))
 have HPO := hid (And.intro hP.symm hOe.symm)
 have HW1 := hid hW1
 have HOc : Hid (∀ u, Below W1.heap.size W1 u → u.cell? ⟨O, 0, none⟩ = some (.int .i64 10) ∧ u.cell? ⟨O, 1, none⟩ = some (.string nm) ∧ u.cell? ⟨O, 2, none⟩ = some (.string ot) ∧ u.cell? ⟨O, 3, none⟩ = some (.int .i64 fr) ∧ u.cell? ⟨O, 4, none⟩ = some (.int .i64 tt)) := hid (fun u hu => by
  have := (hu.block O (Array.getElem?_eq_some_iff.1 hO).1).trans hO
  simp [World.cell?, this])
 have hz : rRst x 10 (plcF x.vs nm 0) = 0 := by
  unfold rRst mkK
  simp
 rw [hz]
 clear hz HFn HR1
 obtain ⟨c0', c1, c2, c3, c4⟩ := HOc.out W1 (Below.refl _ _)
 obtain ⟨⟨p0, p1, p2, p3⟩, _⟩ := (HV.out.keep ((Below.refl _ _).block P HV.out.lt)).cs
 rw [hW1] at c0' c1 c2 c3 c4 p0 p1 p2 p3
 rw [hW1] at HB1
 clear hP hOe hW1 b1 hV hO hR1 hR
 dsimp only [viewA, opA] at *
 go_enter Tryz.func83, Tryz.ntmps83
 go_wp2_with (go_at_call 39; with_reducible refine (HMk.out _).mono ?_; rintro e wn ⟨rfl, hwn⟩; have hwn := hwn.symm; subst hwn)
 go_ret
 exact ⟨rfl, HB1.out⟩
set_option maxRecDepth 100000 in
set_option maxHeartbeats 8000000 in
theorem rest_11 (x : VW) (a : Option Addr) (c0 : Nat) (nm ot : ByteArray) (fr tt : Int) (da : Option Addr) (dn dc : Nat) (w : World) (hl : x.vs.length ≤ 16777216) (hR : RdV w.heap.size w a x.vs) :
  Calls Tryz.prog 83 #[viewA x a c0, opA ⟨11, nm, ot, fr, tt⟩ da dn dc] w fun e w' => LkQ w (rRst x 11 (plcF x.vs nm 0)) e w' := by
 obtain ⟨P, hP⟩ : ∃ P, P = w.heap.size := ⟨_, rfl⟩
 obtain ⟨O, hOe⟩ : ∃ O, O = w.heap.size + 1 := ⟨_, rfl⟩
 obtain ⟨W1, hW1⟩ : ∃ W1, W1 = (w.alloc (.cells #[.int .i64 x.cp, .int .i64 x.fr, .int .i64 x.nx, .slice a x.vs.length c0] 24)).alloc (.cells #[.int .i64 11, .string nm, .string ot, .int .i64 fr, .int .i64 tt, .slice da dn dc] 42) := ⟨_, rfl⟩
 have b1 : Below w.heap.size w W1 := by rw [hW1]; exact two_below _ _ _
 have hV : VwB W1 P x (.slice a x.vs.length c0) := by
  unfold VwB
  rw [hW1, hP, Below.heap_alloc _ _ _ (by simp)]
  exact heap_new _ _
 have hO : W1.heap[O]? = some (.cells #[.int .i64 11, .string nm, .string ot, .int .i64 fr, .int .i64 tt, .slice da dn dc] 42 (0, 0)) := by
  have := heap_new (w.alloc (.cells #[.int .i64 x.cp, .int .i64 x.fr, .int .i64 x.nx, .slice a x.vs.length c0] 24)) (.cells #[.int .i64 11, .string nm, .string ot, .int .i64 fr, .int .i64 tt, .slice da dn dc] 42)
  rw [World.size_alloc, ← hOe, ← hW1] at this
  exact this
 have hR1 := (hR.below b1).mono b1.size
 have HMk := hid (fun u => makes_any 11 (by decide) (by decide) u)
 have HTk := hid (fun u => takes_any 11 (by decide) (by decide) u)
 have HR1 := hid hR1
 have HV := hid hV
 have HO := hid hO
 have HB1 := hid b1
 have HFn := hid (fun u (hu : Below W1.heap.size W1 u) (s : ByteArray) => find_any x a c0 s u hl ((hR1.below hu).mono hu.size))
 have HPO := hid (And.intro hP.symm hOe.symm)
 have HW1 := hid hW1
 have HOc : Hid (∀ u, Below W1.heap.size W1 u → u.cell? ⟨O, 0, none⟩ = some (.int .i64 11) ∧ u.cell? ⟨O, 1, none⟩ = some (.string nm) ∧ u.cell? ⟨O, 2, none⟩ = some (.string ot) ∧ u.cell? ⟨O, 3, none⟩ = some (.int .i64 fr) ∧ u.cell? ⟨O, 4, none⟩ = some (.int .i64 tt)) := hid (fun u hu => by
  have := (hu.block O (Array.getElem?_eq_some_iff.1 hO).1).trans hO
  simp [World.cell?, this])
 have hz : rRst x 11 (plcF x.vs nm 0) = 0 := by
  unfold rRst mkK
  simp
 rw [hz]
 clear hz HFn HR1
 obtain ⟨c0', c1, c2, c3, c4⟩ := HOc.out W1 (Below.refl _ _)
 obtain ⟨⟨p0, p1, p2, p3⟩, _⟩ := (HV.out.keep ((Below.refl _ _).block P HV.out.lt)).cs
 rw [hW1] at c0' c1 c2 c3 c4 p0 p1 p2 p3
 rw [hW1] at HB1
 clear hP hOe hW1 b1 hV hO hR1 hR
 dsimp only [viewA, opA] at *
 go_enter Tryz.func83, Tryz.ntmps83
 go_wp2_with (go_at_call 39; with_reducible refine (HMk.out _).mono ?_; rintro e wn ⟨rfl, hwn⟩; have hwn := hwn.symm; subst hwn)
 go_ret
 exact ⟨rfl, HB1.out⟩
end Go.Proofs.YtddddfankeepkaaGreatDoor
