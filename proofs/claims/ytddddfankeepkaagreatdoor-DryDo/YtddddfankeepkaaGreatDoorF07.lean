import Derived.Test.YtddddfankeepkaaGreatDoorF03
import Derived.BigQuiet
namespace Go.Proofs.YtddddfankeepkaaGreatDoor
open Go.RowKit
structure OW where
 k : Int
 nm : ByteArray
 ot : ByteArray
 fr : Int
 tt : Int
def DrB (w : World) (D : Nat) (x : VW) (u : Value) (o : OW) (dv : Value) (pn po : Int) : Prop :=
 w.heap[D]? = some (.cells #[.int .i64 x.cp, .int .i64 x.fr, .int .i64 x.nx, u, .int .i64 o.k, .string o.nm, .string o.ot, .int .i64 o.fr, .int .i64 o.tt, dv, .int .i64 pn, .int .i64 po] 73 (0, 0))
theorem DrB.lt {w : World} {D : Nat} {x : VW} {u : Value} {o : OW} {dv : Value} {pn po : Int} (h : DrB w D x u o dv pn po) : D < w.heap.size := (Array.getElem?_eq_some_iff.1 h).1
theorem DrB.keep {w w' : World} {D : Nat} {x : VW} {u : Value} {o : OW} {dv : Value} {pn po : Int} (h : DrB w D x u o dv pn po) (hw : w'.heap[D]? = w.heap[D]?) : DrB w' D x u o dv pn po := by unfold DrB at *; rw [hw]; exact h
theorem DrB.cs {w : World} {D : Nat} {x : VW} {u : Value} {o : OW} {dv : Value} {pn po : Int} (h : DrB w D x u o dv pn po) : w.cell? ⟨D, 0, none⟩ = some (.int .i64 x.cp) ∧ w.cell? ⟨D, 1, none⟩ = some (.int .i64 x.fr) ∧ w.cell? ⟨D, 2, none⟩ = some (.int .i64 x.nx) ∧ w.cell? ⟨D, 3, none⟩ = some u ∧ w.cell? ⟨D, 4, none⟩ = some (.int .i64 o.k) ∧ w.cell? ⟨D, 5, none⟩ = some (.string o.nm) ∧ w.cell? ⟨D, 6, none⟩ = some (.string o.ot) ∧ w.cell? ⟨D, 7, none⟩ = some (.int .i64 o.fr) ∧ w.cell? ⟨D, 8, none⟩ = some (.int .i64 o.tt) ∧ w.cell? ⟨D, 9, none⟩ = some dv ∧ w.cell? ⟨D, 10, none⟩ = some (.int .i64 pn) ∧ w.cell? ⟨D, 11, none⟩ = some (.int .i64 po) := by
 unfold DrB at h
 simp [World.cell?, h]
theorem DrB.fz {w : World} {D : Nat} {x : VW} {u : Value} {o : OW} {dv : Value} {pn po : Int} (h : DrB w D x u o dv pn po) (i : Nat) : w.frozen? ⟨D, i, none⟩ = false := by
 unfold DrB at h
 simp [World.frozen?, h]
def LkQ (w : World) (err : Int) (e : Ending) (w' : World) : Prop := e = .returned (.int .i64 err) ∧ Below w.heap.size w w'
def unl (b : Bool) (e : Int) : Int := if b then 0 else e
set_option maxHeartbeats 1000000 in
theorem unless_any (b : Bool) (e0 : Int) (w : World) : Calls Tryz.prog 91 #[.bool b, .int .i64 e0] w fun e w' => e = .returned (.int .i64 (unl b e0)) ∧ w' = w := by
 cases b
 ·go_enter Tryz.func91, Tryz.ntmps91
  go_wp2
  go_ret
  exact ⟨rfl, rfl⟩
 ·go_enter Tryz.func91, Tryz.ntmps91
  go_wp2
  go_ret
  exact ⟨rfl, rfl⟩
set_option maxRecDepth 100000 in
set_option maxHeartbeats 4000000 in
theorem placeOf_any (D : Nat) (x : VW) (a : Option Addr) (c : Nat) (o : OW) (dv : Value) (pn po : Int) (nm : ByteArray) (w : World) (hD : DrB w D x (.slice a x.vs.length c) o dv pn po) (hl : x.vs.length ≤ 16777216) (hR : RdV w.heap.size w a x.vs) :
  Calls Tryz.prog 76 #[.pointer (some ⟨D, 0, none⟩), .string nm] w fun e w' => LkQ w (plcF x.vs nm 0) e w' := by
 obtain ⟨P, hP⟩ : ∃ P, P = w.heap.size := ⟨_, rfl⟩
 obtain ⟨W1, hW1⟩ : ∃ W1, W1 = w.alloc (.cells #[.string nm] 9) := ⟨_, rfl⟩
 have b1 : Below w.heap.size w W1 := by rw [hW1]; exact below1 _ _
 have hS : StB W1 P nm := by rw [hW1, hP]; exact heap_new _ _
 have HC := hid (IndexName_any a c P x.vs nm W1 hl ((hR.below b1).mono b1.size) hS)
 obtain ⟨_, _, _, c3, _⟩ := hD.cs
 have hDl := hD.lt
 have HB := hid b1
 have HW := hid hW1
 have HP := hid hP
 clear b1 hS hW1 hP hR hD
 go_enter Tryz.func76, Tryz.ntmps76
 go_wp2_with fail
 rw [← HW.out, ← HP.out]
 refine HC.out.mono ?_
 rintro e w2 ⟨rfl, hb2⟩
 have HB2 := hid (HB.out.trans (hb2.mono HB.out.size))
 clear hb2 HC
 go_wp2
 go_ret
 exact ⟨rfl, HB2.out⟩
set_option maxRecDepth 100000 in
set_option maxHeartbeats 2000000 in
theorem nameIsThere_any (D : Nat) (x : VW) (u : Value) (o : OW) (dv : Value) (pn po : Int) (w : World) (hD : DrB w D x u o dv pn po) :
  Calls Tryz.prog 55 #[.pointer (some ⟨D, 0, none⟩)] w fun e w' => LkQ w (unl (decide (0 ≤ pn)) 104) e w' := by
 obtain ⟨c0, c1, c2, c3, c4, c5, c6, c7, c8, c9, c10, c11⟩ := hD.cs
 have HB := hid (Below.refl w.heap.size w)
 clear hD
 by_cases h : 0 ≤ pn
 ·rw [decide_eq_true h]
  have HC := hid (unless_any true 104 w)
  have h' := h
  go_enter Tryz.func55, Tryz.ntmps55
  go_wp2_with fail
  refine HC.out.mono ?_
  rintro e w2 ⟨rfl, rfl⟩
  go_wp2
  go_ret
  exact ⟨rfl, HB.out⟩
 ·rw [decide_eq_false h]
  have HC := hid (unless_any false 104 w)
  go_enter Tryz.func55, Tryz.ntmps55
  go_wp2_with fail
  refine HC.out.mono ?_
  rintro e w2 ⟨rfl, rfl⟩
  go_wp2
  go_ret
  exact ⟨rfl, HB.out⟩
set_option maxRecDepth 100000 in
set_option maxHeartbeats 2000000 in
theorem otherIsThere_any (D : Nat) (x : VW) (u : Value) (o : OW) (dv : Value) (pn po : Int) (w : World) (hD : DrB w D x u o dv pn po) :
  Calls Tryz.prog 51 #[.pointer (some ⟨D, 0, none⟩)] w fun e w' => LkQ w (unl (decide (0 ≤ po)) 104) e w' := by
 obtain ⟨c0, c1, c2, c3, c4, c5, c6, c7, c8, c9, c10, c11⟩ := hD.cs
 have HB := hid (Below.refl w.heap.size w)
 clear hD
 by_cases h : 0 ≤ po
 ·rw [decide_eq_true h]
  have HC := hid (unless_any true 104 w)
  have h' := h
  go_enter Tryz.func51, Tryz.ntmps51
  go_wp2_with fail
  refine HC.out.mono ?_
  rintro e w2 ⟨rfl, rfl⟩
  go_wp2
  go_ret
  exact ⟨rfl, HB.out⟩
 ·rw [decide_eq_false h]
  have HC := hid (unless_any false 104 w)
  go_enter Tryz.func51, Tryz.ntmps51
  go_wp2_with fail
  refine HC.out.mono ?_
  rintro e w2 ⟨rfl, rfl⟩
  go_wp2
  go_ret
  exact ⟨rfl, HB.out⟩
set_option maxRecDepth 100000 in
set_option maxHeartbeats 2000000 in
theorem nameIsFree_any (D : Nat) (x : VW) (u : Value) (o : OW) (dv : Value) (pn po : Int) (w : World) (hD : DrB w D x u o dv pn po) :
  Calls Tryz.prog 52 #[.pointer (some ⟨D, 0, none⟩)] w fun e w' => LkQ w (unl (decide (pn < 0)) 105) e w' := by
 obtain ⟨c0, c1, c2, c3, c4, c5, c6, c7, c8, c9, c10, c11⟩ := hD.cs
 have HB := hid (Below.refl w.heap.size w)
 clear hD
 by_cases h : pn < 0
 ·rw [decide_eq_true h]
  have HC := hid (unless_any true 105 w)
  have h' := h
  go_enter Tryz.func52, Tryz.ntmps52
  go_wp2_with fail
  refine HC.out.mono ?_
  rintro e w2 ⟨rfl, rfl⟩
  go_wp2
  go_ret
  exact ⟨rfl, HB.out⟩
 ·rw [decide_eq_false h]
  have HC := hid (unless_any false 105 w)
  go_enter Tryz.func52, Tryz.ntmps52
  go_wp2_with fail
  refine HC.out.mono ?_
  rintro e w2 ⟨rfl, rfl⟩
  go_wp2
  go_ret
  exact ⟨rfl, HB.out⟩
set_option maxRecDepth 100000 in
set_option maxHeartbeats 2000000 in
theorem otherIsFree_any (D : Nat) (x : VW) (u : Value) (o : OW) (dv : Value) (pn po : Int) (w : World) (hD : DrB w D x u o dv pn po) :
  Calls Tryz.prog 64 #[.pointer (some ⟨D, 0, none⟩)] w fun e w' => LkQ w (unl (decide (po < 0)) 105) e w' := by
 obtain ⟨c0, c1, c2, c3, c4, c5, c6, c7, c8, c9, c10, c11⟩ := hD.cs
 have HB := hid (Below.refl w.heap.size w)
 clear hD
 by_cases h : po < 0
 ·rw [decide_eq_true h]
  have HC := hid (unless_any true 105 w)
  have h' := h
  go_enter Tryz.func64, Tryz.ntmps64
  go_wp2_with fail
  refine HC.out.mono ?_
  rintro e w2 ⟨rfl, rfl⟩
  go_wp2
  go_ret
  exact ⟨rfl, HB.out⟩
 ·rw [decide_eq_false h]
  have HC := hid (unless_any false 105 w)
  go_enter Tryz.func64, Tryz.ntmps64
  go_wp2_with fail
  refine HC.out.mono ?_
  rintro e w2 ⟨rfl, rfl⟩
  go_wp2
  go_ret
  exact ⟨rfl, HB.out⟩
end Go.Proofs.YtddddfankeepkaaGreatDoor
namespace Go.Proofs.YtddddfankeepkaaGreatDoor
open Go.RowKit
set_option maxRecDepth 100000 in
set_option maxHeartbeats 2000000 in
theorem sizeMayBe_any (D : Nat) (x : VW) (u : Value) (o : OW) (dv : Value) (pn po : Int) (w : World) (hD : DrB w D x u o dv pn po) :
  Calls Tryz.prog 59 #[.pointer (some ⟨D, 0, none⟩)] w fun e w' => LkQ w (unl (decide (1 ≤ o.tt ∧ o.tt ≤ 262144)) 106) e w' := by
 obtain ⟨c0, c1, c2, c3, c4, c5, c6, c7, c8, c9, c10, c11⟩ := hD.cs
 have HB := hid (Below.refl w.heap.size w)
 clear hD
 by_cases h : 1 ≤ o.tt
 ·by_cases h2 : o.tt ≤ 262144
  ·rw [decide_eq_true (And.intro h h2)]
   have HC := hid (unless_any true 106 w)
   go_enter Tryz.func59, Tryz.ntmps59
   go_wp2_with fail
   refine HC.out.mono ?_
   rintro e w2 ⟨rfl, rfl⟩
   go_wp2
   go_ret
   exact ⟨rfl, HB.out⟩
  ·rw [decide_eq_false (fun q : 1 ≤ o.tt ∧ o.tt ≤ 262144 => h2 q.2)]
   have HC := hid (unless_any false 106 w)
   go_enter Tryz.func59, Tryz.ntmps59
   go_wp2_with fail
   refine HC.out.mono ?_
   rintro e w2 ⟨rfl, rfl⟩
   go_wp2
   go_ret
   exact ⟨rfl, HB.out⟩
 ·rw [decide_eq_false (fun q : 1 ≤ o.tt ∧ o.tt ≤ 262144 => h q.1)]
  have HC := hid (unless_any false 106 w)
  go_enter Tryz.func59, Tryz.ntmps59
  go_wp2_with fail
  refine HC.out.mono ?_
  rintro e w2 ⟨rfl, rfl⟩
  go_wp2
  go_ret
  exact ⟨rfl, HB.out⟩
set_option maxRecDepth 100000 in
set_option maxHeartbeats 2000000 in
theorem room_any (D : Nat) (x : VW) (a : Option Addr) (n c : Nat) (o : OW) (dv : Value) (pn po : Int) (w : World) (hD : DrB w D x (.slice a n c) o dv pn po) :
  Calls Tryz.prog 54 #[.pointer (some ⟨D, 0, none⟩)] w fun e w' => LkQ w (if 64 ≤ n then 83 else unl (decide (x.nx ≤ 1073741824)) 85) e w' := by
 obtain ⟨c0, c1, c2, c3, c4, c5, c6, c7, c8, c9, c10, c11⟩ := hD.cs
 have HB := hid (Below.refl w.heap.size w)
 clear hD
 by_cases h : 64 ≤ n
 ·have h' : (64 : Int) ≤ (n : Int) := by omega
  rw [if_pos h]
  go_enter Tryz.func54, Tryz.ntmps54
  go_wp2
  go_ret
  exact ⟨rfl, HB.out⟩
 ·have h' : ¬ (64 : Int) ≤ (n : Int) := by omega
  rw [if_neg h]
  by_cases h2 : x.nx ≤ 1073741824
  ·rw [decide_eq_true h2]
   have HC := hid (unless_any true 85 w)
   go_enter Tryz.func54, Tryz.ntmps54
   go_wp2_with fail
   refine HC.out.mono ?_
   rintro e w2 ⟨rfl, rfl⟩
   go_wp2
   go_ret
   exact ⟨rfl, HB.out⟩
  ·rw [decide_eq_false h2]
   have HC := hid (unless_any false 85 w)
   go_enter Tryz.func54, Tryz.ntmps54
   go_wp2_with fail
   refine HC.out.mono ?_
   rintro e w2 ⟨rfl, rfl⟩
   go_wp2
   go_ret
   exact ⟨rfl, HB.out⟩
end Go.Proofs.YtddddfankeepkaaGreatDoor
namespace Go.Proofs.YtddddfankeepkaaGreatDoor
open Go.RowKit
theorem below_drewN' (B : Nat) (w : World) (n : Nat) : Below B w (w.drewN n) := ⟨rfl, rfl, rfl, Nat.le_refl _, fun _ _ => rfl⟩
set_option maxRecDepth 100000 in
set_option maxHeartbeats 2000000 in
theorem volume_any (D : Nat) (x : VW) (b off n c k : Nat) (o : OW) (dv : Value) (po : Int) (w : World) (hD : DrB w D x (.slice (some ⟨b, off, none⟩) n c) o dv (k : Int) po) (hk : k < n) :
  Calls Tryz.prog 93 #[.pointer (some ⟨D, 0, none⟩)] w fun e w' => e = .returned (.pointer (some ⟨b, off + k * 7, none⟩)) ∧ ∃ q, w' = w.drewN q := by
 obtain ⟨c0, c1, c2, c3, c4, c5, c6, c7, c8, c9, c10, c11⟩ := hD.cs
 have hk' : (k : Int) < (n : Int) := by omega
 clear hD
 go_enter Tryz.func93, Tryz.ntmps93
 go_wp2_with fail
 go_quiet (fail)
 all_goals go_wp2
 all_goals go_ret
 all_goals exact ⟨rfl, _, rfl⟩
set_option maxRecDepth 100000 in
set_option maxHeartbeats 2000000 in
theorem second_any (D : Nat) (x : VW) (b off n c k : Nat) (o : OW) (dv : Value) (pn : Int) (w : World) (hD : DrB w D x (.slice (some ⟨b, off, none⟩) n c) o dv pn (k : Int)) (hk : k < n) :
  Calls Tryz.prog 92 #[.pointer (some ⟨D, 0, none⟩)] w fun e w' => e = .returned (.pointer (some ⟨b, off + k * 7, none⟩)) ∧ ∃ q, w' = w.drewN q := by
 obtain ⟨c0, c1, c2, c3, c4, c5, c6, c7, c8, c9, c10, c11⟩ := hD.cs
 have hk' : (k : Int) < (n : Int) := by omega
 clear hD
 go_enter Tryz.func92, Tryz.ntmps92
 go_wp2_with fail
 go_quiet (fail)
 all_goals go_wp2
 all_goals go_ret
 all_goals exact ⟨rfl, _, rfl⟩
end Go.Proofs.YtddddfankeepkaaGreatDoor
namespace Go.Proofs.YtddddfankeepkaaGreatDoor
open Go.RowKit
theorem drewN_below {w w' : World} {q : Nat} (h : w' = w.drewN q) : Below w.heap.size w w' := by rw [h]; exact below_drewN' _ _ _
set_option maxRecDepth 100000 in
set_option maxHeartbeats 4000000 in
theorem nameIsWhole_any (D : Nat) (x : VW) (b off n c k : Nat) (v : PV) (a2 : Option Addr) (c2 : Nat) (o : OW) (dv : Value) (po : Int) (w : World) (hD : DrB w D x (.slice (some ⟨b, off, none⟩) n c) o dv (k : Int) po) (hk : k < n) (hV : VolC w b (off + k * 7) v a2 c2) :
  Calls Tryz.prog 57 #[.pointer (some ⟨D, 0, none⟩)] w fun e w' => LkQ w (unl (!v.pt) 108) e w' := by
 obtain ⟨_, _, _, _, _, v5, _⟩ := hV
 have HC := hid (volume_any D x b off n c k o dv po w hD hk)
 clear hD
 generalize v.pt = pt at *
 cases pt
 ·have HU := hid (fun u => unless_any true 108 u)
  go_enter Tryz.func57, Tryz.ntmps57
  go_wp2_with fail
  refine HC.out.mono ?_
  rintro e w2 ⟨rfl, q, hw2⟩
  have HB := hid (drewN_below hw2)
  have v5' : w2.cell? ⟨b, off + k * 7 + 5, none⟩ = some (.bool false) := by rw [hw2]; exact v5
  clear hw2 HC v5
  go_wp2_with fail
  refine (HU.out w2).mono ?_
  rintro e w3 ⟨rfl, rfl⟩
  go_wp2
  go_ret
  exact ⟨rfl, HB.out⟩
 ·have HU := hid (fun u => unless_any false 108 u)
  go_enter Tryz.func57, Tryz.ntmps57
  go_wp2_with fail
  refine HC.out.mono ?_
  rintro e w2 ⟨rfl, q, hw2⟩
  have HB := hid (drewN_below hw2)
  have v5' : w2.cell? ⟨b, off + k * 7 + 5, none⟩ = some (.bool true) := by rw [hw2]; exact v5
  clear hw2 HC v5
  go_wp2_with fail
  refine (HU.out w2).mono ?_
  rintro e w3 ⟨rfl, rfl⟩
  go_wp2
  go_ret
  exact ⟨rfl, HB.out⟩
set_option maxRecDepth 100000 in
set_option maxHeartbeats 4000000 in
theorem otherIsWhole_any (D : Nat) (x : VW) (b off n c k : Nat) (v : PV) (a2 : Option Addr) (c2 : Nat) (o : OW) (dv : Value) (pn : Int) (w : World) (hD : DrB w D x (.slice (some ⟨b, off, none⟩) n c) o dv pn (k : Int)) (hk : k < n) (hV : VolC w b (off + k * 7) v a2 c2) :
  Calls Tryz.prog 53 #[.pointer (some ⟨D, 0, none⟩)] w fun e w' => LkQ w (unl (!v.pt) 108) e w' := by
 obtain ⟨_, _, _, _, _, v5, _⟩ := hV
 have HC := hid (second_any D x b off n c k o dv pn w hD hk)
 clear hD
 generalize v.pt = pt at *
 cases pt
 ·have HU := hid (fun u => unless_any true 108 u)
  go_enter Tryz.func53, Tryz.ntmps53
  go_wp2_with fail
  refine HC.out.mono ?_
  rintro e w2 ⟨rfl, q, hw2⟩
  have HB := hid (drewN_below hw2)
  have v5' : w2.cell? ⟨b, off + k * 7 + 5, none⟩ = some (.bool false) := by rw [hw2]; exact v5
  clear hw2 HC v5
  go_wp2_with fail
  refine (HU.out w2).mono ?_
  rintro e w3 ⟨rfl, rfl⟩
  go_wp2
  go_ret
  exact ⟨rfl, HB.out⟩
 ·have HU := hid (fun u => unless_any false 108 u)
  go_enter Tryz.func53, Tryz.ntmps53
  go_wp2_with fail
  refine HC.out.mono ?_
  rintro e w2 ⟨rfl, q, hw2⟩
  have HB := hid (drewN_below hw2)
  have v5' : w2.cell? ⟨b, off + k * 7 + 5, none⟩ = some (.bool true) := by rw [hw2]; exact v5
  clear hw2 HC v5
  go_wp2_with fail
  refine (HU.out w2).mono ?_
  rintro e w3 ⟨rfl, rfl⟩
  go_wp2
  go_ret
  exact ⟨rfl, HB.out⟩
set_option maxRecDepth 100000 in
set_option maxHeartbeats 4000000 in
theorem rangeIsShort_any (D : Nat) (x : VW) (u : Value) (o : OW) (dv : Value) (pn po : Int) (w : World) (hD : DrB w D x u o dv pn po) :
  Calls Tryz.prog 58 #[.pointer (some ⟨D, 0, none⟩)] w fun e w' => LkQ w (unl (decide (IntKind.i64.wrap (o.tt - o.fr) ≤ 32)) 107) e w' := by
 obtain ⟨c0, c1, c2, c3, c4, c5, c6, c7, c8, c9, c10, c11⟩ := hD.cs
 clear hD
 obtain ⟨z, hz⟩ : ∃ z, IntKind.i64.wrap (o.tt - o.fr) = z := ⟨_, rfl⟩
 rw [hz]
 by_cases h : z ≤ 32
 ·rw [decide_eq_true h]
  go_enter Tryz.func58, Tryz.ntmps58
  go_wp2_with fail
  go_quiet ((go_at_call 91; exact Calls.quiet_of_same (unless_any true 107 _)))
  all_goals go_wp2
  all_goals go_ret
  all_goals exact ⟨rfl, below_drewN' _ _ _⟩
 ·rw [decide_eq_false h]
  have h' : decide (z ≤ 32) = false := decide_eq_false h
  go_enter Tryz.func58, Tryz.ntmps58
  go_wp2_with fail
  go_quiet ((go_at_call 91; exact Calls.quiet_of_same (unless_any false 107 _)))
  all_goals go_wp2
  all_goals go_ret
  all_goals exact ⟨rfl, below_drewN' _ _ _⟩
set_option maxRecDepth 100000 in
set_option maxHeartbeats 4000000 in
theorem capacityMayBe_any (D : Nat) (x : VW) (u : Value) (o : OW) (dv : Value) (pn po : Int) (w : World) (hD : DrB w D x u o dv pn po) :
  Calls Tryz.prog 73 #[.pointer (some ⟨D, 0, none⟩)] w fun e w' => LkQ w (unl (decide (x.cp < o.tt ∧ o.tt ≤ 262144)) 106) e w' := by
 obtain ⟨c0, c1, c2, c3, c4, c5, c6, c7, c8, c9, c10, c11⟩ := hD.cs
 clear hD
 by_cases h : x.cp < o.tt
 ·by_cases h2 : o.tt ≤ 262144
  ·rw [decide_eq_true (And.intro h h2)]
   go_enter Tryz.func73, Tryz.ntmps73
   go_wp2_with fail
   go_quiet ((go_at_call 91; exact Calls.quiet_of_same (unless_any true 106 _)))
   all_goals go_wp2
   all_goals go_ret
   all_goals exact ⟨rfl, below_drewN' _ _ _⟩
  ·rw [decide_eq_false (fun q : x.cp < o.tt ∧ o.tt ≤ 262144 => h2 q.2)]
   have h' : decide (o.tt ≤ 262144) = false := decide_eq_false h2
   go_enter Tryz.func73, Tryz.ntmps73
   go_wp2_with fail
   go_quiet ((go_at_call 91; exact Calls.quiet_of_same (unless_any false 106 _)))
   all_goals go_wp2
   all_goals go_ret
   all_goals exact ⟨rfl, below_drewN' _ _ _⟩
 ·rw [decide_eq_false (fun q : x.cp < o.tt ∧ o.tt ≤ 262144 => h q.1)]
  have h' : decide (x.cp < o.tt) = false := decide_eq_false h
  go_enter Tryz.func73, Tryz.ntmps73
  go_wp2_with fail
  go_quiet ((go_at_call 91; exact Calls.quiet_of_same (unless_any false 106 _)))
  all_goals go_wp2
  all_goals go_ret
  all_goals exact ⟨rfl, below_drewN' _ _ _⟩
set_option maxRecDepth 100000 in
set_option maxHeartbeats 4000000 in
theorem fromIsWithin_any (D : Nat) (x : VW) (b off n c k : Nat) (v : PV) (a2 : Option Addr) (c2' : Nat) (o : OW) (dv : Value) (po : Int) (w : World) (hD : DrB w D x (.slice (some ⟨b, off, none⟩) n c) o dv (k : Int) po) (hk : k < n) (hV : VolC w b (off + k * 7) v a2 c2') :
  Calls Tryz.prog 69 #[.pointer (some ⟨D, 0, none⟩)] w fun e w' => LkQ w (unl (decide (0 ≤ o.fr ∧ o.fr < v.sz)) 107) e w' := by
 obtain ⟨c0, c1, c2, c3, c4, c5, c6, c7, c8, c9, c10, c11⟩ := hD.cs
 obtain ⟨_, _, v2, _, _, _, _⟩ := hV
 have HD := hid hD
 have HC : Hid (∀ q, Calls Tryz.prog 93 #[.pointer (some ⟨D, 0, none⟩)] (w.drewN q) fun e w' => e = .returned (.pointer (some ⟨b, off + k * 7, none⟩)) ∧ ∃ q', w' = (w.drewN q).drewN q') := fun q => volume_any D x b off n c k o dv po (w.drewN q) HD.out hk
 clear hD HD
 by_cases h : 0 ≤ o.fr
 ·by_cases h2 : o.fr < v.sz
  ·rw [decide_eq_true (And.intro h h2)]
   go_enter Tryz.func69, Tryz.ntmps69
   go_wp2_with fail
   go_quiet (first | (go_at_call 93; exact Calls.quiet_of (HC.out _)) | (go_at_call 91; exact Calls.quiet_of_same (unless_any true 107 _)))
   all_goals go_wp2
   all_goals go_ret
   all_goals exact ⟨rfl, below_drewN' _ _ _⟩
  ·rw [decide_eq_false (fun q : 0 ≤ o.fr ∧ o.fr < v.sz => h2 q.2)]
   have h' : decide (o.fr < v.sz) = false := decide_eq_false h2
   go_enter Tryz.func69, Tryz.ntmps69
   go_wp2_with fail
   go_quiet (first | (go_at_call 93; exact Calls.quiet_of (HC.out _)) | (go_at_call 91; exact Calls.quiet_of_same (unless_any false 107 _)))
   all_goals go_wp2
   all_goals go_ret
   all_goals exact ⟨rfl, below_drewN' _ _ _⟩
 ·rw [decide_eq_false (fun q : 0 ≤ o.fr ∧ o.fr < v.sz => h q.1)]
  have h' : decide (0 ≤ o.fr) = false := decide_eq_false h
  go_enter Tryz.func69, Tryz.ntmps69
  go_wp2_with fail
  go_quiet ((go_at_call 91; exact Calls.quiet_of_same (unless_any false 107 _)))
  all_goals go_wp2
  all_goals go_ret
  all_goals exact ⟨rfl, below_drewN' _ _ _⟩
end Go.Proofs.YtddddfankeepkaaGreatDoor
namespace Go.Proofs.YtddddfankeepkaaGreatDoor
open Go.RowKit
def chlF : List PV → Int → Nat → Int
 | [], _, _ => -1
 | v :: r, id, k => if v.og = id then (k : Int) else chlF r id (k + 1)
def NmB (w : World) (P : Nat) (s : Int) : Prop := w.heap[P]? = some (.cells #[.int .i64 s] 3 (0, 0))
theorem NmB.lt {w : World} {P : Nat} {s : Int} (h : NmB w P s) : P < w.heap.size := (Array.getElem?_eq_some_iff.1 h).1
theorem NmB.keep {w w' : World} {P : Nat} {s : Int} (h : NmB w P s) (hw : w'.heap[P]? = w.heap[P]?) : NmB w' P s := by unfold NmB at *; rw [hw]; exact h
theorem NmB.cs {w : World} {P : Nat} {s : Int} (h : NmB w P s) : w.cell? ⟨P, 0, none⟩ = some (.int .i64 s) := by
 unfold NmB at h
 simp [World.cell?, h]
set_option maxRecDepth 100000 in
set_option maxHeartbeats 1000000 in
theorem isChild_any (v : PV) (a : Option Addr) (c P : Nat) (id : Int) (w : World) (hP : NmB w P id) :
  Calls Tryz.prog 98 #[volA v a c, .pointer (some ⟨P, 0, none⟩)] w fun e w' => e = .returned (.bool (v.og == id)) ∧ Below w.heap.size w w' := by
 have c0 := hP.cs
 have hl := hP.lt
 have HB := hid (below1 w (.cells #[.string v.nm, .int .i64 v.id, .int .i64 v.sz, .int .i64 v.og, .int .i64 v.kd, .bool v.pt, .slice a v.mp.length c] 38))
 clear hP
 dsimp only [volA]
 go_enter Tryz.func98, Tryz.ntmps98
 go_wp2
 go_ret
 exact ⟨rfl, HB.out⟩
set_option maxRecDepth 100000 in
set_option maxHeartbeats 4000000 in
theorem IndexChild_any (a : Option Addr) (c P : Nat) (vs : List PV) (id : Int) (w : World) (hl : vs.length ≤ 16777216) (hR : RdV w.heap.size w a vs) (hP : NmB w P id) :
  Calls Tryz.prog 103 #[.slice a vs.length c, .func (.func 98) #[] #[.pointer (some ⟨P, 0, none⟩)]] w fun e w' => e = .returned (.int .i64 (chlF vs id 0)) ∧ Below w.heap.size w w' := by
 have HR := hid hR
 have HP := hid hP
 clear hR hP
 go_enter Tryz.func103, Tryz.ntmps103
 go_wp2_with fail
 go_loopw [8] (fun i wr => ∃ r : Nat, r ≤ vs.length ∧ i = .int .i64 (r : Int) ∧ chlF (vs.drop r) id r = chlF vs id 0 ∧ Below w.heap.size w wr) (fun i _ => vs.length - (intOf i).toNat)
 case atStart => exact ⟨0, Nat.zero_le _, rfl, by simp, Below.refl _ _⟩
 case round =>
  obtain ⟨r, hr, rfl, ht, hb⟩ := hrel
  by_cases hlt : r < vs.length
  ·obtain ⟨b, off, rfl, hbl, hc⟩ := (HR.out.below hb).resolve_left (fun e => by rw [e] at hlt; simp at hlt)
   obtain ⟨x, cp, ⟨c0, c1, c2, c3, c4, c5, c6⟩, _, _⟩ := hc r hlt
   have HC := hid (isChild_any vs[r] x cp P id wr (HP.out.keep (hb.block _ HP.out.lt)))
   have hd : vs.drop r = vs[r] :: vs.drop (r + 1) := List.drop_eq_getElem_cons hlt
   rw [hd, chlF] at ht
   have HT := hid ht
   have HB := hid hb
   clear hc ht hd hb HR HP
   dsimp only [volA] at HC
   generalize vs[r] = v at *
   have hr1 : (r : Int) < (vs.length : Int) := by omega
   by_cases e : v.og = id
   ·have he : (v.og == id) = true := by simpa using e
    rw [he] at HC
    have HT1 : Hid (chlF vs id 0 = (r : Int)) := by have := HT.out; rw [if_pos e] at this; exact this.symm
    clear e he HT
    go_wp2_with fail
    refine HC.out.mono ?_
    rintro e' w1 ⟨rfl, hb1⟩
    have HB1 := hid (HB.out.trans (hb1.mono HB.out.size))
    clear hb1 HC c0 c1 c2 c3 c4 c5 c6
    go_wp2
    go_ret
    exact ⟨by rw [HT1.out]; rfl, HB1.out⟩
   ·have he : (v.og == id) = false := by simpa using e
    rw [he] at HC
    go_wp2_with fail
    refine HC.out.mono ?_
    rintro e' w1 ⟨rfl, hb1⟩
    have HB1 := hid (HB.out.trans (hb1.mono HB.out.size))
    have HT1 : Hid (chlF (vs.drop (r + 1)) id (r + 1) = chlF vs id 0) := by have := HT.out; rw [if_neg e] at this; exact this
    clear hb1 HC c0 c1 c2 c3 c4 c5 c6 HT e he
    go_wp2
    go_roundw
    case rel => exact ⟨r + 1, by omega, by go_num, HT1.out, HB1.out⟩
    case measure => simp [intOf]; omega
  ·have e : r = vs.length := by omega
   subst e
   have HB := hid hb
   have HT : Hid (chlF vs id 0 = -1) := by rw [List.drop_length, chlF] at ht; exact ht.symm
   clear hb ht
   go_wp2
   go_ret
   exact ⟨by rw [HT.out]; rfl, HB.out⟩
set_option maxRecDepth 100000 in
set_option maxHeartbeats 4000000 in
theorem HasChild_any (a : Option Addr) (c P : Nat) (vs : List PV) (id : Int) (w : World) (hl : vs.length ≤ 16777216) (hR : RdV w.heap.size w a vs) (hP : NmB w P id) :
  Calls Tryz.prog 99 #[.slice a vs.length c, .func (.func 98) #[] #[.pointer (some ⟨P, 0, none⟩)]] w fun e w' => e = .returned (.bool (decide (0 ≤ chlF vs id 0))) ∧ Below w.heap.size w w' := by
 have HC := hid (IndexChild_any a c P vs id w hl hR hP)
 clear hR hP
 generalize chlF vs id 0 = z at *
 go_enter Tryz.func99, Tryz.ntmps99
 go_wp2_with fail
 refine HC.out.mono ?_
 rintro e w2 ⟨rfl, hb⟩
 have HB := hid hb
 clear hb HC
 go_wp2
 go_ret
 exact ⟨rfl, HB.out⟩
end Go.Proofs.YtddddfankeepkaaGreatDoor
namespace Go.Proofs.YtddddfankeepkaaGreatDoor
open Go.RowKit
set_option maxRecDepth 100000 in
set_option maxHeartbeats 4000000 in
theorem noChildren_any (D : Nat) (x : VW) (b off c k : Nat) (v : PV) (a2 : Option Addr) (c2' : Nat) (o : OW) (dv : Value) (po : Int) (w : World) (hD : DrB w D x (.slice (some ⟨b, off, none⟩) x.vs.length c) o dv (k : Int) po) (hk : k < x.vs.length) (hV : VolC w b (off + k * 7) v a2 c2') (hl : x.vs.length ≤ 16777216) (hR : RdV w.heap.size w (some ⟨b, off, none⟩) x.vs) :
  Calls Tryz.prog 66 #[.pointer (some ⟨D, 0, none⟩)] w fun e w' => LkQ w (unl (!decide (0 ≤ chlF x.vs v.id 0)) 109) e w' := by
 obtain ⟨_, v1, _, _, _, _, _⟩ := hV
 obtain ⟨t, ht⟩ : ∃ t, decide (0 ≤ chlF x.vs v.id 0) = t := ⟨_, rfl⟩
 rw [ht]
 have HT := hid ht
 clear ht
 have HC := hid (volume_any D x b off x.vs.length c k o dv po w hD hk)
 have HD := hid hD
 have HR := hid hR
 clear hD hR
 go_enter Tryz.func66, Tryz.ntmps66
 go_wp2_with fail
 refine HC.out.mono ?_
 rintro e w2 ⟨rfl, q, hw2⟩
 have hb2 := drewN_below hw2
 have v1' : w2.cell? ⟨b, off + k * 7 + 1, none⟩ = some (.int .i64 v.id) := by rw [hw2]; exact v1
 obtain ⟨P, hP⟩ : ∃ P, P = w2.heap.size := ⟨_, rfl⟩
 obtain ⟨W3, hW3⟩ : ∃ W3, W3 = w2.alloc (.cells #[.int .i64 v.id] 3) := ⟨_, rfl⟩
 have hb3 : Below w2.heap.size w2 W3 := by rw [hW3]; exact below1 _ _
 have hb : Below w.heap.size w W3 := hb2.trans (hb3.mono hb2.size)
 have hN : NmB W3 P v.id := by rw [hW3, hP]; exact heap_new _ _
 have HC2 := hid (HasChild_any (some ⟨b, off, none⟩) c P x.vs v.id W3 hl ((HR.out.below hb).mono hb.size) hN)
 rw [HT.out] at HC2
 obtain ⟨_, _, _, d3, _⟩ := (HD.out.keep (hb2.block _ HD.out.lt)).cs
 have hDl : D < w2.heap.size := Nat.lt_of_lt_of_le HD.out.lt hb2.size
 have HB := hid hb
 have HW := hid hW3
 have HP := hid hP
 clear hw2 HC v1 hb2 hb3 hb hN hW3 hP HD HR
 go_wp2_with fail
 rw [← HW.out, ← HP.out]
 refine HC2.out.mono ?_
 rintro e w4 ⟨rfl, hb4⟩
 have HB4 := hid (HB.out.trans (hb4.mono HB.out.size))
 clear hb4 HC2
 have HU := hid (fun u => unless_any (!t) 109 u)
 go_wp2_with fail
 refine (HU.out w4).mono ?_
 rintro e w5 ⟨rfl, rfl⟩
 go_wp2
 go_ret
 exact ⟨rfl, HB4.out⟩
set_option maxRecDepth 100000 in
set_option maxHeartbeats 4000000 in
theorem rangeIsWithin_any (D : Nat) (x : VW) (b off n c k : Nat) (v : PV) (a2 : Option Addr) (c2' : Nat) (o : OW) (dv : Value) (po : Int) (w : World) (hD : DrB w D x (.slice (some ⟨b, off, none⟩) n c) o dv (k : Int) po) (hk : k < n) (hV : VolC w b (off + k * 7) v a2 c2') :
  Calls Tryz.prog 56 #[.pointer (some ⟨D, 0, none⟩)] w fun e w' => LkQ w (unl (decide (0 ≤ o.fr ∧ o.tt ≤ v.sz ∧ o.fr ≤ o.tt)) 107) e w' := by
 obtain ⟨c0, c1, c2, c3, c4, c5, c6, c7, c8, c9, c10, c11⟩ := hD.cs
 obtain ⟨_, _, v2, _, _, _, _⟩ := hV
 have HD := hid hD
 have HC : Hid (∀ q, Calls Tryz.prog 93 #[.pointer (some ⟨D, 0, none⟩)] (w.drewN q) fun e w' => e = .returned (.pointer (some ⟨b, off + k * 7, none⟩)) ∧ ∃ q', w' = (w.drewN q).drewN q') := fun q => volume_any D x b off n c k o dv po (w.drewN q) HD.out hk
 clear hD HD
 by_cases h : 0 ≤ o.fr
 ·by_cases h2 : o.tt ≤ v.sz
  ·by_cases h3 : o.fr ≤ o.tt
   ·rw [decide_eq_true (And.intro h (And.intro h2 h3))]
    go_enter Tryz.func56, Tryz.ntmps56
    go_wp2_with fail
    go_quiet (first | (go_at_call 93; exact Calls.quiet_of (HC.out _)) | (go_at_call 91; exact Calls.quiet_of_same (unless_any true 107 _)))
    all_goals go_wp2
    all_goals go_ret
    all_goals exact ⟨rfl, below_drewN' _ _ _⟩
   ·rw [decide_eq_false (fun q : 0 ≤ o.fr ∧ o.tt ≤ v.sz ∧ o.fr ≤ o.tt => h3 q.2.2)]
    have h' : decide (o.fr ≤ o.tt) = false := decide_eq_false h3
    go_enter Tryz.func56, Tryz.ntmps56
    go_wp2_with fail
    go_quiet (first | (go_at_call 93; exact Calls.quiet_of (HC.out _)) | (go_at_call 91; exact Calls.quiet_of_same (unless_any false 107 _)))
    all_goals go_wp2
    all_goals go_ret
    all_goals exact ⟨rfl, below_drewN' _ _ _⟩
  ·rw [decide_eq_false (fun q : 0 ≤ o.fr ∧ o.tt ≤ v.sz ∧ o.fr ≤ o.tt => h2 q.2.1)]
   have h' : decide (o.tt ≤ v.sz) = false := decide_eq_false h2
   go_enter Tryz.func56, Tryz.ntmps56
   go_wp2_with fail
   go_quiet (first | (go_at_call 93; exact Calls.quiet_of (HC.out _)) | (go_at_call 91; exact Calls.quiet_of_same (unless_any false 107 _)))
   all_goals go_wp2
   all_goals go_ret
   all_goals exact ⟨rfl, below_drewN' _ _ _⟩
 ·rw [decide_eq_false (fun q : 0 ≤ o.fr ∧ o.tt ≤ v.sz ∧ o.fr ≤ o.tt => h q.1)]
  have h' : decide (0 ≤ o.fr) = false := decide_eq_false h
  go_enter Tryz.func56, Tryz.ntmps56
  go_wp2_with fail
  go_quiet ((go_at_call 91; exact Calls.quiet_of_same (unless_any false 107 _)))
  all_goals go_wp2
  all_goals go_ret
  all_goals exact ⟨rfl, below_drewN' _ _ _⟩
end Go.Proofs.YtddddfankeepkaaGreatDoor
