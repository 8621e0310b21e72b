import Derived.Test.YtldlejpacgphmabGreatG35
import Derived.Test.YtldlejpacgphmabGreatG22
import Derived.Deep.RegionHeld3
import Derived.Test.YtldlejpacgphmabGreatG25
import Derived.Deep.AppendLies
import Derived.Deep.QuietTactic
import Derived.BigQuiet
namespace Go.Proofs.YtldlejpacgphmabGreat
open Go.RowKit Go.Deep
set_option maxRecDepth 100000 in
set_option maxHeartbeats 4000000 in
theorem begun_short {w : World} (a : Option Addr) (L hcap : Nat) (H : List Int) (frI blI rI : Int) (hL : L ≤ 140737488351232) (hbad : openBad L) (hnil : a = none → hcap = 0) (hR : Rd w.heap.size w a L H) :
  Calls Tryz.prog 10 #[.agg #[.slice a L hcap, .int .i64 frI, .int .i64 blI, .int .i64 rI]] w fun e w' => e = .returned (.tuple #[.pointer none, .bool true]) ∧ Below w.heap.size w w' := by
 obtain ⟨PO, hPO⟩ : ∃ PO : Ending → World → Prop, PO = fun e w' => e = .returned (.tuple #[.pointer none, .bool true]) ∧ Below w.heap.size w w' := ⟨_, rfl⟩
 rw [← hPO]
 obtain ⟨pk, hpk⟩ : ∃ pk, pk = w.heap.size := ⟨_, rfl⟩
 obtain ⟨w0, hw0⟩ : ∃ w0, w0 = w.alloc (.cells #[.slice a L hcap, .int .i64 frI, .int .i64 blI, .int .i64 rI] 24) := ⟨_, rfl⟩
 have b0 : Below w.heap.size w w0 := by rw [hw0]; exact (Below.refl _ _).alloc (Nat.le_refl _) _
 have z0 : w0.heap.size = w.heap.size + 1 := by rw [hw0]; simp
 have hpl : pk < w0.heap.size := by omega
 have c0 : w0.cell? ⟨pk, 0, none⟩ = some (.slice a L hcap) := by rw [hw0, hpk]; exact cell_new rfl 0 _ rfl
 have HCp := hid (CopyBytes_any a L hcap H w0 hL hnil ((hR.below b0).mono b0.size))
 have HNm := hid (num_any 21)
 have HW0 := hid hw0
 have HPK := hid hpk
 have HC0 := hid c0
 have HF0 : Hid (∀ w', Below w0.heap.size w0 w' → PO (.returned (.tuple #[.pointer none, .bool true])) w'.drew) := fun w' hb => by
  rw [hPO]
  exact ⟨rfl, (b0.trans (hb.mono b0.size)).drew⟩
 have HOb : Hid (∀ (g c : Nat) (w' : World), _) := fun g c w' => Open_bad (some ⟨g, 0, none⟩) L c w' hbad
 have HBad := hid hbad
 have HLL := hid hL
 clear hbad hnil hR hPO hw0 hpk z0 b0
 go_enter Tryz.func10, Tryz.ntmps10
 go_wp2_with fail
 rw [← HW0.out, ← HPK.out]
 refine Calls.mono HCp.out ?_
 rintro e w1 ⟨g1, cp1, rfl, hg1, o1, b1⟩
 have HFin := hid (HF0.out w1 b1)
 have d0 := (b1.cell (p := ⟨pk, 0, none⟩) hpl).trans HC0.out
 have HO1 := hid (HOb.out g1 cp1 w1)
 clear HCp HF0 HOb HC0 hg1 o1 b1 HW0 HPK c0
 go_wp2_with fail
 refine Calls.mono HO1.out ?_
 rintro e w9 ⟨rfl, hw9⟩
 rw [hw9]
 clear hw9 HO1
 go_wp2_with fail
 refine Calls.mono (HNm.out w1) ?_
 rintro e w9 ⟨rfl, hw9⟩
 rw [hw9]
 clear hw9 HNm
 by_cases h1 : L = 0
 ·subst h1
  clear HBad HLL
  go_wp2_with fail
  refine wp_region_held_drew (S := fun w' => w'.cell? ⟨pk, 0, none⟩ = some (.slice a 0 hcap)) (by kernel_rfl) d0 (fun hSS => ?_)
  refine tk 0 (some 27) (.fieldAddr 24 (.tmp 1) 0) 0 none hSS ?_
  refine tk 1 (some 28) (.load 22 (.tmp 27)) 22 none hSS ?_
  refine tk 2 (some 29) (.call { callee := .builtin .len, args := #[.tmp 28], argTypes := #[22] }) 3 none hSS ?_
  refine tk 3 (some 30) (.binOp .eql 3 (.tmp 29) (.const (.int .i64 0)) 3) 4 none hSS ?_
  try simp only [Act.put, zA, zB, zC]
  refine tk 4 (some 31) (.move (.tmp 30)) 4 none hSS ?_
  refine sk 5 (some 32) (.fieldAddr 24 (.tmp 1) 0) 0 (some (4, false)) hSS ?_
  refine sk 6 (some 33) (.load 22 (.tmp 32)) 22 (some (4, false)) hSS ?_
  refine sk 7 (some 34) (.call { callee := .builtin .len, args := #[.tmp 33], argTypes := #[22] }) 3 (some (4, false)) hSS ?_
  try simp only [Act.put, zA, zB, zC]
  refine sk 8 (some 35) (.binOp .rem 3 (.tmp 34) (.const (.int .i64 512)) 3) 3 (some (4, false)) hSS ?_
  refine sk 9 (some 36) (.binOp .neq 3 (.tmp 35) (.const (.int .i64 0)) 3) 4 (some (4, false)) hSS ?_
  refine tk 10 (some 37) (.pick (.tmp 31) (.const (.bool true)) (.tmp 36)) 4 none hSS ?_
  refine tk 11 (some 38) (.move (.tmp 37)) 4 none hSS ?_
  try simp only [Act.put, zA, zB, zC]
  refine sk 12 (some 39) (.fieldAddr 24 (.tmp 1) 0) 0 (some (11, false)) hSS ?_
  refine sk 13 (some 40) (.load 22 (.tmp 39)) 22 (some (11, false)) hSS ?_
  refine sk 14 (some 41) (.call { callee := .builtin .len, args := #[.tmp 40], argTypes := #[22] }) 3 (some (11, false)) hSS ?_
  refine sk 15 (some 42) (.binOp .gtr 3 (.tmp 41) (.const (.int .i64 268435456)) 3) 4 (some (11, false)) hSS ?_
  try simp only [Act.put, zA, zB, zC]
  refine tk 16 (some 43) (.pick (.tmp 38) (.const (.bool true)) (.tmp 42)) 4 none hSS ?_
  refine tk 17 (some 2) (.assign (.const (.pointer none))) 28 none hSS ?_
  refine tk 18 (some 3) (.assign (.tmp 43)) 4 none hSS ?_
  try simp only [Act.put, zA, zB, zC]
  refine wpAnyH_done (by kernel_rfl) ?_ _
  clear hSS d0
  go_wp2
  exact HFin.out
 by_cases h2 : L % 512 = 0
 ·have h0 : ¬ ((L : Int) = 0) := by omega
  have h0b : ((L : Int) == 0) = false := by simpa using h0
  have h0c : (L == 0) = false := by simpa using h1
  have hgt : 268435456 < (L : Int) := by have := HBad.out; unfold openBad at this; omega
  have t1 : (L : Int).tmod 512 = 0 := by rw [Int.tmod_eq_emod_of_nonneg (by omega)]; omega
  have t2 : (L : Int) % 512 = 0 := by omega
  have hlw : (L : Int) ≤ 140737488351232 := by have := HLL.out; omega
  clear HBad HLL h2
  go_wp2_with fail
  refine wp_region_held_drew (S := fun w' => w'.cell? ⟨pk, 0, none⟩ = some (.slice a L hcap)) (by kernel_rfl) d0 (fun hSS => ?_)
  refine tk 0 (some 27) (.fieldAddr 24 (.tmp 1) 0) 0 none hSS ?_
  refine tk 1 (some 28) (.load 22 (.tmp 27)) 22 none hSS ?_
  try simp only [Act.put, zA, zB, zC]
  refine tk 2 (some 29) (.call { callee := .builtin .len, args := #[.tmp 28], argTypes := #[22] }) 3 none hSS ?_
  refine tk 3 (some 30) (.binOp .eql 3 (.tmp 29) (.const (.int .i64 0)) 3) 4 none hSS ?_
  refine tk 4 (some 31) (.move (.tmp 30)) 4 none hSS ?_
  refine tk 5 (some 32) (.fieldAddr 24 (.tmp 1) 0) 0 (some (4, false)) hSS ?_
  try simp only [Act.put, zA, zB, zC]
  refine tk 6 (some 33) (.load 22 (.tmp 32)) 22 (some (4, false)) hSS ?_
  refine tk 7 (some 34) (.call { callee := .builtin .len, args := #[.tmp 33], argTypes := #[22] }) 3 (some (4, false)) hSS ?_
  refine tk 8 (some 35) (.binOp .rem 3 (.tmp 34) (.const (.int .i64 512)) 3) 3 (some (4, false)) hSS ?_
  refine tk 9 (some 36) (.binOp .neq 3 (.tmp 35) (.const (.int .i64 0)) 3) 4 (some (4, false)) hSS ?_
  try simp only [Act.put, zA, zB, zC]
  refine tk 10 (some 37) (.pick (.tmp 31) (.const (.bool true)) (.tmp 36)) 4 none hSS ?_
  refine tk 11 (some 38) (.move (.tmp 37)) 4 none hSS ?_
  refine tk 12 (some 39) (.fieldAddr 24 (.tmp 1) 0) 0 (some (11, false)) hSS ?_
  refine tk 13 (some 40) (.load 22 (.tmp 39)) 22 (some (11, false)) hSS ?_
  try simp only [Act.put, zA, zB, zC]
  refine tk 14 (some 41) (.call { callee := .builtin .len, args := #[.tmp 40], argTypes := #[22] }) 3 (some (11, false)) hSS ?_
  refine tk 15 (some 42) (.binOp .gtr 3 (.tmp 41) (.const (.int .i64 268435456)) 3) 4 (some (11, false)) hSS ?_
  refine tk 16 (some 43) (.pick (.tmp 38) (.const (.bool true)) (.tmp 42)) 4 none hSS ?_
  refine tk 17 (some 2) (.assign (.const (.pointer none))) 28 none hSS ?_
  try simp only [Act.put, zA, zB, zC]
  refine tk 18 (some 3) (.assign (.tmp 43)) 4 none hSS ?_
  try simp only [Act.put, zA, zB, zC]
  refine wpAnyH_done (by kernel_rfl) ?_ _
  clear hSS d0
  go_wp2
  exact HFin.out
 ·have h0 : ¬ ((L : Int) = 0) := by omega
  have h0b : ((L : Int) == 0) = false := by simpa using h0
  have h0c : (L == 0) = false := by simpa using h1
  obtain ⟨r, hr⟩ : ∃ r : Nat, r = L % 512 := ⟨_, rfl⟩
  have t1 : (L : Int).tmod 512 = (r : Int) := by rw [Int.tmod_eq_emod_of_nonneg (by omega)]; omega
  have t2 : (L : Int) % 512 = (r : Int) := by omega
  have t3 : IntKind.i64.wrap (r : Int) = (r : Int) := by rw [IntKind.wrap_i64]; omega
  have t4 : ¬ ((r : Int) = 0) := by omega
  have t5 : ¬ (r = 0) := by omega
  have t6 : ((r : Int) != 0) = true := by simpa using t4
  have t7 : (r != 0) = true := by simpa using t5
  have hlw : (L : Int) ≤ 140737488351232 := by have := HLL.out; omega
  clear HBad HLL h2 hr
  go_wp2_with fail
  refine wp_region_held_drew (S := fun w' => w'.cell? ⟨pk, 0, none⟩ = some (.slice a L hcap)) (by kernel_rfl) d0 (fun hSS => ?_)
  refine tk 0 (some 27) (.fieldAddr 24 (.tmp 1) 0) 0 none hSS ?_
  refine tk 1 (some 28) (.load 22 (.tmp 27)) 22 none hSS ?_
  refine tk 2 (some 29) (.call { callee := .builtin .len, args := #[.tmp 28], argTypes := #[22] }) 3 none hSS ?_
  refine tk 3 (some 30) (.binOp .eql 3 (.tmp 29) (.const (.int .i64 0)) 3) 4 none hSS ?_
  try simp only [Act.put, zA, zB, zC]
  refine tk 4 (some 31) (.move (.tmp 30)) 4 none hSS ?_
  refine tk 5 (some 32) (.fieldAddr 24 (.tmp 1) 0) 0 (some (4, false)) hSS ?_
  refine tk 6 (some 33) (.load 22 (.tmp 32)) 22 (some (4, false)) hSS ?_
  refine tk 7 (some 34) (.call { callee := .builtin .len, args := #[.tmp 33], argTypes := #[22] }) 3 (some (4, false)) hSS ?_
  try simp only [Act.put, zA, zB, zC]
  refine tk 8 (some 35) (.binOp .rem 3 (.tmp 34) (.const (.int .i64 512)) 3) 3 (some (4, false)) hSS ?_
  refine tk 9 (some 36) (.binOp .neq 3 (.tmp 35) (.const (.int .i64 0)) 3) 4 (some (4, false)) hSS ?_
  refine tk 10 (some 37) (.pick (.tmp 31) (.const (.bool true)) (.tmp 36)) 4 none hSS ?_
  refine tk 11 (some 38) (.move (.tmp 37)) 4 none hSS ?_
  try simp only [Act.put, zA, zB, zC]
  refine sk 12 (some 39) (.fieldAddr 24 (.tmp 1) 0) 0 (some (11, false)) hSS ?_
  refine sk 13 (some 40) (.load 22 (.tmp 39)) 22 (some (11, false)) hSS ?_
  refine sk 14 (some 41) (.call { callee := .builtin .len, args := #[.tmp 40], argTypes := #[22] }) 3 (some (11, false)) hSS ?_
  refine sk 15 (some 42) (.binOp .gtr 3 (.tmp 41) (.const (.int .i64 268435456)) 3) 4 (some (11, false)) hSS ?_
  try simp only [Act.put, zA, zB, zC]
  refine tk 16 (some 43) (.pick (.tmp 38) (.const (.bool true)) (.tmp 42)) 4 none hSS ?_
  refine tk 17 (some 2) (.assign (.const (.pointer none))) 28 none hSS ?_
  refine tk 18 (some 3) (.assign (.tmp 43)) 4 none hSS ?_
  try simp only [Act.put, zA, zB, zC]
  refine wpAnyH_done (by kernel_rfl) ?_ _
  clear hSS d0
  go_wp2
  exact HFin.out
set_option maxRecDepth 100000 in
set_option maxHeartbeats 4000000 in
theorem begun_off {w : World} (a : Option Addr) (hcap : Nat) (H : List Int) (nb : Nat) (frI blI rI : Int) (n1 : 1 ≤ nb) (hnb : nb ≤ 524288) (hwz : placeC nb frI blI ≠ 0) (hnil : a = none → hcap = 0) (hR : Rd w.heap.size w a (512 * nb) H) :
  Calls Tryz.prog 10 #[.agg #[.slice a (512 * nb) hcap, .int .i64 frI, .int .i64 blI, .int .i64 rI]] w fun e w' => e = .returned (.tuple #[.pointer none, .bool true]) ∧ Below w.heap.size w w' := by
 obtain ⟨PO, hPO⟩ : ∃ PO : Ending → World → Prop, PO = fun e w' => e = .returned (.tuple #[.pointer none, .bool true]) ∧ Below w.heap.size w w' := ⟨_, rfl⟩
 rw [← hPO]
 obtain ⟨L, hLe⟩ : ∃ L, L = 512 * nb := ⟨_, rfl⟩
 obtain ⟨want, hwant⟩ : ∃ want, want = placeC nb frI blI := ⟨_, rfl⟩
 obtain ⟨pk, hpk⟩ : ∃ pk, pk = w.heap.size := ⟨_, rfl⟩
 obtain ⟨w0, hw0⟩ : ∃ w0, w0 = w.alloc (.cells #[.slice a L hcap, .int .i64 frI, .int .i64 blI, .int .i64 rI] 24) := ⟨_, rfl⟩
 have b0 : Below w.heap.size w w0 := by rw [hw0]; exact (Below.refl _ _).alloc (Nat.le_refl _) _
 have z0 : w0.heap.size = w.heap.size + 1 := by rw [hw0]; simp
 have hpl : pk < w0.heap.size := by omega
 have c0 : w0.cell? ⟨pk, 0, none⟩ = some (.slice a L hcap) := by rw [hw0, hpk]; exact cell_new rfl 0 _ rfl
 have c1 : w0.cell? ⟨pk, 1, none⟩ = some (.int .i64 frI) := by rw [hw0, hpk]; exact cell_new rfl 1 _ rfl
 have c2 : w0.cell? ⟨pk, 2, none⟩ = some (.int .i64 blI) := by rw [hw0, hpk]; exact cell_new rfl 2 _ rfl
 have c3 : w0.cell? ⟨pk, 3, none⟩ = some (.int .i64 rI) := by rw [hw0, hpk]; exact cell_new rfl 3 _ rfl
 have HCell : Hid (∀ w', Below w0.heap.size w0 w' → w'.cell? ⟨pk, 0, none⟩ = some (.slice a L hcap) ∧ w'.cell? ⟨pk, 1, none⟩ = some (.int .i64 frI) ∧ w'.cell? ⟨pk, 2, none⟩ = some (.int .i64 blI) ∧ w'.cell? ⟨pk, 3, none⟩ = some (.int .i64 rI)) := fun w' hb => ⟨(hb.cell (p := ⟨pk, 0, none⟩) hpl).trans c0, (hb.cell (p := ⟨pk, 1, none⟩) hpl).trans c1, (hb.cell (p := ⟨pk, 2, none⟩) hpl).trans c2, (hb.cell (p := ⟨pk, 3, none⟩) hpl).trans c3⟩
 have HF0 : Hid (∀ w', Below w0.heap.size w0 w' → PO (.returned (.tuple #[.pointer none, .bool true])) w') := fun w' hb => by
  rw [hPO]
  exact ⟨rfl, b0.trans (hb.mono b0.size)⟩
 have hRL : Rd w.heap.size w a L H := by rw [hLe]; exact hR
 have HCp := hid (CopyBytes_any a L hcap H w0 (by omega) hnil ((hRL.below b0).mono b0.size))
 have hisb := hR.2.1
 have HOd : Hid (∀ (w1 : World) (g1 cp1 : Nat), Own w1 g1 L cp1 H → Calls Tryz.prog 38 #[.slice (some ⟨g1, 0, none⟩) L cp1] w1 fun e w' => ∃ p, e = .returned (.tuple #[.pointer (some ⟨p, 0, none⟩), .int .i64 0]) ∧ w1.heap.size ≤ p ∧ Dk (fun x => w1.heap.size ≤ x) w' p H [] (-1) false nb ∧ Below w1.heap.size w1 w') := fun w1 g1 cp1 ho => by
  rw [hLe] at ho ⊢
  exact Open_ok ⟨g1, 0, none⟩ nb cp1 H w1 n1 hnb (ho.rd hisb)
 have HNm := hid num_any
 have HLow := hid (low_any rI)
 have HPl := hid (refPlaced_any nb hnb frI blI)
 rw [← hwant] at HPl
 have HFm : Hid (∀ (w1 w2 w3 : World) (p c room : Nat), Below w0.heap.size w0 w1 → Below w1.heap.size w1 w2 → Below w2.heap.size w2 w3 → Dk (fun x => w1.heap.size ≤ x) w2 p H [] (-1) false nb → Cst (fun k => w2.heap.size ≤ k) w3 c p room 0 0 [] → Calls Tryz.prog 21 #[.pointer (some ⟨c, 0, none⟩), .int .i64 frI, .int .i64 blI] w3 fun e w4 => e = .returned (.int .i64 want) ∧ Below w0.heap.size w0 w4 ∧
   Calls Tryz.prog 20 #[.pointer (some ⟨c, 0, none⟩), .int .i64 frI, .int .i64 blI] w4 fun e w5 => e = .returned (.tuple #[.pointer none, .int .i64 want]) ∧ Below w0.heap.size w0 w5) := fun w1 w2 w3 p c room b1 b2 b3 hD hCs => by
  have s1 := b1.size
  have s2 := b2.size
  have s3 := b3.size
  have hq := Cq.new hD hCs b3 s2
  have B3 : Below w0.heap.size w0 w3 := (b1.trans (b2.mono s1)).trans (b3.mono (by omega))
  refine Calls.mono (Format_any hq frI blI (by simp only [List.length_nil]; omega)) ?_
  rintro e w4 ⟨code, d', rfl, ⟨Z', q1, q2⟩, b4, hcase⟩
  have hlc : layC ⟨H, [], -1, false⟩ nb frI blI = want := by
   unfold layC
   rw [if_neg (by simp), hwant]
  rw [hlc] at hcase
  rcases hcase with ⟨_, k2, k3⟩ | ⟨k1, _⟩
  ·subst k3 k2
   have B4 : Below w0.heap.size w0 w4 := ((But.of_below B3 (X := fun k => w0.heap.size ≤ k)).comp b4 (fun k hk q => by omega)).below (Nat.le_refl _) (fun k hk q => by omega)
   have s4 := b4.size
   refine ⟨rfl, B4, Calls.mono (Open_q q1 frI blI (by simp only [List.length_nil]; omega) rfl rfl) ?_⟩
   rintro e w5 ⟨jv, code, d5, rfl, k4, k5, _, _, _, _, k6⟩
   have k7 := k5 hwz
   have k8 : jv = none := k4.2 (by rw [k7]; exact hwz)
   subst k8
   rw [k7, ← hwant]
   refine ⟨rfl, ((But.of_below B4 (X := fun k => w0.heap.size ≤ k)).comp k6 (fun k hk q => ?_)).below (Nat.le_refl _) (fun k hk q => by omega)⟩
   rcases Nat.lt_or_ge k w3.heap.size with hk' | hk'
   ·have := (q2 k hk' q).1
    omega
   ·omega
  ·exact absurd (hwant.symm.trans k1) hwz
 have hLn : L ≤ 268435456 := by omega
 have hq1 : (L : Int).tdiv 512 = (nb : Int) := by rw [Int.tdiv_eq_ediv_of_nonneg (by omega)]; omega
 have hq2 : (L : Int) / 512 = (nb : Int) := by omega
 have hwn : IntKind.i64.wrap (nb : Int) = (nb : Int) := by rw [IntKind.wrap_i64]; omega
 have hwz' : ¬ (want = 0) := by rw [hwant]; exact hwz
 have hwb : (want != 0) = true := by simpa using hwz'
 rw [← hLe]
 have HW0 := hid hw0
 have HPK := hid hpk
 clear hR hRL hPO hw0 hpk z0 b0 hisb c0 c1 c2 c3 hLe n1 hnil hnb hwant hwz
 go_enter Tryz.func10, Tryz.ntmps10
 go_wp2_with fail
 rw [← HW0.out, ← HPK.out]
 refine Calls.mono HCp.out ?_
 rintro e w1 ⟨g1, cp1, rfl, hg1, o1, b1⟩
 have HO1 := hid (HOd.out w1 g1 cp1 o1)
 have B1 := hid b1
 have hs1 := b1.size
 clear HCp HOd o1 b1 HW0 HPK hg1
 go_wp2_with fail
 refine Calls.mono HO1.out ?_
 rintro e w2 ⟨p, rfl, hp, dk, b2⟩
 have B2 := hid b2
 have DK := hid dk
 have hs2 := b2.size
 obtain ⟨d0, d1, d2, d3⟩ := HCell.out w2 (B1.out.trans (b2.mono hs1))
 clear HO1 dk b2 hp
 go_wp2_with fail
 refine Calls.mono (HNm.out 0 w2) ?_
 rintro e w9 ⟨rfl, hw9⟩
 rw [hw9]
 clear hw9
 go_wp2_with fail
 refine Calls.mono (HLow.out w2) ?_
 rintro e w9 ⟨y, rfl, hy, hw9, hye⟩
 clear hye
 rw [hw9]
 clear hw9
 obtain ⟨r0, hr0⟩ : ∃ r0 : Nat, r0 = y % 4096 := ⟨_, rfl⟩
 have ht1 : (y : Int).tmod 4096 = (r0 : Int) := by rw [Int.tmod_eq_emod_of_nonneg (by omega)]; omega
 have ht2 : (y : Int) % 4096 = (r0 : Int) := by omega
 have hr1 : r0 < 4096 := by omega
 have hw3 : IntKind.i64.wrap (r0 : Int) = (r0 : Int) := by rw [IntKind.wrap_i64]; omega
 have hw4 : IntKind.i64.wrap (1 + (r0 : Int)) = 1 + (r0 : Int) := by rw [IntKind.wrap_i64]; omega
 obtain ⟨room, hroom⟩ : ∃ room : Nat, room = 1 + r0 := ⟨_, rfl⟩
 have hrm : 1 + (r0 : Int) = (room : Int) := by omega
 have HNw2 := hid (CNew_ok (w := w2) p room (by omega) (by omega))
 clear hr0 hroom HLow
 go_wp2_with fail
 refine Calls.mono HNw2.out ?_
 rintro e w3 ⟨c, rfl, hc3, cs, b3⟩
 have B03 : Below w0.heap.size w0 w3 := (B1.out.trans (B2.out.mono hs1)).trans (b3.mono (by omega))
 obtain ⟨e0, e1, e2, _⟩ := HCell.out w3 B03
 have HFo := hid (HFm.out w1 w2 w3 p c room B1.out B2.out b3 DK.out cs)
 clear HNw2 cs b3 B03 HFm DK B2 B1 d0 d1 d2 d3 ht1 ht2 hr1 hw3 hw4 hrm hy hc3
 go_wp2_with fail
 refine Calls.mono (HNm.out 0 w3) ?_
 rintro e w9 ⟨rfl, hw9⟩
 rw [hw9]
 clear hw9
 go_wp2_with fail
 refine Calls.mono (HPl.out w3) ?_
 rintro e w9 ⟨rfl, hw9⟩
 rw [hw9]
 clear hw9 HPl
 go_wp2_with fail
 refine Calls.mono HFo.out ?_
 rintro e w4 ⟨rfl, bb4, hO⟩
 have HO := hid hO
 obtain ⟨m0, m1, m2, _⟩ := HCell.out w4 bb4
 clear hO HFo e0 e1 e2 bb4
 go_wp2_with fail
 refine Calls.mono (HNm.out want w4) ?_
 rintro e w9 ⟨rfl, hw9⟩
 rw [hw9]
 clear hw9
 go_wp2_with fail
 refine Calls.mono HO.out ?_
 rintro e w5 ⟨rfl, bb5⟩
 have HFin := hid (HF0.out w5 bb5)
 clear HO m0 m1 m2 bb5 HF0 HCell
 go_wp2_with fail
 refine Calls.mono (HNm.out want w5) ?_
 rintro e w9 ⟨rfl, hw9⟩
 rw [hw9]
 clear hw9
 go_wp2_with fail
 exact HFin.out
open Go.RowKit Go.Deep
variable {X0 : Nat → Prop}
theorem begun_any {w : World} (a : Option Addr) (L hcap : Nat) (H : List Int) (frI blI rI : Int) (hL : L ≤ 1073741823) (hnil : a = none → hcap = 0) (hR : Rd w.heap.size w a L H) (hX0 : ∀ k, X0 k → k < w.heap.size) :
  Calls Tryz.prog 10 #[.agg #[.slice a L hcap, .int .i64 frI, .int .i64 blI, .int .i64 rI]] w fun e w' => Below w.heap.size w w' ∧ (e = .returned (.tuple #[.pointer none, .bool true]) ∨ ∃ wb room nb fr bl W, e = .returned (.tuple #[.pointer (some ⟨wb, 0, none⟩), .bool true]) ∧ WD X0 W w' wb room nb fr bl 0 0 H [] ∧ ∀ k, W k → w.heap.size ≤ k) := by
 by_cases hbad : openBad L
 ·refine Calls.mono (begun_short a L hcap H frI blI rI (by omega) hbad hnil hR) ?_
  rintro e w' ⟨rfl, b⟩
  exact ⟨b, .inl rfl⟩
 ·obtain ⟨nb, hnbe, n1, hnb⟩ : ∃ nb, L = 512 * nb ∧ 1 ≤ nb ∧ nb ≤ 524288 := by
   unfold openBad at hbad
   exact ⟨L / 512, by omega, by omega, by omega⟩
  subst hnbe
  by_cases hz : placeC nb frI blI = 0
  ·obtain ⟨f, b, rfl, rfl, hlo, hfit⟩ := placeC_zero hz
   refine Calls.mono (begun_ok a hcap H nb f b rI n1 hnb hlo hfit hnil hR hX0) ?_
   rintro e w' ⟨wb, room, W, rfl, q1, q2, q3⟩
   exact ⟨q3, .inr ⟨wb, room, nb, f, b, W, rfl, q1, q2⟩⟩
  ·refine Calls.mono (begun_off a hcap H nb frI blI rI n1 hnb hz hnil hR) ?_
   rintro e w' ⟨rfl, b⟩
   exact ⟨b, .inl rfl⟩
theorem WD.log {W : Nat → Prop} {w : World} {wb room nb fr bl K lasted : Nat} {H : List Int} {Us : List (List Pm)} (h : WD X0 W w wb room nb fr bl K lasted H Us) : nb ≤ 524288 ∧ 1 ≤ nb ∧ Us.length ≤ 1099511627776 ∧ ∃ g ta tc, ∀ w', Below w.heap.size w w' → w'.cell? ⟨wb, 3, none⟩ = some (.pointer (some ⟨g, 0, none⟩)) ∧ w'.cell? ⟨wb, 5, none⟩ = some (.int .i64 (lasted : Int)) ∧ w'.cell? ⟨g, 3, none⟩ = some (.slice ta Us.length tc) ∧ (Calls Tryz.prog 76 #[.pointer (some ⟨g, 0, none⟩)] w' fun e w'' => e = .returned (.int .i64 (nb : Int)) ∧ w'' = w') ∧ (∀ at_ : Int, Calls Tryz.prog 77 #[.pointer (some ⟨g, 0, none⟩), .int .i64 at_] w' fun e w'' => e = .returned (.int .i64 (homeC nb fr bl at_)) ∧ Below w'.heap.size w' w'') ∧ ∀ x, x < nb → Calls Tryz.prog 78 #[.pointer (some ⟨g, 0, none⟩), .int .i64 (x : Int), .int .i64 (Us.length : Int)] w' fun e w'' => ∃ g' cp, e = .returned (.slice (some ⟨g', 0, none⟩) 512 cp) ∧ Own w'' g' 512 cp (contT (imgB H) (plainT Us) Us.length x) ∧ Below w'.heap.size w' w'' := by
 obtain ⟨Z, p, c, j, g, tried, tl, td, hb, hc, ta, tc, vs, Ls, n1, cs, d, s, h, hOn, hW⟩ := h
 refine ⟨h.nb, h.jq.fits.2.1, (hOn.us h.lo h.fit h.nb).2, g, ta, tc, fun w' hb' => ?_⟩
 have h' := h.below hb'
 refine ⟨h'.wd.cell 3, h'.wd.cell 5, h'.lg.lg.c3, refDisk_any h'.lg.lg h.nb, fun at_ => refAt_any h'.lg.lg h.nb h.fit at_, fun x hx => ?_⟩
 refine Calls.mono (refBehind_any h'.lg h.nb x hx Us.length (Nat.le_refl _) (hOn.us h.lo h.fit h.nb).2) ?_
 rintro e w'' ⟨g', cp, rfl, _, q2, q3⟩
 exact ⟨g', cp, rfl, q2, q3⟩
open Go.RowKit
def Dj (v u : Value) : Prop := ∀ g, v.ownBlock = some g → u.ownBlock ≠ some g
theorem dj_symm {v u : Value} (h : Dj v u) : Dj u v := fun g hu hv => h g hv hu
theorem dj_new {w : World} {base e size n : Nat} {v u : Value} {xs : List Value} {g m cap : Nat} (hd : Dj v u) (hu : w.ownsRow base e size u n xs) (hl : v.ownBlock = some g ∨ g = w.heap.size) : Dj (.slice (some ⟨g, 0, none⟩) m cap) u := by
 intro g' hg' hu'
 cases hg'
 rcases hl with hl | hl
 ·exact hd g hl hu'
 ·have := (World.ownsRow.lt hu g hu').2
  omega
open Go.RowKit
/-! ### marked -/
def mkd (mark : Int) (i : Nat) : Int := (mark + 7 * (i : Int) + 1) % 256
def markL (k : Nat) (mark : Int) : List Int := (List.range k).map fun i => mkd mark i
theorem length_markL (k : Nat) (mark : Int) : (markL k mark).length = k := by simp [markL]
theorem markL_getD {k i : Nat} (mark : Int) (h : i < k) : (markL k mark).getD i 0 = mkd mark i := by simp [markL, h]
theorem isB_markL (k : Nat) (mark : Int) : Pl.isB (markL k mark) := by
 intro z hz
 simp only [markL, List.mem_map] at hz
 obtain ⟨i, _, rfl⟩ := hz
 unfold mkd
 omega
theorem markL_set {k i : Nat} (mark : Int) (h : i < k) {ys : List Int} (hl : ys.length = k) (ht : ys.take i = (markL k mark).take i) : (ys.set i (mkd mark i)).take (i + 1) = (markL k mark).take (i + 1) :=
 take_set (by omega) (by rw [length_markL]; exact h) ht (markL_getD mark h).symm
set_option maxHeartbeats 400000 in
theorem marked_any (k : Nat) (mark : Int) (w : World) (hk : k ≤ 1073741824) (h0 : -1073741824 ≤ mark) (h1 : mark ≤ 1073741824) :
  Calls Tryz.prog 113 #[.int .i64 (k : Int), .int .i64 mark] w fun e w' => e = .returned (.slice (some ⟨w.heap.size, 0, none⟩) k k) ∧ Blk .u8 5 w' w.heap.size (markL k mark) ∧ w'.heap.size = w.heap.size + 1 ∧ Below w.heap.size w w' := by
 have hmk := make_u8 k (by omega)
 have HB0 := hid (Blk.new (k := .u8) (e := 5) w (zeros k))
 have Hb0 := hid ((Below.refl w.heap.size w).alloc (Nat.le_refl _) (.cells ((zeros k).map (Value.int .u8)).toArray 5))
 go_enter Tryz.func113, Tryz.ntmps113
 go_wp2
 go_loopw [6] (fun i wt => ∃ (j : Nat) (ys : List Int), j ≤ k ∧ i = .int .i64 (j : Int) ∧ Blk .u8 5 wt w.heap.size ys ∧ ys.length = k ∧ ys.take j = (markL k mark).take j ∧ wt.heap.size = w.heap.size + 1 ∧ Below w.heap.size w wt) (fun i _ => k - (intOf i).toNat)
 case atStart => exact ⟨0, zeros k, Nat.zero_le _, rfl, HB0.out, length_zeros k, rfl, by simp, Hb0.out⟩
 case round =>
  clear HB0 Hb0 hmk
  obtain ⟨j, ys, hj, rfl, hB, hl, ht, hs, hb⟩ := hrel
  by_cases hjk : j < k
  ·have hc := hB.cell j (by omega)
   have hf := hB.frozen j
   have HB := hid (hB.set j (mkd mark j))
   have HT := hid (markL_set mark hjk hl ht)
   have Hl := hid hl
   have Hs := hid hs
   have Hb := hid (hb.setCell (p := ⟨w.heap.size, j, none⟩) (Nat.le_refl _) (.int .u8 (mkd mark j)))
   generalize ys.getD j 0 = old at *
   clear hB ht hl hs hb
   go_wp2
   go_roundw
   case rel => exact ⟨j + 1, _, by omega, by go_num, HB.out, by simpa using Hl.out, HT.out, by simpa [World.setCell] using Hs.out, Hb.out⟩
   case measure => simp [intOf]; omega
  ·have e : ys = markL k mark := by
    rw [List.take_of_length_le (by omega), List.take_of_length_le (by rw [length_markL]; omega)] at ht
    exact ht
   have HB := hid (e ▸ hB)
   have Hs := hid hs
   clear hB ht hl e hs
   go_wp2
   go_ret
   exact ⟨rfl, HB.out, Hs.out, hb⟩
/-! ### lists of bytes that lie in settled blocks -/
def T5 (w : World) (g : Nat) : Prop := ∃ cur, w.heap[g]? = some (.cells cur 5 (0, 0))
theorem T5.lt {w : World} {g : Nat} (h : T5 w g) : g < w.heap.size := by obtain ⟨cur, h⟩ := h; exact (Array.getElem?_eq_some_iff.1 h).1
theorem T5.blk {w : World} {g : Nat} {zs : List Int} (h : Blk .u8 5 w g zs) : T5 w g := ⟨_, h⟩
theorem T5.keep {w w' : World} {g : Nat} (h : T5 w g) (hk : w'.heap[g]? = w.heap[g]?) : T5 w' g := by obtain ⟨cur, h⟩ := h; exact ⟨cur, by rw [hk]; exact h⟩
theorem T5.ne_row {w : World} {g base e size n : Nat} {v : Value} {xs : List Value} (h : T5 w g) (hr : w.ownsRow base e size v n xs) (he : e ≠ 5) : v.ownBlock ≠ some g := by
 intro hv
 obtain ⟨cur, h⟩ := h
 rcases hr.2 with ⟨h1, _⟩ | ⟨g', cap, cur', h1, _, hh, _⟩
 ·rw [h1] at hv; cases hv
 ·rw [h1] at hv
  cases hv
  rw [h] at hh
  simp at hh
  exact he hh.2.symm
def Sl (R : Nat → Prop) (w : World) (v : Value) (zs : List Int) : Prop :=
 Pl.isB zs ∧ ∃ a c, v = .slice a zs.length c ∧ (a = none → c = 0) ∧ (zs.length = 0 ∨ ∃ g, a = some ⟨g, 0, none⟩ ∧ R g ∧ ∀ t, t < zs.length → w.cell? ⟨g, t, none⟩ = some (.int .u8 (zs.getD t 0)))
theorem Sl.keep {R : Nat → Prop} {w w' : World} {v : Value} {zs : List Int} (h : Sl R w v zs) (hk : ∀ g, R g → w'.heap[g]? = w.heap[g]?) : Sl R w' v zs := by
 obtain ⟨h1, a, c, h2, h3, h4⟩ := h
 refine ⟨h1, a, c, h2, h3, ?_⟩
 rcases h4 with h4 | ⟨g, h4, h5, h6⟩
 ·exact .inl h4
 ·exact .inr ⟨g, h4, h5, fun t ht => (World.cell?_of_block (w := w) (hk g h5)).trans (h6 t ht)⟩
theorem Sl.mono {R R' : Nat → Prop} {w : World} {v : Value} {zs : List Int} (h : Sl R w v zs) (hr : ∀ g, R g → R' g) : Sl R' w v zs := by
 obtain ⟨h1, a, c, h2, h3, h4⟩ := h
 exact ⟨h1, a, c, h2, h3, h4.imp id fun ⟨g, q1, q2, q3⟩ => ⟨g, q1, hr g q2, q3⟩⟩
theorem Sl.rd {R : Nat → Prop} {w : World} {v : Value} {zs : List Int} (h : Sl R w v zs) (hT : ∀ g, R g → T5 w g) : ∃ a c, v = .slice a zs.length c ∧ (a = none → c = 0) ∧ Rd w.heap.size w a zs.length zs := by
 obtain ⟨h1, a, c, h2, h3, h4⟩ := h
 refine ⟨a, c, h2, h3, rfl, h1, ?_⟩
 rcases h4 with h4 | ⟨g, rfl, h5, h6⟩
 ·exact .inl h4
 ·exact .inr ⟨g, 0, rfl, (hT g h5).lt, fun t ht => by rw [Nat.zero_add]; exact h6 t ht⟩
theorem Sl.of_blk {R : Nat → Prop} {w : World} {g : Nat} {zs : List Int} (h : Blk .u8 5 w g zs) (hb : Pl.isB zs) (hr : R g) (c : Nat) : Sl R w (.slice (some ⟨g, 0, none⟩) zs.length c) zs :=
 ⟨hb, _, c, rfl, (fun h => by cases h), .inr ⟨g, rfl, hr, fun t ht => h.cell t ht⟩⟩
theorem Sl.of_own {R : Nat → Prop} {w : World} {g n cap : Nat} {zs : List Int} (h : Own w g n cap zs) (hb : Pl.isB zs) (hr : R g) : Sl R w (.slice (some ⟨g, 0, none⟩) n cap) zs := by
 have hl := h.len
 subst hl
 exact ⟨hb, _, cap, rfl, (fun h => by cases h), .inr ⟨g, rfl, hr, fun t ht => h.cell t ht⟩⟩
theorem Own.t5 {w : World} {g n cap : Nat} {zs : List Int} (h : Own w g n cap zs) : T5 w g := by
 rcases h.2 with ⟨h1, _⟩ | ⟨g', cap', cur, h1, _, hh, _⟩
 ·cases h1
 ·simp at h1
  obtain ⟨rfl, _⟩ := h1
  exact ⟨cur, hh⟩
/-! ### the book's own block -/
def Bkb (w : World) (b : Nat) (cnt tot : Int) (bad : Bool) (fr he ma ke wa : Value) : Prop := w.heap[b]? = some (.cells #[.int .i64 cnt, .int .i64 tot, .bool bad, fr, he, ma, ke, wa] 34 (0, 0))
theorem Bkb.lt {w : World} {b : Nat} {cnt tot : Int} {bad : Bool} {fr he ma ke wa : Value} (h : Bkb w b cnt tot bad fr he ma ke wa) : b < w.heap.size := (Array.getElem?_eq_some_iff.1 h).1
theorem Bkb.cell {w : World} {b : Nat} {cnt tot : Int} {bad : Bool} {fr he ma ke wa : Value} (h : Bkb w b cnt tot bad fr he ma ke wa) (t : Nat) : w.cell? ⟨b, t, none⟩ = #[Value.int .i64 cnt, .int .i64 tot, .bool bad, fr, he, ma, ke, wa][t]? := by
 unfold Bkb at h
 simp [World.cell?, h]
theorem Bkb.frozen {w : World} {b : Nat} {cnt tot : Int} {bad : Bool} {fr he ma ke wa : Value} (h : Bkb w b cnt tot bad fr he ma ke wa) (t : Nat) : w.frozen? ⟨b, t, none⟩ = false := by
 unfold Bkb at h
 simp [World.frozen?, h]
theorem Bkb.of_block {w w' : World} {b : Nat} {cnt tot : Int} {bad : Bool} {fr he ma ke wa : Value} (h : Bkb w b cnt tot bad fr he ma ke wa) (hw : w'.heap[b]? = w.heap[b]?) : Bkb w' b cnt tot bad fr he ma ke wa := by unfold Bkb at *; rw [hw]; exact h
theorem Bkb.set {w : World} {b : Nat} {cnt tot : Int} {bad : Bool} {fr he ma ke wa : Value} (h : Bkb w b cnt tot bad fr he ma ke wa) (t : Nat) (v : Value) : (w.setCell ⟨b, t, none⟩ v).heap[b]? = some (.cells (#[.int .i64 cnt, .int .i64 tot, .bool bad, fr, he, ma, ke, wa].setIfInBounds t v) 34 (0, 0)) := by
 unfold Bkb at h
 simp only [World.setCell, Array.getElem?_modify]
 rw [h]
 simp
theorem Bkb.ne_row {w : World} {b : Nat} {cnt tot : Int} {bad : Bool} {fr he ma ke wa : Value} (h : Bkb w b cnt tot bad fr he ma ke wa) {base e size n : Nat} {v : Value} {xs : List Value} (hr : w.ownsRow base e size v n xs) (he' : e ≠ 34) : v.ownBlock ≠ some b := by
 intro hv
 unfold Bkb at h
 rcases hr.2 with ⟨h1, _⟩ | ⟨g', cap, cur', h1, _, hh, _⟩
 ·rw [h1] at hv; cases hv
 ·rw [h1] at hv
  cases hv
  rw [h] at hh
  simp at hh
  exact he' hh.2.symm
theorem Bkb.ne_t5 {w : World} {b : Nat} {cnt tot : Int} {bad : Bool} {fr he ma ke wa : Value} (h : Bkb w b cnt tot bad fr he ma ke wa) {g : Nat} (hg : T5 w g) : g ≠ b := by
 intro e
 subst e
 obtain ⟨cur, hh⟩ := hg
 unfold Bkb at h
 rw [h] at hh
 simp at hh
open Go.RowKit
structure RS (S : Nat → Prop) (B : Nat) (w : World) (row : Value) (n : Nat) (vs : List Value) (Z : Nat → List Int) : Prop where
 own : w.ownsRow B 22 1 row n vs
 sl : ∀ i, i < n → Sl S w (vs.getD i (.bool false)) (Z i)
theorem RS.keep {S : Nat → Prop} {B : Nat} {w w' : World} {row : Value} {n : Nat} {vs : List Value} {Z : Nat → List Int} (h : RS S B w row n vs Z) (ho : w'.ownsRow B 22 1 row n vs) (hk : ∀ g, S g → w'.heap[g]? = w.heap[g]?) : RS S B w' row n vs Z := ⟨ho, fun i hi => (h.sl i hi).keep hk⟩
theorem RS.but {X S : Nat → Prop} {B : Nat} {w w' : World} {row : Value} {n : Nat} {vs : List Value} {Z : Nat → List Int} (h : RS S B w row n vs Z) (hb : But X w w') (hS : ∀ g, S g → g < w.heap.size ∧ ¬ X g) (hr : ∀ g, row.ownBlock = some g → ¬ X g) : RS S B w' row n vs Z := by
 refine h.keep ?_ (fun g hg => hb.block g (hS g hg).1 (hS g hg).2)
 obtain ⟨h1, h2⟩ := h.own
 refine ⟨h1, ?_⟩
 rcases h2 with h2 | ⟨g, cap, cur, rfl, hg, hh, r⟩
 ·exact .inl h2
 ·exact .inr ⟨g, cap, cur, rfl, hg, by rw [hb.block g (Array.getElem?_eq_some_iff.1 hh).1 (hr g rfl)]; exact hh, r⟩
theorem RS.form {S : Nat → Prop} {B : Nat} {w : World} {row : Value} {n : Nat} {vs : List Value} {Z : Nat → List Int} (h : RS S B w row n vs Z) :
  ∃ a c, row = .slice a n c ∧ (n = 0 ∨ ∃ g, a = some ⟨g, 0, none⟩ ∧ g < w.heap.size ∧ ∀ i, i < n → w.cell? ⟨g, i, none⟩ = some (vs.getD i (.bool false))) := by
 have hl : vs.length = n := by simpa using h.own.1
 rcases h.own.2 with ⟨h1, h2⟩ | ⟨g, cap, cur, h1, _⟩
 ·subst h2; exact ⟨none, 0, h1, .inl rfl⟩
 ·subst h1
  refine ⟨_, cap, rfl, .inr ⟨g, rfl, (World.ownsRow.lt h.own g rfl).2, fun i hi => ?_⟩⟩
  rw [World.ownsRow.cellAt h.own i (by omega)]
  simp [show i < vs.length by omega]
set_option maxRecDepth 100000 in
set_option maxHeartbeats 2000000 in
theorem same_any (S : Nat → Prop) (B b : Nat) (cnt tot : Int) (bad : Bool) (fr he ma ke wa : Value) (n : Nat) (kv wv : List Value) (Z : Nat → List Int) (w : World) (hn : n ≤ 134217728)
  (hb : Bkb w b cnt tot bad fr he ma ke wa) (hK : RS S B w ke n kv Z) (hW : RS S B w wa n wv Z) (hT : ∀ g, S g → T5 w g) :
  Calls Tryz.prog 53 #[.pointer (some ⟨b, 0, none⟩)] w fun e w' => e = .returned (.bool true) ∧ But (fun _ => False) w w' := by
 obtain ⟨a1, c1, rfl, f1⟩ := hK.form
 obtain ⟨a2, c2, rfl, f2⟩ := hW.form
 go_enter Tryz.func53, Tryz.ntmps53
 go_wp2
 go_loopw [3] (fun i wt => ∃ k : Nat, k ≤ n ∧ i = .int .i64 (k : Int) ∧ But (fun _ => False) w wt) (fun i _ => n - (intOf i).toNat)
 case atStart => exact ⟨0, Nat.zero_le _, rfl, But.refl _ _⟩
 case round =>
  obtain ⟨k, hk, rfl, hbt⟩ := hrel
  have hb' := hb.of_block (hbt.block b hb.lt (fun h => h))
  have b6 := hb'.cell 6
  have b7 := hb'.cell 7
  simp only [List.getElem?_toArray, List.getElem?_cons_succ, List.getElem?_cons_zero] at b6 b7
  by_cases hkn : k < n
  ·obtain ⟨g1, rfl, l1, q1⟩ := f1.resolve_left (by omega)
   obtain ⟨g2, rfl, l2, q2⟩ := f2.resolve_left (by omega)
   have q1' := (hbt.cell (p := ⟨g1, k, none⟩) l1 (fun h => h)).trans (q1 k hkn)
   have q2' := (hbt.cell (p := ⟨g2, k, none⟩) l2 (fun h => h)).trans (q2 k hkn)
   have hT' : ∀ g, S g → T5 wr g := fun g hg => (hT g hg).keep (hbt.block g (hT g hg).lt (fun h => h))
   have s1 := (hK.sl k hkn).keep (w' := wr) (fun g hg => hbt.block g (hT g hg).lt (fun h => h))
   have s2 := (hW.sl k hkn).keep (w' := wr) (fun g hg => hbt.block g (hT g hg).lt (fun h => h))
   obtain ⟨a3, c3, e3, _, r3⟩ := s1.rd hT'
   obtain ⟨a4, c4, e4, _, r4⟩ := s2.rd hT'
   rw [e3] at q1'
   rw [e4] at q2'
   have v3 : ∀ q, (convert 22 9 (.slice a3 (Z k).length c3)).run Tryz.prog (wr.drewN q) = .ok (.string (strOfNums (Z k))) (wr.drewN q) := fun q => conv_str (w := wr.drewN q) r3 c3
   have v4 : ∀ q, (convert 22 9 (.slice a4 (Z k).length c4)).run Tryz.prog (wr.drewN q) = .ok (.string (strOfNums (Z k))) (wr.drewN q) := fun q => conv_str (w := wr.drewN q) r4 c4
   have hk1 : (k : Int) < (n : Int) := by omega
   clear s1 s2 e3 e4 r3 r4 hT' q1 q2 hT hK hW f1 f2 hb'
   generalize strOfNums (Z k) = st at *
   generalize (Z k).length = m at *
   go_wp2_with fail
   go_quiet (fail)
   go_wp2
   go_roundw
   case rel => exact ⟨k + 1, by omega, by go_num, hbt.drewN _⟩
   case measure => simp [intOf]; omega
  ·clear hK hW hT f1 f2
   go_wp2
   go_ret
   exact ⟨rfl, hbt⟩
set_option maxRecDepth 100000 in
set_option maxHeartbeats 4000000 in
theorem untouched_any (S : Nat → Prop) (B b : Nat) (cnt tot : Int) (fr he ma ke wa : Value) (n : Nat) (fv hv : List Value) (Z : Nat → List Int) (w : World) (hn : n ≤ 134217728)
  (hb : Bkb w b cnt tot false fr he ma ke wa) (hF : RS S B w fr n fv Z) (hH : RS S B w he n hv Z) (hT : ∀ g, S g → T5 w g) :
  Calls Tryz.prog 52 #[.pointer (some ⟨b, 0, none⟩)] w fun e w' => e = .returned (.tuple #[]) ∧ But (fun x => x = b) w w' ∧ Bkb w' b cnt tot false fr he ma ke wa := by
 obtain ⟨a1, c1, rfl, f1⟩ := hF.form
 obtain ⟨a2, c2, rfl, f2⟩ := hH.form
 have nS : ∀ g, S g → g ≠ b := fun g hg => hb.ne_t5 (hT g hg)
 have nF := hb.ne_row hF.own (by decide)
 have nH := hb.ne_row hH.own (by decide)
 go_enter Tryz.func52, Tryz.ntmps52
 go_wp2
 go_loopw [2] (fun i wt => ∃ k : Nat, k ≤ n ∧ i = .int .i64 (k : Int) ∧ But (fun x => x = b) w wt ∧ Bkb wt b cnt tot false (.slice a1 n c1) (.slice a2 n c2) ma ke wa) (fun i _ => n - (intOf i).toNat)
 case atStart => exact ⟨0, Nat.zero_le _, rfl, But.refl _ _, hb⟩
 case round =>
  obtain ⟨k, hk, rfl, hbt, hb'⟩ := hrel
  have b2 := hb'.cell 2
  have b3 := hb'.cell 3
  have b4 := hb'.cell 4
  have fz := hb'.frozen 2
  simp only [List.getElem?_toArray, List.getElem?_cons_succ, List.getElem?_cons_zero] at b2 b3 b4
  by_cases hkn : k < n
  ·obtain ⟨g1, rfl, l1, q1⟩ := f1.resolve_left (by omega)
   obtain ⟨g2, rfl, l2, q2⟩ := f2.resolve_left (by omega)
   have q1' := (hbt.cell (p := ⟨g1, k, none⟩) l1 (fun h => nF (by rw [← h]; rfl))).trans (q1 k hkn)
   have q2' := (hbt.cell (p := ⟨g2, k, none⟩) l2 (fun h => nH (by rw [← h]; rfl))).trans (q2 k hkn)
   have hkeep : ∀ g, S g → wr.heap[g]? = w.heap[g]? := fun g hg => hbt.block g (hT g hg).lt (nS g hg)
   have hT' : ∀ g, S g → T5 wr g := fun g hg => (hT g hg).keep (hkeep g hg)
   have s1 := (hF.sl k hkn).keep (w' := wr) hkeep
   have s2 := (hH.sl k hkn).keep (w' := wr) hkeep
   obtain ⟨a3, c3, e3, _, r3⟩ := s1.rd hT'
   obtain ⟨a4, c4, e4, _, r4⟩ := s2.rd hT'
   rw [e3] at q1'
   rw [e4] at q2'
   have v3 : (convert 22 9 (.slice a3 (Z k).length c3)).run Tryz.prog wr.drew = .ok (.string (strOfNums (Z k))) wr.drew := conv_str (w := wr.drew) r3 c3
   have v4 : (convert 22 9 (.slice a4 (Z k).length c4)).run Tryz.prog wr.drew = .ok (.string (strOfNums (Z k))) wr.drew := conv_str (w := wr.drew) r4 c4
   have hk1 : (k : Int) < (n : Int) := by omega
   have Hset := hid (hb'.set 2 (.bool false))
   have Hbt := hid (hbt.setCell (p := ⟨b, 2, none⟩) rfl (.bool false))
   clear s1 s2 e3 e4 r3 r4 hT' hkeep q1 q2 hT hF hH f1 f2 hb' nS nF nH hbt
   generalize strOfNums (Z k) = st at *
   generalize (Z k).length = m at *
   go_wp2_with fail
   go_region
   all_goals go_wp2
   all_goals
    go_roundw
    case rel => exact ⟨k + 1, by omega, by go_num, Hbt.out.drew, Hset.out⟩
    case measure => simp [intOf]; omega
  ·clear hF hH hT f1 f2 nS nF nH
   go_wp2
   go_end0
   exact ⟨rfl, hbt, hb'⟩
end Go.Proofs.YtldlejpacgphmabGreat
