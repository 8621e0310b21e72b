import Derived.Test.YtldlejpacgphmaaGreatG47
import Derived.Test.YtldlejpacgphmaaGreatG27
import Derived.Deep.RegionHeld3
namespace Go.Proofs.YtldlejpacgphmaaGreat
open Go.RowKit Go.Deep
set_option maxRecDepth 100000 in
set_option maxHeartbeats 4000000 in
theorem begun_short {w : World} (a : Option Addr) (L hcap : Nat) (H : List Int) (frI blI rI : Int) (hL : L ≤ 140737488351232) (hbad : openBad L) (hnil : a = none → hcap = 0) (hR : Rd w.heap.size w a L H) :
  Calls Tryz.prog 10 #[.agg #[.slice a L hcap, .int .i64 frI, .int .i64 blI, .int .i64 rI]] w fun e w' => e = .returned (.tuple #[.pointer none, .bool true]) ∧ Below w.heap.size w w' := by
 obtain ⟨PO, hPO⟩ : ∃ PO : Ending → World → Prop, PO = fun e w' => e = .returned (.tuple #[.pointer none, .bool true]) ∧ Below w.heap.size w w' := ⟨_, rfl⟩
 rw [← hPO]
 obtain ⟨pk, hpk⟩ : ∃ pk, pk = w.heap.size := ⟨_, rfl⟩
 obtain ⟨w0, hw0⟩ : ∃ w0, w0 = w.alloc (.cells #[.slice a L hcap, .int .i64 frI, .int .i64 blI, .int .i64 rI] 24) := ⟨_, rfl⟩
 have b0 : Below w.heap.size w w0 := by rw [hw0]; exact (Below.refl _ _).alloc (Nat.le_refl _) _
 have z0 : w0.heap.size = w.heap.size + 1 := by rw [hw0]; simp
 have hpl : pk < w0.heap.size := by omega
 have c0 : w0.cell? ⟨pk, 0, none⟩ = some (.slice a L hcap) := by rw [hw0, hpk]; exact cell_new rfl 0 _ rfl
 have HCp := hid (CopyBytes_any a L hcap H w0 hL hnil ((hR.below b0).mono b0.size))
 have HNm := hid (num_any 21)
 have HW0 := hid hw0
 have HPK := hid hpk
 have HC0 := hid c0
 have HF0 : Hid (∀ w', Below w0.heap.size w0 w' → PO (.returned (.tuple #[.pointer none, .bool true])) w'.drew) := fun w' hb => by
  rw [hPO]
  exact ⟨rfl, (b0.trans (hb.mono b0.size)).drew⟩
 have HOb : Hid (∀ (g c : Nat) (w' : World), _) := fun g c w' => Open_bad (some ⟨g, 0, none⟩) L c w' hbad
 have HBad := hid hbad
 have HLL := hid hL
 clear hbad hnil hR hPO hw0 hpk z0 b0
 go_enter Tryz.func10, Tryz.ntmps10
 go_wp2_with fail
 rw [← HW0.out, ← HPK.out]
 refine Calls.mono HCp.out ?_
 rintro e w1 ⟨g1, cp1, rfl, hg1, o1, b1⟩
 have HFin := hid (HF0.out w1 b1)
 have d0 := (b1.cell (p := ⟨pk, 0, none⟩) hpl).trans HC0.out
 have HO1 := hid (HOb.out g1 cp1 w1)
 clear HCp HF0 HOb HC0 hg1 o1 b1 HW0 HPK c0
 go_wp2_with fail
 refine Calls.mono HO1.out ?_
 rintro e w9 ⟨rfl, hw9⟩
 rw [hw9]
 clear hw9 HO1
 go_wp2_with fail
 refine Calls.mono (HNm.out w1) ?_
 rintro e w9 ⟨rfl, hw9⟩
 rw [hw9]
 clear hw9 HNm
 by_cases h1 : L = 0
 ·subst h1
  clear HBad HLL
  go_wp2_with fail
  refine wp_region_held_drew (S := fun w' => w'.cell? ⟨pk, 0, none⟩ = some (.slice a 0 hcap)) (by kernel_rfl) d0 (fun hSS => ?_)
  apply tk 0 (some 27) (.fieldAddr 24 (.tmp 1) 0) 0 none rfl (by kernel_rfl) (fun _ _ _ h => h) (by rfl) hSS
  ·(intro w9 hSw; (try dsimp only at hSw); (try go_split_ands); first | (go_simp; done) | (go_simp; with_reducible rfl))
  apply tk 1 (some 28) (.load 22 (.tmp 27)) 22 none rfl (by kernel_rfl) (fun _ _ _ h => h) (by rfl) hSS
  ·(intro w9 hSw; (try dsimp only at hSw); (try go_split_ands); first | (go_simp; done) | (go_simp; with_reducible rfl))
  apply tk 2 (some 29) (.call { callee := .builtin .len, args := #[.tmp 28], argTypes := #[22] }) 3 none rfl (by kernel_rfl) (fun _ _ _ h => h) (by rfl) hSS
  ·(intro w9 hSw; (try dsimp only at hSw); (try go_split_ands); first | (go_simp; done) | (go_simp; with_reducible rfl))
  apply tk 3 (some 30) (.binOp .eql 3 (.tmp 29) (.const (.int .i64 0)) 3) 4 none rfl (by kernel_rfl) (fun _ _ _ h => h) (by rfl) hSS
  ·(intro w9 hSw; (try dsimp only at hSw); (try go_split_ands); first | (go_simp; done) | (go_simp; with_reducible rfl))
  try simp only [Act.put, List.setIfInBounds_toArray, List.set_cons_zero, List.set_cons_succ]
  apply tk 4 (some 31) (.move (.tmp 30)) 4 none rfl (by kernel_rfl) (fun _ _ _ h => h) (by rfl) hSS
  ·(intro w9 hSw; (try dsimp only at hSw); (try go_split_ands); first | (go_simp; done) | (go_simp; with_reducible rfl))
  refine sk 5 (some 32) (.fieldAddr 24 (.tmp 1) 0) 0 (some (4, false)) rfl (by kernel_rfl) (fun _ _ _ h => h) (by rfl) hSS ?_
  refine sk 6 (some 33) (.load 22 (.tmp 32)) 22 (some (4, false)) rfl (by kernel_rfl) (fun _ _ _ h => h) (by rfl) hSS ?_
  refine sk 7 (some 34) (.call { callee := .builtin .len, args := #[.tmp 33], argTypes := #[22] }) 3 (some (4, false)) rfl (by kernel_rfl) (fun _ _ _ h => h) (by rfl) hSS ?_
  try simp only [Act.put, List.setIfInBounds_toArray, List.set_cons_zero, List.set_cons_succ]
  refine sk 8 (some 35) (.binOp .rem 3 (.tmp 34) (.const (.int .i64 512)) 3) 3 (some (4, false)) rfl (by kernel_rfl) (fun _ _ _ h => h) (by rfl) hSS ?_
  refine sk 9 (some 36) (.binOp .neq 3 (.tmp 35) (.const (.int .i64 0)) 3) 4 (some (4, false)) rfl (by kernel_rfl) (fun _ _ _ h => h) (by rfl) hSS ?_
  apply tk 10 (some 37) (.pick (.tmp 31) (.const (.bool true)) (.tmp 36)) 4 none rfl (by kernel_rfl) (fun _ _ _ h => h) (by rfl) hSS
  ·(intro w9 hSw; (try dsimp only at hSw); (try go_split_ands); first | (go_simp; done) | (go_simp; with_reducible rfl))
  apply tk 11 (some 38) (.move (.tmp 37)) 4 none rfl (by kernel_rfl) (fun _ _ _ h => h) (by rfl) hSS
  ·(intro w9 hSw; (try dsimp only at hSw); (try go_split_ands); first | (go_simp; done) | (go_simp; with_reducible rfl))
  try simp only [Act.put, List.setIfInBounds_toArray, List.set_cons_zero, List.set_cons_succ]
  refine sk 12 (some 39) (.fieldAddr 24 (.tmp 1) 0) 0 (some (11, false)) rfl (by kernel_rfl) (fun _ _ _ h => h) (by rfl) hSS ?_
  refine sk 13 (some 40) (.load 22 (.tmp 39)) 22 (some (11, false)) rfl (by kernel_rfl) (fun _ _ _ h => h) (by rfl) hSS ?_
  refine sk 14 (some 41) (.call { callee := .builtin .len, args := #[.tmp 40], argTypes := #[22] }) 3 (some (11, false)) rfl (by kernel_rfl) (fun _ _ _ h => h) (by rfl) hSS ?_
  refine sk 15 (some 42) (.binOp .gtr 3 (.tmp 41) (.const (.int .i64 268435456)) 3) 4 (some (11, false)) rfl (by kernel_rfl) (fun _ _ _ h => h) (by rfl) hSS ?_
  try simp only [Act.put, List.setIfInBounds_toArray, List.set_cons_zero, List.set_cons_succ]
  apply tk 16 (some 43) (.pick (.tmp 38) (.const (.bool true)) (.tmp 42)) 4 none rfl (by kernel_rfl) (fun _ _ _ h => h) (by rfl) hSS
  ·(intro w9 hSw; (try dsimp only at hSw); (try go_split_ands); first | (go_simp; done) | (go_simp; with_reducible rfl))
  apply tk 17 (some 2) (.assign (.const (.pointer none))) 27 none rfl (by kernel_rfl) (fun _ _ _ h => h) (by rfl) hSS
  ·(intro w9 hSw; (try dsimp only at hSw); (try go_split_ands); first | (go_simp; done) | (go_simp; with_reducible rfl))
  apply tk 18 (some 3) (.assign (.tmp 43)) 4 none rfl (by kernel_rfl) (fun _ _ _ h => h) (by rfl) hSS
  ·(intro w9 hSw; (try dsimp only at hSw); (try go_split_ands); first | (go_simp; done) | (go_simp; with_reducible rfl))
  try simp only [Act.put, List.setIfInBounds_toArray, List.set_cons_zero, List.set_cons_succ]
  refine wpAnyH_done (by kernel_rfl) ?_ _
  clear hSS d0
  go_wp2
  exact HFin.out
 by_cases h2 : L % 512 = 0
 ·have h0 : ¬ ((L : Int) = 0) := by omega
  have h0b : ((L : Int) == 0) = false := by simpa using h0
  have h0c : (L == 0) = false := by simpa using h1
  have hgt : 268435456 < (L : Int) := by have := HBad.out; unfold openBad at this; omega
  have t1 : (L : Int).tmod 512 = 0 := by rw [Int.tmod_eq_emod_of_nonneg (by omega)]; omega
  have t2 : (L : Int) % 512 = 0 := by omega
  have hlw : (L : Int) ≤ 140737488351232 := by have := HLL.out; omega
  clear HBad HLL h2
  go_wp2_with fail
  refine wp_region_held_drew (S := fun w' => w'.cell? ⟨pk, 0, none⟩ = some (.slice a L hcap)) (by kernel_rfl) d0 (fun hSS => ?_)
  apply tk 0 (some 27) (.fieldAddr 24 (.tmp 1) 0) 0 none rfl (by kernel_rfl) (fun _ _ _ h => h) (by rfl) hSS
  ·(intro w9 hSw; (try dsimp only at hSw); (try go_split_ands); first | (go_simp; done) | (go_simp; with_reducible rfl))
  apply tk 1 (some 28) (.load 22 (.tmp 27)) 22 none rfl (by kernel_rfl) (fun _ _ _ h => h) (by rfl) hSS
  ·(intro w9 hSw; (try dsimp only at hSw); (try go_split_ands); first | (go_simp; done) | (go_simp; with_reducible rfl))
  try simp only [Act.put, List.setIfInBounds_toArray, List.set_cons_zero, List.set_cons_succ]
  apply tk 2 (some 29) (.call { callee := .builtin .len, args := #[.tmp 28], argTypes := #[22] }) 3 none rfl (by kernel_rfl) (fun _ _ _ h => h) (by rfl) hSS
  ·(intro w9 hSw; (try dsimp only at hSw); (try go_split_ands); first | (go_simp; done) | (go_simp; with_reducible rfl))
  apply tk 3 (some 30) (.binOp .eql 3 (.tmp 29) (.const (.int .i64 0)) 3) 4 none rfl (by kernel_rfl) (fun _ _ _ h => h) (by rfl) hSS
  ·(intro w9 hSw; (try dsimp only at hSw); (try go_split_ands); first | (go_simp; done) | (go_simp; with_reducible rfl))
  apply tk 4 (some 31) (.move (.tmp 30)) 4 none rfl (by kernel_rfl) (fun _ _ _ h => h) (by rfl) hSS
  ·(intro w9 hSw; (try dsimp only at hSw); (try go_split_ands); first | (go_simp; done) | (go_simp; with_reducible rfl))
  apply tk 5 (some 32) (.fieldAddr 24 (.tmp 1) 0) 0 (some (4, false)) rfl (by kernel_rfl) (fun _ _ _ h => h) (by rfl) hSS
  ·(intro w9 hSw; (try dsimp only at hSw); (try go_split_ands); first | (go_simp; done) | (go_simp; with_reducible rfl))
  try simp only [Act.put, List.setIfInBounds_toArray, List.set_cons_zero, List.set_cons_succ]
  apply tk 6 (some 33) (.load 22 (.tmp 32)) 22 (some (4, false)) rfl (by kernel_rfl) (fun _ _ _ h => h) (by rfl) hSS
  ·(intro w9 hSw; (try dsimp only at hSw); (try go_split_ands); first | (go_simp; done) | (go_simp; with_reducible rfl))
  apply tk 7 (some 34) (.call { callee := .builtin .len, args := #[.tmp 33], argTypes := #[22] }) 3 (some (4, false)) rfl (by kernel_rfl) (fun _ _ _ h => h) (by rfl) hSS
  ·(intro w9 hSw; (try dsimp only at hSw); (try go_split_ands); first | (go_simp; done) | (go_simp; with_reducible rfl))
  apply tk 8 (some 35) (.binOp .rem 3 (.tmp 34) (.const (.int .i64 512)) 3) 3 (some (4, false)) rfl (by kernel_rfl) (fun _ _ _ h => h) (by rfl) hSS
  ·(intro w9 hSw; (try dsimp only at hSw); (try go_split_ands); first | (go_simp; done) | (go_simp; with_reducible rfl))
  apply tk 9 (some 36) (.binOp .neq 3 (.tmp 35) (.const (.int .i64 0)) 3) 4 (some (4, false)) rfl (by kernel_rfl) (fun _ _ _ h => h) (by rfl) hSS
  ·(intro w9 hSw; (try dsimp only at hSw); (try go_split_ands); first | (go_simp; done) | (go_simp; with_reducible rfl))
  try simp only [Act.put, List.setIfInBounds_toArray, List.set_cons_zero, List.set_cons_succ]
  apply tk 10 (some 37) (.pick (.tmp 31) (.const (.bool true)) (.tmp 36)) 4 none rfl (by kernel_rfl) (fun _ _ _ h => h) (by rfl) hSS
  ·(intro w9 hSw; (try dsimp only at hSw); (try go_split_ands); first | (go_simp; done) | (go_simp; with_reducible rfl))
  apply tk 11 (some 38) (.move (.tmp 37)) 4 none rfl (by kernel_rfl) (fun _ _ _ h => h) (by rfl) hSS
  ·(intro w9 hSw; (try dsimp only at hSw); (try go_split_ands); first | (go_simp; done) | (go_simp; with_reducible rfl))
  apply tk 12 (some 39) (.fieldAddr 24 (.tmp 1) 0) 0 (some (11, false)) rfl (by kernel_rfl) (fun _ _ _ h => h) (by rfl) hSS
  ·(intro w9 hSw; (try dsimp only at hSw); (try go_split_ands); first | (go_simp; done) | (go_simp; with_reducible rfl))
  apply tk 13 (some 40) (.load 22 (.tmp 39)) 22 (some (11, false)) rfl (by kernel_rfl) (fun _ _ _ h => h) (by rfl) hSS
  ·(intro w9 hSw; (try dsimp only at hSw); (try go_split_ands); first | (go_simp; done) | (go_simp; with_reducible rfl))
  try simp only [Act.put, List.setIfInBounds_toArray, List.set_cons_zero, List.set_cons_succ]
  apply tk 14 (some 41) (.call { callee := .builtin .len, args := #[.tmp 40], argTypes := #[22] }) 3 (some (11, false)) rfl (by kernel_rfl) (fun _ _ _ h => h) (by rfl) hSS
  ·(intro w9 hSw; (try dsimp only at hSw); (try go_split_ands); first | (go_simp; done) | (go_simp; with_reducible rfl))
  apply tk 15 (some 42) (.binOp .gtr 3 (.tmp 41) (.const (.int .i64 268435456)) 3) 4 (some (11, false)) rfl (by kernel_rfl) (fun _ _ _ h => h) (by rfl) hSS
  ·(intro w9 hSw; (try dsimp only at hSw); (try go_split_ands); first | (go_simp; done) | (go_simp; with_reducible rfl))
  apply tk 16 (some 43) (.pick (.tmp 38) (.const (.bool true)) (.tmp 42)) 4 none rfl (by kernel_rfl) (fun _ _ _ h => h) (by rfl) hSS
  ·(intro w9 hSw; (try dsimp only at hSw); (try go_split_ands); first | (go_simp; done) | (go_simp; with_reducible rfl))
  apply tk 17 (some 2) (.assign (.const (.pointer none))) 27 none rfl (by kernel_rfl) (fun _ _ _ h => h) (by rfl) hSS
  ·(intro w9 hSw; (try dsimp only at hSw); (try go_split_ands); first | (go_simp; done) | (go_simp; with_reducible rfl))
  try simp only [Act.put, List.setIfInBounds_toArray, List.set_cons_zero, List.set_cons_succ]
  apply tk 18 (some 3) (.assign (.tmp 43)) 4 none rfl (by kernel_rfl) (fun _ _ _ h => h) (by rfl) hSS
  ·(intro w9 hSw; (try dsimp only at hSw); (try go_split_ands); first | (go_simp; done) | (go_simp; with_reducible rfl))
  try simp only [Act.put, List.setIfInBounds_toArray, List.set_cons_zero, List.set_cons_succ]
  refine wpAnyH_done (by kernel_rfl) ?_ _
  clear hSS d0
  go_wp2
  exact HFin.out
 ·have h0 : ¬ ((L : Int) = 0) := by omega
  have h0b : ((L : Int) == 0) = false := by simpa using h0
  have h0c : (L == 0) = false := by simpa using h1
  obtain ⟨r, hr⟩ : ∃ r : Nat, r = L % 512 := ⟨_, rfl⟩
  have t1 : (L : Int).tmod 512 = (r : Int) := by rw [Int.tmod_eq_emod_of_nonneg (by omega)]; omega
  have t2 : (L : Int) % 512 = (r : Int) := by omega
  have t3 : IntKind.i64.wrap (r : Int) = (r : Int) := by rw [IntKind.wrap_i64]; omega
  have t4 : ¬ ((r : Int) = 0) := by omega
  have t5 : ¬ (r = 0) := by omega
  have t6 : ((r : Int) != 0) = true := by simpa using t4
  have t7 : (r != 0) = true := by simpa using t5
  have hlw : (L : Int) ≤ 140737488351232 := by have := HLL.out; omega
  clear HBad HLL h2 hr
  go_wp2_with fail
  refine wp_region_held_drew (S := fun w' => w'.cell? ⟨pk, 0, none⟩ = some (.slice a L hcap)) (by kernel_rfl) d0 (fun hSS => ?_)
  apply tk 0 (some 27) (.fieldAddr 24 (.tmp 1) 0) 0 none rfl (by kernel_rfl) (fun _ _ _ h => h) (by rfl) hSS
  ·(intro w9 hSw; (try dsimp only at hSw); (try go_split_ands); first | (go_simp; done) | (go_simp; with_reducible rfl))
  apply tk 1 (some 28) (.load 22 (.tmp 27)) 22 none rfl (by kernel_rfl) (fun _ _ _ h => h) (by rfl) hSS
  ·(intro w9 hSw; (try dsimp only at hSw); (try go_split_ands); first | (go_simp; done) | (go_simp; with_reducible rfl))
  apply tk 2 (some 29) (.call { callee := .builtin .len, args := #[.tmp 28], argTypes := #[22] }) 3 none rfl (by kernel_rfl) (fun _ _ _ h => h) (by rfl) hSS
  ·(intro w9 hSw; (try dsimp only at hSw); (try go_split_ands); first | (go_simp; done) | (go_simp; with_reducible rfl))
  apply tk 3 (some 30) (.binOp .eql 3 (.tmp 29) (.const (.int .i64 0)) 3) 4 none rfl (by kernel_rfl) (fun _ _ _ h => h) (by rfl) hSS
  ·(intro w9 hSw; (try dsimp only at hSw); (try go_split_ands); first | (go_simp; done) | (go_simp; with_reducible rfl))
  try simp only [Act.put, List.setIfInBounds_toArray, List.set_cons_zero, List.set_cons_succ]
  apply tk 4 (some 31) (.move (.tmp 30)) 4 none rfl (by kernel_rfl) (fun _ _ _ h => h) (by rfl) hSS
  ·(intro w9 hSw; (try dsimp only at hSw); (try go_split_ands); first | (go_simp; done) | (go_simp; with_reducible rfl))
  apply tk 5 (some 32) (.fieldAddr 24 (.tmp 1) 0) 0 (some (4, false)) rfl (by kernel_rfl) (fun _ _ _ h => h) (by rfl) hSS
  ·(intro w9 hSw; (try dsimp only at hSw); (try go_split_ands); first | (go_simp; done) | (go_simp; with_reducible rfl))
  apply tk 6 (some 33) (.load 22 (.tmp 32)) 22 (some (4, false)) rfl (by kernel_rfl) (fun _ _ _ h => h) (by rfl) hSS
  ·(intro w9 hSw; (try dsimp only at hSw); (try go_split_ands); first | (go_simp; done) | (go_simp; with_reducible rfl))
  apply tk 7 (some 34) (.call { callee := .builtin .len, args := #[.tmp 33], argTypes := #[22] }) 3 (some (4, false)) rfl (by kernel_rfl) (fun _ _ _ h => h) (by rfl) hSS
  ·(intro w9 hSw; (try dsimp only at hSw); (try go_split_ands); first | (go_simp; done) | (go_simp; with_reducible rfl))
  try simp only [Act.put, List.setIfInBounds_toArray, List.set_cons_zero, List.set_cons_succ]
  apply tk 8 (some 35) (.binOp .rem 3 (.tmp 34) (.const (.int .i64 512)) 3) 3 (some (4, false)) rfl (by kernel_rfl) (fun _ _ _ h => h) (by rfl) hSS
  ·(intro w9 hSw; (try dsimp only at hSw); (try go_split_ands); first | (go_simp; done) | (go_simp; with_reducible rfl))
  apply tk 9 (some 36) (.binOp .neq 3 (.tmp 35) (.const (.int .i64 0)) 3) 4 (some (4, false)) rfl (by kernel_rfl) (fun _ _ _ h => h) (by rfl) hSS
  ·(intro w9 hSw; (try dsimp only at hSw); (try go_split_ands); first | (go_simp; done) | (go_simp; with_reducible rfl))
  apply tk 10 (some 37) (.pick (.tmp 31) (.const (.bool true)) (.tmp 36)) 4 none rfl (by kernel_rfl) (fun _ _ _ h => h) (by rfl) hSS
  ·(intro w9 hSw; (try dsimp only at hSw); (try go_split_ands); first | (go_simp; done) | (go_simp; with_reducible rfl))
  apply tk 11 (some 38) (.move (.tmp 37)) 4 none rfl (by kernel_rfl) (fun _ _ _ h => h) (by rfl) hSS
  ·(intro w9 hSw; (try dsimp only at hSw); (try go_split_ands); first | (go_simp; done) | (go_simp; with_reducible rfl))
  try simp only [Act.put, List.setIfInBounds_toArray, List.set_cons_zero, List.set_cons_succ]
  refine sk 12 (some 39) (.fieldAddr 24 (.tmp 1) 0) 0 (some (11, false)) rfl (by kernel_rfl) (fun _ _ _ h => h) (by rfl) hSS ?_
  refine sk 13 (some 40) (.load 22 (.tmp 39)) 22 (some (11, false)) rfl (by kernel_rfl) (fun _ _ _ h => h) (by rfl) hSS ?_
  refine sk 14 (some 41) (.call { callee := .builtin .len, args := #[.tmp 40], argTypes := #[22] }) 3 (some (11, false)) rfl (by kernel_rfl) (fun _ _ _ h => h) (by rfl) hSS ?_
  refine sk 15 (some 42) (.binOp .gtr 3 (.tmp 41) (.const (.int .i64 268435456)) 3) 4 (some (11, false)) rfl (by kernel_rfl) (fun _ _ _ h => h) (by rfl) hSS ?_
  try simp only [Act.put, List.setIfInBounds_toArray, List.set_cons_zero, List.set_cons_succ]
  apply tk 16 (some 43) (.pick (.tmp 38) (.const (.bool true)) (.tmp 42)) 4 none rfl (by kernel_rfl) (fun _ _ _ h => h) (by rfl) hSS
  ·(intro w9 hSw; (try dsimp only at hSw); (try go_split_ands); first | (go_simp; done) | (go_simp; with_reducible rfl))
  apply tk 17 (some 2) (.assign (.const (.pointer none))) 27 none rfl (by kernel_rfl) (fun _ _ _ h => h) (by rfl) hSS
  ·(intro w9 hSw; (try dsimp only at hSw); (try go_split_ands); first | (go_simp; done) | (go_simp; with_reducible rfl))
  apply tk 18 (some 3) (.assign (.tmp 43)) 4 none rfl (by kernel_rfl) (fun _ _ _ h => h) (by rfl) hSS
  ·(intro w9 hSw; (try dsimp only at hSw); (try go_split_ands); first | (go_simp; done) | (go_simp; with_reducible rfl))
  try simp only [Act.put, List.setIfInBounds_toArray, List.set_cons_zero, List.set_cons_succ]
  refine wpAnyH_done (by kernel_rfl) ?_ _
  clear hSS d0
  go_wp2
  exact HFin.out
set_option maxRecDepth 100000 in
set_option maxHeartbeats 4000000 in
theorem begun_off {w : World} (a : Option Addr) (hcap : Nat) (H : List Int) (nb : Nat) (frI blI rI : Int) (n1 : 1 ≤ nb) (hnb : nb ≤ 524288) (hwz : placeC nb frI blI ≠ 0) (hnil : a = none → hcap = 0) (hR : Rd w.heap.size w a (512 * nb) H) :
  Calls Tryz.prog 10 #[.agg #[.slice a (512 * nb) hcap, .int .i64 frI, .int .i64 blI, .int .i64 rI]] w fun e w' => e = .returned (.tuple #[.pointer none, .bool true]) ∧ Below w.heap.size w w' := by
 obtain ⟨PO, hPO⟩ : ∃ PO : Ending → World → Prop, PO = fun e w' => e = .returned (.tuple #[.pointer none, .bool true]) ∧ Below w.heap.size w w' := ⟨_, rfl⟩
 rw [← hPO]
 obtain ⟨L, hLe⟩ : ∃ L, L = 512 * nb := ⟨_, rfl⟩
 obtain ⟨want, hwant⟩ : ∃ want, want = placeC nb frI blI := ⟨_, rfl⟩
 obtain ⟨pk, hpk⟩ : ∃ pk, pk = w.heap.size := ⟨_, rfl⟩
 obtain ⟨w0, hw0⟩ : ∃ w0, w0 = w.alloc (.cells #[.slice a L hcap, .int .i64 frI, .int .i64 blI, .int .i64 rI] 24) := ⟨_, rfl⟩
 have b0 : Below w.heap.size w w0 := by rw [hw0]; exact (Below.refl _ _).alloc (Nat.le_refl _) _
 have z0 : w0.heap.size = w.heap.size + 1 := by rw [hw0]; simp
 have hpl : pk < w0.heap.size := by omega
 have c0 : w0.cell? ⟨pk, 0, none⟩ = some (.slice a L hcap) := by rw [hw0, hpk]; exact cell_new rfl 0 _ rfl
 have c1 : w0.cell? ⟨pk, 1, none⟩ = some (.int .i64 frI) := by rw [hw0, hpk]; exact cell_new rfl 1 _ rfl
 have c2 : w0.cell? ⟨pk, 2, none⟩ = some (.int .i64 blI) := by rw [hw0, hpk]; exact cell_new rfl 2 _ rfl
 have c3 : w0.cell? ⟨pk, 3, none⟩ = some (.int .i64 rI) := by rw [hw0, hpk]; exact cell_new rfl 3 _ rfl
 have HCell : Hid (∀ w', Below w0.heap.size w0 w' → w'.cell? ⟨pk, 0, none⟩ = some (.slice a L hcap) ∧ w'.cell? ⟨pk, 1, none⟩ = some (.int .i64 frI) ∧ w'.cell? ⟨pk, 2, none⟩ = some (.int .i64 blI) ∧ w'.cell? ⟨pk, 3, none⟩ = some (.int .i64 rI)) := fun w' hb => ⟨(hb.cell (p := ⟨pk, 0, none⟩) hpl).trans c0, (hb.cell (p := ⟨pk, 1, none⟩) hpl).trans c1, (hb.cell (p := ⟨pk, 2, none⟩) hpl).trans c2, (hb.cell (p := ⟨pk, 3, none⟩) hpl).trans c3⟩
 have HF0 : Hid (∀ w', Below w0.heap.size w0 w' → PO (.returned (.tuple #[.pointer none, .bool true])) w') := fun w' hb => by
  rw [hPO]
  exact ⟨rfl, b0.trans (hb.mono b0.size)⟩
 have hRL : Rd w.heap.size w a L H := by rw [hLe]; exact hR
 have HCp := hid (CopyBytes_any a L hcap H w0 (by omega) hnil ((hRL.below b0).mono b0.size))
 have hisb := hR.2.1
 have HOd : Hid (∀ (w1 : World) (g1 cp1 : Nat), Own w1 g1 L cp1 H → Calls Tryz.prog 21 #[.slice (some ⟨g1, 0, none⟩) L cp1] w1 fun e w' => ∃ p, e = .returned (.tuple #[.pointer (some ⟨p, 0, none⟩), .int .i64 0]) ∧ w1.heap.size ≤ p ∧ Dk (fun x => w1.heap.size ≤ x) w' p H [] (-1) false nb ∧ Below w1.heap.size w1 w') := fun w1 g1 cp1 ho => by
  rw [hLe] at ho ⊢
  exact Open_ok ⟨g1, 0, none⟩ nb cp1 H w1 n1 hnb (ho.rd hisb)
 have HNm := hid num_any
 have HLow := hid (low_any rI)
 have HPl := hid (refPlaced_any nb hnb frI blI)
 rw [← hwant] at HPl
 have HFm : Hid (∀ (w1 w2 w3 : World) (p c room : Nat), Below w0.heap.size w0 w1 → Below w1.heap.size w1 w2 → Below w2.heap.size w2 w3 → Dk (fun x => w1.heap.size ≤ x) w2 p H [] (-1) false nb → Cst (fun k => w2.heap.size ≤ k) w3 c p room 0 0 [] → Calls Tryz.prog 29 #[.pointer (some ⟨c, 0, none⟩), .int .i64 frI, .int .i64 blI] w3 fun e w4 => e = .returned (.int .i64 want) ∧ Below w0.heap.size w0 w4 ∧
   Calls Tryz.prog 27 #[.pointer (some ⟨c, 0, none⟩), .int .i64 frI, .int .i64 blI] w4 fun e w5 => e = .returned (.tuple #[.pointer none, .int .i64 want]) ∧ Below w0.heap.size w0 w5) := fun w1 w2 w3 p c room b1 b2 b3 hD hCs => by
  have s1 := b1.size
  have s2 := b2.size
  have s3 := b3.size
  have hq := Cq.new hD hCs b3 s2
  have B3 : Below w0.heap.size w0 w3 := (b1.trans (b2.mono s1)).trans (b3.mono (by omega))
  refine Calls.mono (Format_any hq frI blI (by simp only [List.length_nil]; omega)) ?_
  rintro e w4 ⟨code, d', rfl, ⟨Z', q1, q2⟩, b4, hcase⟩
  have hlc : layC ⟨H, [], -1, false⟩ nb frI blI = want := by
   unfold layC
   rw [if_neg (by simp), hwant]
  rw [hlc] at hcase
  rcases hcase with ⟨_, k2, k3⟩ | ⟨k1, _⟩
  ·subst k3 k2
   have B4 : Below w0.heap.size w0 w4 := ((But.of_below B3 (X := fun k => w0.heap.size ≤ k)).comp b4 (fun k hk q => by omega)).below (Nat.le_refl _) (fun k hk q => by omega)
   have s4 := b4.size
   refine ⟨rfl, B4, Calls.mono (Open_q q1 frI blI (by simp only [List.length_nil]; omega) rfl rfl) ?_⟩
   rintro e w5 ⟨jv, code, d5, rfl, k4, k5, _, _, _, _, k6⟩
   have k7 := k5 hwz
   have k8 : jv = none := k4.2 (by rw [k7]; exact hwz)
   subst k8
   rw [k7, ← hwant]
   refine ⟨rfl, ((But.of_below B4 (X := fun k => w0.heap.size ≤ k)).comp k6 (fun k hk q => ?_)).below (Nat.le_refl _) (fun k hk q => by omega)⟩
   rcases Nat.lt_or_ge k w3.heap.size with hk' | hk'
   ·have := (q2 k hk' q).1
    omega
   ·omega
  ·exact absurd (hwant.symm.trans k1) hwz
 have hLn : L ≤ 268435456 := by omega
 have hq1 : (L : Int).tdiv 512 = (nb : Int) := by rw [Int.tdiv_eq_ediv_of_nonneg (by omega)]; omega
 have hq2 : (L : Int) / 512 = (nb : Int) := by omega
 have hwn : IntKind.i64.wrap (nb : Int) = (nb : Int) := by rw [IntKind.wrap_i64]; omega
 have hwz' : ¬ (want = 0) := by rw [hwant]; exact hwz
 have hwb : (want != 0) = true := by simpa using hwz'
 rw [← hLe]
 have HW0 := hid hw0
 have HPK := hid hpk
 clear hR hRL hPO hw0 hpk z0 b0 hisb c0 c1 c2 c3 hLe n1 hnil hnb hwant hwz
 go_enter Tryz.func10, Tryz.ntmps10
 go_wp2_with fail
 rw [← HW0.out, ← HPK.out]
 refine Calls.mono HCp.out ?_
 rintro e w1 ⟨g1, cp1, rfl, hg1, o1, b1⟩
 have HO1 := hid (HOd.out w1 g1 cp1 o1)
 have B1 := hid b1
 have hs1 := b1.size
 clear HCp HOd o1 b1 HW0 HPK hg1
 go_wp2_with fail
 refine Calls.mono HO1.out ?_
 rintro e w2 ⟨p, rfl, hp, dk, b2⟩
 have B2 := hid b2
 have DK := hid dk
 have hs2 := b2.size
 obtain ⟨d0, d1, d2, d3⟩ := HCell.out w2 (B1.out.trans (b2.mono hs1))
 clear HO1 dk b2 hp
 go_wp2_with fail
 refine Calls.mono (HNm.out 0 w2) ?_
 rintro e w9 ⟨rfl, hw9⟩
 rw [hw9]
 clear hw9
 go_wp2_with fail
 refine Calls.mono (HLow.out w2) ?_
 rintro e w9 ⟨y, rfl, hy, hw9, hye⟩
 clear hye
 rw [hw9]
 clear hw9
 obtain ⟨r0, hr0⟩ : ∃ r0 : Nat, r0 = y % 4096 := ⟨_, rfl⟩
 have ht1 : (y : Int).tmod 4096 = (r0 : Int) := by rw [Int.tmod_eq_emod_of_nonneg (by omega)]; omega
 have ht2 : (y : Int) % 4096 = (r0 : Int) := by omega
 have hr1 : r0 < 4096 := by omega
 have hw3 : IntKind.i64.wrap (r0 : Int) = (r0 : Int) := by rw [IntKind.wrap_i64]; omega
 have hw4 : IntKind.i64.wrap (1 + (r0 : Int)) = 1 + (r0 : Int) := by rw [IntKind.wrap_i64]; omega
 obtain ⟨room, hroom⟩ : ∃ room : Nat, room = 1 + r0 := ⟨_, rfl⟩
 have hrm : 1 + (r0 : Int) = (room : Int) := by omega
 have HNw2 := hid (CNew_ok (w := w2) p room (by omega) (by omega))
 clear hr0 hroom HLow
 go_wp2_with fail
 refine Calls.mono HNw2.out ?_
 rintro e w3 ⟨c, rfl, hc3, cs, b3⟩
 have B03 : Below w0.heap.size w0 w3 := (B1.out.trans (B2.out.mono hs1)).trans (b3.mono (by omega))
 obtain ⟨e0, e1, e2, _⟩ := HCell.out w3 B03
 have HFo := hid (HFm.out w1 w2 w3 p c room B1.out B2.out b3 DK.out cs)
 clear HNw2 cs b3 B03 HFm DK B2 B1 d0 d1 d2 d3 ht1 ht2 hr1 hw3 hw4 hrm hy hc3
 go_wp2_with fail
 refine Calls.mono (HNm.out 0 w3) ?_
 rintro e w9 ⟨rfl, hw9⟩
 rw [hw9]
 clear hw9
 go_wp2_with fail
 refine Calls.mono (HPl.out w3) ?_
 rintro e w9 ⟨rfl, hw9⟩
 rw [hw9]
 clear hw9 HPl
 go_wp2_with fail
 refine Calls.mono HFo.out ?_
 rintro e w4 ⟨rfl, bb4, hO⟩
 have HO := hid hO
 obtain ⟨m0, m1, m2, _⟩ := HCell.out w4 bb4
 clear hO HFo e0 e1 e2 bb4
 go_wp2_with fail
 refine Calls.mono (HNm.out want w4) ?_
 rintro e w9 ⟨rfl, hw9⟩
 rw [hw9]
 clear hw9
 go_wp2_with fail
 refine Calls.mono HO.out ?_
 rintro e w5 ⟨rfl, bb5⟩
 have HFin := hid (HF0.out w5 bb5)
 clear HO m0 m1 m2 bb5 HF0 HCell
 go_wp2_with fail
 refine Calls.mono (HNm.out want w5) ?_
 rintro e w9 ⟨rfl, hw9⟩
 rw [hw9]
 clear hw9
 go_wp2_with fail
 exact HFin.out
end Go.Proofs.YtldlejpacgphmaaGreat
