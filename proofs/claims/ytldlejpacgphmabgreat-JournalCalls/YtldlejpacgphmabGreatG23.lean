import Derived.Test.YtldlejpacgphmabGreatG22
namespace Go.Proofs.YtldlejpacgphmabGreat
open Go.RowKit
set_option maxRecDepth 100000 in
set_option maxHeartbeats 4000000 in
theorem refAt_any {w : World} {g : Nat} {ha : Option Addr} {nb hc fr bl : Nat} {ta : Option Addr} {tn tc : Nat} (h : Lg w g ha nb hc fr bl ta tn tc) (hnb : nb ≤ 524288) (hfit : fr + bl ≤ nb) (at_ : Int) : Calls Tryz.prog 77 #[.pointer (some ⟨g, 0, none⟩), .int .i64 at_] w fun e w' => e = .returned (.int .i64 (homeC nb fr bl at_)) ∧ Below w.heap.size w w' := by
 have FIN : Hid (Below w.heap.size w w.drew) := (Below.refl _ _).drew
 have c0 := h.c0
 have c1 := h.c1
 have c2 := h.c2
 obtain ⟨code, hcode⟩ : ∃ code : Int, code = homeC nb fr bl at_ := ⟨_, rfl⟩
 rw [← hcode]
 unfold homeC at hcode
 have HCd := hid hcode
 clear hcode
 obtain ⟨L, hL⟩ : ∃ L, L = 512 * nb := ⟨_, rfl⟩
 have HD : Hid (∀ w' : World, (w'.cell? ⟨g, 0, none⟩ = some (.slice ha L hc) ∧ w'.cell? ⟨g, 1, none⟩ = some (.int .i64 (fr : Int)) ∧ w'.cell? ⟨g, 2, none⟩ = some (.int .i64 (bl : Int))) → Calls Tryz.prog 76 #[.pointer (some ⟨g, 0, none⟩)] w' fun e w'' => e = .returned (.int .i64 (nb : Int)) ∧ w'' = w') := fun w' hw => refDisk_cell (by rw [← hL]; exact hw.1) hnb
 rw [← hL] at c0
 clear h hL
 obtain ⟨to_, hto⟩ : ∃ to_ : Int, to_ = (fr : Int) + (bl : Int) := ⟨_, rfl⟩
 have hs1 : IntKind.i64.wrap ((fr : Int) + (bl : Int)) = to_ := by rw [hto, IntKind.wrap_i64]; omega
 have HTO := hid hto
 clear hto
 by_cases h1 : at_ < 0
 ·have hc2 := HCd.out
  rw [if_pos (.inl h1)] at hc2
  subst hc2
  have d1 : decide (at_ < 0) = true := decide_eq_true h1
  clear HCd h1 hnb hfit
  go_enter Tryz.func77, Tryz.ntmps77
  go_wp2_with fail
  refine wp_region_held_drew (S := fun w' => w'.cell? ⟨g, 0, none⟩ = some (.slice ha L hc) ∧ w'.cell? ⟨g, 1, none⟩ = some (.int .i64 (fr : Int)) ∧ w'.cell? ⟨g, 2, none⟩ = some (.int .i64 (bl : Int))) (by kernel_rfl) ⟨c0, c1, c2⟩ (fun hSS => ?_)
  refine tk 0 (some 5) (.move (.tmp 1)) 3 none hSS ?_
  refine tk 1 (some 6) (.binOp .lss 3 (.tmp 5) (.const (.int .i64 0)) 3) 4 none hSS ?_
  refine tk 2 (some 7) (.move (.tmp 6)) 4 none hSS ?_
  refine sk 3 (some 8) (.move (.tmp 1)) 3 (some (2, false)) hSS ?_
  try simp only [Act.put, zA, zB, zC]
  refine sk 4 (some 9) (.move (.tmp 0)) 45 (some (2, false)) hSS ?_
  refine sk 5 (some 10) (.call { callee := .value (.func 76), args := #[.tmp 9], argTypes := #[45] }) 3 (some (2, false)) hSS ?_
  refine sk 6 (some 11) (.binOp .geq 3 (.tmp 8) (.tmp 10) 3) 4 (some (2, false)) hSS ?_
  refine tk 7 (some 12) (.pick (.tmp 7) (.const (.bool true)) (.tmp 11)) 4 none hSS ?_
  try simp only [Act.put, zA, zB, zC]
  refine tk 8 (some 13) (.move (.tmp 12)) 4 none hSS ?_
  refine sk 9 (some 14) (.move (.tmp 1)) 3 (some (8, false)) hSS ?_
  refine sk 10 (some 15) (.move (.tmp 0)) 45 (some (8, false)) hSS ?_
  refine sk 11 (some 16) (.nilCheck (.tmp 15)) 0 (some (8, false)) hSS ?_
  try simp only [Act.put, zA, zB, zC]
  refine sk 12 (some 17) (.fieldAddr 101 (.tmp 16) 1) 0 (some (8, false)) hSS ?_
  refine sk 13 (some 18) (.load 3 (.tmp 17)) 3 (some (8, false)) hSS ?_
  refine sk 14 (some 19) (.binOp .geq 3 (.tmp 14) (.tmp 18) 3) 4 (some (8, false)) hSS ?_
  refine sk 15 (some 20) (.move (.tmp 19)) 4 (some (8, false)) hSS ?_
  try simp only [Act.put, zA, zB, zC]
  refine sk 16 (some 21) (.move (.tmp 1)) 3 (some (15, true)) hSS ?_
  refine sk 17 (some 22) (.move (.tmp 0)) 45 (some (15, true)) hSS ?_
  refine sk 18 (some 23) (.nilCheck (.tmp 22)) 0 (some (15, true)) hSS ?_
  refine sk 19 (some 24) (.fieldAddr 101 (.tmp 23) 1) 0 (some (15, true)) hSS ?_
  try simp only [Act.put, zA, zB, zC]
  refine sk 20 (some 25) (.load 3 (.tmp 24)) 3 (some (15, true)) hSS ?_
  refine sk 21 (some 26) (.move (.tmp 0)) 45 (some (15, true)) hSS ?_
  refine sk 22 (some 27) (.nilCheck (.tmp 26)) 0 (some (15, true)) hSS ?_
  refine sk 23 (some 28) (.fieldAddr 101 (.tmp 27) 2) 0 (some (15, true)) hSS ?_
  try simp only [Act.put, zA, zB, zC]
  refine sk 24 (some 29) (.load 3 (.tmp 28)) 3 (some (15, true)) hSS ?_
  refine sk 25 (some 30) (.binOp .add 3 (.tmp 25) (.tmp 29) 3) 3 (some (15, true)) hSS ?_
  refine sk 26 (some 31) (.binOp .lss 3 (.tmp 21) (.tmp 30) 3) 4 (some (15, true)) hSS ?_
  refine sk 27 (some 32) (.pick (.tmp 20) (.tmp 31) (.const (.bool false))) 4 (some (8, false)) hSS ?_
  try simp only [Act.put, zA, zB, zC]
  refine tk 28 (some 33) (.pick (.tmp 13) (.const (.bool true)) (.tmp 32)) 4 none hSS ?_
  try simp only [Act.put, zA, zB, zC]
  refine wpAnyH_done (by kernel_rfl) ?_ _
  go_wp2
  go_ret
  exact ⟨rfl, FIN.out⟩
 ·have d1 : decide (at_ < 0) = false := decide_eq_false h1
  by_cases h2 : (nb : Int) ≤ at_
  ·have hc2 := HCd.out
   rw [if_pos (.inr (.inl h2))] at hc2
   subst hc2
   have d2 : decide ((nb : Int) ≤ at_) = true := decide_eq_true h2
   clear HCd h1 h2 hnb hfit
   go_enter Tryz.func77, Tryz.ntmps77
   go_wp2_with fail
   refine wp_region_held_drew (S := fun w' => w'.cell? ⟨g, 0, none⟩ = some (.slice ha L hc) ∧ w'.cell? ⟨g, 1, none⟩ = some (.int .i64 (fr : Int)) ∧ w'.cell? ⟨g, 2, none⟩ = some (.int .i64 (bl : Int))) (by kernel_rfl) ⟨c0, c1, c2⟩ (fun hSS => ?_)
   refine tk 0 (some 5) (.move (.tmp 1)) 3 none hSS ?_
   refine tk 1 (some 6) (.binOp .lss 3 (.tmp 5) (.const (.int .i64 0)) 3) 4 none hSS ?_
   refine tk 2 (some 7) (.move (.tmp 6)) 4 none hSS ?_
   refine tk 3 (some 8) (.move (.tmp 1)) 3 (some (2, false)) hSS ?_
   try simp only [Act.put, zA, zB, zC]
   refine tk 4 (some 9) (.move (.tmp 0)) 45 (some (2, false)) hSS ?_
   try simp only [Act.put, zA, zB, zC]
   refine wpAnyH_ready (rs := [5]) (by kernel_rfl) (by simp) (AllReadyH.cons (o := ({ dst := some 10, op := Op.call { callee := Callee.value (Operand.func 76), args := #[Operand.tmp 9], argTypes := #[45] }, type := 3, pos := _, after := _, guard := some (2, false) } : Oper)) rfl (fun K9 hK9 => ?_) AllReadyH.nil)
   go_simp
   go_at_call 76
   refine Calls.mono (HD.out _ hSS) ?_
   rintro e w2 ⟨rfl, hw2⟩
   rw [hw2]
   clear hw2
   refine hK9.out _ _ hSS (fun hSS => ?_)
   clear hK9 K9
   try simp only [Act.put, zA, zB, zC]
   refine tk 6 (some 11) (.binOp .geq 3 (.tmp 8) (.tmp 10) 3) 4 (some (2, false)) hSS ?_
   refine tk 7 (some 12) (.pick (.tmp 7) (.const (.bool true)) (.tmp 11)) 4 none hSS ?_
   refine tk 8 (some 13) (.move (.tmp 12)) 4 none hSS ?_
   refine sk 9 (some 14) (.move (.tmp 1)) 3 (some (8, false)) hSS ?_
   try simp only [Act.put, zA, zB, zC]
   refine sk 10 (some 15) (.move (.tmp 0)) 45 (some (8, false)) hSS ?_
   refine sk 11 (some 16) (.nilCheck (.tmp 15)) 0 (some (8, false)) hSS ?_
   refine sk 12 (some 17) (.fieldAddr 101 (.tmp 16) 1) 0 (some (8, false)) hSS ?_
   refine sk 13 (some 18) (.load 3 (.tmp 17)) 3 (some (8, false)) hSS ?_
   try simp only [Act.put, zA, zB, zC]
   refine sk 14 (some 19) (.binOp .geq 3 (.tmp 14) (.tmp 18) 3) 4 (some (8, false)) hSS ?_
   refine sk 15 (some 20) (.move (.tmp 19)) 4 (some (8, false)) hSS ?_
   refine sk 16 (some 21) (.move (.tmp 1)) 3 (some (15, true)) hSS ?_
   refine sk 17 (some 22) (.move (.tmp 0)) 45 (some (15, true)) hSS ?_
   try simp only [Act.put, zA, zB, zC]
   refine sk 18 (some 23) (.nilCheck (.tmp 22)) 0 (some (15, true)) hSS ?_
   refine sk 19 (some 24) (.fieldAddr 101 (.tmp 23) 1) 0 (some (15, true)) hSS ?_
   refine sk 20 (some 25) (.load 3 (.tmp 24)) 3 (some (15, true)) hSS ?_
   refine sk 21 (some 26) (.move (.tmp 0)) 45 (some (15, true)) hSS ?_
   try simp only [Act.put, zA, zB, zC]
   refine sk 22 (some 27) (.nilCheck (.tmp 26)) 0 (some (15, true)) hSS ?_
   refine sk 23 (some 28) (.fieldAddr 101 (.tmp 27) 2) 0 (some (15, true)) hSS ?_
   refine sk 24 (some 29) (.load 3 (.tmp 28)) 3 (some (15, true)) hSS ?_
   refine sk 25 (some 30) (.binOp .add 3 (.tmp 25) (.tmp 29) 3) 3 (some (15, true)) hSS ?_
   try simp only [Act.put, zA, zB, zC]
   refine sk 26 (some 31) (.binOp .lss 3 (.tmp 21) (.tmp 30) 3) 4 (some (15, true)) hSS ?_
   refine sk 27 (some 32) (.pick (.tmp 20) (.tmp 31) (.const (.bool false))) 4 (some (8, false)) hSS ?_
   refine tk 28 (some 33) (.pick (.tmp 13) (.const (.bool true)) (.tmp 32)) 4 none hSS ?_
   try simp only [Act.put, zA, zB, zC]
   refine wpAnyH_done (by kernel_rfl) ?_ _
   go_wp2
   go_ret
   exact ⟨rfl, FIN.out⟩
  ·have d2 : decide ((nb : Int) ≤ at_) = false := decide_eq_false h2
   by_cases h3 : (fr : Int) ≤ at_
   ·have d3 : decide ((fr : Int) ≤ at_) = true := decide_eq_true h3
    by_cases h4 : at_ < to_
    ·have hc2 := HCd.out
     rw [if_pos (.inr (.inr ⟨h3, by rw [← HTO.out]; exact h4⟩))] at hc2
     subst hc2
     have d4 : decide (at_ < to_) = true := decide_eq_true h4
     clear HCd h1 h2 h3 h4 hnb hfit
     go_enter Tryz.func77, Tryz.ntmps77
     go_wp2_with fail
     refine wp_region_held_drew (S := fun w' => w'.cell? ⟨g, 0, none⟩ = some (.slice ha L hc) ∧ w'.cell? ⟨g, 1, none⟩ = some (.int .i64 (fr : Int)) ∧ w'.cell? ⟨g, 2, none⟩ = some (.int .i64 (bl : Int))) (by kernel_rfl) ⟨c0, c1, c2⟩ (fun hSS => ?_)
     refine tk 0 (some 5) (.move (.tmp 1)) 3 none hSS ?_
     refine tk 1 (some 6) (.binOp .lss 3 (.tmp 5) (.const (.int .i64 0)) 3) 4 none hSS ?_
     try simp only [Act.put, zA, zB, zC]
     refine tk 2 (some 7) (.move (.tmp 6)) 4 none hSS ?_
     refine tk 3 (some 8) (.move (.tmp 1)) 3 (some (2, false)) hSS ?_
     refine tk 4 (some 9) (.move (.tmp 0)) 45 (some (2, false)) hSS ?_
     try simp only [Act.put, zA, zB, zC]
     refine wpAnyH_ready (rs := [5]) (by kernel_rfl) (by simp) (AllReadyH.cons (o := ({ dst := some 10, op := Op.call { callee := Callee.value (Operand.func 76), args := #[Operand.tmp 9], argTypes := #[45] }, type := 3, pos := _, after := _, guard := some (2, false) } : Oper)) rfl (fun K9 hK9 => ?_) AllReadyH.nil)
     go_simp
     go_at_call 76
     refine Calls.mono (HD.out _ hSS) ?_
     rintro e w2 ⟨rfl, hw2⟩
     rw [hw2]
     clear hw2
     refine hK9.out _ _ hSS (fun hSS => ?_)
     clear hK9 K9
     try simp only [Act.put, zA, zB, zC]
     refine tk 6 (some 11) (.binOp .geq 3 (.tmp 8) (.tmp 10) 3) 4 (some (2, false)) hSS ?_
     refine tk 7 (some 12) (.pick (.tmp 7) (.const (.bool true)) (.tmp 11)) 4 none hSS ?_
     try simp only [Act.put, zA, zB, zC]
     refine tk 8 (some 13) (.move (.tmp 12)) 4 none hSS ?_
     refine tk 9 (some 14) (.move (.tmp 1)) 3 (some (8, false)) hSS ?_
     refine tk 10 (some 15) (.move (.tmp 0)) 45 (some (8, false)) hSS ?_
     refine tk 11 (some 16) (.nilCheck (.tmp 15)) 0 (some (8, false)) hSS ?_
     try simp only [Act.put, zA, zB, zC]
     refine tk 12 (some 17) (.fieldAddr 101 (.tmp 16) 1) 0 (some (8, false)) hSS ?_
     refine tk 13 (some 18) (.load 3 (.tmp 17)) 3 (some (8, false)) hSS ?_
     refine tk 14 (some 19) (.binOp .geq 3 (.tmp 14) (.tmp 18) 3) 4 (some (8, false)) hSS ?_
     refine tk 15 (some 20) (.move (.tmp 19)) 4 (some (8, false)) hSS ?_
     try simp only [Act.put, zA, zB, zC]
     refine tk 16 (some 21) (.move (.tmp 1)) 3 (some (15, true)) hSS ?_
     refine tk 17 (some 22) (.move (.tmp 0)) 45 (some (15, true)) hSS ?_
     refine tk 18 (some 23) (.nilCheck (.tmp 22)) 0 (some (15, true)) hSS ?_
     refine tk 19 (some 24) (.fieldAddr 101 (.tmp 23) 1) 0 (some (15, true)) hSS ?_
     try simp only [Act.put, zA, zB, zC]
     refine tk 20 (some 25) (.load 3 (.tmp 24)) 3 (some (15, true)) hSS ?_
     refine tk 21 (some 26) (.move (.tmp 0)) 45 (some (15, true)) hSS ?_
     refine tk 22 (some 27) (.nilCheck (.tmp 26)) 0 (some (15, true)) hSS ?_
     refine tk 23 (some 28) (.fieldAddr 101 (.tmp 27) 2) 0 (some (15, true)) hSS ?_
     try simp only [Act.put, zA, zB, zC]
     refine tk 24 (some 29) (.load 3 (.tmp 28)) 3 (some (15, true)) hSS ?_
     refine tk 25 (some 30) (.binOp .add 3 (.tmp 25) (.tmp 29) 3) 3 (some (15, true)) hSS ?_
     refine tk 26 (some 31) (.binOp .lss 3 (.tmp 21) (.tmp 30) 3) 4 (some (15, true)) hSS ?_
     refine tk 27 (some 32) (.pick (.tmp 20) (.tmp 31) (.const (.bool false))) 4 (some (8, false)) hSS ?_
     try simp only [Act.put, zA, zB, zC]
     refine tk 28 (some 33) (.pick (.tmp 13) (.const (.bool true)) (.tmp 32)) 4 none hSS ?_
     try simp only [Act.put, zA, zB, zC]
     refine wpAnyH_done (by kernel_rfl) ?_ _
     go_wp2
     go_ret
     exact ⟨rfl, FIN.out⟩
    ·have hc2 := HCd.out
     rw [if_neg (by rw [← HTO.out]; omega)] at hc2
     subst hc2
     have d4 : decide (at_ < to_) = false := decide_eq_false h4
     clear HCd h1 h2 h3 h4 hnb hfit
     go_enter Tryz.func77, Tryz.ntmps77
     go_wp2_with fail
     refine wp_region_held_drew (S := fun w' => w'.cell? ⟨g, 0, none⟩ = some (.slice ha L hc) ∧ w'.cell? ⟨g, 1, none⟩ = some (.int .i64 (fr : Int)) ∧ w'.cell? ⟨g, 2, none⟩ = some (.int .i64 (bl : Int))) (by kernel_rfl) ⟨c0, c1, c2⟩ (fun hSS => ?_)
     refine tk 0 (some 5) (.move (.tmp 1)) 3 none hSS ?_
     refine tk 1 (some 6) (.binOp .lss 3 (.tmp 5) (.const (.int .i64 0)) 3) 4 none hSS ?_
     refine tk 2 (some 7) (.move (.tmp 6)) 4 none hSS ?_
     refine tk 3 (some 8) (.move (.tmp 1)) 3 (some (2, false)) hSS ?_
     try simp only [Act.put, zA, zB, zC]
     refine tk 4 (some 9) (.move (.tmp 0)) 45 (some (2, false)) hSS ?_
     try simp only [Act.put, zA, zB, zC]
     refine wpAnyH_ready (rs := [5]) (by kernel_rfl) (by simp) (AllReadyH.cons (o := ({ dst := some 10, op := Op.call { callee := Callee.value (Operand.func 76), args := #[Operand.tmp 9], argTypes := #[45] }, type := 3, pos := _, after := _, guard := some (2, false) } : Oper)) rfl (fun K9 hK9 => ?_) AllReadyH.nil)
     go_simp
     go_at_call 76
     refine Calls.mono (HD.out _ hSS) ?_
     rintro e w2 ⟨rfl, hw2⟩
     rw [hw2]
     clear hw2
     refine hK9.out _ _ hSS (fun hSS => ?_)
     clear hK9 K9
     try simp only [Act.put, zA, zB, zC]
     refine tk 6 (some 11) (.binOp .geq 3 (.tmp 8) (.tmp 10) 3) 4 (some (2, false)) hSS ?_
     refine tk 7 (some 12) (.pick (.tmp 7) (.const (.bool true)) (.tmp 11)) 4 none hSS ?_
     refine tk 8 (some 13) (.move (.tmp 12)) 4 none hSS ?_
     refine tk 9 (some 14) (.move (.tmp 1)) 3 (some (8, false)) hSS ?_
     try simp only [Act.put, zA, zB, zC]
     refine tk 10 (some 15) (.move (.tmp 0)) 45 (some (8, false)) hSS ?_
     refine tk 11 (some 16) (.nilCheck (.tmp 15)) 0 (some (8, false)) hSS ?_
     refine tk 12 (some 17) (.fieldAddr 101 (.tmp 16) 1) 0 (some (8, false)) hSS ?_
     refine tk 13 (some 18) (.load 3 (.tmp 17)) 3 (some (8, false)) hSS ?_
     try simp only [Act.put, zA, zB, zC]
     refine tk 14 (some 19) (.binOp .geq 3 (.tmp 14) (.tmp 18) 3) 4 (some (8, false)) hSS ?_
     refine tk 15 (some 20) (.move (.tmp 19)) 4 (some (8, false)) hSS ?_
     refine tk 16 (some 21) (.move (.tmp 1)) 3 (some (15, true)) hSS ?_
     refine tk 17 (some 22) (.move (.tmp 0)) 45 (some (15, true)) hSS ?_
     try simp only [Act.put, zA, zB, zC]
     refine tk 18 (some 23) (.nilCheck (.tmp 22)) 0 (some (15, true)) hSS ?_
     refine tk 19 (some 24) (.fieldAddr 101 (.tmp 23) 1) 0 (some (15, true)) hSS ?_
     refine tk 20 (some 25) (.load 3 (.tmp 24)) 3 (some (15, true)) hSS ?_
     refine tk 21 (some 26) (.move (.tmp 0)) 45 (some (15, true)) hSS ?_
     try simp only [Act.put, zA, zB, zC]
     refine tk 22 (some 27) (.nilCheck (.tmp 26)) 0 (some (15, true)) hSS ?_
     refine tk 23 (some 28) (.fieldAddr 101 (.tmp 27) 2) 0 (some (15, true)) hSS ?_
     refine tk 24 (some 29) (.load 3 (.tmp 28)) 3 (some (15, true)) hSS ?_
     refine tk 25 (some 30) (.binOp .add 3 (.tmp 25) (.tmp 29) 3) 3 (some (15, true)) hSS ?_
     try simp only [Act.put, zA, zB, zC]
     refine tk 26 (some 31) (.binOp .lss 3 (.tmp 21) (.tmp 30) 3) 4 (some (15, true)) hSS ?_
     refine tk 27 (some 32) (.pick (.tmp 20) (.tmp 31) (.const (.bool false))) 4 (some (8, false)) hSS ?_
     refine tk 28 (some 33) (.pick (.tmp 13) (.const (.bool true)) (.tmp 32)) 4 none hSS ?_
     try simp only [Act.put, zA, zB, zC]
     refine wpAnyH_done (by kernel_rfl) ?_ _
     go_wp2
     go_ret
     exact ⟨rfl, FIN.out⟩
   ·have d3 : decide ((fr : Int) ≤ at_) = false := decide_eq_false h3
    have hc2 := HCd.out
    rw [if_neg (by omega)] at hc2
    subst hc2
    clear HCd h1 h2 h3 hnb hfit
    go_enter Tryz.func77, Tryz.ntmps77
    go_wp2_with fail
    refine wp_region_held_drew (S := fun w' => w'.cell? ⟨g, 0, none⟩ = some (.slice ha L hc) ∧ w'.cell? ⟨g, 1, none⟩ = some (.int .i64 (fr : Int)) ∧ w'.cell? ⟨g, 2, none⟩ = some (.int .i64 (bl : Int))) (by kernel_rfl) ⟨c0, c1, c2⟩ (fun hSS => ?_)
    refine tk 0 (some 5) (.move (.tmp 1)) 3 none hSS ?_
    refine tk 1 (some 6) (.binOp .lss 3 (.tmp 5) (.const (.int .i64 0)) 3) 4 none hSS ?_
    try simp only [Act.put, zA, zB, zC]
    refine tk 2 (some 7) (.move (.tmp 6)) 4 none hSS ?_
    refine tk 3 (some 8) (.move (.tmp 1)) 3 (some (2, false)) hSS ?_
    refine tk 4 (some 9) (.move (.tmp 0)) 45 (some (2, false)) hSS ?_
    try simp only [Act.put, zA, zB, zC]
    refine wpAnyH_ready (rs := [5]) (by kernel_rfl) (by simp) (AllReadyH.cons (o := ({ dst := some 10, op := Op.call { callee := Callee.value (Operand.func 76), args := #[Operand.tmp 9], argTypes := #[45] }, type := 3, pos := _, after := _, guard := some (2, false) } : Oper)) rfl (fun K9 hK9 => ?_) AllReadyH.nil)
    go_simp
    go_at_call 76
    refine Calls.mono (HD.out _ hSS) ?_
    rintro e w2 ⟨rfl, hw2⟩
    rw [hw2]
    clear hw2
    refine hK9.out _ _ hSS (fun hSS => ?_)
    clear hK9 K9
    try simp only [Act.put, zA, zB, zC]
    refine tk 6 (some 11) (.binOp .geq 3 (.tmp 8) (.tmp 10) 3) 4 (some (2, false)) hSS ?_
    refine tk 7 (some 12) (.pick (.tmp 7) (.const (.bool true)) (.tmp 11)) 4 none hSS ?_
    try simp only [Act.put, zA, zB, zC]
    refine tk 8 (some 13) (.move (.tmp 12)) 4 none hSS ?_
    refine tk 9 (some 14) (.move (.tmp 1)) 3 (some (8, false)) hSS ?_
    refine tk 10 (some 15) (.move (.tmp 0)) 45 (some (8, false)) hSS ?_
    refine tk 11 (some 16) (.nilCheck (.tmp 15)) 0 (some (8, false)) hSS ?_
    try simp only [Act.put, zA, zB, zC]
    refine tk 12 (some 17) (.fieldAddr 101 (.tmp 16) 1) 0 (some (8, false)) hSS ?_
    refine tk 13 (some 18) (.load 3 (.tmp 17)) 3 (some (8, false)) hSS ?_
    refine tk 14 (some 19) (.binOp .geq 3 (.tmp 14) (.tmp 18) 3) 4 (some (8, false)) hSS ?_
    refine tk 15 (some 20) (.move (.tmp 19)) 4 (some (8, false)) hSS ?_
    try simp only [Act.put, zA, zB, zC]
    refine sk 16 (some 21) (.move (.tmp 1)) 3 (some (15, true)) hSS ?_
    refine sk 17 (some 22) (.move (.tmp 0)) 45 (some (15, true)) hSS ?_
    refine sk 18 (some 23) (.nilCheck (.tmp 22)) 0 (some (15, true)) hSS ?_
    refine sk 19 (some 24) (.fieldAddr 101 (.tmp 23) 1) 0 (some (15, true)) hSS ?_
    try simp only [Act.put, zA, zB, zC]
    refine sk 20 (some 25) (.load 3 (.tmp 24)) 3 (some (15, true)) hSS ?_
    refine sk 21 (some 26) (.move (.tmp 0)) 45 (some (15, true)) hSS ?_
    refine sk 22 (some 27) (.nilCheck (.tmp 26)) 0 (some (15, true)) hSS ?_
    refine sk 23 (some 28) (.fieldAddr 101 (.tmp 27) 2) 0 (some (15, true)) hSS ?_
    try simp only [Act.put, zA, zB, zC]
    refine sk 24 (some 29) (.load 3 (.tmp 28)) 3 (some (15, true)) hSS ?_
    refine sk 25 (some 30) (.binOp .add 3 (.tmp 25) (.tmp 29) 3) 3 (some (15, true)) hSS ?_
    refine sk 26 (some 31) (.binOp .lss 3 (.tmp 21) (.tmp 30) 3) 4 (some (15, true)) hSS ?_
    refine tk 27 (some 32) (.pick (.tmp 20) (.tmp 31) (.const (.bool false))) 4 (some (8, false)) hSS ?_
    try simp only [Act.put, zA, zB, zC]
    refine tk 28 (some 33) (.pick (.tmp 13) (.const (.bool true)) (.tmp 32)) 4 none hSS ?_
    try simp only [Act.put, zA, zB, zC]
    refine wpAnyH_done (by kernel_rfl) ?_ _
    go_wp2
    go_ret
    exact ⟨rfl, FIN.out⟩
open Go.RowKit
def contT (home : Nat → List Int) (Ts : List Tn) (k x : Nat) : List Int := after home (Ts.take k) x
theorem G.congr {P : Nat → List Int → Prop} {nb fr bl lo hi : Nat} {cont cont' : Nat → Nat → List Int} (h : G P nb fr bl lo hi cont) (hc : ∀ k x, k ≤ hi → cont k x = cont' k x) : G P nb fr bl lo hi cont' := fun v hv => by
 obtain ⟨l, q, base, ts, ex, k, e1, e2, e3⟩ := h v hv
 exact ⟨l, q, base, ts, ex, k, e1, e2, fun n n1 n2 => ⟨(e3 n n1 n2).1, (e3 n n1 n2).2.1, fun x hx => by rw [(e3 n n1 n2).2.2 x hx, hc _ _ (e3 n n1 n2).2.1]⟩⟩
theorem Nm.congr {d : Pd} {s : Js} {nb fr bl q : Nat} {base : Nat → List Int} {ts : List Tn} {k lo hi : Nat} {cont cont' : Nat → Nat → List Int} (h : Nm d s nb fr bl q base ts k lo hi cont) (hc : ∀ k x, k ≤ hi → cont k x = cont' k x) : Nm d s nb fr bl q base ts k lo hi cont' :=
 ⟨⟨h.sole.hd, h.sole.head, fun n n1 n2 => ⟨(h.sole.cont n n1 n2).1, (h.sole.cont n n1 n2).2.1, fun x hx => by rw [(h.sole.cont n n1 n2).2.2 x hx, hc _ _ (h.sole.cont n n1 n2).2.1]⟩⟩, h.rd, h.pl, h.l0, h.used, h.seq, h.ah⟩
theorem contT_more (home : Nat → List Int) (Ts us : List Tn) {k : Nat} (hk : k ≤ Ts.length) (x : Nat) : contT home Ts k x = contT home (Ts ++ us) k x := by
 unfold contT
 rw [List.take_append_of_le_length hk]
theorem contT_take (home : Nat → List Int) (Ts : List Tn) {n k : Nat} (hk : k ≤ n) (x : Nat) : contT home Ts k x = contT home (Ts.take n) k x := by
 unfold contT
 rw [List.take_take, Nat.min_eq_left hk]
structure On (d : Pd) (s : Js) (nb fr bl lo : Nat) (home : Nat → List Int) (Ts : List Tn) : Prop where
 nm : ∃ q base ts k, Nm d s nb fr bl q base ts k lo s.seq (contT home Ts)
 on : d.off = false
 sq : s.seq = Ts.length
 pl : d.puts.length ≤ s.used
structure Cut (d : Pd) (nb fr bl lo : Nat) (home : Nat → List Int) (Ts : List Tn) : Prop where
 g : G d.poss nb fr bl lo Ts.length (contT home Ts)
 pl : d.puts.length ≤ 4 * nb + 64
theorem On.lo_le {d : Pd} {s : Js} {nb fr bl lo : Nat} {home : Nat → List Int} {Ts : List Tn} (h : On d s nb fr bl lo home Ts) : lo ≤ Ts.length := by
 obtain ⟨q, base, ts, k, hn⟩ := h.nm
 rw [← h.sq]
 exact hn.c2.1
theorem On.jn {d : Pd} {s : Js} {nb fr bl lo : Nat} {home : Nat → List Int} {Ts : List Tn} (h : On d s nb fr bl lo home Ts) (hlo : 16 ≤ bl) (hfit : fr + bl ≤ nb) (hnb : nb ≤ 524288) : Jn nb fr bl s := by
 obtain ⟨q, base, ts, k, hn⟩ := h.nm
 exact hn.jn hlo hfit hnb
theorem On.puts {d : Pd} {s : Js} {nb fr bl lo : Nat} {home : Nat → List Int} {Ts : List Tn} (h : On d s nb fr bl lo home Ts) (hlo : 16 ≤ bl) (hfit : fr + bl ≤ nb) (hnb : nb ≤ 524288) : d.puts.length ≤ nb := by
 have := (h.jn hlo hfit hnb).used
 have := h.pl
 omega
theorem On.cut {d : Pd} {s : Js} {nb fr bl lo : Nat} {home : Nat → List Int} {Ts : List Tn} (h : On d s nb fr bl lo home Ts) (hlo : 16 ≤ bl) (hfit : fr + bl ≤ nb) (hnb : nb ≤ 524288) : Cut d nb fr bl lo home Ts := by
 have hp := h.puts hlo hfit hnb
 obtain ⟨q, base, ts, k, hn⟩ := h.nm
 refine ⟨?_, by omega⟩
 have := hn.g
 rwa [h.sq] at this
theorem On.read {d : Pd} {s : Js} {nb fr bl lo : Nat} {home : Nat → List Int} {Ts : List Tn} (h : On d s nb fr bl lo home Ts) {x : Nat} (hx : HomeB nb fr bl x) : jread d s x = contT home Ts Ts.length x := by
 obtain ⟨q, base, ts, k, hn⟩ := h.nm
 rw [hn.read hx, h.sq]
theorem Pd.runs_fl_puts {d : Pd} {xs : List Cmd} (h : (d.runs (xs ++ [.fl])).1 = 0) : (d.runs (xs ++ [.fl])).2.puts = [] := by
 rw [Pd.runs_append] at h ⊢
 by_cases hc : (d.runs xs).1 = 0
 ·rw [if_pos hc] at h ⊢
  rw [Pd.runs_one] at h ⊢
  rw [Pd.fl_ok h]
 ·rw [if_neg hc] at h
  exact absurd h hc
theorem Pd.runs_off {d : Pd} {cs : List Cmd} (h : (d.runs cs).1 ≠ 0) : (d.runs cs).1 = 24 ∧ (d.runs cs).2.off = true := by
 rcases d.runs_code cs with ⟨h1, _⟩ | ⟨h1, h2⟩
 ·exact absurd h1 h
 ·exact ⟨h1, h2⟩
theorem Pd.runs_on {d : Pd} {cs : List Cmd} (hon : d.off = false) (h : (d.runs cs).1 = 0) : (d.runs cs).2.off = false := by
 rcases d.runs_code cs with ⟨_, h2⟩ | ⟨h1, _⟩
 ·exact h2 hon
 ·rw [h] at h1; cases h1
theorem length_settleCmds (nb fr bl : Nat) (s : Js) : (settleCmds nb fr bl s).length ≤ nb + bl + 8 := by
 have h1 := length_homeCmds nb s.ah
 have h2 := length_goCmds fr bl s
 unfold settleCmds
 simp only [List.length_append, List.length_cons, List.length_nil]
 omega
theorem On.flush {d : Pd} {s : Js} {nb fr bl lo : Nat} {home : Nat → List Int} {Ts : List Tn} (h : On d s nb fr bl lo home Ts) (hf : d.Fits nb) (hlo : 16 ≤ bl) (hfit : fr + bl ≤ nb) (hnb : nb ≤ 524288) :
  ((d.runs [.fl]).1 = 0 → On (d.runs [.fl]).2 s nb fr bl Ts.length home Ts) ∧ ((d.runs [.fl]).1 ≠ 0 → Cut (d.runs [.fl]).2 nb fr bl lo home Ts) := by
 have hp := h.puts hlo hfit hnb
 obtain ⟨q, base, ts, k, hn⟩ := h.nm
 obtain ⟨g1, g2⟩ := hn.flush hf
 refine ⟨fun hc => ⟨⟨q, base, ts, ts.length, ?_⟩, Pd.runs_on h.on hc, h.sq, ?_⟩, fun hc => ⟨?_, ?_⟩⟩
 ·have := (g2 hc).2
  rw [h.sq] at this ⊢
  exact this
 ·have e : (d.runs [.fl]).2.puts = [] := Pd.runs_fl_puts (xs := []) hc
  rw [e]
  exact Nat.zero_le _
 ·rwa [h.sq] at g1
 ·have := d.runs_puts [.fl]
  simp only [List.length_cons, List.length_nil] at this
  omega
theorem On.settle {d : Pd} {s : Js} {nb fr bl lo : Nat} {home : Nat → List Int} {Ts : List Tn} (h : On d s nb fr bl lo home Ts) (hf : d.Fits nb) (hlo : 16 ≤ bl) (hfit : fr + bl ≤ nb) (hnb : nb ≤ 524288) :
  ((d.runs (settleCmds nb fr bl s)).1 = 0 → On (d.runs (settleCmds nb fr bl s)).2 (goS s) nb fr bl Ts.length home Ts ∧ (d.runs (settleCmds nb fr bl s)).2.puts = [] ∧ ∀ x, HomeB nb fr bl x → imgB (d.runs (settleCmds nb fr bl s)).2.img x = contT home Ts Ts.length x) ∧ ((d.runs (settleCmds nb fr bl s)).1 ≠ 0 → Cut (d.runs (settleCmds nb fr bl s)).2 nb fr bl lo home Ts) := by
 have hp := h.puts hlo hfit hnb
 obtain ⟨q, base, ts, k, hn⟩ := h.nm
 obtain ⟨g1, g2⟩ := hn.settle hf hfit (by omega)
 refine ⟨fun hc => ?_, fun hc => ⟨?_, ?_⟩⟩
 ·have hpe : (d.runs (settleCmds nb fr bl s)).2.puts = [] := by
   have : settleCmds nb fr bl s = ([.fl] ++ homeCmds nb s.ah ++ [.fl] ++ goCmds fr bl s) ++ [.fl] := rfl
   rw [this] at hc ⊢
   exact Pd.runs_fl_puts hc
  have k2 := (g2 hc).2
  refine ⟨⟨⟨s.seq, after base ts, [], 0, ?_⟩, Pd.runs_on h.on hc, ?_, ?_⟩, hpe, fun x hx => ?_⟩
  ·rw [goS_seq]
   rw [h.sq] at k2 ⊢
   exact k2
  ·rw [goS_seq]; exact h.sq
  ·rw [hpe]; exact Nat.zero_le _
  ·rw [k2.pl x hx _ (.inl rfl), hn.c2.2.2 x hx, h.sq]
 ·rwa [h.sq] at g1
 ·have := d.runs_puts (settleCmds nb fr bl s)
  have := length_settleCmds nb fr bl s
  omega
theorem On.append {d : Pd} {s : Js} {nb fr bl lo : Nat} {home : Nat → List Int} {Ts : List Tn} (h : On d s nb fr bl lo home Ts) (hf : d.Fits nb) (hlo : 16 ≤ bl) (hfit : fr + bl ≤ nb) (hnb : nb ≤ 524288) {ps : List Pm} (hb : ∀ p ∈ ps, Pl.isB p.data) (hc0 : appC nb fr bl d s ps = 0) :
  ((d.runs (wlCmds nb fr bl s (appRecs ps))).1 = 0 → On (d.runs (wlCmds nb fr bl s (appRecs ps))).2 (appE bl s ps) nb fr bl lo home (Ts ++ [ps.map Pm.put])) ∧ ((d.runs (wlCmds nb fr bl s (appRecs ps))).1 ≠ 0 → Cut (d.runs (wlCmds nb fr bl s (appRecs ps))).2 nb fr bl lo home (Ts ++ [ps.map Pm.put])) := by
 have hp := h.puts hlo hfit hnb
 have hj := h.jn hlo hfit hnb
 obtain ⟨q, base, ts, k, hn⟩ := h.nm
 unfold appC at hc0
 rw [h.on, if_neg (by decide)] at hc0
 have hz : putsC nb fr bl ps = 0 := Classical.byContradiction fun q => by rw [if_pos q] at hc0; exact q hc0
 rw [if_neg (fun q => q hz)] at hc0
 have hk : ¬ bl / 2 - 4 < (standP ps).length := fun q => by rw [if_pos q] at hc0; cases hc0
 rw [if_neg hk] at hc0
 have hsq : ¬ 1099511627776 ≤ s.seq := fun q => by rw [if_pos q] at hc0; cases hc0
 have hps : ∀ p ∈ ps, putC nb fr bl p.at_ p.data.length = 0 := by
  clear hc0 hk hb
  induction ps with
  | nil => intro p hp; cases hp
  | cons a ps ih =>
   unfold putsC at hz
   have ha : putC nb fr bl a.at_ a.data.length = 0 := Classical.byContradiction fun q => by rw [if_pos q] at hz; exact q hz
   rw [if_neg (fun q => q ha)] at hz
   intro p hp
   rcases List.mem_cons.1 hp with rfl | hp
   ·exact ha
   ·exact ih hz p hp
 have hcn : ∀ k x, k ≤ s.seq → contT home Ts k x = contT home (Ts ++ [ps.map Pm.put]) k x := fun k x hk => contT_more home Ts _ (by rw [← h.sq]; exact hk) x
 have hn2 := hn.congr hcn
 obtain ⟨g1, g2⟩ := hn2.appendP hf hfit hlo (ps := ps) (fun p hp => ⟨hps p hp, hb p hp⟩) (by omega) (by omega) (fun x hx => by
  have h1 := hn.c2.2.2 x hx
  rw [← after_append]
  unfold contT
  rw [h.sq, List.take_of_length_le (by simp)]
  rw [← after_append]
  unfold after
  cases hq : aheadP (fun _ => none) [List.map Pm.put ps].flatten x with
  | some z => rfl
  | none =>
   show after base ts x = after home Ts x
   rw [h1]
   unfold contT
   rw [h.sq, List.take_length])
 have hlr : (appRecs ps).length + 1 ≤ bl := by
  have : (appRecs ps).length = pieceN (515 * (standP ps).length) + 1 := by
   unfold appRecs
   rw [length_recsZ, length_bytesZ]
   ·simp
   ·intro x hx
    obtain ⟨p, hp, rfl⟩ := List.mem_map.1 hx
    exact (putC_zero (hps p (standP_mem hp))).1
  have := recs_fit hlo (k := (standP ps).length) (by omega)
  omega
 have hlen : (wlCmds nb fr bl s (appRecs ps)).length ≤ nb + bl + 8 + bl := by
  have h1 := length_settleCmds nb fr bl s
  unfold wlCmds
  rw [List.length_append, length_recCmds]
  split
  ·omega
  ·simp only [List.length_nil]; omega
 refine ⟨fun hc => ⟨?_, Pd.runs_on h.on hc, ?_, ?_⟩, fun hc => ⟨?_, ?_⟩⟩
 ·obtain ⟨q', base', ts', k', hm⟩ := (g2 hc).2
  rw [← appE_seq bl s ps] at hm
  exact ⟨q', base', ts', k', hm⟩
 ·rw [appE_seq, h.sq]; simp
 ·show _ ≤ (wlE bl s (appRecs ps).length).used
  unfold wlE wlS
  unfold wlCmds at hc ⊢
  by_cases hu : bl - 1 < s.used + (appRecs ps).length
  ·rw [if_pos hu] at hc ⊢
   simp only [wlS, if_pos hu] at hc ⊢
   rw [Pd.runs_append] at hc ⊢
   by_cases hs : (d.runs (settleCmds nb fr bl s)).1 = 0
   ·rw [if_pos hs] at hc ⊢
    have hpe : (d.runs (settleCmds nb fr bl s)).2.puts = [] := by
     have : settleCmds nb fr bl s = ([.fl] ++ homeCmds nb s.ah ++ [.fl] ++ goCmds fr bl s) ++ [.fl] := rfl
     rw [this] at hs ⊢
     exact Pd.runs_fl_puts hs
    have := (d.runs (settleCmds nb fr bl s)).2.runs_puts (recCmds (fr + 1 + (goS s).used) (goS s).life (appRecs ps))
    rw [hpe, length_recCmds] at this
    simp only [List.length_nil] at this
    omega
   ·rw [if_neg hs] at hc
    exact absurd hc hs
  ·rw [if_neg hu] at hc ⊢
   simp only [wlS, if_neg hu, List.nil_append] at hc ⊢
   have := d.runs_puts (recCmds (fr + 1 + s.used) s.life (appRecs ps))
   rw [length_recCmds] at this
   have := h.pl
   omega
 ·rw [h.sq] at g1
  have e : (Ts ++ [ps.map Pm.put]).length = Ts.length + 1 := by simp
  rw [e]
  exact g1
 ·have := d.runs_puts (wlCmds nb fr bl s (appRecs ps))
  omega
open Go.RowKit
theorem Cut.open {d : Pd} {nb fr bl lo : Nat} {home : Nat → List Int} {Ts : List Tn} (h : Cut d nb fr bl lo home Ts) (hlo : 16 ≤ bl) (hfit : fr + bl ≤ nb) (hnb : nb ≤ 524288) {I : List Int} {fu : Int} (hI : ∀ x, x < nb → d.poss x (imgB I x)) (hf : (⟨I, [], fu, false⟩ : Pd).Fits nb) :
  ∃ l q, headAt fr bl ((⟨I, [], fu, false⟩ : Pd).read fr) = some (l, q) ∧ NoOther fr bl (openS nb fr bl ⟨I, [], fu, false⟩ l q) ⟨I, [], fu, false⟩ ∧ ∃ n, lo ≤ n ∧ n ≤ Ts.length ∧
   ((((⟨I, [], fu, false⟩ : Pd).runs (settleCmds nb fr bl (openS nb fr bl ⟨I, [], fu, false⟩ l q))).1 = 0 → On ((⟨I, [], fu, false⟩ : Pd).runs (settleCmds nb fr bl (openS nb fr bl ⟨I, [], fu, false⟩ l q))).2 (goS (openS nb fr bl ⟨I, [], fu, false⟩ l q)) nb fr bl n home (Ts.take n)) ∧
   (((⟨I, [], fu, false⟩ : Pd).runs (settleCmds nb fr bl (openS nb fr bl ⟨I, [], fu, false⟩ l q))).1 ≠ 0 → Cut ((⟨I, [], fu, false⟩ : Pd).runs (settleCmds nb fr bl (openS nb fr bl ⟨I, [], fu, false⟩ l q))).2 nb fr bl n home (Ts.take n))) := by
 obtain ⟨l, q, h1, h2, h3, h4, h5, h6⟩ := h.g.open hnb hfit (by omega) hI hf
 generalize hn : (openS nb fr bl ⟨I, [], fu, false⟩ l q).seq = n at h3 h4 h5 h6
 have e : (Ts.take n).length = n := by rw [List.length_take]; omega
 have hcn : ∀ k x, k ≤ n → contT home Ts k x = contT home (Ts.take n) k x := fun k x hk => contT_take home Ts hk x
 refine ⟨l, q, h1, h2, n, h3, h4, fun hc => ?_, fun hc => ⟨?_, ?_⟩⟩
 ·obtain ⟨_, base', hm⟩ := h6 hc
  have hpe : ((⟨I, [], fu, false⟩ : Pd).runs (settleCmds nb fr bl (openS nb fr bl ⟨I, [], fu, false⟩ l q))).2.puts = [] := by
   have : settleCmds nb fr bl (openS nb fr bl ⟨I, [], fu, false⟩ l q) = ([.fl] ++ homeCmds nb (openS nb fr bl ⟨I, [], fu, false⟩ l q).ah ++ [.fl] ++ goCmds fr bl (openS nb fr bl ⟨I, [], fu, false⟩ l q)) ++ [.fl] := rfl
   rw [this] at hc ⊢
   exact Pd.runs_fl_puts hc
  refine ⟨⟨n, base', [], 0, ?_⟩, Pd.runs_on rfl hc, ?_, ?_⟩
  ·rw [goS_seq, hn]
   exact hm.congr hcn
  ·rw [goS_seq, hn, e]
  ·rw [hpe]; exact Nat.zero_le _
 ·rw [e]
  exact h5.congr hcn
 ·have h7 := (⟨I, [], fu, false⟩ : Pd).runs_puts (settleCmds nb fr bl (openS nb fr bl ⟨I, [], fu, false⟩ l q))
  have h8 := length_settleCmds nb fr bl (openS nb fr bl ⟨I, [], fu, false⟩ l q)
  have h9 : (⟨I, [], fu, false⟩ : Pd).puts.length = 0 := rfl
  omega
def Opened (Z : Nat → Prop) (w : World) (c p room nb K f b : Nat) (fu : Int) (lo : Nat) (home : Nat → List Int) (Ts : List Tn) (e : Ending) (w' : World) : Prop :=
 But Z w w' ∧ ∃ jv code, e = .returned (.tuple #[.pointer jv, .int .i64 code]) ∧ ∃ n Z' d', lo ≤ n ∧ n ≤ Ts.length ∧ Gr Z Z' w ∧
  ((code = 24 ∧ fu ≠ -1 ∧ jv = none ∧ Cq Z' w' c p room nb K d' ∧ d'.off = true ∧ Cut d' nb f b n home (Ts.take n)) ∨
  (code = 0 ∧ ∃ j s, jv = some ⟨j, 0, none⟩ ∧ w.heap.size ≤ j ∧ Jq Z' w' j c p room nb K f b d' s ∧ On d' s nb f b n home (Ts.take n)))
theorem placeC_ok {nb f b : Nat} (hlo : 16 ≤ b) (hfit : f + b ≤ nb) (hnb : nb ≤ 524288) : placeC nb (f : Int) (b : Int) = 0 := by
 unfold placeC
 rw [if_neg (by omega), if_neg (by omega)]
theorem OpenP.cut {Z : Nat → Prop} {w : World} {c p room nb K f b : Nat} {d : Pd} {lo : Nat} {home : Nat → List Int} {Ts : List Tn} {I : List Int} {fu : Int} {e : Ending} {w' : World} (H : OpenP Z w c p room nb K ⟨I, [], fu, false⟩ (f : Int) (b : Int) e w') (h : Cut d nb f b lo home Ts) (hlo : 16 ≤ b) (hfit : f + b ≤ nb) (hnb : nb ≤ 524288) (hI : ∀ x, x < nb → d.poss x (imgB I x)) (hf : (⟨I, [], fu, false⟩ : Pd).Fits nb) :
  Opened Z w c p room nb K f b fu lo home Ts e w' := by
 obtain ⟨l, q, h1, h2, n, h3, h4, h5, h6⟩ := h.open hlo hfit hnb hI hf
 obtain ⟨b1, jv, code, rfl, k⟩ := H
 have hlc : layC ⟨I, [], fu, false⟩ nb (f : Int) (b : Int) = 0 := by
  unfold layC
  rw [if_neg (by simp)]
  exact placeC_ok hlo hfit hnb
 refine ⟨b1, jv, code, rfl, n, ?_⟩
 rcases k with ⟨k1, _⟩ | ⟨_, f', b', ef, eb, _, _, k⟩
 ·exact absurd hlc k1
 ·have ef' : f' = f := by omega
  have eb' : b' = b := by omega
  subst ef' eb'
  rcases k with ⟨_, _, k | ⟨l', q', k1, k2⟩, _⟩ | ⟨l', q', k1, k2, k3, Z', k4, k5⟩
  ·rw [h1] at k; cases k
  ·rw [h1] at k1
   cases k1
   exact absurd h2 k2
  ·rw [h1] at k1
   cases k1
   refine ⟨Z', ((⟨I, [], fu, false⟩ : Pd).runs (settleCmds nb f' b' (openS nb f' b' ⟨I, [], fu, false⟩ l q))).2, h3, h4, k4, ?_⟩
   rcases k5 with ⟨k6, k7, k8⟩ | ⟨k6, j, k7, k8, k9⟩
   ·rw [k3] at k6
    have ho := Pd.runs_off k6
    refine .inl ⟨k3.trans ho.1, fun hfu => ?_, k7, k8, ho.2, h6 k6⟩
    exact k6 (Pd.runs_free (d := ⟨I, [], fu, false⟩) rfl hfu _).1
   ·exact .inr ⟨k6, j, _, k7, k8, k9, h5 (k3 ▸ k6)⟩
theorem format_on {nb f b : Nat} {d : Pd} (hlo : 16 ≤ b) (hfit : f + b ≤ nb) (hf : d.Fits nb) (hon : d.off = false) (hc : (d.runs (formatCmds f b)).1 = 0) : On (d.runs (formatCmds f b)).2 (beginS noS) nb f b 0 d.read [] := by
 obtain ⟨_, hm⟩ := format_nm (cont := contT d.read []) hfit (by omega) hf (fun x _ => rfl) hc
 refine ⟨⟨0, d.read, [], 0, hm⟩, Pd.runs_on hon hc, rfl, ?_⟩
 have : formatCmds f b = (wipes f b f 1 ++ [.fl] ++ wipes f b (f + 1) (b - 1) ++ [.fl] ++ [.wr f (headZ f b (noS.life + 1) noS.seq)]) ++ [.fl] := rfl
 rw [this] at hc ⊢
 rw [Pd.runs_fl_puts hc]
 exact Nat.zero_le _
end Go.Proofs.YtldlejpacgphmabGreat
