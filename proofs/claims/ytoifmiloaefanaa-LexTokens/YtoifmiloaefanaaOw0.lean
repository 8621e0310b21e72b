/-
  The Shelf: Own.
-/
import Derived.Test.YtoifmiloaefanaaSw9
namespace Go.Proofs.Ytoifmiloaefanaa
open Go.RowKit

set_option maxRecDepth 100000 in
set_option maxHeartbeats 1000000 in
theorem Own_any {κ : Nat → Nat} {B s N n c : Nat} {a : Option Addr} {w : World} (h : OwnC κ B s N a n c w) (hn : n ≤ 16777216) : Calls Try.prog 12 #[.pointer (some ⟨s, 0, none⟩), .slice a n c] w fun e w' => e = .returned (.bool true) ∧ OwnF κ B s N (.slice a n c) w w' := by
  obtain ⟨mk, T, fv, hv, kv, wv, fv', w2, fa, fm, fc, sb, hT, hr2, hfv', sb2, c4d, hC⟩ := h
  subst hfv'
  have HCT := hid hC
  clear hC
  have hwr : IntKind.i64.wrap ((T : Int) + (n : Int)) = (T : Int) + (n : Int) := by rw [IntKind.wrap_i64]; omega
  have k1 := shelf_cell sb (i := 1) rfl
  have k1f : w.frozen? ⟨s, 1, none⟩ = false := by simp [World.frozen?, sb]
  have hsl : s < w.heap.size := (Array.getElem?_eq_some_iff.1 sb).1
  have k3 : (w.setCell ⟨s, 1, none⟩ (.int .i64 ((T : Int) + (n : Int)))).cell? ⟨s, 3, none⟩ = some fv := shelf_cell (shelf_set sb rfl) rfl
  have j3 := shelf_cell sb2 (i := 3) rfl
  have j3f : w2.frozen? ⟨s, 3, none⟩ = false := by simp [World.frozen?, sb2]
  clear sb sb2
  go_enter Try.func12, Try.ntmps12
  go_wp2_with (at_builtin; refine Lib.wpList_append_run _ rfl _ _ _ _ rfl _ _ rfl rfl _ _ hr2 ?_)
  refine wp_region_held_drew (S := (fun _ => True)) (by kernel_rfl) True.intro (fun hSS => ?_)
  refine wpAnyH_take (i := 0) (oi := ({ dst := some 25, op := Op.move (Operand.tmp 0), type := 33, pos := _, after := _, guard := none } : Oper)) (v := ?_) rfl (by kernel_rfl) (by kernel_rfl) (by kernel_rfl) (fun _ _ _ h => h) (Or.inl ⟨by rfl, ?_⟩) hSS ?_
  rotate_left
  · intro w9 hSw
    (try dsimp only at hSw)
    (try go_split_ands)
    first | (go_simp; done) | (go_simp; with_reducible rfl)
  try simp only [Act.put, List.setIfInBounds_toArray, List.set_cons_zero, List.set_cons_succ]
  refine wpAnyH_take (i := 1) (oi := ({ dst := some 26, op := Op.move (Operand.tmp 0), type := 33, pos := _, after := _, guard := none } : Oper)) (v := ?_) rfl (by kernel_rfl) (by kernel_rfl) (by kernel_rfl) (fun _ _ _ h => h) (Or.inl ⟨by rfl, ?_⟩) hSS ?_
  rotate_left
  · intro w9 hSw
    (try dsimp only at hSw)
    (try go_split_ands)
    first | (go_simp; done) | (go_simp; with_reducible rfl)
  try simp only [Act.put, List.setIfInBounds_toArray, List.set_cons_zero, List.set_cons_succ]
  refine wpAnyH_take (i := 2) (oi := ({ dst := some 27, op := Op.nilCheck (Operand.tmp 26), type := 0, pos := _, after := _, guard := none } : Oper)) (v := ?_) rfl (by kernel_rfl) (by kernel_rfl) (by kernel_rfl) (fun _ _ _ h => h) (Or.inl ⟨by rfl, ?_⟩) hSS ?_
  rotate_left
  · intro w9 hSw
    (try dsimp only at hSw)
    (try go_split_ands)
    first | (go_simp; done) | (go_simp; with_reducible rfl)
  try simp only [Act.put, List.setIfInBounds_toArray, List.set_cons_zero, List.set_cons_succ]
  refine wpAnyH_take (i := 3) (oi := ({ dst := some 28, op := Op.fieldAddr 36 (Operand.tmp 27) 4, type := 0, pos := _, after := _, guard := none } : Oper)) (v := ?_) rfl (by kernel_rfl) (by kernel_rfl) (by kernel_rfl) (fun _ _ _ h => h) (Or.inl ⟨by rfl, ?_⟩) hSS ?_
  rotate_left
  · intro w9 hSw
    (try dsimp only at hSw)
    (try go_split_ands)
    first | (go_simp; done) | (go_simp; with_reducible rfl)
  try simp only [Act.put, List.setIfInBounds_toArray, List.set_cons_zero, List.set_cons_succ]
  refine wpAnyH_take (i := 5) (oi := ({ dst := some 30, op := Op.move (Operand.tmp 1), type := 23, pos := _, after := _, guard := none } : Oper)) (v := ?_) rfl (by kernel_rfl) (by kernel_rfl) (by kernel_rfl) (fun _ _ _ h => h) (Or.inl ⟨by rfl, ?_⟩) hSS ?_
  rotate_left
  · intro w9 hSw
    (try dsimp only at hSw)
    (try go_split_ands)
    first | (go_simp; done) | (go_simp; with_reducible rfl)
  try simp only [Act.put, List.setIfInBounds_toArray, List.set_cons_zero, List.set_cons_succ]
  refine wpAnyH_ready (rs := [4, 6]) (by kernel_rfl) (by simp) (AllReadyH.cons (o := ({ dst := some 29, op := Op.load 34 (Operand.tmp 28), type := 34, pos := _, after := _, guard := none } : Oper)) rfl (fun K9 hK9 => ?_) (AllReadyH.cons (o := ({ dst := some 31, op := Op.call { callee := Callee.value (Operand.func 19), args := #[Operand.tmp 30], argTypes := #[23] }, type := 23, pos := _, after := _, guard := none } : Oper)) rfl (fun K9 hK9 => ?_) AllReadyH.nil))
  · go_simp
    refine hK9.out _ _ True.intro (fun hSS => ?_)
    clear hK9 K9
    try simp only [Act.put, List.setIfInBounds_toArray, List.set_cons_zero, List.set_cons_succ]
    refine wpAnyH_ready (rs := [6]) (by kernel_rfl) (by simp) (AllReadyH.cons (o := ({ dst := some 31, op := Op.call { callee := Callee.value (Operand.func 19), args := #[Operand.tmp 30], argTypes := #[23] }, type := 23, pos := _, after := _, guard := none } : Oper)) rfl (fun K9 hK9 => ?_) AllReadyH.nil)
    go_simp
    go_at_call 19
    refine Calls.mono HCT.out ?_
    rintro e w3 ⟨a1, c1, rfl, c4, c4a, hv', w4, ha, hm, hc, hr4, hhv', d4, f4, hE⟩
    subst hhv'
    have HE := hid hE
    clear hE HCT
    refine hK9.out _ _ True.intro (fun hSS => ?_)
    clear hK9 K9
    try simp only [Act.put, List.setIfInBounds_toArray, List.set_cons_zero, List.set_cons_succ]
    refine wpAnyH_ready (rs := [7]) (by kernel_rfl) (by simp) (AllReadyH.cons (o := ({ dst := some 32, op := Op.buildSlice 34 1 #[(0, Operand.tmp 31)], type := 34, pos := _, after := _, guard := none } : Oper)) rfl (fun K9 hK9 => ?_) AllReadyH.nil)
    go_simp
    refine hK9.out _ _ True.intro (fun hSS => ?_)
    clear hK9 K9
    try simp only [Act.put, List.setIfInBounds_toArray, List.set_cons_zero, List.set_cons_succ]
    refine wpAnyH_ready (rs := [8]) (by kernel_rfl) (by simp) (AllReadyH.cons (o := ({ dst := some 33, op := Op.call { callee := Callee.builtin Builtin.append, args := #[Operand.tmp 29, Operand.tmp 32], argTypes := #[34, 34] }, type := 34, pos := _, after := _, guard := none } : Oper)) rfl (fun K9 hK9 => ?_) AllReadyH.nil)
    refine step_append_run rfl _ _ _ _ (by rfl) _ _ (by rfl) (by rfl) _ _ (by exact hr4) ?_
    refine hK9.out _ _ True.intro (fun hSS => ?_)
    clear hK9 K9
    try simp only [Act.put, List.setIfInBounds_toArray, List.set_cons_zero, List.set_cons_succ]
    refine wpAnyH_take (i := 9) (oi := ({ dst := some 34, op := Op.nilCheck (Operand.tmp 25), type := 0, pos := _, after := _, guard := none } : Oper)) (v := ?_) rfl (by kernel_rfl) (by kernel_rfl) (by kernel_rfl) (fun _ _ _ h => h) (Or.inl ⟨by rfl, ?_⟩) hSS ?_
    rotate_left
    · intro w9 hSw
      (try dsimp only at hSw)
      (try go_split_ands)
      first | (go_simp; done) | (go_simp; with_reducible rfl)
    try simp only [Act.put, List.setIfInBounds_toArray, List.set_cons_zero, List.set_cons_succ]
    refine wpAnyH_take (i := 10) (oi := ({ dst := some 35, op := Op.fieldAddr 36 (Operand.tmp 34) 4, type := 0, pos := _, after := _, guard := none } : Oper)) (v := ?_) rfl (by kernel_rfl) (by kernel_rfl) (by kernel_rfl) (fun _ _ _ h => h) (Or.inl ⟨by rfl, ?_⟩) hSS ?_
    rotate_left
    · intro w9 hSw
      (try dsimp only at hSw)
      (try go_split_ands)
      first | (go_simp; done) | (go_simp; with_reducible rfl)
    try simp only [Act.put, List.setIfInBounds_toArray, List.set_cons_zero, List.set_cons_succ]
    refine wpAnyH_ready (rs := [11]) (by kernel_rfl) (by simp) (AllReadyH.cons (o := ({ dst := none, op := Op.store 34 (Operand.tmp 35) (Operand.tmp 33), type := 0, pos := _, after := _, guard := none } : Oper)) rfl (fun K9 hK9 => ?_) AllReadyH.nil)
    go_simp
    refine hK9.out _ _ True.intro (fun hSS => ?_)
    clear hK9 K9
    try simp only [Act.put, List.setIfInBounds_toArray, List.set_cons_zero, List.set_cons_succ]
    refine wpAnyH_done (by kernel_rfl) ?_ _
    obtain ⟨m, fa9, fc9, k3, hm3, h1, h2⟩ := HE.out
    obtain ⟨w5, hw5⟩ : ∃ w5, w5 = w4.setCell ⟨s, 4, none⟩ (.slice ha hm hc) := ⟨_, rfl⟩
    rw [← hw5] at k3 h1 h2
    have H1 := hid h1
    have H2 := hid h2
    clear h1 h2 HE c4 c4a hr4 d4 f4
    first | rw [← hw5] | skip
    clear hw5
    by_cases q : m < 3
    · have q' : ¬ (3 : Int) ≤ (m : Int) := by omega
      go_wp2_with fail
      refine Calls.mono (H1.out q) ?_
      rintro e w9 ⟨rfl, h⟩
      have HF := hid h
      clear h
      go_wp2_with fail
      go_ret
      exact ⟨rfl, HF.out⟩
    · obtain rfl : m = 3 := by omega
      go_wp2_with fail
      refine Calls.mono (H2.out (by first | exact True.intro | rfl)) ?_
      rintro e w6 ⟨⟨x6, rfl⟩, h6⟩
      have H6 := hid h6
      clear h6
      go_wp2_with fail
      refine Calls.mono H6.out ?_
      rintro e w7 ⟨⟨x7, rfl⟩, h7⟩
      have H7 := hid h7
      clear h7
      go_wp2_with fail
      refine Calls.mono H7.out ?_
      rintro e w9 ⟨rfl, h⟩
      have HF := hid h
      clear h
      go_wp2_with fail
      go_ret
      exact ⟨rfl, HF.out⟩
  · go_simp
    go_at_call 19
    refine Calls.mono HCT.out ?_
    rintro e w3 ⟨a1, c1, rfl, c4, c4a, hv', w4, ha, hm, hc, hr4, hhv', d4, f4, hE⟩
    subst hhv'
    have HE := hid hE
    clear hE HCT
    refine hK9.out _ _ True.intro (fun hSS => ?_)
    clear hK9 K9
    try simp only [Act.put, List.setIfInBounds_toArray, List.set_cons_zero, List.set_cons_succ]
    refine wpAnyH_ready (rs := [4, 7]) (by kernel_rfl) (by simp) (AllReadyH.cons (o := ({ dst := some 29, op := Op.load 34 (Operand.tmp 28), type := 34, pos := _, after := _, guard := none } : Oper)) rfl (fun K9 hK9 => ?_) (AllReadyH.cons (o := ({ dst := some 32, op := Op.buildSlice 34 1 #[(0, Operand.tmp 31)], type := 34, pos := _, after := _, guard := none } : Oper)) rfl (fun K9 hK9 => ?_) AllReadyH.nil))
    · go_simp
      refine hK9.out _ _ True.intro (fun hSS => ?_)
      clear hK9 K9
      try simp only [Act.put, List.setIfInBounds_toArray, List.set_cons_zero, List.set_cons_succ]
      refine wpAnyH_ready (rs := [7]) (by kernel_rfl) (by simp) (AllReadyH.cons (o := ({ dst := some 32, op := Op.buildSlice 34 1 #[(0, Operand.tmp 31)], type := 34, pos := _, after := _, guard := none } : Oper)) rfl (fun K9 hK9 => ?_) AllReadyH.nil)
      go_simp
      refine hK9.out _ _ True.intro (fun hSS => ?_)
      clear hK9 K9
      try simp only [Act.put, List.setIfInBounds_toArray, List.set_cons_zero, List.set_cons_succ]
      refine wpAnyH_ready (rs := [8]) (by kernel_rfl) (by simp) (AllReadyH.cons (o := ({ dst := some 33, op := Op.call { callee := Callee.builtin Builtin.append, args := #[Operand.tmp 29, Operand.tmp 32], argTypes := #[34, 34] }, type := 34, pos := _, after := _, guard := none } : Oper)) rfl (fun K9 hK9 => ?_) AllReadyH.nil)
      refine step_append_run rfl _ _ _ _ (by rfl) _ _ (by rfl) (by rfl) _ _ (by exact hr4) ?_
      refine hK9.out _ _ True.intro (fun hSS => ?_)
      clear hK9 K9
      try simp only [Act.put, List.setIfInBounds_toArray, List.set_cons_zero, List.set_cons_succ]
      refine wpAnyH_take (i := 9) (oi := ({ dst := some 34, op := Op.nilCheck (Operand.tmp 25), type := 0, pos := _, after := _, guard := none } : Oper)) (v := ?_) rfl (by kernel_rfl) (by kernel_rfl) (by kernel_rfl) (fun _ _ _ h => h) (Or.inl ⟨by rfl, ?_⟩) hSS ?_
      rotate_left
      · intro w9 hSw
        (try dsimp only at hSw)
        (try go_split_ands)
        first | (go_simp; done) | (go_simp; with_reducible rfl)
      try simp only [Act.put, List.setIfInBounds_toArray, List.set_cons_zero, List.set_cons_succ]
      refine wpAnyH_take (i := 10) (oi := ({ dst := some 35, op := Op.fieldAddr 36 (Operand.tmp 34) 4, type := 0, pos := _, after := _, guard := none } : Oper)) (v := ?_) rfl (by kernel_rfl) (by kernel_rfl) (by kernel_rfl) (fun _ _ _ h => h) (Or.inl ⟨by rfl, ?_⟩) hSS ?_
      rotate_left
      · intro w9 hSw
        (try dsimp only at hSw)
        (try go_split_ands)
        first | (go_simp; done) | (go_simp; with_reducible rfl)
      try simp only [Act.put, List.setIfInBounds_toArray, List.set_cons_zero, List.set_cons_succ]
      refine wpAnyH_ready (rs := [11]) (by kernel_rfl) (by simp) (AllReadyH.cons (o := ({ dst := none, op := Op.store 34 (Operand.tmp 35) (Operand.tmp 33), type := 0, pos := _, after := _, guard := none } : Oper)) rfl (fun K9 hK9 => ?_) AllReadyH.nil)
      go_simp
      refine hK9.out _ _ True.intro (fun hSS => ?_)
      clear hK9 K9
      try simp only [Act.put, List.setIfInBounds_toArray, List.set_cons_zero, List.set_cons_succ]
      refine wpAnyH_done (by kernel_rfl) ?_ _
      obtain ⟨m, fa9, fc9, k3, hm3, h1, h2⟩ := HE.out
      obtain ⟨w5, hw5⟩ : ∃ w5, w5 = w4.setCell ⟨s, 4, none⟩ (.slice ha hm hc) := ⟨_, rfl⟩
      rw [← hw5] at k3 h1 h2
      have H1 := hid h1
      have H2 := hid h2
      clear h1 h2 HE c4 c4a hr4 d4 f4
      first | rw [← hw5] | skip
      clear hw5
      by_cases q : m < 3
      · have q' : ¬ (3 : Int) ≤ (m : Int) := by omega
        go_wp2_with fail
        refine Calls.mono (H1.out q) ?_
        rintro e w9 ⟨rfl, h⟩
        have HF := hid h
        clear h
        go_wp2_with fail
        go_ret
        exact ⟨rfl, HF.out⟩
      · obtain rfl : m = 3 := by omega
        go_wp2_with fail
        refine Calls.mono (H2.out (by first | exact True.intro | rfl)) ?_
        rintro e w6 ⟨⟨x6, rfl⟩, h6⟩
        have H6 := hid h6
        clear h6
        go_wp2_with fail
        refine Calls.mono H6.out ?_
        rintro e w7 ⟨⟨x7, rfl⟩, h7⟩
        have H7 := hid h7
        clear h7
        go_wp2_with fail
        refine Calls.mono H7.out ?_
        rintro e w9 ⟨rfl, h⟩
        have HF := hid h
        clear h
        go_wp2_with fail
        go_ret
        exact ⟨rfl, HF.out⟩
    · go_simp
      refine hK9.out _ _ True.intro (fun hSS => ?_)
      clear hK9 K9
      try simp only [Act.put, List.setIfInBounds_toArray, List.set_cons_zero, List.set_cons_succ]
      refine wpAnyH_ready (rs := [4]) (by kernel_rfl) (by simp) (AllReadyH.cons (o := ({ dst := some 29, op := Op.load 34 (Operand.tmp 28), type := 34, pos := _, after := _, guard := none } : Oper)) rfl (fun K9 hK9 => ?_) AllReadyH.nil)
      go_simp
      refine hK9.out _ _ True.intro (fun hSS => ?_)
      clear hK9 K9
      try simp only [Act.put, List.setIfInBounds_toArray, List.set_cons_zero, List.set_cons_succ]
      refine wpAnyH_ready (rs := [8]) (by kernel_rfl) (by simp) (AllReadyH.cons (o := ({ dst := some 33, op := Op.call { callee := Callee.builtin Builtin.append, args := #[Operand.tmp 29, Operand.tmp 32], argTypes := #[34, 34] }, type := 34, pos := _, after := _, guard := none } : Oper)) rfl (fun K9 hK9 => ?_) AllReadyH.nil)
      refine step_append_run rfl _ _ _ _ (by rfl) _ _ (by rfl) (by rfl) _ _ (by exact hr4) ?_
      refine hK9.out _ _ True.intro (fun hSS => ?_)
      clear hK9 K9
      try simp only [Act.put, List.setIfInBounds_toArray, List.set_cons_zero, List.set_cons_succ]
      refine wpAnyH_take (i := 9) (oi := ({ dst := some 34, op := Op.nilCheck (Operand.tmp 25), type := 0, pos := _, after := _, guard := none } : Oper)) (v := ?_) rfl (by kernel_rfl) (by kernel_rfl) (by kernel_rfl) (fun _ _ _ h => h) (Or.inl ⟨by rfl, ?_⟩) hSS ?_
      rotate_left
      · intro w9 hSw
        (try dsimp only at hSw)
        (try go_split_ands)
        first | (go_simp; done) | (go_simp; with_reducible rfl)
      try simp only [Act.put, List.setIfInBounds_toArray, List.set_cons_zero, List.set_cons_succ]
      refine wpAnyH_take (i := 10) (oi := ({ dst := some 35, op := Op.fieldAddr 36 (Operand.tmp 34) 4, type := 0, pos := _, after := _, guard := none } : Oper)) (v := ?_) rfl (by kernel_rfl) (by kernel_rfl) (by kernel_rfl) (fun _ _ _ h => h) (Or.inl ⟨by rfl, ?_⟩) hSS ?_
      rotate_left
      · intro w9 hSw
        (try dsimp only at hSw)
        (try go_split_ands)
        first | (go_simp; done) | (go_simp; with_reducible rfl)
      try simp only [Act.put, List.setIfInBounds_toArray, List.set_cons_zero, List.set_cons_succ]
      refine wpAnyH_ready (rs := [11]) (by kernel_rfl) (by simp) (AllReadyH.cons (o := ({ dst := none, op := Op.store 34 (Operand.tmp 35) (Operand.tmp 33), type := 0, pos := _, after := _, guard := none } : Oper)) rfl (fun K9 hK9 => ?_) AllReadyH.nil)
      go_simp
      refine hK9.out _ _ True.intro (fun hSS => ?_)
      clear hK9 K9
      try simp only [Act.put, List.setIfInBounds_toArray, List.set_cons_zero, List.set_cons_succ]
      refine wpAnyH_done (by kernel_rfl) ?_ _
      obtain ⟨m, fa9, fc9, k3, hm3, h1, h2⟩ := HE.out
      obtain ⟨w5, hw5⟩ : ∃ w5, w5 = w4.setCell ⟨s, 4, none⟩ (.slice ha hm hc) := ⟨_, rfl⟩
      rw [← hw5] at k3 h1 h2
      have H1 := hid h1
      have H2 := hid h2
      clear h1 h2 HE c4 c4a hr4 d4 f4
      first | rw [← hw5] | skip
      clear hw5
      by_cases q : m < 3
      · have q' : ¬ (3 : Int) ≤ (m : Int) := by omega
        go_wp2_with fail
        refine Calls.mono (H1.out q) ?_
        rintro e w9 ⟨rfl, h⟩
        have HF := hid h
        clear h
        go_wp2_with fail
        go_ret
        exact ⟨rfl, HF.out⟩
      · obtain rfl : m = 3 := by omega
        go_wp2_with fail
        refine Calls.mono (H2.out (by first | exact True.intro | rfl)) ?_
        rintro e w6 ⟨⟨x6, rfl⟩, h6⟩
        have H6 := hid h6
        clear h6
        go_wp2_with fail
        refine Calls.mono H6.out ?_
        rintro e w7 ⟨⟨x7, rfl⟩, h7⟩
        have H7 := hid h7
        clear h7
        go_wp2_with fail
        refine Calls.mono H7.out ?_
        rintro e w9 ⟨rfl, h⟩
        have HF := hid h
        clear h
        go_wp2_with fail
        go_ret
        exact ⟨rfl, HF.out⟩

end Go.Proofs.Ytoifmiloaefanaa
