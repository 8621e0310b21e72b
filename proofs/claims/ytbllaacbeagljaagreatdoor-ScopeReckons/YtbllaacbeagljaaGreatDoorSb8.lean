/-
  scope: reckoned, of a couple.
-/
import Derived.Test.YtbllaacbeagljaaGreatDoorSb7
import Derived.Deep.RegionWith
namespace Go.Proofs.YtbllaacbeagljaaGreatDoor
open Go.RowKit Go.Maps

set_option maxRecDepth 100000 in
set_option maxHeartbeats 4000000 in
theorem reck_couple (rb : Nat) (at_ k : Int) (T1 T2 : TypeId) (X1 X2 : Value) (x y : Rs) (w : World)
    (h1 : ∀ u, Below w.heap.size w u → Nu rb (.iface T1 X1) x u) (h2 : ∀ u, Below w.heap.size w u → Nu rb (.iface T2 X2) y u) (hx : x.e = 0 → 0 ≤ x.v ∧ x.v ≤ 1099511627776) (hy : y.e = 0 → 0 ≤ y.v ∧ y.v ≤ 1099511627776) :
    Calls Tryz.prog 54 #[.pointer (some ⟨rb, 0, none⟩), .iface 125 (.agg #[.int .i64 at_, .int .i64 k, .iface T1 X1, .iface T2 X2])] w (RkQ (cplR k at_ x y) w) := by
  obtain ⟨PO, hPO⟩ : ∃ PO, PO = RkQ (cplR k at_ x y) w := ⟨_, rfl⟩
  rw [← hPO]
  have HPO := hid hPO
  obtain ⟨W, hW⟩ : ∃ W, W = w.alloc (.cells #[.int .i64 at_, .int .i64 k, .iface T1 X1, .iface T2 X2] 125) := ⟨_, rfl⟩
  obtain ⟨b, hb⟩ : ∃ b, b = w.heap.size := ⟨_, rfl⟩
  have hbl : Below w.heap.size w W := by rw [hW]; exact below1 _ _
  have hC : Cs W b 125 #[.int .i64 at_, .int .i64 k, .iface T1 X1, .iface T2 X2] := by rw [hW, hb]; exact Cs.new _ _ _
  have H1 := hid (h1 W hbl)
  have H2 := hid h2
  have HB := hid hbl
  have HC := hid hC
  have HW := hid hW
  have Hb := hid hb
  have hta110 := ta125_110
  have hta112 := ta125_112
  have hta116 := ta125_116
  have hta118 := ta125_118
  have hta122 := ta125_122
  have hta123 := ta125_123
  have hta125 := ta125_125
  clear hPO hW hb hbl hC h1 h2
  obtain ⟨xv, xa, xe⟩ := x
  obtain ⟨yv, ya, ye⟩ := y
  simp only at *
  by_cases hxe : xe = 0
  · subst hxe
    obtain ⟨hx0, hx1⟩ := hx rfl
    by_cases hye : ye = 0
    · subst hye
      obtain ⟨hy0, hy1⟩ := hy rfl
      have HZ : Hid (cplR k at_ ⟨xv, xa, 0⟩ ⟨yv, ya, 0⟩ = ofZ k at_ xv yv) := hid rfl
      have h79 := fun u => of_any k at_ xv yv (.iface T1 X1) (.iface T2 X2) u hx0 hy0 hx1 hy1
      obtain ⟨z, hz⟩ : ∃ z, z = ofZ k at_ xv yv := ⟨_, rfl⟩
      rw [← hz] at HZ h79
      clear hz
      obtain ⟨zv, za, ze⟩ := z
      by_cases hze : ze = 0
      · subst hze
        have H79 : Hid (∀ u, Calls Tryz.prog 79 #[.agg #[.int .i64 at_, .int .i64 k, .iface T1 X1, .iface T2 X2], .int .i64 xv, .int .i64 yv] u fun e w' => e = .returned (.int .i64 zv) ∧ Below u.heap.size u w') := hid fun u => (h79 u).mono fun e w' h => by
          obtain ⟨⟨-, rfl⟩ | ⟨he, -⟩, hb⟩ := h
          · exact ⟨rfl, hb⟩
          · exact absurd rfl he
        clear h79
        clear hx hy
        go_enter Tryz.func54, Tryz.ntmps54
        go_wp2_with fail
        rw [← HW.out, ← Hb.out]
        refine Calls.mono H1.out ?_
        rintro e w2 ⟨⟨-, rfl⟩ | ⟨he, -⟩, hb2⟩
        · have HB2 := hid (HB.out.trans (hb2.mono HB.out.size))
          have HC2 := hid (HC.out.next hb2)
          have m0 := HC2.out.cell 0 _ rfl
          have m1 := HC2.out.cell 1 _ rfl
          have m2 := HC2.out.cell 2 _ rfl
          have m3 := HC2.out.cell 3 _ rfl
          have H36 : Hid (Calls Tryz.prog 36 #[.pointer (some ⟨rb, 0, none⟩), .iface T2 X2] w2.drew fun e w' => e = .returned (.int .i64 yv) ∧ Below w2.heap.size w2 w') := hid ((H2.out w2.drew (bl_drew HB2.out)).mono fun e w' h => by
            obtain ⟨⟨-, rfl⟩ | ⟨he, -⟩, hb⟩ := h
            · exact ⟨rfl, hb.os, hb.tape, hb.output, hb.size, hb.block⟩
            · exact absurd rfl he)
          clear hb2
          go_wp2_with fail
          go_region_held3 (fun w' => w'.cell? ⟨b, 0, none⟩ = some (.int .i64 at_) ∧ w'.cell? ⟨b, 1, none⟩ = some (.int .i64 k) ∧ w'.cell? ⟨b, 2, none⟩ = some (.iface T1 X1) ∧ w'.cell? ⟨b, 3, none⟩ = some (.iface T2 X2)) (first | (exact ⟨by assumption, by assumption, by assumption, by assumption⟩) | go_keep) (first
            | (go_at_call 36; refine Calls.mono H36.out ?_; rintro e w3 ⟨rfl, hb3⟩; have HB3 := hid (HB2.out.trans (hb3.mono HB2.out.size)); have HC3 := hid (HC2.out.next hb3); have n0 := HC3.out.cell 0 _ rfl; have n1 := HC3.out.cell 1 _ rfl; have n2 := HC3.out.cell 2 _ rfl; have n3 := HC3.out.cell 3 _ rfl; clear hb3)
            | (go_at_call 79; refine Calls.mono (H79.out _) ?_; rintro e w4 ⟨rfl, hb4⟩; have HB4 := hid (HB3.out.trans (hb4.mono HB3.out.size)); have HC4 := HC3.out.next hb4; have r0 := HC4.cell 0 _ rfl; have r1 := HC4.cell 1 _ rfl; have r2 := HC4.cell 2 _ rfl; have r3 := HC4.cell 3 _ rfl; clear hb4 HC4))
          go_wp2_with fail
          show PO (.returned (.int .i64 zv)) _
          rw [HPO.out, HZ.out]
          exact ⟨.inl ⟨rfl, rfl⟩, HB4.out⟩
        · exact absurd rfl he
      · have HZE := hid hze
        have H79 : Hid (∀ u, Calls Tryz.prog 79 #[.agg #[.int .i64 at_, .int .i64 k, .iface T1 X1, .iface T2 X2], .int .i64 xv, .int .i64 yv] u fun e w' => e = .panicked [{ v := flt za ze, recovered := false }] ∧ Below u.heap.size u w') := hid fun u => (h79 u).mono fun e w' h => by
          obtain ⟨⟨he, -⟩ | ⟨-, rfl⟩, hb⟩ := h
          · exact absurd he HZE.out
          · exact ⟨rfl, hb⟩
        clear h79 hze
        clear hx hy
        go_enter Tryz.func54, Tryz.ntmps54
        go_wp2_with fail
        rw [← HW.out, ← Hb.out]
        refine Calls.mono H1.out ?_
        rintro e w2 ⟨⟨-, rfl⟩ | ⟨he, -⟩, hb2⟩
        · have HB2 := hid (HB.out.trans (hb2.mono HB.out.size))
          have HC2 := hid (HC.out.next hb2)
          have m0 := HC2.out.cell 0 _ rfl
          have m1 := HC2.out.cell 1 _ rfl
          have m2 := HC2.out.cell 2 _ rfl
          have m3 := HC2.out.cell 3 _ rfl
          have H36 : Hid (Calls Tryz.prog 36 #[.pointer (some ⟨rb, 0, none⟩), .iface T2 X2] w2.drew fun e w' => e = .returned (.int .i64 yv) ∧ Below w2.heap.size w2 w') := hid ((H2.out w2.drew (bl_drew HB2.out)).mono fun e w' h => by
            obtain ⟨⟨-, rfl⟩ | ⟨he, -⟩, hb⟩ := h
            · exact ⟨rfl, hb.os, hb.tape, hb.output, hb.size, hb.block⟩
            · exact absurd rfl he)
          clear hb2
          go_wp2_with fail
          refine wp_region_held_drew (S := (fun w' => w'.cell? ⟨b, 0, none⟩ = some (.int .i64 at_) ∧ w'.cell? ⟨b, 1, none⟩ = some (.int .i64 k) ∧ w'.cell? ⟨b, 2, none⟩ = some (.iface T1 X1) ∧ w'.cell? ⟨b, 3, none⟩ = some (.iface T2 X2))) (by kernel_rfl) ⟨m0, m1, m2, m3⟩ (fun hSS => ?_)
          refine wpAnyH_take (i := 0) (oi := ({ dst := some 104, op := Op.load 125 (Operand.tmp 17), type := 125, pos := _, after := _, guard := none } : Oper)) (v := ?_) rfl (by kernel_rfl) (by kernel_rfl) (by kernel_rfl) (fun _ _ _ h => h) (Or.inl ⟨by rfl, ?_⟩) hSS ?_
          rotate_left
          · intro w9 hSw
            (try dsimp only at hSw)
            (try go_split_ands)
            first | (go_simp; done) | (go_simp; with_reducible rfl)
          try simp only [Act.put, List.setIfInBounds_toArray, List.set_cons_zero, List.set_cons_succ]
          refine wpAnyH_take (i := 1) (oi := ({ dst := some 105, op := Op.move (Operand.tmp 18), type := 3, pos := _, after := _, guard := none } : Oper)) (v := ?_) rfl (by kernel_rfl) (by kernel_rfl) (by kernel_rfl) (fun _ _ _ h => h) (Or.inl ⟨by rfl, ?_⟩) hSS ?_
          rotate_left
          · intro w9 hSw
            (try dsimp only at hSw)
            (try go_split_ands)
            first | (go_simp; done) | (go_simp; with_reducible rfl)
          try simp only [Act.put, List.setIfInBounds_toArray, List.set_cons_zero, List.set_cons_succ]
          refine wpAnyH_take (i := 2) (oi := ({ dst := some 106, op := Op.move (Operand.tmp 0), type := 105, pos := _, after := _, guard := none } : Oper)) (v := ?_) rfl (by kernel_rfl) (by kernel_rfl) (by kernel_rfl) (fun _ _ _ h => h) (Or.inl ⟨by rfl, ?_⟩) hSS ?_
          rotate_left
          · intro w9 hSw
            (try dsimp only at hSw)
            (try go_split_ands)
            first | (go_simp; done) | (go_simp; with_reducible rfl)
          try simp only [Act.put, List.setIfInBounds_toArray, List.set_cons_zero, List.set_cons_succ]
          refine wpAnyH_take (i := 3) (oi := ({ dst := some 107, op := Op.fieldAddr 125 (Operand.tmp 17) 3, type := 0, pos := _, after := _, guard := none } : Oper)) (v := ?_) rfl (by kernel_rfl) (by kernel_rfl) (by kernel_rfl) (fun _ _ _ h => h) (Or.inl ⟨by rfl, ?_⟩) hSS ?_
          rotate_left
          · intro w9 hSw
            (try dsimp only at hSw)
            (try go_split_ands)
            first | (go_simp; done) | (go_simp; with_reducible rfl)
          try simp only [Act.put, List.setIfInBounds_toArray, List.set_cons_zero, List.set_cons_succ]
          refine wpAnyH_take (i := 4) (oi := ({ dst := some 108, op := Op.load 75 (Operand.tmp 107), type := 75, pos := _, after := _, guard := none } : Oper)) (v := ?_) rfl (by kernel_rfl) (by kernel_rfl) (by kernel_rfl) (fun _ _ _ h => h) (Or.inl ⟨by rfl, ?_⟩) hSS ?_
          rotate_left
          · intro w9 hSw
            (try dsimp only at hSw)
            (try go_split_ands)
            first | (go_simp; done) | (go_simp; with_reducible rfl)
          try simp only [Act.put, List.setIfInBounds_toArray, List.set_cons_zero, List.set_cons_succ]
          refine wpAnyH_ready (rs := [5]) (by kernel_rfl) (by simp) (AllReadyH.cons (o := ({ dst := some 109, op := Op.call { callee := Callee.value (Operand.func 36), args := #[Operand.tmp 106, Operand.tmp 108], argTypes := #[105, 75] }, type := 3, pos := _, after := _, guard := none } : Oper)) rfl (fun K9 hK9 => ?_) AllReadyH.nil)
          go_simp
          go_at_call 36
          refine Calls.mono H36.out ?_
          rintro e w3 ⟨rfl, hb3⟩
          have HB3 := hid (HB2.out.trans (hb3.mono HB2.out.size))
          have HC3 := hid (HC2.out.next hb3)
          have n0 := HC3.out.cell 0 _ rfl
          have n1 := HC3.out.cell 1 _ rfl
          have n2 := HC3.out.cell 2 _ rfl
          have n3 := HC3.out.cell 3 _ rfl
          clear hb3
          refine hK9.out _ _ ⟨n0, n1, n2, n3⟩ (fun hSS => ?_)
          clear hK9 K9
          try simp only [Act.put, List.setIfInBounds_toArray, List.set_cons_zero, List.set_cons_succ]
          refine wpAnyH_ready (rs := [6]) (by kernel_rfl) (by simp) (AllReadyH.cons (o := ({ dst := some 110, op := Op.call { callee := Callee.value (Operand.func 79), args := #[Operand.tmp 104, Operand.tmp 105, Operand.tmp 109], argTypes := #[125, 3, 3] }, type := 3, pos := _, after := _, guard := none } : Oper)) rfl (fun K9 hK9 => ?_) AllReadyH.nil)
          go_simp
          go_at_call 79
          refine Calls.mono (H79.out _) ?_
          rintro e w4 ⟨rfl, hb4⟩
          exact ⟨rfl, by rw [HPO.out, HZ.out]; exact ⟨.inr ⟨HZE.out, rfl⟩, HB3.out.trans (hb4.mono HB3.out.size)⟩⟩
        · exact absurd rfl he
    · have HYE := hid hye
      have HZ : Hid (cplR k at_ ⟨xv, xa, 0⟩ ⟨yv, ya, ye⟩ = ⟨yv, ya, ye⟩) := hid (by unfold cplR; rw [if_neg (by simp), if_pos hye])
      clear hye
      clear hx hy
      go_enter Tryz.func54, Tryz.ntmps54
      go_wp2_with fail
      rw [← HW.out, ← Hb.out]
      refine Calls.mono H1.out ?_
      rintro e w2 ⟨⟨-, rfl⟩ | ⟨he, -⟩, hb2⟩
      · have HB2 := hid (HB.out.trans (hb2.mono HB.out.size))
        have HC2 := hid (HC.out.next hb2)
        have m0 := HC2.out.cell 0 _ rfl
        have m1 := HC2.out.cell 1 _ rfl
        have m2 := HC2.out.cell 2 _ rfl
        have m3 := HC2.out.cell 3 _ rfl
        have H36 : Hid (Calls Tryz.prog 36 #[.pointer (some ⟨rb, 0, none⟩), .iface T2 X2] w2.drew fun e w' => e = .panicked [{ v := flt ya ye, recovered := false }] ∧ Below w2.heap.size w2 w') := hid ((H2.out w2.drew (bl_drew HB2.out)).mono fun e w' h => by
          obtain ⟨⟨he, -⟩ | ⟨-, rfl⟩, hb⟩ := h
          · exact absurd he HYE.out
          · exact ⟨rfl, hb.os, hb.tape, hb.output, hb.size, hb.block⟩)
        clear hb2
        go_wp2_with fail
        refine wp_region_held_drew (S := (fun w' => w'.cell? ⟨b, 0, none⟩ = some (.int .i64 at_) ∧ w'.cell? ⟨b, 1, none⟩ = some (.int .i64 k) ∧ w'.cell? ⟨b, 2, none⟩ = some (.iface T1 X1) ∧ w'.cell? ⟨b, 3, none⟩ = some (.iface T2 X2))) (by kernel_rfl) ⟨m0, m1, m2, m3⟩ (fun hSS => ?_)
        refine wpAnyH_take (i := 0) (oi := ({ dst := some 104, op := Op.load 125 (Operand.tmp 17), type := 125, pos := _, after := _, guard := none } : Oper)) (v := ?_) rfl (by kernel_rfl) (by kernel_rfl) (by kernel_rfl) (fun _ _ _ h => h) (Or.inl ⟨by rfl, ?_⟩) hSS ?_
        rotate_left
        · intro w9 hSw
          (try dsimp only at hSw)
          (try go_split_ands)
          first | (go_simp; done) | (go_simp; with_reducible rfl)
        try simp only [Act.put, List.setIfInBounds_toArray, List.set_cons_zero, List.set_cons_succ]
        refine wpAnyH_take (i := 1) (oi := ({ dst := some 105, op := Op.move (Operand.tmp 18), type := 3, pos := _, after := _, guard := none } : Oper)) (v := ?_) rfl (by kernel_rfl) (by kernel_rfl) (by kernel_rfl) (fun _ _ _ h => h) (Or.inl ⟨by rfl, ?_⟩) hSS ?_
        rotate_left
        · intro w9 hSw
          (try dsimp only at hSw)
          (try go_split_ands)
          first | (go_simp; done) | (go_simp; with_reducible rfl)
        try simp only [Act.put, List.setIfInBounds_toArray, List.set_cons_zero, List.set_cons_succ]
        refine wpAnyH_take (i := 2) (oi := ({ dst := some 106, op := Op.move (Operand.tmp 0), type := 105, pos := _, after := _, guard := none } : Oper)) (v := ?_) rfl (by kernel_rfl) (by kernel_rfl) (by kernel_rfl) (fun _ _ _ h => h) (Or.inl ⟨by rfl, ?_⟩) hSS ?_
        rotate_left
        · intro w9 hSw
          (try dsimp only at hSw)
          (try go_split_ands)
          first | (go_simp; done) | (go_simp; with_reducible rfl)
        try simp only [Act.put, List.setIfInBounds_toArray, List.set_cons_zero, List.set_cons_succ]
        refine wpAnyH_take (i := 3) (oi := ({ dst := some 107, op := Op.fieldAddr 125 (Operand.tmp 17) 3, type := 0, pos := _, after := _, guard := none } : Oper)) (v := ?_) rfl (by kernel_rfl) (by kernel_rfl) (by kernel_rfl) (fun _ _ _ h => h) (Or.inl ⟨by rfl, ?_⟩) hSS ?_
        rotate_left
        · intro w9 hSw
          (try dsimp only at hSw)
          (try go_split_ands)
          first | (go_simp; done) | (go_simp; with_reducible rfl)
        try simp only [Act.put, List.setIfInBounds_toArray, List.set_cons_zero, List.set_cons_succ]
        refine wpAnyH_take (i := 4) (oi := ({ dst := some 108, op := Op.load 75 (Operand.tmp 107), type := 75, pos := _, after := _, guard := none } : Oper)) (v := ?_) rfl (by kernel_rfl) (by kernel_rfl) (by kernel_rfl) (fun _ _ _ h => h) (Or.inl ⟨by rfl, ?_⟩) hSS ?_
        rotate_left
        · intro w9 hSw
          (try dsimp only at hSw)
          (try go_split_ands)
          first | (go_simp; done) | (go_simp; with_reducible rfl)
        try simp only [Act.put, List.setIfInBounds_toArray, List.set_cons_zero, List.set_cons_succ]
        refine wpAnyH_ready (rs := [5]) (by kernel_rfl) (by simp) (AllReadyH.cons (o := ({ dst := some 109, op := Op.call { callee := Callee.value (Operand.func 36), args := #[Operand.tmp 106, Operand.tmp 108], argTypes := #[105, 75] }, type := 3, pos := _, after := _, guard := none } : Oper)) rfl (fun K9 hK9 => ?_) AllReadyH.nil)
        go_simp
        go_at_call 36
        refine Calls.mono H36.out ?_
        rintro e w3 ⟨rfl, hb3⟩
        exact ⟨rfl, by rw [HPO.out, HZ.out]; exact ⟨.inr ⟨HYE.out, rfl⟩, HB2.out.trans (hb3.mono HB2.out.size)⟩⟩
      · exact absurd rfl he
  · have HZ : Hid (cplR k at_ ⟨xv, xa, xe⟩ ⟨yv, ya, ye⟩ = ⟨xv, xa, xe⟩) := hid (by unfold cplR; rw [if_pos hxe])
    have HXE := hid hxe
    clear hx hy hxe
    go_enter Tryz.func54, Tryz.ntmps54
    go_wp2_with fail
    rw [← HW.out, ← Hb.out]
    refine Calls.mono H1.out ?_
    rintro e w2 ⟨⟨he, -⟩ | ⟨-, rfl⟩, hb2⟩
    · exact absurd he HXE.out
    · have HB2 := hid (HB.out.trans (hb2.mono HB.out.size))
      clear hb2
      go_wp2_with fail
      exact ⟨rfl, by rw [HPO.out, HZ.out]; exact ⟨.inr ⟨HXE.out, rfl⟩, HB2.out⟩⟩

end Go.Proofs.YtbllaacbeagljaaGreatDoor
