import Derived.Test.YthkkdmblkalknaaGreatDoorB02
import Derived.Test.YthkkdmblkalknaaGreatDoorA12
import Derived.Deep.RegionHeld3
import Derived.Deep.RegionWith
import Derived.Test.YthkkdmblkalknaaGreatDoorA03
/-
  Tray.Back.
-/
namespace Go.Proofs.YthkkdmblkalknaaGreatDoor
open Go.RowKit

theorem RdON.isb {X : Nat → Prop} {w : World} {x : Option Addr} {os : List PO} (h : RdON X w x os) : ∀ o ∈ os, Pl.isB o.da := by
  intro o ho
  rcases h.2 with e | ⟨b, off, _, _, _, hc⟩
  · subst e; cases ho
  · obtain ⟨t, ht, rfl⟩ := List.getElem_of_mem ho
    obtain ⟨a, c, _, h2, _⟩ := hc t ht
    exact h2.2.1
/-- what Back leaves -/
def TBackP (w : World) (κ : Nat → Nat) (T G M : Nat) (dv : Value) (ls : List (Nat × Value)) (e : Ending) (w' : World) : Prop := e = .returned (.bool true) ∧ TS w' T κ (.slice (some ⟨G, 0, none⟩) M M) dv ls ∧ But (fun x => κ x ≠ 0) w w'
theorem B1.ptr {w0 : World} {T : Nat} {κ : Nat → Nat} {G M : Nat} {dv : Value} {ls : List (Nat × Value)} {os : List PO} {vs : List Value} {wr : World} {r : Nat} (h : B1 w0 T κ G M dv ls os vs wr r) : wr.cell? ⟨T, 0, none⟩ = some (.slice (some ⟨G, 0, none⟩) M M) := h.ts.cell0
set_option maxRecDepth 100000 in
set_option maxHeartbeats 8000000 in
theorem TBack_any (T : Nat) (κ : Nat → Nat) (G M : Nat) (dv : Value) (ls : List (Nat × Value)) (x : Option Addr) (c : Nat) (os : List PO) (vs : List Value) (w : World) (hl : os.length ≤ 16777216) (h : TL w T κ G M dv ls os vs) (hR : RdON (fun x => κ x ≠ 0) w x os) :
    Calls Tryz.prog 50 #[.pointer (some ⟨T, 0, none⟩), .slice x os.length c] w (TBackP w κ T G M dv ls) := by
  have h19 := hid (SameOps_same (some ⟨G, 0, none⟩) x M c os w hl (h.rd hR.1 hR.isb) hR.rd)
  obtain ⟨da, dn, dc, rfl⟩ := h.ts.dform
  have hlen := h.ts.dlen
  have hT0 := h.ts.cell0
  have hB0 := h.back
  have hnM : (os.length : Int) ≤ (M : Int) := by have := h.big; omega
  have hdn : (os.length : Int) ≤ (dn : Int) := by have := h.ll; omega
  have HB0 := hid hB0
  have HR := hid hR
  have hbig := h.big
  clear h hR hB0 hlen
  go_enter Tryz.func50, Tryz.ntmps50
  go_wp2_with fail
  refine h19.out.mono ?_
  rintro e w1 ⟨rfl, hb1⟩
  have HB1 := hid (HB0.out.below hb1)
  clear HB0 h19 hb1 hT0
  go_wp2_with fail
  go_loopw [5, 6] (fun ok i wr => ∃ r : Nat, r ≤ os.length ∧ i = .int .i64 (r : Int) ∧ ok = .bool true ∧ B1 w T κ G M (.slice da dn dc) ls os vs wr r) (fun _ i _ => os.length - (intOf i).toNat)
  case atStart => exact ⟨0, Nat.zero_le _, rfl, rfl, HB1.out⟩
  case round =>
    clear HB1
    obtain ⟨r, hr, rfl, rfl, hB⟩ := hrel
    by_cases hlt : r < os.length
    · have hll : r < ls.length := by have := hB.ll; omega
      obtain ⟨db, rfl, hdc⟩ := hB.ts.ptr r hll
      have hT1 := hB.ts.cell1
      have hRN := HR.out.but hB.but
      obtain ⟨b, off, rfl, hbl, hbx, hc⟩ := hRN.2.resolve_left (fun e => by rw [e] at hlt; simp at hlt)
      obtain ⟨a, cp, ⟨_, _, _, _, _, c5⟩, hRd, _⟩ := hc r hlt
      have hok := hRN.1 (os[r]'hlt) (List.getElem_mem hlt)
      have HC := hid (hB.drew.step hlt a cp hok.da (hRd.but (But.refl _ _).drew))
      have hr1 : (r : Int) < (os.length : Int) := by omega
      have hr2 : (r : Int) < (dn : Int) := by omega
      have hr3 : (r : Int) < (M : Int) := by omega
      generalize (ls[r]'hll).1 = LL at *
      generalize (os[r]'hlt).da.length = dl at *
      clear hB hc hRN hRd hok hbl hbx HR hll
      go_wp2_with fail
      go_region_with (go_at_call 62; refine Calls.mono HC.out ?_; rintro e w2 ⟨rfl, hT2, hcs, hfz, hB2⟩; (have HB2 := hid hB2; clear hB2))
      all_goals
        obtain ⟨u0, k0⟩ := hcs 0 (by omega)
        obtain ⟨u1, k1⟩ := hcs 1 (by omega)
        obtain ⟨u2, k2⟩ := hcs 2 (by omega)
        obtain ⟨u3, k3⟩ := hcs 3 (by omega)
        obtain ⟨u4, k4⟩ := hcs 4 (by omega)
        obtain ⟨u5, k5⟩ := hcs 5 (by omega)
        rw [Nat.add_zero] at k0
        have f0 := hfz (r * 6)
        have f1 := hfz (r * 6 + 1)
        have f2 := hfz (r * 6 + 2)
        have f3 := hfz (r * 6 + 3)
        have f4 := hfz (r * 6 + 4)
        have f5 := hfz (r * 6 + 5)
        clear hcs hfz HC hdc hT1 c5
        go_wp2
        go_roundw
        case rel => exact ⟨r + 1, by omega, by go_num, rfl, HB2.out⟩
        case measure => simp [intOf]; omega
    · have e : r = os.length := by omega
      subst e
      have HB := hid hB
      clear hB hlt HR
      go_wp2
      go_loopw [5, 7] (fun ok i wr => ∃ j : Nat, j ≤ os.length + 70 ∧ i = .int .i64 (j : Int) ∧ ok = .bool true ∧ B1 w T κ G M (.slice da dn dc) ls os vs wr os.length) (fun _ i _ => os.length + 70 - (intOf i).toNat)
      case atStart => exact ⟨0, Nat.zero_le _, rfl, rfl, HB.out⟩
      case round =>
        clear HB
        obtain ⟨j, hj, rfl, rfl, hB⟩ := hrel
        by_cases hjn : j < os.length + 70
        · have hj1 : (j : Int) < (os.length : Int) + 70 := by omega
          obtain ⟨m, hm⟩ : ∃ m, m = os.length + j := ⟨_, rfl⟩
          have hmi : IntKind.i64.wrap ((os.length : Int) + (j : Int)) = (m : Int) := by rw [IntKind.wrap_i64]; omega
          have hmw : wrap64 ((os.length : Int) + (j : Int)) = (m : Int) := by rw [← wrapEq64]; exact hmi
          have hmM : (m : Int) < (M : Int) := by omega
          obtain ⟨bo, hbo⟩ : ∃ bo, bo = bh j := ⟨_, rfl⟩
          have HS : Hid (∀ W, Below wr.heap.size wr W → W.cell? ⟨T, 0, none⟩ = some (.slice (some ⟨G, 0, none⟩) M M) ∧ W.cell? ⟨G, m * 6, none⟩ = some (.int .i64 bo.k) ∧ W.cell? ⟨G, m * 6 + 1, none⟩ = some (.string bo.nm) ∧ W.cell? ⟨G, m * 6 + 2, none⟩ = some (.string bo.ot) ∧ W.cell? ⟨G, m * 6 + 3, none⟩ = some (.int .i64 bo.fr) ∧ W.cell? ⟨G, m * 6 + 4, none⟩ = some (.int .i64 bo.to) ∧ W.cell? ⟨G, m * 6 + 5, none⟩ = some (.slice none bo.da.length 0)) := by
            intro W hW
            have hB' := hB.below hW
            have o := hB'.row.op j hjn
            rw [← hm, ← hbo] at o
            exact ⟨hB'.ts.cell0, o.o0, o.o1, o.o2, o.o3, o.o4, o.o5⟩
          have H82 : Hid (Calls Tryz.prog 82 #[.int .i64 (j : Int)] wr.drew fun e w5 => e = .returned (.agg #[.int .i64 bo.k, .string bo.nm, .string bo.ot, .int .i64 bo.fr, .int .i64 bo.to, .slice none bo.da.length 0]) ∧ Below wr.heap.size wr w5) := by
            refine (behind_any j wr.drew (by omega)).mono ?_
            rintro e w5 ⟨rfl, b5⟩
            rw [hbo]
            exact ⟨rfl, (below_drew _ _).trans b5⟩
          have H46 : Hid (∀ w5, Calls Tryz.prog 46 #[.agg #[.int .i64 bo.k, .string bo.nm, .string bo.ot, .int .i64 bo.fr, .int .i64 bo.to, .slice none bo.da.length 0], .agg #[.int .i64 bo.k, .string bo.nm, .string bo.ot, .int .i64 bo.fr, .int .i64 bo.to, .slice none bo.da.length 0]] w5 fun e w6 => e = .returned (.bool true) ∧ Below w5.heap.size w5 w6) := by
            intro w5
            have z : Rd w5.heap.size w5 none bo.da.length bo.da := by rw [hbo]; exact ⟨rfl, Pl.isB_nil, .inl rfl⟩
            exact SameOp_same bo none none 0 0 w5 z z
          have HBB : Hid (∀ w5 w6, Below wr.heap.size wr w5 → Below w5.heap.size w5 w6 → Below wr.heap.size wr w6) := fun w5 w6 b5 b6 => b5.trans (b6.mono b5.size)
          have HB := hid hB
          clear hB hm hbo
          generalize bo.k = ok at *
          generalize bo.nm = onm at *
          generalize bo.ot = oot at *
          generalize bo.fr = ofr at *
          generalize bo.to = oto at *
          generalize bo.da.length = odl at *
          go_wp2_with fail
          refine wp_region_held_drew (S := (fun W => W.cell? ⟨T, 0, none⟩ = some (.slice (some ⟨G, 0, none⟩) M M) ∧ W.cell? ⟨G, m * 6, none⟩ = some (.int .i64 ok) ∧ W.cell? ⟨G, m * 6 + 1, none⟩ = some (.string onm) ∧ W.cell? ⟨G, m * 6 + 2, none⟩ = some (.string oot) ∧ W.cell? ⟨G, m * 6 + 3, none⟩ = some (.int .i64 ofr) ∧ W.cell? ⟨G, m * 6 + 4, none⟩ = some (.int .i64 oto) ∧ W.cell? ⟨G, m * 6 + 5, none⟩ = some (.slice none odl 0))) (by kernel_rfl) (HS.out wr (Below.refl _ _)) (fun hSS => ?_)
          refine wpAnyH_take (i := 0) (oi := ({ dst := some 53, op := Op.move (Operand.tmp 5), type := 4, pos := _, after := _, guard := none } : Oper)) (v := ?_) rfl (by kernel_rfl) (by kernel_rfl) (by kernel_rfl) (fun _ _ _ h => h) (Or.inl ⟨by rfl, ?_⟩) hSS ?_
          rotate_left
          · intro w9 hSw
            (try dsimp only at hSw)
            (try go_split_ands)
            first | (go_simp; done) | (go_simp; with_reducible rfl)
          try simp only [Act.put, List.setIfInBounds_toArray, List.set_cons_zero, List.set_cons_succ]
          refine wpAnyH_take (i := 1) (oi := ({ dst := some 54, op := Op.move (Operand.tmp 53), type := 4, pos := _, after := _, guard := none } : Oper)) (v := ?_) rfl (by kernel_rfl) (by kernel_rfl) (by kernel_rfl) (fun _ _ _ h => h) (Or.inl ⟨by rfl, ?_⟩) hSS ?_
          rotate_left
          · intro w9 hSw
            (try dsimp only at hSw)
            (try go_split_ands)
            first | (go_simp; done) | (go_simp; with_reducible rfl)
          try simp only [Act.put, List.setIfInBounds_toArray, List.set_cons_zero, List.set_cons_succ]
          refine wpAnyH_take (i := 2) (oi := ({ dst := some 55, op := Op.move (Operand.tmp 0), type := 45, pos := _, after := _, guard := some (1, true) } : Oper)) (v := ?_) rfl (by kernel_rfl) (by kernel_rfl) (by kernel_rfl) (fun _ _ _ h => h) (Or.inl ⟨by rfl, ?_⟩) hSS ?_
          rotate_left
          · intro w9 hSw
            (try dsimp only at hSw)
            (try go_split_ands)
            first | (go_simp; done) | (go_simp; with_reducible rfl)
          try simp only [Act.put, List.setIfInBounds_toArray, List.set_cons_zero, List.set_cons_succ]
          refine wpAnyH_take (i := 3) (oi := ({ dst := some 56, op := Op.nilCheck (Operand.tmp 55), type := 0, pos := _, after := _, guard := some (1, true) } : Oper)) (v := ?_) rfl (by kernel_rfl) (by kernel_rfl) (by kernel_rfl) (fun _ _ _ h => h) (Or.inl ⟨by rfl, ?_⟩) hSS ?_
          rotate_left
          · intro w9 hSw
            (try dsimp only at hSw)
            (try go_split_ands)
            first | (go_simp; done) | (go_simp; with_reducible rfl)
          try simp only [Act.put, List.setIfInBounds_toArray, List.set_cons_zero, List.set_cons_succ]
          refine wpAnyH_take (i := 4) (oi := ({ dst := some 57, op := Op.fieldAddr 48 (Operand.tmp 56) 0, type := 0, pos := _, after := _, guard := some (1, true) } : Oper)) (v := ?_) rfl (by kernel_rfl) (by kernel_rfl) (by kernel_rfl) (fun _ _ _ h => h) (Or.inl ⟨by rfl, ?_⟩) hSS ?_
          rotate_left
          · intro w9 hSw
            (try dsimp only at hSw)
            (try go_split_ands)
            first | (go_simp; done) | (go_simp; with_reducible rfl)
          try simp only [Act.put, List.setIfInBounds_toArray, List.set_cons_zero, List.set_cons_succ]
          refine wpAnyH_take (i := 5) (oi := ({ dst := some 58, op := Op.load 22 (Operand.tmp 57), type := 22, pos := _, after := _, guard := some (1, true) } : Oper)) (v := ?_) rfl (by kernel_rfl) (by kernel_rfl) (by kernel_rfl) (fun _ _ _ h => h) (Or.inl ⟨by rfl, ?_⟩) hSS ?_
          rotate_left
          · intro w9 hSw
            (try dsimp only at hSw)
            (try go_split_ands)
            first | (go_simp; done) | (go_simp; with_reducible rfl)
          try simp only [Act.put, List.setIfInBounds_toArray, List.set_cons_zero, List.set_cons_succ]
          refine wpAnyH_take (i := 6) (oi := ({ dst := some 59, op := Op.move (Operand.tmp 1), type := 22, pos := _, after := _, guard := some (1, true) } : Oper)) (v := ?_) rfl (by kernel_rfl) (by kernel_rfl) (by kernel_rfl) (fun _ _ _ h => h) (Or.inl ⟨by rfl, ?_⟩) hSS ?_
          rotate_left
          · intro w9 hSw
            (try dsimp only at hSw)
            (try go_split_ands)
            first | (go_simp; done) | (go_simp; with_reducible rfl)
          try simp only [Act.put, List.setIfInBounds_toArray, List.set_cons_zero, List.set_cons_succ]
          refine wpAnyH_take (i := 7) (oi := ({ dst := some 60, op := Op.call { callee := Callee.builtin Builtin.len, args := #[Operand.tmp 59], argTypes := #[22] }, type := 3, pos := _, after := _, guard := some (1, true) } : Oper)) (v := ?_) rfl (by kernel_rfl) (by kernel_rfl) (by kernel_rfl) (fun _ _ _ h => h) (Or.inl ⟨by rfl, ?_⟩) hSS ?_
          rotate_left
          · intro w9 hSw
            (try dsimp only at hSw)
            (try go_split_ands)
            first | (go_simp; done) | (go_simp; with_reducible rfl)
          try simp only [Act.put, List.setIfInBounds_toArray, List.set_cons_zero, List.set_cons_succ]
          refine wpAnyH_take (i := 8) (oi := ({ dst := some 61, op := Op.move (Operand.tmp 7), type := 3, pos := _, after := _, guard := some (1, true) } : Oper)) (v := ?_) rfl (by kernel_rfl) (by kernel_rfl) (by kernel_rfl) (fun _ _ _ h => h) (Or.inl ⟨by rfl, ?_⟩) hSS ?_
          rotate_left
          · intro w9 hSw
            (try dsimp only at hSw)
            (try go_split_ands)
            first | (go_simp; done) | (go_simp; with_reducible rfl)
          try simp only [Act.put, List.setIfInBounds_toArray, List.set_cons_zero, List.set_cons_succ]
          refine wpAnyH_take (i := 9) (oi := ({ dst := some 62, op := Op.binOp BinOp.add 3 (Operand.tmp 60) (Operand.tmp 61) 3, type := 3, pos := _, after := _, guard := some (1, true) } : Oper)) (v := ?_) rfl (by kernel_rfl) (by kernel_rfl) (by kernel_rfl) (fun _ _ _ h => h) (Or.inl ⟨by rfl, ?_⟩) hSS ?_
          rotate_left
          · intro w9 hSw
            (try dsimp only at hSw)
            (try go_split_ands)
            first | (go_simp; done) | (go_simp; with_reducible rfl)
          try simp only [Act.put, List.setIfInBounds_toArray, List.set_cons_zero, List.set_cons_succ]
          refine wpAnyH_take (i := 10) (oi := ({ dst := some 63, op := Op.indexAddr 22 (Operand.tmp 58) (Operand.tmp 62), type := 0, pos := _, after := _, guard := some (1, true) } : Oper)) (v := ?_) rfl (by kernel_rfl) (by kernel_rfl) (by kernel_rfl) (fun _ _ _ h => h) (Or.inl ⟨by rfl, ?_⟩) hSS ?_
          rotate_left
          · intro w9 hSw
            (try dsimp only at hSw)
            (try go_split_ands)
            first | (go_simp; done) | (go_simp; with_reducible rfl)
          try simp only [Act.put, List.setIfInBounds_toArray, List.set_cons_zero, List.set_cons_succ]
          refine wpAnyH_take (i := 11) (oi := ({ dst := some 64, op := Op.load 29 (Operand.tmp 63), type := 29, pos := _, after := _, guard := some (1, true) } : Oper)) (v := ?_) rfl (by kernel_rfl) (by kernel_rfl) (by kernel_rfl) (fun _ _ _ h => h) (Or.inl ⟨by rfl, ?_⟩) hSS ?_
          rotate_left
          · intro w9 hSw
            (try dsimp only at hSw)
            (try go_split_ands)
            first | (go_simp; done) | (go_simp; with_reducible rfl)
          try simp only [Act.put, List.setIfInBounds_toArray, List.set_cons_zero, List.set_cons_succ]
          refine wpAnyH_take (i := 12) (oi := ({ dst := some 65, op := Op.move (Operand.tmp 7), type := 3, pos := _, after := _, guard := some (1, true) } : Oper)) (v := ?_) rfl (by kernel_rfl) (by kernel_rfl) (by kernel_rfl) (fun _ _ _ h => h) (Or.inl ⟨by rfl, ?_⟩) hSS ?_
          rotate_left
          · intro w9 hSw
            (try dsimp only at hSw)
            (try go_split_ands)
            first | (go_simp; done) | (go_simp; with_reducible rfl)
          try simp only [Act.put, List.setIfInBounds_toArray, List.set_cons_zero, List.set_cons_succ]
          refine wpAnyH_ready (rs := [13]) (by kernel_rfl) (by simp) (AllReadyH.cons (o := ({ dst := some 66, op := Op.call { callee := Callee.value (Operand.func 82), args := #[Operand.tmp 65], argTypes := #[3] }, type := 29, pos := _, after := _, guard := some (1, true) } : Oper)) rfl (fun K9 hK9 => ?_) AllReadyH.nil)
          go_simp
          go_at_call 82
          refine H82.out.mono ?_
          rintro e w5 ⟨rfl, b5⟩
          refine hK9.out _ _ (HS.out w5 b5) (fun hSS => ?_)
          clear hK9 K9
          try simp only [Act.put, List.setIfInBounds_toArray, List.set_cons_zero, List.set_cons_succ]
          refine wpAnyH_ready (rs := [14]) (by kernel_rfl) (by simp) (AllReadyH.cons (o := ({ dst := some 67, op := Op.call { callee := Callee.value (Operand.func 46), args := #[Operand.tmp 64, Operand.tmp 66], argTypes := #[29, 29] }, type := 4, pos := _, after := _, guard := some (1, true) } : Oper)) rfl (fun K9 hK9 => ?_) AllReadyH.nil)
          go_simp
          go_at_call 46
          refine (H46.out w5).mono ?_
          rintro e w6 ⟨rfl, b6⟩
          have b7 := HBB.out w5 w6 b5 b6
          refine hK9.out _ _ (HS.out w6 b7) (fun hSS => ?_)
          clear hK9 K9
          try simp only [Act.put, List.setIfInBounds_toArray, List.set_cons_zero, List.set_cons_succ]
          refine wpAnyH_take (i := 15) (oi := ({ dst := some 68, op := Op.pick (Operand.tmp 54) (Operand.tmp 67) (Operand.const (Value.bool false)), type := 4, pos := _, after := _, guard := none } : Oper)) (v := ?_) rfl (by kernel_rfl) (by kernel_rfl) (by kernel_rfl) (fun _ _ _ h => h) (Or.inl ⟨by rfl, ?_⟩) hSS ?_
          rotate_left
          · intro w9 hSw
            (try dsimp only at hSw)
            (try go_split_ands)
            first | (go_simp; done) | (go_simp; with_reducible rfl)
          try simp only [Act.put, List.setIfInBounds_toArray, List.set_cons_zero, List.set_cons_succ]
          refine wpAnyH_take (i := 16) (oi := ({ dst := some 5, op := Op.assign (Operand.tmp 68), type := 4, pos := _, after := _, guard := none } : Oper)) (v := ?_) rfl (by kernel_rfl) (by kernel_rfl) (by kernel_rfl) (fun _ _ _ h => h) (Or.inl ⟨by rfl, ?_⟩) hSS ?_
          rotate_left
          · intro w9 hSw
            (try dsimp only at hSw)
            (try go_split_ands)
            first | (go_simp; done) | (go_simp; with_reducible rfl)
          try simp only [Act.put, List.setIfInBounds_toArray, List.set_cons_zero, List.set_cons_succ]
          refine wpAnyH_done (by kernel_rfl) ?_ _
          go_wp2_with fail
          go_wp2
          go_roundw
          case rel => exact ⟨j + 1, by omega, by go_num, rfl, HB.out.below b7⟩
          case measure => simp [intOf]; omega
        · have HB := hid hB
          have hj1 : ¬ ((j : Int) < (os.length : Int) + 70) := by omega
          clear hB
          go_wp2
          go_ret
          exact ⟨rfl, HB.out.ts, HB.out.but⟩

end Go.Proofs.YthkkdmblkalknaaGreatDoor
/-
  Names: the document's Named.
-/
namespace Go.Proofs.YthkkdmblkalknaaGreatDoor
open Go.RowKit

/-- where a byte lies among the signs -/
theorem classes (z : Int) : (97 ≤ z ∧ z ≤ 122) ∨ z = 126 ∨ (48 ≤ z ∧ z ≤ 57) ∨ z = 46 ∨ z = 45 ∨ z = 95 ∨ z = 64 ∨ z < 45 ∨ z = 47 ∨ (57 < z ∧ z < 64) ∨ (64 < z ∧ z < 95) ∨ z = 96 ∨ (122 < z ∧ z < 126) ∨ 126 < z := by omega

theorem isLow_iff (z : Int) : isLow z = true ↔ (97 ≤ z ∧ z ≤ 122) ∨ z = 126 := by unfold isLow; simp
theorem isSign_iff (z : Int) : isSign z = true ↔ ((97 ≤ z ∧ z ≤ 122) ∨ z = 126) ∨ (48 ≤ z ∧ z ≤ 57) ∨ z = 46 ∨ z = 45 ∨ z = 95 ∨ z = 64 := by
  unfold isSign
  rw [Bool.or_eq_true, isLow_iff]
  simp only [Bool.or_eq_true, Bool.and_eq_true, decide_eq_true_eq, or_assoc]
theorem low_no {z : Int} (h : ¬ ((97 ≤ z ∧ z ≤ 122) ∨ z = 126)) : isLow z = false := by rw [Bool.eq_false_iff]; exact fun q => h ((isLow_iff z).1 q)
theorem sign_no {z : Int} (h : ¬ (((97 ≤ z ∧ z ≤ 122) ∨ z = 126) ∨ (48 ≤ z ∧ z ≤ 57) ∨ z = 46 ∨ z = 45 ∨ z = 95 ∨ z = 64)) : isSign z = false := by rw [Bool.eq_false_iff]; exact fun q => h ((isSign_iff z).1 q)
theorem nmd_first {l : List Int} (h : isLow (l.getD 0 0) = false) : nmd l = false := by unfold nmd; rw [h]; simp
theorem nmd_len {l : List Int} (h : l.length < 1 ∨ 31 < l.length) : nmd l = false := by
  unfold nmd
  rcases h with h | h
  · simp [show ¬ 1 ≤ l.length from by omega]
  · simp [show ¬ l.length ≤ 31 from by omega]
theorem nmd_yes {l : List Int} (h1 : 1 ≤ l.length) (h2 : l.length ≤ 31) (h3 : isLow (l.getD 0 0) = true) (h4 : ∀ i, i < l.length → isSign (l.getD i 0) = true) : nmd l = true := by
  have ha : l.all isSign = true := by
    rw [List.all_eq_true]
    intro x hx
    obtain ⟨i, hi, rfl⟩ := List.getElem_of_mem hx
    have := h4 i hi
    rw [List.getD_eq_getElem?_getD, List.getElem?_eq_getElem hi] at this
    exact this
  unfold nmd
  rw [ha, h3]
  simp
  omega

set_option maxRecDepth 100000 in
set_option maxHeartbeats 4000000 in
theorem Named_any (l : List Int) (hb : Pl.isB l) (hl : l.length ≤ 16777216) (w : World) : Calls Tryz.prog 112 #[.string (strOfNums l)] w fun e w' => e = .returned (.bool (nmd l)) ∧ w' = w := by
  have hsz := str_size l
  have HX := hid (fun i hi h => str_get l hb i hi h)
  generalize hS : strOfNums l = S at *
  clear hS
  clear hb
  go_enter Tryz.func112, Tryz.ntmps112
  go_wp2_with fail
  go_loop [3] (fun i => ∃ k : Nat, k ≤ l.length ∧ i = .int .i64 (k : Int) ∧ (∀ j, j < k → isSign (l.getD j 0) = true) ∧ (0 < k → isLow (l.getD 0 0) = true)) (fun i => l.length - (intOf i).toNat)
  case atStart => exact ⟨0, Nat.zero_le _, rfl, fun j hj => by omega, fun h => by omega⟩
  case round =>
    obtain ⟨k, hk, rfl, hall, hlow⟩ := hrel
    by_cases hkn : k < l.length
    · have hix := HX.out k hkn (by omega)
      generalize hzz : l.getD k 0 = z at *
      have HZ := hid hzz
      have HA := hid hall
      have HL := hid hlow
      have HIX := hid hix
      clear hzz hall hlow hix
      have hnext : isSign z = true → (0 < k ∨ isLow z = true) → (∀ j, j < k + 1 → isSign (l.getD j 0) = true) ∧ (0 < k + 1 → isLow (l.getD 0 0) = true) := by
        intro h1 h2
        refine ⟨fun j hj => ?_, fun _ => ?_⟩
        · by_cases hjk : j < k
          · exact HA.out j hjk
          · obtain rfl : j = k := by omega
            rw [HZ.out]; exact h1
        · rcases Nat.eq_zero_or_pos k with rfl | q
          · rw [HZ.out]; exact h2.resolve_left (by omega)
          · exact HL.out q
      have HN := hid hnext
      have hno : isSign z = false ∨ (k = 0 ∧ isLow z = false) → nmd l = false := by
        rintro (h | ⟨rfl, h⟩)
        · exact nmd_no hkn (by rw [HZ.out]; exact h)
        · exact nmd_first (by rw [HZ.out]; exact h)
      have HO := hid hno
      clear hnext hno HZ HA HL
      rcases classes z with c | c | c | c | c | c | c | c | c | c | c | c | c | c
      · have s1 := hid ((isSign_iff z).2 (by omega))
        have s2 := hid ((isLow_iff z).2 (by omega))
        have hix := HIX.out
        clear HIX
        have d1 : 97 ≤ z := by omega
        have d2 : z ≤ 122 := by omega
        have d3 : 48 ≤ z := by omega
        have d4 : ¬ z ≤ 57 := by omega
        have d5 : (z == 126) = false := by simp; omega
        have d6 : (z == 46) = false := by simp; omega
        have d7 : (z == 45) = false := by simp; omega
        have d8 : (z == 95) = false := by simp; omega
        have d9 : (z == 64) = false := by simp; omega
        go_wp2
        go_round
        case rel => exact ⟨k + 1, by omega, by go_num, HN.out s1.out (.inr s2.out)⟩
        case measure => simp [intOf]; omega
      · have s1 := hid ((isSign_iff z).2 (by omega))
        have s2 := hid ((isLow_iff z).2 (by omega))
        have hix := HIX.out
        clear HIX
        subst c
        go_wp2
        go_round
        case rel => exact ⟨k + 1, by omega, by go_num, HN.out s1.out (.inr s2.out)⟩
        case measure => simp [intOf]; omega
      · have s1 := hid ((isSign_iff z).2 (by omega))
        have s2 := hid (low_no (z := z) (by omega))
        have hix := HIX.out
        clear HIX
        by_cases k0 : k = 0
        · have e := HO.out (.inr ⟨k0, s2.out⟩)
          have d1 : ¬ 97 ≤ z := by omega
          have d2 : z ≤ 122 := by omega
          have d3 : 48 ≤ z := by omega
          have d4 : z ≤ 57 := by omega
          have d5 : (z == 126) = false := by simp; omega
          have d6 : (z == 46) = false := by simp; omega
          have d7 : (z == 45) = false := by simp; omega
          have d8 : (z == 95) = false := by simp; omega
          have d9 : (z == 64) = false := by simp; omega
          subst k0
          go_wp2
          go_ret
          exact ⟨by first | rfl | (rw [e]; rfl), rfl⟩
        · have k1 : ((k : Int) == 0) = false := by simp; omega
          have d1 : ¬ 97 ≤ z := by omega
          have d2 : z ≤ 122 := by omega
          have d3 : 48 ≤ z := by omega
          have d4 : z ≤ 57 := by omega
          have d5 : (z == 126) = false := by simp; omega
          have d6 : (z == 46) = false := by simp; omega
          have d7 : (z == 45) = false := by simp; omega
          have d8 : (z == 95) = false := by simp; omega
          have d9 : (z == 64) = false := by simp; omega
          go_wp2
          go_round
          case rel => exact ⟨k + 1, by omega, by go_num, HN.out s1.out (.inl (by omega))⟩
          case measure => simp [intOf]; omega
      · have s1 := hid ((isSign_iff z).2 (by omega))
        have s2 := hid (low_no (z := z) (by omega))
        have hix := HIX.out
        clear HIX
        by_cases k0 : k = 0
        · have e := HO.out (.inr ⟨k0, s2.out⟩)
          subst c
          subst k0
          go_wp2
          go_ret
          exact ⟨by first | rfl | (rw [e]; rfl), rfl⟩
        · have k1 : ((k : Int) == 0) = false := by simp; omega
          subst c
          go_wp2
          go_round
          case rel => exact ⟨k + 1, by omega, by go_num, HN.out s1.out (.inl (by omega))⟩
          case measure => simp [intOf]; omega
      · have s1 := hid ((isSign_iff z).2 (by omega))
        have s2 := hid (low_no (z := z) (by omega))
        have hix := HIX.out
        clear HIX
        by_cases k0 : k = 0
        · have e := HO.out (.inr ⟨k0, s2.out⟩)
          subst c
          subst k0
          go_wp2
          go_ret
          exact ⟨by first | rfl | (rw [e]; rfl), rfl⟩
        · have k1 : ((k : Int) == 0) = false := by simp; omega
          subst c
          go_wp2
          go_round
          case rel => exact ⟨k + 1, by omega, by go_num, HN.out s1.out (.inl (by omega))⟩
          case measure => simp [intOf]; omega
      · have s1 := hid ((isSign_iff z).2 (by omega))
        have s2 := hid (low_no (z := z) (by omega))
        have hix := HIX.out
        clear HIX
        by_cases k0 : k = 0
        · have e := HO.out (.inr ⟨k0, s2.out⟩)
          subst c
          subst k0
          go_wp2
          go_ret
          exact ⟨by first | rfl | (rw [e]; rfl), rfl⟩
        · have k1 : ((k : Int) == 0) = false := by simp; omega
          subst c
          go_wp2
          go_round
          case rel => exact ⟨k + 1, by omega, by go_num, HN.out s1.out (.inl (by omega))⟩
          case measure => simp [intOf]; omega
      · have s1 := hid ((isSign_iff z).2 (by omega))
        have s2 := hid (low_no (z := z) (by omega))
        have hix := HIX.out
        clear HIX
        by_cases k0 : k = 0
        · have e := HO.out (.inr ⟨k0, s2.out⟩)
          subst c
          subst k0
          go_wp2
          go_ret
          exact ⟨by first | rfl | (rw [e]; rfl), rfl⟩
        · have k1 : ((k : Int) == 0) = false := by simp; omega
          subst c
          go_wp2
          go_round
          case rel => exact ⟨k + 1, by omega, by go_num, HN.out s1.out (.inl (by omega))⟩
          case measure => simp [intOf]; omega
      · have e := HO.out (.inl (sign_no (z := z) (by omega)))
        have hix := HIX.out
        clear HIX
        have d1 : ¬ 97 ≤ z := by omega
        have d2 : z ≤ 122 := by omega
        have d3 : ¬ 48 ≤ z := by omega
        have d4 : z ≤ 57 := by omega
        have d5 : (z == 126) = false := by simp; omega
        have d6 : (z == 46) = false := by simp; omega
        have d7 : (z == 45) = false := by simp; omega
        have d8 : (z == 95) = false := by simp; omega
        have d9 : (z == 64) = false := by simp; omega
        go_wp2
        all_goals go_ret
        all_goals exact ⟨by first | rfl | (rw [e]; rfl), rfl⟩
      · have e := HO.out (.inl (sign_no (z := z) (by omega)))
        have hix := HIX.out
        clear HIX
        subst c
        go_wp2
        all_goals go_ret
        all_goals exact ⟨by first | rfl | (rw [e]; rfl), rfl⟩
      · have e := HO.out (.inl (sign_no (z := z) (by omega)))
        have hix := HIX.out
        clear HIX
        have d1 : ¬ 97 ≤ z := by omega
        have d2 : z ≤ 122 := by omega
        have d3 : 48 ≤ z := by omega
        have d4 : ¬ z ≤ 57 := by omega
        have d5 : (z == 126) = false := by simp; omega
        have d6 : (z == 46) = false := by simp; omega
        have d7 : (z == 45) = false := by simp; omega
        have d8 : (z == 95) = false := by simp; omega
        have d9 : (z == 64) = false := by simp; omega
        go_wp2
        all_goals go_ret
        all_goals exact ⟨by first | rfl | (rw [e]; rfl), rfl⟩
      · have e := HO.out (.inl (sign_no (z := z) (by omega)))
        have hix := HIX.out
        clear HIX
        have d1 : ¬ 97 ≤ z := by omega
        have d2 : z ≤ 122 := by omega
        have d3 : 48 ≤ z := by omega
        have d4 : ¬ z ≤ 57 := by omega
        have d5 : (z == 126) = false := by simp; omega
        have d6 : (z == 46) = false := by simp; omega
        have d7 : (z == 45) = false := by simp; omega
        have d8 : (z == 95) = false := by simp; omega
        have d9 : (z == 64) = false := by simp; omega
        go_wp2
        all_goals go_ret
        all_goals exact ⟨by first | rfl | (rw [e]; rfl), rfl⟩
      · have e := HO.out (.inl (sign_no (z := z) (by omega)))
        have hix := HIX.out
        clear HIX
        subst c
        go_wp2
        all_goals go_ret
        all_goals exact ⟨by first | rfl | (rw [e]; rfl), rfl⟩
      · have e := HO.out (.inl (sign_no (z := z) (by omega)))
        have hix := HIX.out
        clear HIX
        have d1 : 97 ≤ z := by omega
        have d2 : ¬ z ≤ 122 := by omega
        have d3 : 48 ≤ z := by omega
        have d4 : ¬ z ≤ 57 := by omega
        have d5 : (z == 126) = false := by simp; omega
        have d6 : (z == 46) = false := by simp; omega
        have d7 : (z == 45) = false := by simp; omega
        have d8 : (z == 95) = false := by simp; omega
        have d9 : (z == 64) = false := by simp; omega
        go_wp2
        all_goals go_ret
        all_goals exact ⟨by first | rfl | (rw [e]; rfl), rfl⟩
      · have e := HO.out (.inl (sign_no (z := z) (by omega)))
        have hix := HIX.out
        clear HIX
        have d1 : 97 ≤ z := by omega
        have d2 : ¬ z ≤ 122 := by omega
        have d3 : 48 ≤ z := by omega
        have d4 : ¬ z ≤ 57 := by omega
        have d5 : (z == 126) = false := by simp; omega
        have d6 : (z == 46) = false := by simp; omega
        have d7 : (z == 45) = false := by simp; omega
        have d8 : (z == 95) = false := by simp; omega
        have d9 : (z == 64) = false := by simp; omega
        go_wp2
        all_goals go_ret
        all_goals exact ⟨by first | rfl | (rw [e]; rfl), rfl⟩
    · by_cases q1 : l.length < 1
      · have e := nmd_len (l := l) (.inl q1)
        go_wp2
        go_ret
        exact ⟨by first | rfl | (rw [e]; rfl), rfl⟩
      by_cases q2 : 31 < l.length
      · have e := nmd_len (l := l) (.inr q2)
        have d : ¬ ((l.length : Int) ≤ 31) := by omega
        go_wp2
        go_ret
        exact ⟨by first | rfl | (rw [e]; rfl), rfl⟩
      · have e := nmd_yes (l := l) (by omega) (by omega) (hlow (by omega)) (fun i hi => hall i (by omega))
        have d : ((l.length : Int) ≤ 31) := by omega
        clear hall hlow
        go_wp2
        go_ret
        exact ⟨by first | rfl | (rw [e]; rfl), rfl⟩

end Go.Proofs.YthkkdmblkalknaaGreatDoor
