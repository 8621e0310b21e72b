import Derived.Test.YthkkdmblkalknaaGreatDoorB03
import Derived.Test.YthkkdmblkalknaaGreatDoorB04
import Derived.Deep.RegionHeld3
/-
  checks: every Check, and Program, of one list.
-/
namespace Go.Proofs.YthkkdmblkalknaaGreatDoor
open Go.RowKit

theorem GT.butk {X : Nat → Prop} {w w' : World} (h : GT w) (hb : But X w w') (hX : ∀ k, k < 9 → ¬ X k) : GT w' :=
  h.below (hb.below h.lt hX) (Nat.le_refl _)
/-- what is left: a tray again -/
def CkP (w : World) (κ : Nat → Nat) (T : Nat) (e : Ending) (w' : World) : Prop := e = .returned (.bool true) ∧ ∃ κ' lv dv ls, TS w' T κ' lv dv ls ∧ (∀ y, y < w.heap.size → κ' y = κ y) ∧ But (fun x => κ x ≠ 0) w w'
/-- Lend, then what the call under test leaves as it is, then Back -/
theorem lendBack {w : World} {T : Nat} {κ : Nat → Nat} {x : Option Addr} {c : Nat} {os : List PO} (hl : os.length ≤ 16777216) (hR : RdON (fun x => κ x ≠ 0) w x os) {w1 : World} {G M : Nat} {κ' : Nat → Nat} {dv : Value} {ls : List (Nat × Value)} {vs : List Value} (hT : TL w1 T κ' G M dv ls os vs) (hE : ∀ y, y < w.heap.size → κ' y = κ y) (hB : But (fun x => κ x ≠ 0) w w1) (W : World) (hW : Below w1.heap.size w1 W) :
    Calls Tryz.prog 50 #[.pointer (some ⟨T, 0, none⟩), .slice x os.length c] W (CkP w κ T) := by
  have hR1 : RdON (fun x => κ' x ≠ 0) W x os := (hR.ext hB hE).but (But.of_below hW)
  refine (TBack_any T κ' G M dv ls x c os vs W hl (hT.below hW) hR1).mono ?_
  rintro e w' ⟨rfl, hts, hb⟩
  refine ⟨rfl, κ', _, dv, ls, hts, hE, (hB.comp (But.of_below (X := fun _ => False) hW) (fun _ _ h => h.elim)).comp hb (fun y hy hk => by rw [← hE y hy]; exact hk)⟩

set_option maxRecDepth 100000 in
set_option maxHeartbeats 8000000 in
theorem checks_any (T : Nat) (κ : Nat → Nat) (lv dv : Value) (ls : List (Nat × Value)) (x : Option Addr) (c : Nat) (os : List PO) (w : World) (hl : os.length ≤ 16777216) (hG : GT w) (hk : ∀ y, y < 9 → κ y = 0) (hS : TS w T κ lv dv ls) (hR : RdON (fun x => κ x ≠ 0) w x os) (hx : x = none → c = 0) :
    Calls Tryz.prog 21 #[.slice x os.length c, .pointer (some ⟨T, 0, none⟩)] w (CkP w κ T) := by
  have H47 := hid (TLend_any T κ lv dv ls x c os w hl hS hR hx)
  have HR := hid hR
  have HG := hid hG
  have HK := hid hk
  have HN := hid num_any
  clear hS hR hx hG hk
  go_enter Tryz.func21, Tryz.ntmps21
  go_wp2_with fail
  refine H47.out.mono ?_
  rintro e w1 ⟨G, M, κ', dv', ls', vs, rfl, hT, hE, hB⟩
  have hR1 := (HR.out.ext hB hE)
  have H50 := hid (fun W hW => lendBack (c := c) hl HR.out hT hE hB W hW)
  have hG1 : GT w1 := HG.out.butk hB (fun k hk => by simp [HK.out k hk])
  have hRL : RdO w1.heap.size w1 (some ⟨G, 0, none⟩) os := hT.rd hR1.1 hR1.isb
  have hRO := hR1.rd
  have HCK : Hid (∀ W, Below w1.heap.size w1 W → Calls Tryz.prog 31 #[.slice (some ⟨G, 0, none⟩) os.length M] W fun e w' => e = .returned (.int .i64 (prg os)) ∧ Calls Tryz.prog 49 #[.slice x os.length c] w' fun e w2 => e = .returned (.int .i64 (prg os)) ∧ Below w1.heap.size w1 w2) := by
    intro W hW
    refine (Program_any (some ⟨G, 0, none⟩) M os W hl (hG1.next hW) ((hRL.below hW).mono hW.size)).mono ?_
    rintro e w2 ⟨rfl, b2⟩
    have b2' := hW.trans (b2.mono hW.size)
    refine ⟨rfl, (rProgram_any x c os w2 hl ((hRO.below b2').mono b2'.size)).mono ?_⟩
    rintro e w3 ⟨rfl, b3⟩
    exact ⟨rfl, b2'.trans (b3.mono b2'.size)⟩
  have HRL := hid hRL
  have HRO := hid hRO
  have HG1 := hid hG1
  have hnM : (os.length : Int) ≤ (M : Int) := by have := hT.big; omega
  clear H47 HR HG HK hT hE hB hR1 hRL hRO hG1
  generalize prg os = pv at *
  go_wp2_with fail
  go_loopw [6] (fun i wr => ∃ r : Nat, r ≤ os.length ∧ i = .int .i64 (r : Int) ∧ Below w1.heap.size w1 wr) (fun i _ => os.length - (intOf i).toNat)
  case atStart => exact ⟨0, Nat.zero_le _, rfl, Below.refl _ _⟩
  case round =>
    obtain ⟨r, hr, rfl, hb⟩ := hrel
    by_cases hlt : r < os.length
    · obtain ⟨G', off', eG, _, hcL⟩ := (HRL.out.below hb).2.resolve_left (fun e => by rw [e] at hlt; simp at hlt)
      simp only [Option.some.injEq, Addr.mk.injEq] at eG
      obtain ⟨rfl, rfl, _⟩ := eG
      have hRx := HRO.out.below hb
      have hok := hRx.1 (os[r]'hlt) (List.getElem_mem hlt)
      obtain ⟨b, off, rfl, hbl, hc⟩ := hRx.2.resolve_left (fun e => by rw [e] at hlt; simp at hlt)
      obtain ⟨a2, cp2, ⟨d0, d1, d2, d3, d4, d5⟩, _, _⟩ := hcL r hlt
      obtain ⟨a, cp, hop, _, _⟩ := hc r hlt
      rw [Nat.zero_add] at d0 d1 d2 d3 d4 d5
      have hr1 : (r : Int) < (os.length : Int) := by omega
      generalize hO : os[r]'hlt = o at *
      have H10 := hid (Check_any o.k o.nm o.ot o.fr o.to a2 o.da.length cp2 wr (HG1.out.next hb) hok.nm hok.ot hok.f0 hok.t1)
      change Hid (Calls Tryz.prog 10 _ wr fun e w' => e = .returned (.int .i64 o.ck) ∧ _) at H10
      have H48 := hid (fun W => rCheck_any o.k o.nm o.ot o.fr o.to a o.da.length cp W hok.nm hok.ot hok.f0 hok.t1)
      change Hid (∀ W, Calls Tryz.prog 48 _ W fun e w' => e = .returned (.int .i64 o.ck) ∧ _) at H48
      have HS : Hid (∀ W, Below wr.heap.size wr W → W.cell? ⟨b, off + r * 6, none⟩ = some (.int .i64 o.k) ∧ W.cell? ⟨b, off + r * 6 + 1, none⟩ = some (.string o.nm) ∧ W.cell? ⟨b, off + r * 6 + 2, none⟩ = some (.string o.ot) ∧ W.cell? ⟨b, off + r * 6 + 3, none⟩ = some (.int .i64 o.fr) ∧ W.cell? ⟨b, off + r * 6 + 4, none⟩ = some (.int .i64 o.to) ∧ W.cell? ⟨b, off + r * 6 + 5, none⟩ = some (.slice a o.da.length cp)) := by
        intro W hW
        have q := hop.keep (hW.block b (Nat.lt_of_lt_of_le hbl hb.size))
        exact ⟨q.o0, q.o1, q.o2, q.o3, q.o4, q.o5⟩
      have HBB : Hid (∀ w5 w6, Below wr.heap.size wr w5 → Below w5.heap.size w5 w6 → Below wr.heap.size wr w6) := fun w5 w6 b5 b6 => b5.trans (b6.mono b5.size)
      have HDR : Hid (∀ w5, Below wr.heap.size wr w5 → Below wr.heap.size wr w5.drew) := fun w5 b5 => b5.trans (below_drew _ _)
      have HB := hid hb
      clear hcL hRx hok hc hop hb hbl hO
      generalize o.ck = E at *
      generalize o.k = ok at *
      generalize o.nm = onm at *
      generalize o.ot = oot at *
      generalize o.fr = ofr at *
      generalize o.to = oto at *
      generalize o.da.length = odl at *
      go_wp2_with fail
      refine H10.out.mono ?_
      rintro e w4 ⟨rfl, hb4⟩
      clear d0 d1 d2 d3 d4 d5 H10
      go_wp2_with fail
      refine wp_region_held_drew (S := (fun W => W.cell? ⟨b, off + r * 6, none⟩ = some (.int .i64 ok) ∧ W.cell? ⟨b, off + r * 6 + 1, none⟩ = some (.string onm) ∧ W.cell? ⟨b, off + r * 6 + 2, none⟩ = some (.string oot) ∧ W.cell? ⟨b, off + r * 6 + 3, none⟩ = some (.int .i64 ofr) ∧ W.cell? ⟨b, off + r * 6 + 4, none⟩ = some (.int .i64 oto) ∧ W.cell? ⟨b, off + r * 6 + 5, none⟩ = some (.slice a odl cp))) (by kernel_rfl) (HS.out w4 hb4) (fun hSS => ?_)
      refine wpAnyH_take (i := 0) (oi := ({ dst := some 23, op := Op.move (Operand.tmp 7), type := 26, pos := _, after := _, guard := none } : Oper)) (v := ?_) rfl (by kernel_rfl) (by kernel_rfl) (by kernel_rfl) (fun _ _ _ h => h) (Or.inl ⟨by rfl, ?_⟩) hSS ?_
      rotate_left
      · intro w9 hSw
        (try dsimp only at hSw)
        (try go_split_ands)
        first | (go_simp; done) | (go_simp; with_reducible rfl)
      try simp only [Act.put, List.setIfInBounds_toArray, List.set_cons_zero, List.set_cons_succ]
      refine wpAnyH_take (i := 2) (oi := ({ dst := some 25, op := Op.move (Operand.tmp 0), type := 22, pos := _, after := _, guard := none } : Oper)) (v := ?_) rfl (by kernel_rfl) (by kernel_rfl) (by kernel_rfl) (fun _ _ _ h => h) (Or.inl ⟨by rfl, ?_⟩) hSS ?_
      rotate_left
      · intro w9 hSw
        (try dsimp only at hSw)
        (try go_split_ands)
        first | (go_simp; done) | (go_simp; with_reducible rfl)
      try simp only [Act.put, List.setIfInBounds_toArray, List.set_cons_zero, List.set_cons_succ]
      refine wpAnyH_take (i := 3) (oi := ({ dst := some 26, op := Op.move (Operand.tmp 6), type := 3, pos := _, after := _, guard := none } : Oper)) (v := ?_) rfl (by kernel_rfl) (by kernel_rfl) (by kernel_rfl) (fun _ _ _ h => h) (Or.inl ⟨by rfl, ?_⟩) hSS ?_
      rotate_left
      · intro w9 hSw
        (try dsimp only at hSw)
        (try go_split_ands)
        first | (go_simp; done) | (go_simp; with_reducible rfl)
      try simp only [Act.put, List.setIfInBounds_toArray, List.set_cons_zero, List.set_cons_succ]
      refine wpAnyH_take (i := 4) (oi := ({ dst := some 27, op := Op.indexAddr 22 (Operand.tmp 25) (Operand.tmp 26), type := 0, pos := _, after := _, guard := none } : Oper)) (v := ?_) rfl (by kernel_rfl) (by kernel_rfl) (by kernel_rfl) (fun _ _ _ h => h) (Or.inl ⟨by rfl, ?_⟩) hSS ?_
      rotate_left
      · intro w9 hSw
        (try dsimp only at hSw)
        (try go_split_ands)
        first | (go_simp; done) | (go_simp; with_reducible rfl)
      try simp only [Act.put, List.setIfInBounds_toArray, List.set_cons_zero, List.set_cons_succ]
      refine wpAnyH_take (i := 5) (oi := ({ dst := some 28, op := Op.load 29 (Operand.tmp 27), type := 29, pos := _, after := _, guard := none } : Oper)) (v := ?_) rfl (by kernel_rfl) (by kernel_rfl) (by kernel_rfl) (fun _ _ _ h => h) (Or.inl ⟨by rfl, ?_⟩) hSS ?_
      rotate_left
      · intro w9 hSw
        (try dsimp only at hSw)
        (try go_split_ands)
        first | (go_simp; done) | (go_simp; with_reducible rfl)
      try simp only [Act.put, List.setIfInBounds_toArray, List.set_cons_zero, List.set_cons_succ]
      refine wpAnyH_ready (rs := [1]) (by kernel_rfl) (by simp) (AllReadyH.cons (o := ({ dst := some 24, op := Op.call { callee := Callee.value (Operand.func 13), args := #[Operand.tmp 23], argTypes := #[26] }, type := 3, pos := _, after := _, guard := none } : Oper)) rfl (fun K9 hK9 => ?_) AllReadyH.nil)
      go_simp
      go_at_call 13
      refine (HN.out _ _).mono ?_
      rintro e w5 ⟨rfl, rfl⟩
      refine hK9.out _ _ (HS.out _ (HDR.out _ hb4)) (fun hSS => ?_)
      clear hK9 K9
      try simp only [Act.put, List.setIfInBounds_toArray, List.set_cons_zero, List.set_cons_succ]
      refine wpAnyH_ready (rs := [6]) (by kernel_rfl) (by simp) (AllReadyH.cons (o := ({ dst := some 29, op := Op.call { callee := Callee.value (Operand.func 48), args := #[Operand.tmp 28], argTypes := #[29] }, type := 3, pos := _, after := _, guard := none } : Oper)) rfl (fun K9 hK9 => ?_) AllReadyH.nil)
      go_simp
      go_at_call 48
      refine (H48.out _).mono ?_
      rintro e w6 ⟨rfl, b6⟩
      have b7 := HBB.out _ w6 (HDR.out _ hb4) b6
      refine hK9.out _ _ (HS.out w6 b7) (fun hSS => ?_)
      clear hK9 K9
      try simp only [Act.put, List.setIfInBounds_toArray, List.set_cons_zero, List.set_cons_succ]
      refine wpAnyH_take (i := 7) (oi := ({ dst := some 30, op := Op.binOp BinOp.neq 3 (Operand.tmp 24) (Operand.tmp 29) 3, type := 4, pos := _, after := _, guard := none } : Oper)) (v := ?_) rfl (by kernel_rfl) (by kernel_rfl) (by kernel_rfl) (fun _ _ _ h => h) (Or.inl ⟨by rfl, ?_⟩) hSS ?_
      rotate_left
      · intro w9 hSw
        (try dsimp only at hSw)
        (try go_split_ands)
        first | (go_simp; done) | (go_simp; with_reducible rfl)
      try simp only [Act.put, List.setIfInBounds_toArray, List.set_cons_zero, List.set_cons_succ]
      refine wpAnyH_done (by kernel_rfl) ?_ _
      go_wp2_with fail
      go_wp2
      go_roundw
      case rel => exact ⟨r + 1, by omega, by go_num, HB.out.trans (b7.mono HB.out.size)⟩
      case measure => simp [intOf]; omega
    · have HC := hid (HCK.out wr hb)
      have hr1 : ¬ ((r : Int) < (os.length : Int)) := by omega
      clear HCK hb HRL HRO HG1
      go_wp2_with fail
      refine HC.out.mono ?_
      rintro e w2 ⟨rfl, hC2⟩
      have HC2 := hid hC2
      clear HC hC2
      go_wp2_with fail
      refine (HN.out _ _).mono ?_
      rintro e w3 ⟨rfl, hw3⟩
      rw [hw3]
      clear hw3
      go_wp2_with fail
      refine HC2.out.mono ?_
      rintro e w4 ⟨rfl, b4⟩
      have HF := hid (H50.out w4 b4)
      clear HC2 b4 H50
      go_wp2_with fail
      refine HF.out.mono ?_
      rintro e w5 ⟨rfl, hF⟩
      have HX := hid hF
      clear HF hF
      go_wp2
      go_ret
      exact ⟨rfl, HX.out⟩

end Go.Proofs.YthkkdmblkalknaaGreatDoor
