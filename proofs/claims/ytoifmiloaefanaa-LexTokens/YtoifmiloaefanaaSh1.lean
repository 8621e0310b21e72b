/-
  The Shelf: Holds.
-/
import Derived.Test.YtoifmiloaefanaaSh0
namespace Go.Proofs.Ytoifmiloaefanaa
open Go.RowKit

/-- two lists of lists that hold the same -/
def PrL (m : Nat) (fa ha : Option Addr) (L : Nat → List Tk) (w : World) : Prop := ∀ j, j < m → ∃ fg hg a1 a2 n c1 c2, fa = some ⟨fg, 0, none⟩ ∧ ha = some ⟨hg, 0, none⟩ ∧ fg < w.heap.size ∧ hg < w.heap.size ∧ w.cell? ⟨fg, j, none⟩ = some (.slice a1 n c1) ∧ w.cell? ⟨hg, j, none⟩ = some (.slice a2 n c2) ∧ (L j).length = n ∧ n ≤ 16777216 ∧ TkR w a1 (L j) ∧ TkR w a2 (L j)
set_option maxRecDepth 100000 in
set_option maxHeartbeats 1000000 in
theorem Holds_any (s m cF cH m0 cF0 cH0 : Nat) (fa ha fa0 ha0 : Option Addr) (mk tot : Int) (L L0 : Nat → List Tk) (w : World) (hM : m ≤ 16777216) (hM0 : m0 ≤ 16777216) (hs : w.heap[s]? = some (.cells #[.int .i64 mk, .int .i64 tot, .bool false, .slice fa0 m0 cF0, .slice ha0 m0 cH0, .slice fa m cF, .slice ha m cH] 36 (0, 0)))
    (hL0 : PrL m0 fa0 ha0 L0 w)
    (hL : PrL m fa ha L w) :
    Calls Try.prog 13 #[.pointer (some ⟨s, 0, none⟩)] w fun e w' => e = .returned (.bool true) ∧ Below w.heap.size w w' := by
  have HSB := hid hs
  have HL := hid hL
  have HUT := hid (untouched_any s m0 cF0 cH0 fa0 ha0 mk tot _ _ L0 w hM0 hs hL0)
  have hsl : s < w.heap.size := (Array.getElem?_eq_some_iff.1 hs).1
  clear hs hL hL0
  go_enter Try.func13, Try.ntmps13
  go_wp2_with fail
  refine Calls.mono HUT.out ?_
  rintro e wu ⟨⟨vu, rfl⟩, h⟩
  have HBU := hid h
  clear h HUT
  go_wp2_with fail
  go_loopw [3] (fun iv wr => ∃ j : Nat, iv = .int .i64 (j : Int) ∧ j ≤ m ∧ Below w.heap.size w wr) (fun iv _ => m - (intOf iv).toNat)
  case atStart => exact ⟨0, rfl, Nat.zero_le _, HBU.out⟩
  case round =>
    clear HBU
    obtain ⟨j, rfl, hj, hBe⟩ := hrel
    have hsw := (hBe.block s hsl).trans HSB.out
    have k5 := shelf_cell hsw (i := 5) rfl
    have k2 := shelf_cell hsw (i := 2) rfl
    by_cases hjn : j < m
    · obtain ⟨fg, hg, a1, a2, n, c1, c2, rfl, rfl, hfg, hhg, e1, e2, hln, hn, q1, q2⟩ := HL.out j hjn
      have hjn' : (j : Int) < (m : Int) := by omega
      have z0 := hBe.size
      have HKS : Hid (∀ u, Below wr.drew.heap.size wr.drew u → (u.cell? ⟨s, 2, none⟩ = some (.bool false) ∧ u.frozen? ⟨s, 2, none⟩ = false ∧ u.cell? ⟨s, 5, none⟩ = some (.slice (some ⟨fg, 0, none⟩) m cF) ∧ u.cell? ⟨s, 6, none⟩ = some (.slice (some ⟨hg, 0, none⟩) m cH) ∧ u.cell? ⟨fg, j, none⟩ = some (.slice a1 n c1) ∧ u.cell? ⟨hg, j, none⟩ = some (.slice a2 n c2))) := fun u hu => by
        have hu' : Below w.heap.size w u := (hBe.trans (below_drew _ _)).trans (hu.mono z0)
        have hsu := (hu'.block s hsl).trans HSB.out
        exact ⟨shelf_cell hsu rfl, by simp [World.frozen?, hsu], shelf_cell hsu rfl, shelf_cell hsu rfl, by simp only [World.cell?] at e1 ⊢; rw [hu'.block fg hfg]; exact e1, by simp only [World.cell?] at e2 ⊢; rw [hu'.block hg hhg]; exact e2⟩
      have kS := HKS.out wr.drew (Below.refl _ _)
      have H11 := hid (SameTokens_yes a1 a2 n c1 c2 (L j) wr.drew hln (q1.next (hBe.trans (below_drew _ _))) (q2.next (hBe.trans (below_drew _ _))) hn)
      have HBe := hid hBe
      clear hBe q1 q2 e1 e2 hsw
      have HST : Hid (∀ u, Below wr.drew.heap.size wr.drew u → Below w.heap.size w (u.setCell ⟨s, 2, none⟩ (.bool false)) ∧ (fun u => (u.cell? ⟨s, 2, none⟩ = some (.bool false) ∧ u.frozen? ⟨s, 2, none⟩ = false ∧ u.cell? ⟨s, 5, none⟩ = some (.slice (some ⟨fg, 0, none⟩) m cF) ∧ u.cell? ⟨s, 6, none⟩ = some (.slice (some ⟨hg, 0, none⟩) m cH) ∧ u.cell? ⟨fg, j, none⟩ = some (.slice a1 n c1) ∧ u.cell? ⟨hg, j, none⟩ = some (.slice a2 n c2))) (u.setCell ⟨s, 2, none⟩ (.bool false))) := fun u hu => by
        have hu' : Below w.heap.size w u := (HBe.out.trans (below_drew _ _)).trans (hu.mono z0)
        have hsu := (hu'.block s hsl).trans HSB.out
        have hx := hu.trans ((set_same (i := 2) hsu rfl).mono hu.size)
        exact ⟨(HBe.out.trans (below_drew _ _)).trans (hx.mono z0), HKS.out _ hx⟩
      go_wp2_with fail
      refine wp_region_held_drew (S := (fun u => u.cell? ⟨s, 2, none⟩ = some (.bool false) ∧ u.frozen? ⟨s, 2, none⟩ = false ∧ u.cell? ⟨s, 5, none⟩ = some (.slice (some ⟨fg, 0, none⟩) m cF) ∧ u.cell? ⟨s, 6, none⟩ = some (.slice (some ⟨hg, 0, none⟩) m cH) ∧ u.cell? ⟨fg, j, none⟩ = some (.slice a1 n c1) ∧ u.cell? ⟨hg, j, none⟩ = some (.slice a2 n c2))) (by kernel_rfl) kS (fun hSS => ?_)
      refine wpAnyH_take (i := 0) (oi := ({ dst := some 15, op := Op.move (Operand.tmp 0), type := 33, pos := _, after := _, guard := none } : Oper)) (v := ?_) rfl (by kernel_rfl) (by kernel_rfl) (by kernel_rfl) (fun _ _ _ h => h) (Or.inl ⟨by rfl, ?_⟩) hSS ?_
      rotate_left
      · intro w9 hSw
        (try dsimp only at hSw)
        (try go_split_ands)
        first | (go_simp; done) | (go_simp; with_reducible rfl)
      try simp only [Act.put, List.setIfInBounds_toArray, List.set_cons_zero, List.set_cons_succ]
      refine wpAnyH_take (i := 1) (oi := ({ dst := some 16, op := Op.move (Operand.tmp 0), type := 33, pos := _, after := _, guard := none } : Oper)) (v := ?_) rfl (by kernel_rfl) (by kernel_rfl) (by kernel_rfl) (fun _ _ _ h => h) (Or.inl ⟨by rfl, ?_⟩) hSS ?_
      rotate_left
      · intro w9 hSw
        (try dsimp only at hSw)
        (try go_split_ands)
        first | (go_simp; done) | (go_simp; with_reducible rfl)
      try simp only [Act.put, List.setIfInBounds_toArray, List.set_cons_zero, List.set_cons_succ]
      refine wpAnyH_take (i := 2) (oi := ({ dst := some 17, op := Op.nilCheck (Operand.tmp 16), type := 0, pos := _, after := _, guard := none } : Oper)) (v := ?_) rfl (by kernel_rfl) (by kernel_rfl) (by kernel_rfl) (fun _ _ _ h => h) (Or.inl ⟨by rfl, ?_⟩) hSS ?_
      rotate_left
      · intro w9 hSw
        (try dsimp only at hSw)
        (try go_split_ands)
        first | (go_simp; done) | (go_simp; with_reducible rfl)
      try simp only [Act.put, List.setIfInBounds_toArray, List.set_cons_zero, List.set_cons_succ]
      refine wpAnyH_take (i := 3) (oi := ({ dst := some 18, op := Op.fieldAddr 36 (Operand.tmp 17) 2, type := 0, pos := _, after := _, guard := none } : Oper)) (v := ?_) rfl (by kernel_rfl) (by kernel_rfl) (by kernel_rfl) (fun _ _ _ h => h) (Or.inl ⟨by rfl, ?_⟩) hSS ?_
      rotate_left
      · intro w9 hSw
        (try dsimp only at hSw)
        (try go_split_ands)
        first | (go_simp; done) | (go_simp; with_reducible rfl)
      try simp only [Act.put, List.setIfInBounds_toArray, List.set_cons_zero, List.set_cons_succ]
      refine wpAnyH_take (i := 4) (oi := ({ dst := some 19, op := Op.load 4 (Operand.tmp 18), type := 4, pos := _, after := _, guard := none } : Oper)) (v := ?_) rfl (by kernel_rfl) (by kernel_rfl) (by kernel_rfl) (fun _ _ _ h => h) (Or.inl ⟨by rfl, ?_⟩) hSS ?_
      rotate_left
      · intro w9 hSw
        (try dsimp only at hSw)
        (try go_split_ands)
        first | (go_simp; done) | (go_simp; with_reducible rfl)
      try simp only [Act.put, List.setIfInBounds_toArray, List.set_cons_zero, List.set_cons_succ]
      refine wpAnyH_take (i := 5) (oi := ({ dst := some 20, op := Op.move (Operand.tmp 19), type := 4, pos := _, after := _, guard := none } : Oper)) (v := ?_) rfl (by kernel_rfl) (by kernel_rfl) (by kernel_rfl) (fun _ _ _ h => h) (Or.inl ⟨by rfl, ?_⟩) hSS ?_
      rotate_left
      · intro w9 hSw
        (try dsimp only at hSw)
        (try go_split_ands)
        first | (go_simp; done) | (go_simp; with_reducible rfl)
      try simp only [Act.put, List.setIfInBounds_toArray, List.set_cons_zero, List.set_cons_succ]
      refine wpAnyH_take (i := 6) (oi := ({ dst := some 21, op := Op.move (Operand.tmp 0), type := 33, pos := _, after := _, guard := some (5, false) } : Oper)) (v := ?_) rfl (by kernel_rfl) (by kernel_rfl) (by kernel_rfl) (fun _ _ _ h => h) (Or.inl ⟨by rfl, ?_⟩) hSS ?_
      rotate_left
      · intro w9 hSw
        (try dsimp only at hSw)
        (try go_split_ands)
        first | (go_simp; done) | (go_simp; with_reducible rfl)
      try simp only [Act.put, List.setIfInBounds_toArray, List.set_cons_zero, List.set_cons_succ]
      refine wpAnyH_take (i := 7) (oi := ({ dst := some 22, op := Op.nilCheck (Operand.tmp 21), type := 0, pos := _, after := _, guard := some (5, false) } : Oper)) (v := ?_) rfl (by kernel_rfl) (by kernel_rfl) (by kernel_rfl) (fun _ _ _ h => h) (Or.inl ⟨by rfl, ?_⟩) hSS ?_
      rotate_left
      · intro w9 hSw
        (try dsimp only at hSw)
        (try go_split_ands)
        first | (go_simp; done) | (go_simp; with_reducible rfl)
      try simp only [Act.put, List.setIfInBounds_toArray, List.set_cons_zero, List.set_cons_succ]
      refine wpAnyH_take (i := 8) (oi := ({ dst := some 23, op := Op.fieldAddr 36 (Operand.tmp 22) 5, type := 0, pos := _, after := _, guard := some (5, false) } : Oper)) (v := ?_) rfl (by kernel_rfl) (by kernel_rfl) (by kernel_rfl) (fun _ _ _ h => h) (Or.inl ⟨by rfl, ?_⟩) hSS ?_
      rotate_left
      · intro w9 hSw
        (try dsimp only at hSw)
        (try go_split_ands)
        first | (go_simp; done) | (go_simp; with_reducible rfl)
      try simp only [Act.put, List.setIfInBounds_toArray, List.set_cons_zero, List.set_cons_succ]
      refine wpAnyH_take (i := 9) (oi := ({ dst := some 24, op := Op.load 34 (Operand.tmp 23), type := 34, pos := _, after := _, guard := some (5, false) } : Oper)) (v := ?_) rfl (by kernel_rfl) (by kernel_rfl) (by kernel_rfl) (fun _ _ _ h => h) (Or.inl ⟨by rfl, ?_⟩) hSS ?_
      rotate_left
      · intro w9 hSw
        (try dsimp only at hSw)
        (try go_split_ands)
        first | (go_simp; done) | (go_simp; with_reducible rfl)
      try simp only [Act.put, List.setIfInBounds_toArray, List.set_cons_zero, List.set_cons_succ]
      refine wpAnyH_take (i := 10) (oi := ({ dst := some 25, op := Op.move (Operand.tmp 3), type := 3, pos := _, after := _, guard := some (5, false) } : Oper)) (v := ?_) rfl (by kernel_rfl) (by kernel_rfl) (by kernel_rfl) (fun _ _ _ h => h) (Or.inl ⟨by rfl, ?_⟩) hSS ?_
      rotate_left
      · intro w9 hSw
        (try dsimp only at hSw)
        (try go_split_ands)
        first | (go_simp; done) | (go_simp; with_reducible rfl)
      try simp only [Act.put, List.setIfInBounds_toArray, List.set_cons_zero, List.set_cons_succ]
      refine wpAnyH_take (i := 11) (oi := ({ dst := some 26, op := Op.indexAddr 34 (Operand.tmp 24) (Operand.tmp 25), type := 0, pos := _, after := _, guard := some (5, false) } : Oper)) (v := ?_) rfl (by kernel_rfl) (by kernel_rfl) (by kernel_rfl) (fun _ _ _ h => h) (Or.inl ⟨by rfl, ?_⟩) hSS ?_
      rotate_left
      · intro w9 hSw
        (try dsimp only at hSw)
        (try go_split_ands)
        first | (go_simp; done) | (go_simp; with_reducible rfl)
      try simp only [Act.put, List.setIfInBounds_toArray, List.set_cons_zero, List.set_cons_succ]
      refine wpAnyH_take (i := 12) (oi := ({ dst := some 27, op := Op.load 23 (Operand.tmp 26), type := 23, pos := _, after := _, guard := some (5, false) } : Oper)) (v := ?_) rfl (by kernel_rfl) (by kernel_rfl) (by kernel_rfl) (fun _ _ _ h => h) (Or.inl ⟨by rfl, ?_⟩) hSS ?_
      rotate_left
      · intro w9 hSw
        (try dsimp only at hSw)
        (try go_split_ands)
        first | (go_simp; done) | (go_simp; with_reducible rfl)
      try simp only [Act.put, List.setIfInBounds_toArray, List.set_cons_zero, List.set_cons_succ]
      refine wpAnyH_take (i := 13) (oi := ({ dst := some 28, op := Op.move (Operand.tmp 0), type := 33, pos := _, after := _, guard := some (5, false) } : Oper)) (v := ?_) rfl (by kernel_rfl) (by kernel_rfl) (by kernel_rfl) (fun _ _ _ h => h) (Or.inl ⟨by rfl, ?_⟩) hSS ?_
      rotate_left
      · intro w9 hSw
        (try dsimp only at hSw)
        (try go_split_ands)
        first | (go_simp; done) | (go_simp; with_reducible rfl)
      try simp only [Act.put, List.setIfInBounds_toArray, List.set_cons_zero, List.set_cons_succ]
      refine wpAnyH_take (i := 14) (oi := ({ dst := some 29, op := Op.nilCheck (Operand.tmp 28), type := 0, pos := _, after := _, guard := some (5, false) } : Oper)) (v := ?_) rfl (by kernel_rfl) (by kernel_rfl) (by kernel_rfl) (fun _ _ _ h => h) (Or.inl ⟨by rfl, ?_⟩) hSS ?_
      rotate_left
      · intro w9 hSw
        (try dsimp only at hSw)
        (try go_split_ands)
        first | (go_simp; done) | (go_simp; with_reducible rfl)
      try simp only [Act.put, List.setIfInBounds_toArray, List.set_cons_zero, List.set_cons_succ]
      refine wpAnyH_take (i := 15) (oi := ({ dst := some 30, op := Op.fieldAddr 36 (Operand.tmp 29) 6, type := 0, pos := _, after := _, guard := some (5, false) } : Oper)) (v := ?_) rfl (by kernel_rfl) (by kernel_rfl) (by kernel_rfl) (fun _ _ _ h => h) (Or.inl ⟨by rfl, ?_⟩) hSS ?_
      rotate_left
      · intro w9 hSw
        (try dsimp only at hSw)
        (try go_split_ands)
        first | (go_simp; done) | (go_simp; with_reducible rfl)
      try simp only [Act.put, List.setIfInBounds_toArray, List.set_cons_zero, List.set_cons_succ]
      refine wpAnyH_take (i := 16) (oi := ({ dst := some 31, op := Op.load 34 (Operand.tmp 30), type := 34, pos := _, after := _, guard := some (5, false) } : Oper)) (v := ?_) rfl (by kernel_rfl) (by kernel_rfl) (by kernel_rfl) (fun _ _ _ h => h) (Or.inl ⟨by rfl, ?_⟩) hSS ?_
      rotate_left
      · intro w9 hSw
        (try dsimp only at hSw)
        (try go_split_ands)
        first | (go_simp; done) | (go_simp; with_reducible rfl)
      try simp only [Act.put, List.setIfInBounds_toArray, List.set_cons_zero, List.set_cons_succ]
      refine wpAnyH_take (i := 17) (oi := ({ dst := some 32, op := Op.move (Operand.tmp 3), type := 3, pos := _, after := _, guard := some (5, false) } : Oper)) (v := ?_) rfl (by kernel_rfl) (by kernel_rfl) (by kernel_rfl) (fun _ _ _ h => h) (Or.inl ⟨by rfl, ?_⟩) hSS ?_
      rotate_left
      · intro w9 hSw
        (try dsimp only at hSw)
        (try go_split_ands)
        first | (go_simp; done) | (go_simp; with_reducible rfl)
      try simp only [Act.put, List.setIfInBounds_toArray, List.set_cons_zero, List.set_cons_succ]
      refine wpAnyH_take (i := 18) (oi := ({ dst := some 33, op := Op.indexAddr 34 (Operand.tmp 31) (Operand.tmp 32), type := 0, pos := _, after := _, guard := some (5, false) } : Oper)) (v := ?_) rfl (by kernel_rfl) (by kernel_rfl) (by kernel_rfl) (fun _ _ _ h => h) (Or.inl ⟨by rfl, ?_⟩) hSS ?_
      rotate_left
      · intro w9 hSw
        (try dsimp only at hSw)
        (try go_split_ands)
        first | (go_simp; done) | (go_simp; with_reducible rfl)
      try simp only [Act.put, List.setIfInBounds_toArray, List.set_cons_zero, List.set_cons_succ]
      refine wpAnyH_take (i := 19) (oi := ({ dst := some 34, op := Op.load 23 (Operand.tmp 33), type := 23, pos := _, after := _, guard := some (5, false) } : Oper)) (v := ?_) rfl (by kernel_rfl) (by kernel_rfl) (by kernel_rfl) (fun _ _ _ h => h) (Or.inl ⟨by rfl, ?_⟩) hSS ?_
      rotate_left
      · intro w9 hSw
        (try dsimp only at hSw)
        (try go_split_ands)
        first | (go_simp; done) | (go_simp; with_reducible rfl)
      try simp only [Act.put, List.setIfInBounds_toArray, List.set_cons_zero, List.set_cons_succ]
      refine wpAnyH_ready (rs := [20]) (by kernel_rfl) (by simp) (AllReadyH.cons (o := ({ dst := some 35, op := Op.call { callee := Callee.value (Operand.func 11), args := #[Operand.tmp 27, Operand.tmp 34], argTypes := #[23, 23] }, type := 4, pos := _, after := _, guard := some (5, false) } : Oper)) rfl (fun K9 hK9 => ?_) AllReadyH.nil)
      go_simp
      go_at_call 11
      refine Calls.mono H11.out ?_
      rintro e w9x ⟨rfl, h⟩
      have HB9 := hid h
      clear h H11
      obtain ⟨y0, y1, y2, y3, y4, y5⟩ := HKS.out _ HB9.out
      refine hK9.out _ _ (HKS.out _ HB9.out) (fun hSS => ?_)
      clear hK9 K9
      try simp only [Act.put, List.setIfInBounds_toArray, List.set_cons_zero, List.set_cons_succ]
      refine wpAnyH_take (i := 21) (oi := ({ dst := some 36, op := Op.unOp UnOp.not 4 (Operand.tmp 35), type := 4, pos := _, after := _, guard := some (5, false) } : Oper)) (v := ?_) rfl (by kernel_rfl) (by kernel_rfl) (by kernel_rfl) (fun _ _ _ h => h) (Or.inl ⟨by rfl, ?_⟩) hSS ?_
      rotate_left
      · intro w9 hSw
        (try dsimp only at hSw)
        (try go_split_ands)
        first | (go_simp; done) | (go_simp; with_reducible rfl)
      try simp only [Act.put, List.setIfInBounds_toArray, List.set_cons_zero, List.set_cons_succ]
      refine wpAnyH_take (i := 22) (oi := ({ dst := some 37, op := Op.pick (Operand.tmp 20) (Operand.const (Value.bool true)) (Operand.tmp 36), type := 4, pos := _, after := _, guard := none } : Oper)) (v := ?_) rfl (by kernel_rfl) (by kernel_rfl) (by kernel_rfl) (fun _ _ _ h => h) (Or.inl ⟨by rfl, ?_⟩) hSS ?_
      rotate_left
      · intro w9 hSw
        (try dsimp only at hSw)
        (try go_split_ands)
        first | (go_simp; done) | (go_simp; with_reducible rfl)
      try simp only [Act.put, List.setIfInBounds_toArray, List.set_cons_zero, List.set_cons_succ]
      refine wpAnyH_take (i := 23) (oi := ({ dst := some 38, op := Op.nilCheck (Operand.tmp 15), type := 0, pos := _, after := _, guard := none } : Oper)) (v := ?_) rfl (by kernel_rfl) (by kernel_rfl) (by kernel_rfl) (fun _ _ _ h => h) (Or.inl ⟨by rfl, ?_⟩) hSS ?_
      rotate_left
      · intro w9 hSw
        (try dsimp only at hSw)
        (try go_split_ands)
        first | (go_simp; done) | (go_simp; with_reducible rfl)
      try simp only [Act.put, List.setIfInBounds_toArray, List.set_cons_zero, List.set_cons_succ]
      refine wpAnyH_take (i := 24) (oi := ({ dst := some 39, op := Op.fieldAddr 36 (Operand.tmp 38) 2, type := 0, pos := _, after := _, guard := none } : Oper)) (v := ?_) rfl (by kernel_rfl) (by kernel_rfl) (by kernel_rfl) (fun _ _ _ h => h) (Or.inl ⟨by rfl, ?_⟩) hSS ?_
      rotate_left
      · intro w9 hSw
        (try dsimp only at hSw)
        (try go_split_ands)
        first | (go_simp; done) | (go_simp; with_reducible rfl)
      try simp only [Act.put, List.setIfInBounds_toArray, List.set_cons_zero, List.set_cons_succ]
      refine wpAnyH_ready (rs := [25]) (by kernel_rfl) (by simp) (AllReadyH.cons (o := ({ dst := none, op := Op.store 4 (Operand.tmp 39) (Operand.tmp 37), type := 0, pos := _, after := _, guard := none } : Oper)) rfl (fun K9 hK9 => ?_) AllReadyH.nil)
      go_simp
      refine hK9.out _ _ (HST.out _ HB9.out).2 (fun hSS => ?_)
      clear hK9 K9
      try simp only [Act.put, List.setIfInBounds_toArray, List.set_cons_zero, List.set_cons_succ]
      refine wpAnyH_done (by kernel_rfl) ?_ _
      go_wp2_with fail
      exact ⟨⟨j + 1, by go_num, by omega, (HST.out _ HB9.out).1⟩, by simp [intOf]; omega⟩
    · have hjn' : ¬ (j : Int) < (m : Int) := by omega
      have HBe := hid hBe
      clear hBe hsw
      go_wp2_with fail
      go_ret
      exact ⟨rfl, HBe.out⟩

end Go.Proofs.Ytoifmiloaefanaa
