/-
  SameToken, SameTokens, of the same tokens.
-/
import Derived.Test.YtoifmiloaefanaaPw0
namespace Go.Proofs.Ytoifmiloaefanaa
open Go.RowKit

/-- tokens to be read -/
def TkR (w : World) (a : Option Addr) (ts : List Tk) : Prop := ts = [] ∨ ∃ g, a = some ⟨g, 0, none⟩ ∧ g < w.heap.size ∧ ∀ j (hj : j < ts.length), w.cell? ⟨g, j * 4, none⟩ = some (.int .i64 ts[j].k) ∧ w.cell? ⟨g, j * 4 + 1, none⟩ = some (.string (strOfNums ts[j].tx)) ∧ w.cell? ⟨g, j * 4 + 2, none⟩ = some (.int .i64 ts[j].n) ∧ w.cell? ⟨g, j * 4 + 3, none⟩ = some (.int .i64 ts[j].a)
theorem TkR.next {w w' : World} {a : Option Addr} {ts : List Tk} (h : TkR w a ts) (hb : Below w.heap.size w w') : TkR w' a ts := by
  rcases h with h | ⟨g, h1, h2, h3⟩
  · exact .inl h
  · have e : ∀ o, w'.cell? ⟨g, o, none⟩ = w.cell? ⟨g, o, none⟩ := fun o => by simp only [World.cell?]; rw [hb.block g h2]
    exact .inr ⟨g, h1, by have := hb.size; omega, fun j hj => by rw [e, e, e, e]; exact h3 j hj⟩
theorem OwT.rd {B : Nat} {w : World} {ua : Option Addr} {m uc : Nat} {ts : List Tk} (h : OwT B w (.slice ua m uc) ts) (hm : m = ts.length) : TkR w ua ts := by
  by_cases h0 : 0 < ts.length
  · obtain ⟨g, rfl, _, h2⟩ := h.some h0
    exact .inr ⟨g, rfl, h2, fun j hj => h.cell4 hm j hj⟩
  · exact .inl (List.eq_nil_of_length_eq_zero (by omega))

set_option maxRecDepth 100000 in
set_option maxHeartbeats 1000000 in
theorem SameToken_yes (k : Int) (s : ByteArray) (n a : Int) (w : World) : Calls Try.prog 18 #[.agg #[.int .i64 k, .string s, .int .i64 n, .int .i64 a], .agg #[.int .i64 k, .string s, .int .i64 n, .int .i64 a]] w fun e w' => e = .returned (.bool true) ∧ Below w.heap.size w w' := by
  have HB : Hid (Below w.heap.size w ((w.alloc (.cells #[.int .i64 k, .string s, .int .i64 n, .int .i64 a] 29)).alloc (.cells #[.int .i64 k, .string s, .int .i64 n, .int .i64 a] 29))) := (below1 _ _).trans ((below1 _ _).mono (by simp))
  go_enter Try.func18, Try.ntmps18
  go_wp2
  go_ret
  exact ⟨rfl, HB.out⟩

set_option maxRecDepth 100000 in
set_option maxHeartbeats 1000000 in
theorem SameTokens_yes (a a2 : Option Addr) (n c c2 : Nat) (ts : List Tk) (w : World) (hn : ts.length = n) (h1 : TkR w a ts) (h2 : TkR w a2 ts) (hN : n ≤ 16777216) :
    Calls Try.prog 11 #[.slice a n c, .slice a2 n c2] w fun e w' => e = .returned (.bool true) ∧ Below w.heap.size w w' := by
  have HR1 := hid h1
  have HR2 := hid h2
  clear h1 h2
  go_enter Try.func11, Try.ntmps11
  go_wp2_with fail
  go_loopw [5] (fun iv wr => ∃ j : Nat, iv = .int .i64 (j : Int) ∧ j ≤ n ∧ Below w.heap.size w wr) (fun iv _ => n - (intOf iv).toNat)
  case atStart => exact ⟨0, rfl, Nat.zero_le _, Below.refl _ _⟩
  case round =>
    obtain ⟨j, rfl, hj, hBe⟩ := hrel
    by_cases hjn : j < n
    · have hjt : j < ts.length := by omega
      have hne : ts ≠ [] := by intro e; rw [e] at hjt; simp at hjt
      obtain ⟨g, rfl, hg, hcs⟩ := (HR1.out.next hBe).resolve_left hne
      obtain ⟨g2, rfl, hg2, hcs2⟩ := (HR2.out.next hBe).resolve_left hne
      have q1 := hcs j hjt
      have q2 := hcs2 j hjt
      have hjn' : (j : Int) < (n : Int) := by omega
      clear hcs hcs2
      generalize ts[j] = t at *
      obtain ⟨tk, tl, tn, ta⟩ := t
      simp only at q1 q2
      generalize strOfNums tl = U at *
      have HKS : Hid (∀ u, Below wr.drew.heap.size wr.drew u → (u.cell? ⟨g, j * 4, none⟩ = some (.int .i64 tk) ∧ u.cell? ⟨g, j * 4 + 1, none⟩ = some (.string U) ∧ u.cell? ⟨g, j * 4 + 2, none⟩ = some (.int .i64 tn) ∧ u.cell? ⟨g, j * 4 + 3, none⟩ = some (.int .i64 ta)) ∧ u.cell? ⟨g2, j * 4, none⟩ = some (.int .i64 tk) ∧ u.cell? ⟨g2, j * 4 + 1, none⟩ = some (.string U) ∧ u.cell? ⟨g2, j * 4 + 2, none⟩ = some (.int .i64 tn) ∧ u.cell? ⟨g2, j * 4 + 3, none⟩ = some (.int .i64 ta)) := fun u hu => by
        have e1 : ∀ o, u.cell? ⟨g, o, none⟩ = wr.cell? ⟨g, o, none⟩ := fun o => by simp only [World.cell?]; rw [hu.block g hg]; rfl
        have e2 : ∀ o, u.cell? ⟨g2, o, none⟩ = wr.cell? ⟨g2, o, none⟩ := fun o => by simp only [World.cell?]; rw [hu.block g2 hg2]; rfl
        rw [e1, e1, e1, e1, e2, e2, e2, e2]
        exact ⟨q1, q2⟩
      have kS := HKS.out wr.drew (Below.refl _ _)
      have H18 := hid (SameToken_yes tk U tn ta wr.drew)
      have HBe := hid hBe
      clear hBe q1 q2
      go_wp2_with fail
      refine wp_region_held_drew (S := (fun u => (u.cell? ⟨g, j * 4, none⟩ = some (.int .i64 tk) ∧ u.cell? ⟨g, j * 4 + 1, none⟩ = some (.string U) ∧ u.cell? ⟨g, j * 4 + 2, none⟩ = some (.int .i64 tn) ∧ u.cell? ⟨g, j * 4 + 3, none⟩ = some (.int .i64 ta)) ∧ u.cell? ⟨g2, j * 4, none⟩ = some (.int .i64 tk) ∧ u.cell? ⟨g2, j * 4 + 1, none⟩ = some (.string U) ∧ u.cell? ⟨g2, j * 4 + 2, none⟩ = some (.int .i64 tn) ∧ u.cell? ⟨g2, j * 4 + 3, none⟩ = some (.int .i64 ta))) (by kernel_rfl) kS (fun hSS => ?_)
      refine wpAnyH_take (i := 0) (oi := ({ dst := some 17, op := Op.move (Operand.tmp 0), type := 23, pos := _, after := _, guard := none } : Oper)) (v := ?_) rfl (by kernel_rfl) (by kernel_rfl) (by kernel_rfl) (fun _ _ _ h => h) (Or.inl ⟨by rfl, ?_⟩) hSS ?_
      rotate_left
      · intro w9 hSw
        (try dsimp only at hSw)
        (try go_split_ands)
        first | (go_simp; done) | (go_simp; with_reducible rfl)
      try simp only [Act.put, List.setIfInBounds_toArray, List.set_cons_zero, List.set_cons_succ]
      refine wpAnyH_take (i := 1) (oi := ({ dst := some 18, op := Op.move (Operand.tmp 5), type := 3, pos := _, after := _, guard := none } : Oper)) (v := ?_) rfl (by kernel_rfl) (by kernel_rfl) (by kernel_rfl) (fun _ _ _ h => h) (Or.inl ⟨by rfl, ?_⟩) hSS ?_
      rotate_left
      · intro w9 hSw
        (try dsimp only at hSw)
        (try go_split_ands)
        first | (go_simp; done) | (go_simp; with_reducible rfl)
      try simp only [Act.put, List.setIfInBounds_toArray, List.set_cons_zero, List.set_cons_succ]
      refine wpAnyH_take (i := 2) (oi := ({ dst := some 19, op := Op.indexAddr 23 (Operand.tmp 17) (Operand.tmp 18), type := 0, pos := _, after := _, guard := none } : Oper)) (v := ?_) rfl (by kernel_rfl) (by kernel_rfl) (by kernel_rfl) (fun _ _ _ h => h) (Or.inl ⟨by rfl, ?_⟩) hSS ?_
      rotate_left
      · intro w9 hSw
        (try dsimp only at hSw)
        (try go_split_ands)
        first | (go_simp; done) | (go_simp; with_reducible rfl)
      try simp only [Act.put, List.setIfInBounds_toArray, List.set_cons_zero, List.set_cons_succ]
      refine wpAnyH_take (i := 3) (oi := ({ dst := some 20, op := Op.load 29 (Operand.tmp 19), type := 29, pos := _, after := _, guard := none } : Oper)) (v := ?_) rfl (by kernel_rfl) (by kernel_rfl) (by kernel_rfl) (fun _ _ _ h => h) (Or.inl ⟨by rfl, ?_⟩) hSS ?_
      rotate_left
      · intro w9 hSw
        (try dsimp only at hSw)
        (try go_split_ands)
        first | (go_simp; done) | (go_simp; with_reducible rfl)
      try simp only [Act.put, List.setIfInBounds_toArray, List.set_cons_zero, List.set_cons_succ]
      refine wpAnyH_take (i := 4) (oi := ({ dst := some 21, op := Op.move (Operand.tmp 1), type := 23, pos := _, after := _, guard := none } : Oper)) (v := ?_) rfl (by kernel_rfl) (by kernel_rfl) (by kernel_rfl) (fun _ _ _ h => h) (Or.inl ⟨by rfl, ?_⟩) hSS ?_
      rotate_left
      · intro w9 hSw
        (try dsimp only at hSw)
        (try go_split_ands)
        first | (go_simp; done) | (go_simp; with_reducible rfl)
      try simp only [Act.put, List.setIfInBounds_toArray, List.set_cons_zero, List.set_cons_succ]
      refine wpAnyH_take (i := 5) (oi := ({ dst := some 22, op := Op.move (Operand.tmp 5), type := 3, pos := _, after := _, guard := none } : Oper)) (v := ?_) rfl (by kernel_rfl) (by kernel_rfl) (by kernel_rfl) (fun _ _ _ h => h) (Or.inl ⟨by rfl, ?_⟩) hSS ?_
      rotate_left
      · intro w9 hSw
        (try dsimp only at hSw)
        (try go_split_ands)
        first | (go_simp; done) | (go_simp; with_reducible rfl)
      try simp only [Act.put, List.setIfInBounds_toArray, List.set_cons_zero, List.set_cons_succ]
      refine wpAnyH_take (i := 6) (oi := ({ dst := some 23, op := Op.indexAddr 23 (Operand.tmp 21) (Operand.tmp 22), type := 0, pos := _, after := _, guard := none } : Oper)) (v := ?_) rfl (by kernel_rfl) (by kernel_rfl) (by kernel_rfl) (fun _ _ _ h => h) (Or.inl ⟨by rfl, ?_⟩) hSS ?_
      rotate_left
      · intro w9 hSw
        (try dsimp only at hSw)
        (try go_split_ands)
        first | (go_simp; done) | (go_simp; with_reducible rfl)
      try simp only [Act.put, List.setIfInBounds_toArray, List.set_cons_zero, List.set_cons_succ]
      refine wpAnyH_take (i := 7) (oi := ({ dst := some 24, op := Op.load 29 (Operand.tmp 23), type := 29, pos := _, after := _, guard := none } : Oper)) (v := ?_) rfl (by kernel_rfl) (by kernel_rfl) (by kernel_rfl) (fun _ _ _ h => h) (Or.inl ⟨by rfl, ?_⟩) hSS ?_
      rotate_left
      · intro w9 hSw
        (try dsimp only at hSw)
        (try go_split_ands)
        first | (go_simp; done) | (go_simp; with_reducible rfl)
      try simp only [Act.put, List.setIfInBounds_toArray, List.set_cons_zero, List.set_cons_succ]
      refine wpAnyH_ready (rs := [8]) (by kernel_rfl) (by simp) (AllReadyH.cons (o := ({ dst := some 25, op := Op.call { callee := Callee.value (Operand.func 18), args := #[Operand.tmp 20, Operand.tmp 24], argTypes := #[29, 29] }, type := 4, pos := _, after := _, guard := none } : Oper)) rfl (fun K9 hK9 => ?_) AllReadyH.nil)
      go_simp
      go_at_call 18
      refine Calls.mono H18.out ?_
      rintro e w9x ⟨rfl, h⟩
      have HB9 := hid h
      clear h H18
      refine hK9.out _ _ (HKS.out _ HB9.out) (fun hSS => ?_)
      clear hK9 K9
      try simp only [Act.put, List.setIfInBounds_toArray, List.set_cons_zero, List.set_cons_succ]
      refine wpAnyH_take (i := 9) (oi := ({ dst := some 26, op := Op.unOp UnOp.not 4 (Operand.tmp 25), type := 4, pos := _, after := _, guard := none } : Oper)) (v := ?_) rfl (by kernel_rfl) (by kernel_rfl) (by kernel_rfl) (fun _ _ _ h => h) (Or.inl ⟨by rfl, ?_⟩) hSS ?_
      rotate_left
      · intro w9 hSw
        (try dsimp only at hSw)
        (try go_split_ands)
        first | (go_simp; done) | (go_simp; with_reducible rfl)
      try simp only [Act.put, List.setIfInBounds_toArray, List.set_cons_zero, List.set_cons_succ]
      refine wpAnyH_done (by kernel_rfl) ?_ _
      go_wp2_with fail
      exact ⟨⟨j + 1, by go_num, by omega, (HBe.out.trans (below_drew _ _)).trans (HB9.out.mono HBe.out.size)⟩, by simp [intOf]; omega⟩
    · have hjn' : ¬ (j : Int) < (n : Int) := by omega
      have HBe := hid hBe
      clear hBe
      go_wp2_with fail
      go_ret
      exact ⟨rfl, HBe.out⟩

end Go.Proofs.Ytoifmiloaefanaa
