/-
  lex: mayBe, of any token.
-/
import Derived.Test.YtbllaacbeagljaaGreatDoorEq0
namespace Go.Proofs.YtbllaacbeagljaaGreatDoor
open Go.RowKit

/-- what the program reads out of a text -/
def rdT (l : List Int) : Tk × Nat × Int := tokA l 0
/-- may it be? -/
def mbT (t : Tk) : Bool := if wrL t.k t.tx = [] then false else if (rdT (wrL t.k t.tx)).2.2 = 0 then ((rdT (wrL t.k t.tx)).1.k == t.k && ((strOfNums (rdT (wrL t.k t.tx)).1.tx).toList == (strOfNums t.tx).toList && ((rdT (wrL t.k t.tx)).1.n == t.n && (rdT (wrL t.k t.tx)).1.a == 0))) else false
set_option maxRecDepth 100000 in
set_option maxHeartbeats 2000000 in
theorem mayBe_any (t : Tk) (w : World) (hk3 : t.k ≠ 3) (hB : Pl.isB (wrL t.k t.tx)) (hwl : (wrL t.k t.tx).length ≤ 16777216) (hl : t.tx.length ≤ 140737488355328) : Mb18 w (tokV t) (mbT t) := by
  obtain ⟨W1, hW1⟩ : ∃ W1, W1 = w.alloc (.cells (tcs t.k (strOfNums t.tx) t.n t.a) 227) := ⟨_, rfl⟩
  obtain ⟨b1, hb1⟩ : ∃ b1, b1 = w.heap.size := ⟨_, rfl⟩
  have r1 : TkB W1 b1 t.k (strOfNums t.tx) t.n t.a := by rw [hW1, hb1]; exact heap_new _ _
  have bl1 : Below w.heap.size w W1 := by rw [hW1]; exact below1 _ _
  have z1 : W1.heap.size = w.heap.size + 1 := by rw [hW1]; simp
  have hw := written_any t.k t.tx t.n t.a W1 hk3 hl
  unfold Mb18 mbT
  by_cases he : wrL t.k t.tx = []
  · rw [if_pos he]
    rw [he] at hw
    have HC : Hid (Calls Tryz.prog 148 #[tokV t] W1 fun e w2 => e = .returned (.string ⟨#[]⟩) ∧ Below w.heap.size w w2) := by
      refine hw.mono ?_
      rintro e w2 ⟨rfl, b2⟩
      exact ⟨rfl, bl1.trans (b2.mono (by omega))⟩
    have HW1 := hid hW1
    clear hw hB hwl hl he r1 bl1 z1 hW1 hb1
    obtain ⟨k, l, n, a⟩ := t
    simp only [tokV] at HC HW1 ⊢
    generalize strOfNums l = S at *
    go_enter Tryz.func139, Tryz.ntmps139
    go_wp2_with fail
    rw [← HW1.out]
    refine Calls.mono HC.out ?_
    rintro e w2 ⟨rfl, h⟩
    have H := hid h
    clear h HC
    go_wp2_with fail
    go_ret
    exact ⟨rfl, H.out⟩
  rw [if_neg he]
  have hlen : 0 < (wrL t.k t.tx).length := List.length_pos_iff.2 he
  have hne := str_ne he
  obtain ⟨r, hr⟩ : ∃ r, r = rdT (wrL t.k t.tx) := ⟨_, rfl⟩
  rw [← hr]
  have HM : Hid (Calls Tryz.prog 148 #[tokV t] W1 fun e w2 => e = .returned (.string (strOfNums (wrL t.k t.tx))) ∧ ∀ W3, W3 = w2.alloc (.cells #[.string (strOfNums (wrL t.k t.tx)), .int .i64 0] 245) →
      Calls Tryz.prog 149 #[.pointer (some ⟨w2.heap.size, 0, none⟩)] W3 fun e w4 => e = .returned (.tuple #[tokV r.1, .int .i64 r.2.2]) ∧ ∀ W5, W5 = w4.alloc (.cells (tcs r.1.k (strOfNums r.1.tx) r.1.n r.1.a) 227) → TkB W5 b1 t.k (strOfNums t.tx) t.n t.a ∧ TkB (W5.setCell ⟨b1, 3, none⟩ (.int .i64 0)) b1 t.k (strOfNums t.tx) t.n 0 ∧ TkB (W5.setCell ⟨b1, 3, none⟩ (.int .i64 0)) w4.heap.size r.1.k (strOfNums r.1.tx) r.1.n r.1.a ∧ Below w.heap.size w (W5.setCell ⟨b1, 3, none⟩ (.int .i64 0))) := by
    refine hw.mono ?_
    rintro e w2 ⟨rfl, bl2⟩
    refine ⟨rfl, fun W3 hW3 => ?_⟩
    have bl3 : Below w2.heap.size w2 W3 := by rw [hW3]; exact below1 _ _
    have z2 := bl2.size
    have z3 := bl3.size
    have s3 : Scn W3 w2.heap.size (strOfNums (wrL t.k t.tx)) 0 := by
      unfold Scn
      rw [hW3]
      exact heap_new _ _
    refine (token_any hB hwl hlen s3).mono ?_
    rw [show tokA (wrL t.k t.tx) 0 = r from hr.symm]
    rintro e w4 ⟨rfl, _, hb4⟩
    refine ⟨rfl, fun W5 hW5 => ?_⟩
    have bl5 : Below w4.heap.size w4 W5 := by rw [hW5]; exact below1 _ _
    have z4 := hb4.size
    have r3 : TkB W3 b1 t.k (strOfNums t.tx) t.n t.a := (r1.keep (bl2.block b1 r1.lt)).keep (bl3.block b1 (by have := r1.lt; omega))
    have r4 := r3.keep (hb4.block b1 r3.lt (by omega))
    have r5 := r4.keep (bl5.block b1 r4.lt)
    have q5 : TkB W5 w4.heap.size r.1.k (strOfNums r.1.tx) r.1.n r.1.a := by rw [hW5]; exact heap_new _ _
    have hb6 : But (fun x => x = b1) W5 (W5.setCell ⟨b1, 3, none⟩ (.int .i64 0)) := set_but _ _ _ _ rfl
    refine ⟨r5, r5.set (k' := t.k) (s' := strOfNums t.tx) (n' := t.n) (a' := 0) 3 (.int .i64 0) rfl, q5.keep (hb6.block _ q5.lt (by have := r4.lt; omega)), ?_⟩
    have hbel4 : Below w.heap.size w w4 := ((bl1.trans (bl2.mono (by omega))).trans (bl3.mono (by omega))).trans (hb4.below (by omega) (fun x hx e => by omega))
    exact (hbel4.trans (bl5.mono (by omega))).trans (hb6.below (by have := bl5.size; omega) (fun x hx e => by omega))
  have HW1 := hid hW1
  have HB1 := hid hb1
  clear hr hw he hB hwl hlen hW1 hb1 r1 bl1 z1 hl
  generalize wrL t.k t.tx = ws at *
  obtain ⟨⟨k', l', n', a'⟩, to, ec⟩ := r
  obtain ⟨k, l, n, a⟩ := t
  simp only [tokV] at HM HW1 ⊢
  generalize strOfNums ws = U at *
  generalize strOfNums l = S at *
  generalize strOfNums l' = S' at *
  have heq := fun (u : World) => eq29_any k' n' a' k n 0 S' S u
  by_cases hec : ec = 0
  · rw [if_pos hec]
    subst hec
    go_enter Tryz.func139, Tryz.ntmps139
    go_wp2_with fail
    rw [← HW1.out, ← HB1.out]
    refine Calls.mono HM.out ?_
    rintro e w2 ⟨rfl, h3⟩
    obtain ⟨W3, hW3⟩ : ∃ W3, W3 = w2.alloc (.cells #[.string U, .int .i64 0] 245) := ⟨_, rfl⟩
    have H3 := hid (h3 W3 hW3)
    have HW3 := hid hW3
    clear h3 hW3 HM
    go_wp2_with fail
    rw [← HW3.out]
    refine Calls.mono H3.out ?_
    rintro e w4 ⟨rfl, h5⟩
    have H5 := hid (h5 _ rfl)
    clear h5 H3
    have t0 := H5.out.1.cell 3 _ rfl
    have t1 := H5.out.1.fz 3
    have u0 := H5.out.2.1.cell 0 _ rfl
    have u1 := H5.out.2.1.cell 1 _ rfl
    have u2 := H5.out.2.1.cell 2 _ rfl
    have u3 := H5.out.2.1.cell 3 _ rfl
    have v0 := H5.out.2.2.1.cell 0 _ rfl
    have v1 := H5.out.2.2.1.cell 1 _ rfl
    have v2 := H5.out.2.2.1.cell 2 _ rfl
    have v3 := H5.out.2.2.1.cell 3 _ rfl
    go_wp2_with fail
    go_ret
    exact ⟨rfl, H5.out.2.2.2⟩
  · rw [if_neg hec]
    go_enter Tryz.func139, Tryz.ntmps139
    go_wp2_with fail
    rw [← HW1.out, ← HB1.out]
    refine Calls.mono HM.out ?_
    rintro e w2 ⟨rfl, h3⟩
    obtain ⟨W3, hW3⟩ : ∃ W3, W3 = w2.alloc (.cells #[.string U, .int .i64 0] 245) := ⟨_, rfl⟩
    have H3 := hid (h3 W3 hW3)
    have HW3 := hid hW3
    clear h3 hW3 HM
    go_wp2_with fail
    rw [← HW3.out]
    refine Calls.mono H3.out ?_
    rintro e w4 ⟨rfl, h5⟩
    have H5 := hid (h5 _ rfl)
    clear h5 H3
    have t0 := H5.out.1.cell 3 _ rfl
    have t1 := H5.out.1.fz 3
    go_wp2_with fail
    go_ret
    exact ⟨rfl, H5.out.2.2.2⟩

end Go.Proofs.YtbllaacbeagljaaGreatDoor
