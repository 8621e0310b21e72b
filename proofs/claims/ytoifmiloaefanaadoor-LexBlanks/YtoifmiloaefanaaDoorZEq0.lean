import Derived.Test.YtoifmiloaefanaaDoorZIo0
/-
  Two tokens, told apart.
-/
namespace Go.Proofs.YtoifmiloaefanaaDoor
open Go.RowKit

set_option maxRecDepth 100000 in
set_option maxHeartbeats 4000000 in
theorem eq29_any (k n a k' n' a' : Int) (s s' : ByteArray) (w : World) : (binOp .eql 29 (.agg #[.int .i64 k, .string s, .int .i64 n, .int .i64 a]) (.agg #[.int .i64 k', .string s', .int .i64 n', .int .i64 a'])).run Tryd.prog w = .ok (.bool (k == k' && (s.toList == s'.toList && (n == n' && a == a')))) w := by
  have hp : Tryd.prog.stoodInHeld 29 = false := by kernel_rfl
  by_cases h1 : k = k' <;> by_cases h2 : s.toList = s'.toList <;> by_cases h3 : n = n' <;> by_cases h4 : a = a' <;>
  simp [go_sem, Tryd.underlying29, Tryd.underlying3, Tryd.underlying9, hp, h1, h2, h3, h4]

end Go.Proofs.YtoifmiloaefanaaDoor
/-
  lex: mayBe, of any token.
-/
namespace Go.Proofs.YtoifmiloaefanaaDoor
open Go.RowKit

/-- what the program reads out of a text -/
def rdT (l : List Int) : Tk × Nat × Int := tokA l 0
/-- may it be? -/
def mbT (t : Tk) : Bool := if wrT t = [] then false else if (rdT (wrT t)).2.2 = 0 then ((rdT (wrT t)).1.k == t.k && ((strOfNums (rdT (wrT t)).1.tx).toList == (strOfNums t.tx).toList && ((rdT (wrT t)).1.n == t.n && (rdT (wrT t)).1.a == 0))) else false
set_option maxRecDepth 100000 in
set_option maxHeartbeats 2000000 in
theorem mayBe_any (t : Tk) (w : World) (hG : GT w) (hB : Pl.isB (wrT t)) (hwl : (wrT t).length ≤ 16777216) (h0 : -9223372036854775808 ≤ t.n) (h1 : t.n ≤ 9223372036854775807) (hl : t.tx.length ≤ 140737488355328) : Mb18 w (tokV t) (mbT t) := by
  obtain ⟨W1, hW1⟩ : ∃ W1, W1 = w.alloc (.cells (tcs t.k (strOfNums t.tx) t.n t.a) 29) := ⟨_, rfl⟩
  obtain ⟨b1, hb1⟩ : ∃ b1, b1 = w.heap.size := ⟨_, rfl⟩
  have r1 : TkB W1 b1 t.k (strOfNums t.tx) t.n t.a := by rw [hW1, hb1]; exact heap_new _ _
  have bl1 : Below w.heap.size w W1 := by rw [hW1]; exact below1 _ _
  have z1 : W1.heap.size = w.heap.size + 1 := by rw [hW1]; simp
  have hw := written_all t W1 (hG.next bl1) h0 h1 hl
  unfold Mb18 mbT
  by_cases he : wrT t = []
  · rw [if_pos he]
    rw [he] at hw
    have HC : Hid (Calls Tryd.prog 28 #[tokV t] W1 fun e w2 => e = .returned (.string ⟨#[]⟩) ∧ Below w.heap.size w w2) := by
      refine hw.mono ?_
      rintro e w2 ⟨rfl, b2⟩
      exact ⟨rfl, bl1.trans (b2.mono (by omega))⟩
    have HW1 := hid hW1
    clear hw hB hwl h0 h1 hl he r1 bl1 z1 hW1 hb1 hG
    obtain ⟨k, l, n, a⟩ := t
    simp only [tokV] at HC HW1 ⊢
    generalize strOfNums l = S at *
    go_enter Tryd.func18, Tryd.ntmps18
    go_wp2_with fail
    rw [← HW1.out]
    refine Calls.mono HC.out ?_
    rintro e w2 ⟨rfl, h⟩
    have H := hid h
    clear h HC
    go_wp2_with fail
    go_ret
    exact ⟨rfl, H.out⟩
  rw [if_neg he]
  have hlen : 0 < (wrT t).length := List.length_pos_iff.2 he
  have hne := str_ne he
  obtain ⟨r, hr⟩ : ∃ r, r = rdT (wrT t) := ⟨_, rfl⟩
  rw [← hr]
  have HM : Hid (Calls Tryd.prog 28 #[tokV t] W1 fun e w2 => e = .returned (.string (strOfNums (wrT t))) ∧ ∀ W3, W3 = w2.alloc (.cells #[.string (strOfNums (wrT t)), .int .i64 0] 44) →
      Calls Tryd.prog 29 #[.pointer (some ⟨w2.heap.size, 0, none⟩)] W3 fun e w4 => e = .returned (.tuple #[tokV r.1, .int .i64 r.2.2]) ∧ ∀ W5, W5 = w4.alloc (.cells (tcs r.1.k (strOfNums r.1.tx) r.1.n r.1.a) 29) → TkB W5 b1 t.k (strOfNums t.tx) t.n t.a ∧ TkB (W5.setCell ⟨b1, 3, none⟩ (.int .i64 0)) b1 t.k (strOfNums t.tx) t.n 0 ∧ TkB (W5.setCell ⟨b1, 3, none⟩ (.int .i64 0)) w4.heap.size r.1.k (strOfNums r.1.tx) r.1.n r.1.a ∧ Below w.heap.size w (W5.setCell ⟨b1, 3, none⟩ (.int .i64 0))) := by
    refine hw.mono ?_
    rintro e w2 ⟨rfl, bl2⟩
    refine ⟨rfl, fun W3 hW3 => ?_⟩
    have bl3 : Below w2.heap.size w2 W3 := by rw [hW3]; exact below1 _ _
    have z2 := bl2.size
    have z3 := bl3.size
    have s3 : Scn W3 w2.heap.size (strOfNums (wrT t)) 0 := by
      unfold Scn
      rw [hW3]
      exact heap_new _ _
    refine (token_any hB hwl hlen s3).mono ?_
    rw [show tokA (wrT t) 0 = r from hr.symm]
    rintro e w4 ⟨rfl, _, hb4⟩
    refine ⟨rfl, fun W5 hW5 => ?_⟩
    have bl5 : Below w4.heap.size w4 W5 := by rw [hW5]; exact below1 _ _
    have z4 := hb4.size
    have r3 : TkB W3 b1 t.k (strOfNums t.tx) t.n t.a := (r1.keep (bl2.block b1 r1.lt)).keep (bl3.block b1 (by have := r1.lt; omega))
    have r4 := r3.keep (hb4.block b1 r3.lt (by omega))
    have r5 := r4.keep (bl5.block b1 r4.lt)
    have q5 : TkB W5 w4.heap.size r.1.k (strOfNums r.1.tx) r.1.n r.1.a := by rw [hW5]; exact heap_new _ _
    have hb6 : But (fun x => x = b1) W5 (W5.setCell ⟨b1, 3, none⟩ (.int .i64 0)) := set_but _ _ _ _ rfl
    refine ⟨r5, r5.set (k' := t.k) (s' := strOfNums t.tx) (n' := t.n) (a' := 0) 3 (.int .i64 0) rfl, q5.keep (hb6.block _ q5.lt (by have := r4.lt; omega)), ?_⟩
    have hbel4 : Below w.heap.size w w4 := ((bl1.trans (bl2.mono (by omega))).trans (bl3.mono (by omega))).trans (hb4.below (by omega) (fun x hx e => by omega))
    exact (hbel4.trans (bl5.mono (by omega))).trans (hb6.below (by have := bl5.size; omega) (fun x hx e => by omega))
  have HW1 := hid hW1
  have HB1 := hid hb1
  clear hr hw he hB hwl hlen hW1 hb1 r1 bl1 z1 h0 h1 hl hG
  generalize wrT t = ws at *
  obtain ⟨⟨k', l', n', a'⟩, to, ec⟩ := r
  obtain ⟨k, l, n, a⟩ := t
  simp only [tokV] at HM HW1 ⊢
  generalize strOfNums ws = U at *
  generalize strOfNums l = S at *
  generalize strOfNums l' = S' at *
  have heq := fun (u : World) => eq29_any k' n' a' k n 0 S' S u
  by_cases hec : ec = 0
  · rw [if_pos hec]
    subst hec
    go_enter Tryd.func18, Tryd.ntmps18
    go_wp2_with fail
    rw [← HW1.out, ← HB1.out]
    refine Calls.mono HM.out ?_
    rintro e w2 ⟨rfl, h3⟩
    obtain ⟨W3, hW3⟩ : ∃ W3, W3 = w2.alloc (.cells #[.string U, .int .i64 0] 44) := ⟨_, rfl⟩
    have H3 := hid (h3 W3 hW3)
    have HW3 := hid hW3
    clear h3 hW3 HM
    go_wp2_with fail
    rw [← HW3.out]
    refine Calls.mono H3.out ?_
    rintro e w4 ⟨rfl, h5⟩
    have H5 := hid (h5 _ rfl)
    clear h5 H3
    have t0 := H5.out.1.cell 3 _ rfl
    have t1 := H5.out.1.fz 3
    have u0 := H5.out.2.1.cell 0 _ rfl
    have u1 := H5.out.2.1.cell 1 _ rfl
    have u2 := H5.out.2.1.cell 2 _ rfl
    have u3 := H5.out.2.1.cell 3 _ rfl
    have v0 := H5.out.2.2.1.cell 0 _ rfl
    have v1 := H5.out.2.2.1.cell 1 _ rfl
    have v2 := H5.out.2.2.1.cell 2 _ rfl
    have v3 := H5.out.2.2.1.cell 3 _ rfl
    go_wp2_with fail
    go_ret
    exact ⟨rfl, H5.out.2.2.2⟩
  · rw [if_neg hec]
    go_enter Tryd.func18, Tryd.ntmps18
    go_wp2_with fail
    rw [← HW1.out, ← HB1.out]
    refine Calls.mono HM.out ?_
    rintro e w2 ⟨rfl, h3⟩
    obtain ⟨W3, hW3⟩ : ∃ W3, W3 = w2.alloc (.cells #[.string U, .int .i64 0] 44) := ⟨_, rfl⟩
    have H3 := hid (h3 W3 hW3)
    have HW3 := hid hW3
    clear h3 hW3 HM
    go_wp2_with fail
    rw [← HW3.out]
    refine Calls.mono H3.out ?_
    rintro e w4 ⟨rfl, h5⟩
    have H5 := hid (h5 _ rfl)
    clear h5 H3
    have t0 := H5.out.1.cell 3 _ rfl
    have t1 := H5.out.1.fz 3
    go_wp2_with fail
    go_ret
    exact ⟨rfl, H5.out.2.2.2⟩

end Go.Proofs.YtoifmiloaefanaaDoor
/-
  lex: Untoken, of any tokens.
-/
namespace Go.Proofs.YtoifmiloaefanaaDoor
open Go.RowKit

/-- what Untoken answers -/
def untQ (ts : List Tk) : List Int × Int := if 16384 < ts.length then ([], 184) else if ts.all mbT = true then jnQ (ts.map wrT) else ([], 185)
/-- tokens within bounds -/
def TkG (t : Tk) : Prop := Pl.isB (wrT t) ∧ (wrT t).length ≤ 16777216 ∧ -9223372036854775808 ≤ t.n ∧ t.n ≤ 9223372036854775807 ∧ t.tx.length ≤ 140737488355328
theorem first_no : ∀ (ts : List Tk), ¬ ts.all mbT = true → ∃ m, ∃ hm : m < ts.length, mbT ts[m] = false ∧ ∀ j (hj : j < m), mbT (ts[j]'(by omega)) = true
  | [], h => by simp at h
  | t :: ts, h => by
    cases ht : mbT t with
    | false => exact ⟨0, by simp, by simpa using ht, fun j hj => by omega⟩
    | true =>
      have h' : ¬ ts.all mbT = true := by simpa [ht] using h
      obtain ⟨m, hm, h1, h2⟩ := first_no ts h'
      refine ⟨m + 1, by simp; omega, by simpa using h1, fun j hj => ?_⟩
      cases j with
      | zero => simpa using ht
      | succ j => simpa using h2 j (by omega)
theorem Untoken_all (a : Option Addr) (n c : Nat) (ts : List Tk) (w : World) (hn : ts.length = n) (hR : TkR w a ts) (hG : GT w) (hb : ∀ t ∈ ts, TkG t) :
    Calls Tryd.prog 9 #[.slice a n c] w fun e w' => e = .returned (.tuple #[.string (strOfNums (untQ ts).1), .int .i64 (untQ ts).2]) ∧ Below w.heap.size w w' := by
  have hmb : ∀ t ∈ ts, ∀ w', Below w.heap.size w w' → Mb18 w' (tokV t) (mbT t) := fun t ht w' h => by
    obtain ⟨g1, g2, g3, g4, g5⟩ := hb t ht
    exact mayBe_any t w' (hG.next h) g1 g2 g3 g4 g5
  have hwr : ∀ t ∈ ts, ∀ w', Below w.heap.size w w' → Wr28 w' (tokV t) (wrT t) := fun t ht w' h => by
    obtain ⟨g1, g2, g3, g4, g5⟩ := hb t ht
    exact written_all t w' (hG.next h) g3 g4 g5
  unfold untQ
  by_cases h1 : 16384 < ts.length
  · rw [if_pos h1]
    refine (Untoken_many a n c w (by omega)).mono ?_
    rintro e w' ⟨rfl, rfl⟩
    exact ⟨rfl, Below.refl _ _⟩
  rw [if_neg h1]
  by_cases h2 : ts.all mbT = true
  · rw [if_pos h2]
    have h2' := List.all_eq_true.1 h2
    refine Untoken_yes a n c ts w hn hR (by omega) (jnQ (ts.map wrT)).1 (jnQ (ts.map wrT)).2 (fun j hj w' hw => ?_) (fun w' hw => ?_)
    · have := hmb _ (List.getElem_mem hj) w' hw
      rw [h2' _ (List.getElem_mem hj)] at this
      exact this
    · refine joined_any a n c ts (ts.map wrT) w' hn (by simpa using hn) (hR.next hw) (by omega) (fun j hj hj' w'' hw' => ?_) (fun l hl => ?_)
      · rw [List.getElem_map]
        exact hwr _ (List.getElem_mem hj) w'' (hw.trans (hw'.mono hw.size))
      · obtain ⟨t, ht, rfl⟩ := List.mem_map.1 hl
        exact (hb t ht).2.1
  · rw [if_neg h2]
    obtain ⟨m, hm, h3, h4⟩ := first_no ts h2
    refine Untoken_no a n c ts w hn hR (by omega) m (by omega) (fun j hj w' hjm hw => ?_)
    have := hmb _ (List.getElem_mem hj) w' hw
    by_cases q : j < m
    · rw [h4 j q] at this
      rw [decide_eq_true q]
      exact this
    · obtain rfl : j = m := by omega
      rw [h3] at this
      rw [decide_eq_false q]
      exact this

end Go.Proofs.YtoifmiloaefanaaDoor
