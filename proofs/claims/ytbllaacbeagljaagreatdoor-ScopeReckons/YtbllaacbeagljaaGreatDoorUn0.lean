/-
  lex: written, mayBe (of what is no number).
-/
import Derived.Test.YtbllaacbeagljaaGreatDoorSc9
import Derived.Test.YtbllaacbeagljaaGreatDoorTl0
import Derived.Laws.StructEq
namespace Go.Proofs.YtbllaacbeagljaaGreatDoor
open Go.RowKit

/-- the text of a token -/
def wrL (k : Int) (l : List Int) : List Int := if k = 1 ∨ k = 4 then l else if k = 2 then 34 :: (l ++ [34]) else []
theorem cat34 (l : List Int) : ((⟨#[34]⟩ : ByteArray) ++ strOfNums l ++ (⟨#[34]⟩ : ByteArray)) = strOfNums (34 :: (l ++ [34])) := by
  apply ByteArray.ext
  simp [strOfNums]
set_option maxRecDepth 100000 in
set_option maxHeartbeats 2000000 in
theorem written_any (k : Int) (l : List Int) (n a : Int) (w : World) (hk : k ≠ 3) (hl : l.length ≤ 140737488355328) : Calls Tryz.prog 148 #[.agg (tcs k (strOfNums l) n a)] w fun e w' => e = .returned (.string (strOfNums (wrL k l))) ∧ Below w.heap.size w w' := by
  have hsz := str_size l
  have HB := hid (below1 w (.cells (tcs k (strOfNums l) n a) 227))
  unfold wrL
  by_cases k1 : k = 1
  · subst k1
    rw [if_pos (.inl rfl)]
    generalize strOfNums l = S at *
    go_enter Tryz.func148, Tryz.ntmps148
    go_wp2
    go_ret
    exact ⟨rfl, HB.out⟩
  by_cases k4 : k = 4
  · subst k4
    rw [if_pos (.inr rfl)]
    generalize strOfNums l = S at *
    go_enter Tryz.func148, Tryz.ntmps148
    go_wp2
    go_ret
    exact ⟨rfl, HB.out⟩
  rw [if_neg (by omega)]
  by_cases k2 : k = 2
  · subst k2
    rw [if_pos rfl, ← cat34]
    generalize strOfNums l = S at *
    have hs1 : S.size ≤ 140737488355328 := by omega
    go_enter Tryz.func148, Tryz.ntmps148
    go_wp2
    go_ret
    exact ⟨rfl, HB.out⟩
  rw [if_neg k2]
  have e0 : strOfNums [] = sE := rfl
  rw [e0]
  generalize strOfNums l = S at *
  go_enter Tryz.func148, Tryz.ntmps148
  go_wp2
  go_ret
  exact ⟨rfl, HB.out⟩

set_option maxRecDepth 100000 in
set_option maxHeartbeats 4000000 in
theorem eq29_same (k n a : Int) (s : ByteArray) (w : World) : (binOp .eql 227 (.agg #[.int .i64 k, .string s, .int .i64 n, .int .i64 a]) (.agg #[.int .i64 k, .string s, .int .i64 n, .int .i64 a])).run Tryz.prog w = .ok (.bool true) w := by
  have hp : Tryz.prog.stoodInHeld 227 = false := by kernel_rfl
  simp [go_sem, Tryz.underlying227, Tryz.underlying3, Tryz.underlying9, hp]

theorem str_ne {l : List Int} (h : l ≠ []) : ((strOfNums l).toList == ([] : List UInt8)) = false := by
  rw [Lib.strOfNums_toList]
  cases l with
  | nil => exact absurd rfl h
  | cons z r => rfl
set_option maxRecDepth 100000 in
set_option maxHeartbeats 4000000 in
theorem mayBe_yes (k : Int) (l : List Int) (n a : Int) (w : World) (hk : k ≠ 3) (hB : Pl.isB (wrL k l)) (hl : l.length ≤ 16777200) (h0 : wrL k l ≠ []) (to : Nat) (ht : tokA (wrL k l) 0 = (⟨k, l, n, 0⟩, to, 0)) :
    Calls Tryz.prog 139 #[.agg (tcs k (strOfNums l) n a)] w fun e w' => e = .returned (.bool true) ∧ Below w.heap.size w w' := by
  have hwl : (wrL k l).length ≤ 16777216 := by
    unfold wrL
    split
    · omega
    split
    · simp; omega
    · simp
  have hlen : 0 < (wrL k l).length := List.length_pos_iff.2 h0
  obtain ⟨W1, hW1⟩ : ∃ W1, W1 = w.alloc (.cells (tcs k (strOfNums l) n a) 227) := ⟨_, rfl⟩
  obtain ⟨b1, hb1⟩ : ∃ b1, b1 = w.heap.size := ⟨_, rfl⟩
  have r1 : TkB W1 b1 k (strOfNums l) n a := by rw [hW1, hb1]; exact heap_new _ _
  have bl1 : Below w.heap.size w W1 := by rw [hW1]; exact below1 _ _
  have z1 : W1.heap.size = w.heap.size + 1 := by rw [hW1]; simp
  have hne := str_ne h0
  have HM : Hid (Calls Tryz.prog 148 #[.agg (tcs k (strOfNums l) n a)] W1 fun e w2 => e = .returned (.string (strOfNums (wrL k l))) ∧ ∀ W3, W3 = w2.alloc (.cells #[.string (strOfNums (wrL k l)), .int .i64 0] 245) →
      Calls Tryz.prog 149 #[.pointer (some ⟨w2.heap.size, 0, none⟩)] W3 fun e w4 => e = .returned (.tuple #[.agg (tcs k (strOfNums l) n 0), .int .i64 0]) ∧ ∀ W5, W5 = w4.alloc (.cells (tcs k (strOfNums l) n 0) 227) → TkB W5 b1 k (strOfNums l) n a ∧ TkB (W5.setCell ⟨b1, 3, none⟩ (.int .i64 0)) b1 k (strOfNums l) n 0 ∧ TkB (W5.setCell ⟨b1, 3, none⟩ (.int .i64 0)) w4.heap.size k (strOfNums l) n 0 ∧ Below w.heap.size w (W5.setCell ⟨b1, 3, none⟩ (.int .i64 0))) := by
    refine (written_any k l n a W1 hk (by omega)).mono ?_
    rintro e w2 ⟨rfl, bl2⟩
    refine ⟨rfl, fun W3 hW3 => ?_⟩
    have bl3 : Below w2.heap.size w2 W3 := by rw [hW3]; exact below1 _ _
    have z2 := bl2.size
    have z3 := bl3.size
    have s3 : Scn W3 w2.heap.size (strOfNums (wrL k l)) 0 := by
      unfold Scn
      rw [hW3]
      exact heap_new _ _
    refine (token_any hB hwl hlen s3).mono ?_
    rw [ht]
    rintro e w4 ⟨rfl, _, hb4⟩
    refine ⟨rfl, fun W5 hW5 => ?_⟩
    have bl5 : Below w4.heap.size w4 W5 := by rw [hW5]; exact below1 _ _
    have z4 := hb4.size
    have r3 : TkB W3 b1 k (strOfNums l) n a := (r1.keep (bl2.block b1 r1.lt)).keep (bl3.block b1 (by have := r1.lt; omega))
    have r4 := r3.keep (hb4.block b1 r3.lt (by omega))
    have r5 := r4.keep (bl5.block b1 r4.lt)
    have q5 : TkB W5 w4.heap.size k (strOfNums l) n 0 := by rw [hW5]; exact heap_new _ _
    have hb6 : But (fun x => x = b1) W5 (W5.setCell ⟨b1, 3, none⟩ (.int .i64 0)) := set_but _ _ _ _ rfl
    refine ⟨r5, r5.set (k' := k) (s' := strOfNums l) (n' := n) (a' := 0) 3 (.int .i64 0) rfl, q5.keep (hb6.block _ q5.lt (by have := r4.lt; omega)), ?_⟩
    have hbel4 : Below w.heap.size w w4 := ((bl1.trans (bl2.mono (by omega))).trans (bl3.mono (by omega))).trans (hb4.below (by omega) (fun x hx e => by omega))
    exact (hbel4.trans (bl5.mono (by omega))).trans (hb6.below (by have := bl5.size; omega) (fun x hx e => by omega))
  have HW1 := hid hW1
  have HB1 := hid hb1
  have heq := fun (u : World) => eq29_same k n 0 (strOfNums l) u
  clear ht h0 hB hl hwl hlen hW1 hb1 r1 bl1 z1
  generalize strOfNums (wrL k l) = U at *
  generalize strOfNums l = S at *
  go_enter Tryz.func139, Tryz.ntmps139
  go_wp2_with fail
  rw [← HW1.out, ← HB1.out]
  refine Calls.mono HM.out ?_
  rintro e w2 ⟨rfl, h3⟩
  obtain ⟨W3, hW3⟩ : ∃ W3, W3 = w2.alloc (.cells #[.string U, .int .i64 0] 245) := ⟨_, rfl⟩
  have H3 := hid (h3 W3 hW3)
  have HW3 := hid hW3
  clear h3 hW3 HM
  go_wp2_with fail
  rw [← HW3.out]
  refine Calls.mono H3.out ?_
  rintro e w4 ⟨rfl, h5⟩
  have H5 := hid (h5 _ rfl)
  clear h5 H3
  have t0 := H5.out.1.cell 3 _ rfl
  have t1 := H5.out.1.fz 3
  have u0 := H5.out.2.1.cell 0 _ rfl
  have u1 := H5.out.2.1.cell 1 _ rfl
  have u2 := H5.out.2.1.cell 2 _ rfl
  have u3 := H5.out.2.1.cell 3 _ rfl
  have v0 := H5.out.2.2.1.cell 0 _ rfl
  have v1 := H5.out.2.2.1.cell 1 _ rfl
  have v2 := H5.out.2.2.1.cell 2 _ rfl
  have v3 := H5.out.2.2.1.cell 3 _ rfl
  go_wp2_with fail
  go_ret
  exact ⟨rfl, H5.out.2.2.2⟩

end Go.Proofs.YtbllaacbeagljaaGreatDoor
