/-
  awake: the document's examples.
-/
import Derived.Test.YteaebdonnicbkaaSame
import Derived.Test.YteaebdonnicbkaaFact
namespace Go.Proofs.Yteaebdonnicbkaa
open Go.RowKit

theorem Rd.of_blk {w : World} {g : Nat} {zs : List Int} (h : Blk .u8 5 w g zs) (hb : Pl.isB zs) {B : Nat} (hB : g < B) : Rd B w (some ⟨g, 0, none⟩) zs.length zs :=
  ⟨rfl, hb, .inr ⟨g, 0, rfl, hB, fun t ht => by rw [Nat.zero_add]; exact h.cell t ht⟩⟩
theorem RdI.of_blk {w : World} {g : Nat} {zs : List Int} (h : Blk .i64 3 w g zs) {B : Nat} (hB : g < B) : RdI B w (some ⟨g, 0, none⟩) zs.length zs :=
  ⟨rfl, .inr ⟨g, 0, rfl, hB, fun t ht => by rw [Nat.zero_add]; exact h.cell t ht⟩⟩

theorem b217 : Pl.isB [2, 1, 7] := by intro z hz; simp at hz; omega
theorem b123 : Pl.isB [1, 2, 3] := by intro z hz; simp at hz; omega
theorem b19 : Pl.isB [49, 50, 51, 52, 53, 54, 55, 56, 57] := by intro z hz; simp at hz; omega
theorem crc19 : crc [49, 50, 51, 52, 53, 54, 55, 56, 57] = 3808858755 := by decide +kernel

theorem awk1 (w : World) : Calls Try.prog 18 #[.slice (some ⟨w.heap.size, 0, none⟩) 3 3, .slice (some ⟨w.heap.size + 1, 0, none⟩) 2 2]
    ((w.alloc (.cells #[.int .u8 2, .int .u8 1, .int .u8 7] 5)).alloc (.cells #[.int .i64 2, .int .i64 1] 3))
    fun e w' => ∃ g, e = .returned (.tuple #[.slice (some ⟨g, 0, none⟩) 2 2, .int .i64 0]) ∧ w.heap.size ≤ g ∧ Blk .i64 3 w' g [258, 7] ∧ Below w.heap.size w w' := by
  have h1 : Blk .u8 5 ((w.alloc (.cells #[.int .u8 2, .int .u8 1, .int .u8 7] 5)).alloc (.cells #[.int .i64 2, .int .i64 1] 3)) w.heap.size [2, 1, 7] := (Blk.new (k := .u8) (e := 5) w [2, 1, 7]).alloc _
  have h2 : Blk .i64 3 ((w.alloc (.cells #[.int .u8 2, .int .u8 1, .int .u8 7] 5)).alloc (.cells #[.int .i64 2, .int .i64 1] 3)) (w.heap.size + 1) [2, 1] := by
    have := Blk.new (k := .i64) (e := 3) (w.alloc (.cells #[.int .u8 2, .int .u8 1, .int .u8 7] 5)) [2, 1]
    rw [show (w.alloc (.cells #[.int .u8 2, .int .u8 1, .int .u8 7] 5)).heap.size = w.heap.size + 1 from by simp] at this
    exact this
  have hb := two_below w (.cells #[.int .u8 2, .int .u8 1, .int .u8 7] 5) (.cells #[.int .i64 2, .int .i64 1] 3)
  have hs : ((w.alloc (.cells #[.int .u8 2, .int .u8 1, .int .u8 7] 5)).alloc (.cells #[.int .i64 2, .int .i64 1] 3)).heap.size = w.heap.size + 2 := by simp
  generalize ((w.alloc (.cells #[.int .u8 2, .int .u8 1, .int .u8 7] 5)).alloc (.cells #[.int .i64 2, .int .i64 1] 3)) = W at *
  refine (Unpack_ok _ _ 3 3 2 2 [2, 1, 7] [2, 1] W (by decide) (by decide) (Rd.of_blk h1 b217 (by omega)) (RdI.of_blk h2 (by omega)) (by intro x hx; simp at hx; rcases hx with rfl | rfl <;> rfl) rfl ?_).mono ?_
  · intro k hk
    rcases (show k = 0 ∨ k = 1 from by omega) with rfl | rfl <;> decide
  · rintro e w' ⟨g, he, hg, hB, hb2⟩
    exact ⟨g, he, by omega, hB, hb.trans (hb2.mono (by omega))⟩

theorem awk2 (w : World) : Calls Try.prog 17 #[.slice (some ⟨w.heap.size, 0, none⟩) 2 2] (w.alloc (.cells #[.int .i64 2, .int .i64 258, .int .i64 1, .int .i64 7] 38))
    fun e w' => ∃ g, e = .returned (.tuple #[.slice (some ⟨g, 0, none⟩) 3 3, .int .i64 0]) ∧ w.heap.size ≤ g ∧ Blk .u8 5 w' g [2, 1, 7] ∧ Below w.heap.size w w' := by
  have hb : Below w.heap.size w (w.alloc (.cells #[.int .i64 2, .int .i64 258, .int .i64 1, .int .i64 7] 38)) := (Below.refl _ _).alloc (Nat.le_refl _) _
  refine (Pack_ok _ 2 2 [(2, 258), (1, 7)] _ (by decide) ⟨rfl, by intro f hf; simp at hf; rcases hf with rfl | rfl <;> decide, .inr ⟨w.heap.size, 0, rfl, by simp, ?_⟩⟩ (by intro f hf; simp at hf; rcases hf with rfl | rfl <;> decide)).mono ?_
  · intro t ht
    rcases (show t = 0 ∨ t = 1 from by omega) with rfl | rfl <;> simp
  · rintro e w' ⟨g, he, hg, hB, hb2⟩
    have hg2 : w.heap.size ≤ g := Nat.le_trans (by simp) hg
    exact ⟨g, he, hg2, hB, hb.trans (hb2.mono (by simp))⟩

theorem awk3 (w : World) (g : Nat) (h : Blk .i64 3 w g [258, 7]) : Calls Try.prog 19 #[.slice (some ⟨g, 0, none⟩) 2 2, .slice (some ⟨w.heap.size, 0, none⟩) 2 2] (w.alloc (.cells #[.int .i64 258, .int .i64 7] 3))
    fun e w' => e = .returned (.bool true) ∧ Below w.heap.size w w' := by
  have h1 : Blk .i64 3 (w.alloc (.cells #[.int .i64 258, .int .i64 7] 3)) g [258, 7] := h.alloc _
  have h2 : Blk .i64 3 (w.alloc (.cells #[.int .i64 258, .int .i64 7] 3)) w.heap.size [258, 7] := Blk.new (k := .i64) (e := 3) w [258, 7]
  have hb : Below w.heap.size w (w.alloc (.cells #[.int .i64 258, .int .i64 7] 3)) := (Below.refl _ _).alloc (Nat.le_refl _) _
  refine (SameInts_eq _ _ _ 2 2 2 [258, 7] _ (Nat.le_refl _) (by decide) (RdI.of_blk h1 h1.lt) (RdI.of_blk h2 h2.lt)).mono ?_
  rintro e w' ⟨he, hb2⟩
  exact ⟨he, hb.trans (hb2.mono (by simp))⟩

theorem cell_new (w : World) (C : Array Value) (e : TypeId) (fr : Nat × Nat) (t : Nat) : (w.alloc (.cells C e fr)).cell? ⟨w.heap.size, t, none⟩ = C[t]? := by
  unfold World.cell?
  rw [show (w.alloc (.cells C e fr)).heap[w.heap.size]? = some (.cells C e fr) from by show (w.heap.push _)[_]? = _; simp]
  simp
theorem awk4 (w : World) : Calls Try.prog 22 #[.slice (some ⟨w.heap.size, 0, none⟩) 9 9] (w.alloc (.cells #[.int .u8 49, .int .u8 50, .int .u8 51, .int .u8 52, .int .u8 53, .int .u8 54, .int .u8 55, .int .u8 56, .int .u8 57] 5 (9, 10)))
    fun e w' => e = .returned (.int .u32 3808858755) ∧ Below w.heap.size w w' := by
  have hb : Below w.heap.size w (w.alloc (.cells #[.int .u8 49, .int .u8 50, .int .u8 51, .int .u8 52, .int .u8 53, .int .u8 54, .int .u8 55, .int .u8 56, .int .u8 57] 5 (9, 10))) := (Below.refl _ _).alloc (Nat.le_refl _) _
  refine (Sum_any _ 9 9 [49, 50, 51, 52, 53, 54, 55, 56, 57] _ (by decide) ⟨rfl, b19, .inr ⟨w.heap.size, 0, rfl, by simp, ?_⟩⟩).mono ?_
  · intro t ht
    rcases (show t = 0 ∨ t = 1 ∨ t = 2 ∨ t = 3 ∨ t = 4 ∨ t = 5 ∨ t = 6 ∨ t = 7 ∨ t = 8 from by omega) with rfl | rfl | rfl | rfl | rfl | rfl | rfl | rfl | rfl <;> exact cell_new _ _ _ _ _
  · rintro e w' ⟨he, hb2⟩
    rw [crc19] at he
    exact ⟨he, hb.trans (hb2.mono (by simp))⟩

theorem awk5 (w : World) : Calls Try.prog 11 #[.int .i64 7, .int .i64 258, .slice (some ⟨w.heap.size, 0, none⟩) 3 3] (w.alloc (.cells #[.int .u8 1, .int .u8 2, .int .u8 3] 5))
    fun e w' => ∃ g, e = .returned (.tuple #[.slice (some ⟨g, 0, none⟩) 512 512, .int .i64 0]) ∧ Blk .u8 5 w' g (stampZ 7 258 [1, 2, 3]) ∧ Below w.heap.size w w' := by
  have h1 : Blk .u8 5 (w.alloc (.cells #[.int .u8 1, .int .u8 2, .int .u8 3] 5)) w.heap.size [1, 2, 3] := Blk.new (k := .u8) (e := 5) w [1, 2, 3]
  have hb : Below w.heap.size w (w.alloc (.cells #[.int .u8 1, .int .u8 2, .int .u8 3] 5)) := (Below.refl _ _).alloc (Nat.le_refl _) _
  refine (Stamp_ok 7 258 _ 3 3 [1, 2, 3] _ (by decide) (by decide) (by decide) (by decide) (by decide) (Rd.of_blk h1 b123 h1.lt)).mono ?_
  rintro e w' ⟨he, hB, hb2⟩
  exact ⟨_, he, hB, hb.trans (hb2.mono (by simp))⟩

theorem awk6 (w : World) (g : Nat) (h : Blk .u8 5 w g (stampZ 7 258 [1, 2, 3])) : Calls Try.prog 13 #[.slice (some ⟨g, 0, none⟩) 512 512] w
    fun e w' => ∃ g, e = .returned (.tuple #[.int .i64 7, .int .i64 258, .slice (some ⟨g, 0, none⟩) 3 3, .int .i64 0]) ∧ Blk .u8 5 w' g [1, 2, 3] ∧ Below w.heap.size w w' := by
  obtain ⟨f1, f2, f3, f4, f5, f6, f7⟩ := stamp_facts 7 258 [1, 2, 3] (by decide) (by decide) (by decide) (by decide) (by decide) b123
  have hi := isB_stamp 7 258 [1, 2, 3] (by decide) (by decide) b123
  refine (Unstamp_ok g 0 512 _ 7 258 3 w f1 hi h.lt (Nat.le_refl _) (fun t ht => by rw [Nat.zero_add]; exact h.cell t (by rw [f1]; exact ht)) f2 (by decide) f3 (by decide) f4 (by decide) f5 f6).mono ?_
  rintro e w' ⟨g, he, _, hB, hb⟩
  rw [show ([1, 2, 3] : List Int).length = 3 from rfl] at f7
  rw [f7] at hB
  exact ⟨g, he, hB, hb⟩

theorem str217 : strOfNums [2, 1, 7] = ⟨#[2, 1, 7]⟩ := by decide
theorem str123 : strOfNums [1, 2, 3] = ⟨#[1, 2, 3]⟩ := by decide

set_option maxRecDepth 100000 in
set_option maxHeartbeats 1000000 in
theorem awake_any (w : World) : Calls Try.prog 9 #[] w fun e w' => e = .returned (.bool true) ∧ Below w.heap.size w w' := by
  go_enter Try.func9, Try.ntmps9
  go_wp2_with fail
  refine (awk1 w).mono ?_
  rintro e w1 ⟨g, rfl, hg, hB, hb1⟩
  have HB := hid hB
  clear hB
  go_wp2_with fail
  refine (num_any 0 w1).mono ?_
  rintro e w1 ⟨rfl, rfl⟩
  go_wp2_with fail
  refine (awk3 w1 g HB.out).mono ?_
  rintro e w2 ⟨rfl, hb2⟩
  have hb3 := hb1.trans (hb2.mono hb1.size)
  clear HB hb1 hb2
  go_wp2_with fail
  refine (awk2 w2).mono ?_
  rintro e w3 ⟨g3, rfl, hg3, hB3, hb4⟩
  have hb5 := hb3.trans (hb4.mono hb3.size)
  have e3 : (convert 22 9 (.slice (some ⟨g3, 0, none⟩) 3 3)).run Try.prog w3 = .ok (.string ⟨#[2, 1, 7]⟩) w3 := by
    have h := conv_str (Rd.of_blk hB3 b217 hB3.lt) 3
    rw [str217] at h
    exact h
  have ec : (convert 22 22 (.slice (some ⟨w3.heap.size, 0, none⟩) 9 9)).run Try.prog (w3.alloc (.cells #[.int .u8 49, .int .u8 50, .int .u8 51, .int .u8 52, .int .u8 53, .int .u8 54, .int .u8 55, .int .u8 56, .int .u8 57] 5)) = .ok (.slice (some ⟨w3.heap.size, 0, none⟩) 9 9) (w3.alloc (.cells #[.int .u8 49, .int .u8 50, .int .u8 51, .int .u8 52, .int .u8 53, .int .u8 54, .int .u8 55, .int .u8 56, .int .u8 57] 5 (9, 10))) :=
    Lib.run_convert_bytes_const (P := Try.prog) w3 22 5 #[.int .u8 49, .int .u8 50, .int .u8 51, .int .u8 52, .int .u8 53, .int .u8 54, .int .u8 55, .int .u8 56, .int .u8 57] 9 9 Try.underlying22 Try.underlying5
  clear hB3 hb4 hb3
  go_wp2_with fail
  refine (num_any 0 w3).mono ?_
  rintro e w3 ⟨rfl, rfl⟩
  go_wp2_with fail
  refine (awk4 w3).mono ?_
  rintro e w4 ⟨rfl, hb6⟩
  have hb7 := hb5.trans (hb6.mono hb5.size)
  clear e3 ec hb6 hb5
  go_wp2_with fail
  refine (awk5 w4).mono ?_
  rintro e w5 ⟨g5, rfl, hB5, hb8⟩
  have hb9 := hb7.trans (hb8.mono hb7.size)
  have HB5 := hid hB5
  clear hb7 hb8 hB5
  go_wp2_with fail
  refine (num_any 0 w5).mono ?_
  rintro e w5 ⟨rfl, rfl⟩
  go_wp2_with fail
  refine (awk6 w5 g5 HB5.out).mono ?_
  rintro e w6 ⟨g6, rfl, hB6, hb10⟩
  have hb11 := hb9.trans (hb10.mono hb9.size)
  have e6 : (convert 22 9 (.slice (some ⟨g6, 0, none⟩) 3 3)).run Try.prog w6 = .ok (.string ⟨#[1, 2, 3]⟩) w6 := by
    have h := conv_str (Rd.of_blk hB6 b123 hB6.lt) 3
    rw [str123] at h
    exact h
  clear hb9 hb10 hB6 HB5
  go_wp2_with fail
  refine (num_any 0 w6).mono ?_
  rintro e w6 ⟨rfl, rfl⟩
  go_wp2
  go_ret
  exact ⟨rfl, hb11⟩

end Go.Proofs.Yteaebdonnicbkaa
