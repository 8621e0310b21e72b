/-
  LexTokens: the law.
-/
import Derived.Test.YtoifmiloaefanaaLt0
namespace Go.Proofs.Ytoifmiloaefanaa
open Go.RowKit

theorem LtI.start (W : World) : LtI W W.heap.size (W.heap.size + 1) 0 ((W.alloc (.cells #[.slice none 0 0, .int .i64 0] 32)).alloc (.cells #[.int .i64 0, .int .i64 0, .bool false, .slice none 0 0, .slice none 0 0, .slice none 0 0, .slice none 0 0] 36)) := by
  obtain ⟨w1, hw1⟩ : ∃ w1, w1 = W.alloc (.cells #[.slice none 0 0, .int .i64 0] 32) := ⟨_, rfl⟩
  have z1 : w1.heap.size = W.heap.size + 1 := by rw [hw1]; simp
  have e1 : w1.heap[W.heap.size]? = some (.cells #[.slice none 0 0, .int .i64 0] 32 (0, 0)) := by rw [hw1]; exact heap_new _ _
  have bb1 : Below W.heap.size W w1 := by rw [hw1]; exact below1 _ _
  rw [← hw1]
  obtain ⟨w2, hw2⟩ : ∃ w2, w2 = w1.alloc (.cells #[.int .i64 0, .int .i64 0, .bool false, .slice none 0 0, .slice none 0 0, .slice none 0 0, .slice none 0 0] 36) := ⟨_, rfl⟩
  have z2 : w2.heap.size = W.heap.size + 2 := by rw [hw2]; simp [z1]
  have e2 : w2.heap[W.heap.size + 1]? = some (.cells #[.int .i64 0, .int .i64 0, .bool false, .slice none 0 0, .slice none 0 0, .slice none 0 0, .slice none 0 0] 36 (0, 0)) := by rw [hw2, ← z1]; exact heap_new _ _
  have bb2 : Below w1.heap.size w1 w2 := by rw [hw2]; exact below1 _ _
  have e3 : w2.heap[W.heap.size]? = some (.cells #[.slice none 0 0, .int .i64 0] 32 (0, 0)) := (bb2.block _ (by omega)).trans e1
  rw [← hw2]
  refine ⟨fun g => if g = W.heap.size + 1 then 1 else 0, .slice none 0 0, ⟨0, 0, [], .slice none 0 0, .slice none 0 0, .slice none 0 0, .slice none 0 0, [], [], [], [], ?_, rfl, by simp, by simp, by simp, by simp⟩, ⟨⟨0, e3⟩, .inl rfl⟩, fun x hx => ?_, bb1.trans (bb2.mono (by omega))⟩
  · refine ⟨e2, by simp, Row.nil _ _ _ _, Row.nil _ _ _ _, Row.nil _ _ _ _, Row.nil _ _ _ _, fun i hi => by simp at hi, by simp, fun i hi => by simp at hi, rfl, rfl, fun i hi => by simp at hi, fun g hg => ?_, by simp, by omega⟩
    by_cases q : g = W.heap.size + 1
    · omega
    · simp [q] at hg
  · rcases hx with rfl | hx
    · exact ⟨by simp, Nat.le_refl _⟩
    · simp [Value.ownBlock] at hx
set_option maxRecDepth 100000 in
set_option maxHeartbeats 2000000 in
theorem tokens_law (a : Option Addr) (n c : Nat) (zs : List Int) (W : World) (hn : n ≤ 16777216) (hnil : a = none → n = 0 ∧ c = 0) (hR : Rd W.heap.size W a n zs) :
    Calls Try.prog 4 #[.slice a n c] W fun e W' => e = .returned (.bool true) ∧ Below W.heap.size W W' := by
  have HST := hid (LtI.start W)
  have HC : Hid (∀ t w, t ≤ 3 → LtI W W.heap.size (W.heap.size + 1) t w → LtC (W.heap.size + 1) W.heap.size a n c (t : Int) w (LtI W W.heap.size (W.heap.size + 1) (t + 1))) := fun t w ht h => ltC_any hn hnil hR h ht _
  clear hR hnil
  obtain ⟨L, hL⟩ : ∃ L, L = W.heap.size := ⟨_, rfl⟩
  have HL := hid hL
  go_enter Try.func4, Try.ntmps4
  go_wp2_with fail
  go_loopw [5] (fun iv wr => ∃ t : Nat, iv = .int .i64 (t : Int) ∧ t ≤ 4 ∧ LtI W W.heap.size (W.heap.size + 1) t wr) (fun iv _ => 4 - (intOf iv).toNat)
  case atStart => exact ⟨0, rfl, by omega, HST.out⟩
  case round =>
    clear HST
    obtain ⟨t, rfl, ht, hI⟩ := hrel
    by_cases q : t ≤ 3
    · have q' : (t : Int) ≤ 3 := by omega
      have H7 := hid (HC.out t wr q hI)
      clear hI
      go_wp2_with fail
      refine Calls.mono H7.out ?_
      clear H7
      rintro e w1 ⟨a1, c1, rfl, h⟩
      have H8 := hid h
      clear h
      go_wp2_with fail
      refine Calls.mono H8.out ?_
      clear H8
      rintro e w2 ⟨G, rfl, h⟩
      have H5 := hid h
      clear h
      go_wp2_with fail
      refine Calls.mono H5.out ?_
      clear H5
      rintro e w3 ⟨ua, uc, m, p, x, rfl, h⟩
      have H5 := hid h
      clear h
      go_wp2_with fail
      refine Calls.mono H5.out ?_
      clear H5
      rintro e w4 ⟨va, vc, rfl, h⟩
      have H9 := hid h
      clear h
      go_wp2_with fail
      refine Calls.mono H9.out ?_
      clear H9
      rintro e w5 ⟨ya, yc, rfl, h⟩
      have H10 := hid h
      clear h
      go_wp2_with fail
      refine Calls.mono H10.out ?_
      clear H10
      rintro e w6 ⟨rfl, h⟩
      have H11 := hid h
      clear h
      go_wp2_with fail
      refine Calls.mono (Num_any x w6) ?_
      rintro e w6' ⟨rfl, h⟩
      subst h
      go_wp2_with fail
      refine Calls.mono (Num_any x w6') ?_
      rintro e w6 ⟨rfl, h⟩
      subst h
      go_wp2_with fail
      refine Calls.mono H11.out ?_
      clear H11
      rintro e w7 ⟨rfl, h⟩
      have H11 := hid h
      clear h
      go_wp2_with fail
      refine Calls.mono H11.out ?_
      clear H11
      rintro e w8 ⟨rfl, h⟩
      have H12 := hid h
      clear h
      go_wp2_with fail
      refine Calls.mono H12.out ?_
      clear H12
      rintro e w9 ⟨rfl, h⟩
      have H12 := hid h
      clear h
      go_wp2_with fail
      refine Calls.mono H12.out ?_
      clear H12
      rintro e w10 ⟨rfl, h⟩
      have HI := hid h
      clear h
      go_wp2_with fail
      exact ⟨⟨t + 1, by go_num, by omega, HI.out⟩, by simp [intOf]; omega⟩
    · have q' : ¬ (t : Int) ≤ 3 := by omega
      have HI := hid hI
      clear hI
      go_wp2_with fail
      obtain ⟨κ, bv, hS, _, _, hb⟩ := HI.out
      refine Calls.mono hS.holds ?_
      rintro e w9 ⟨rfl, h⟩
      have HB := hid (hb.trans (h.mono hb.size))
      clear h hS hb
      go_wp2_with fail
      go_ret
      exact ⟨rfl, HB.out⟩

end Go.Proofs.Ytoifmiloaefanaa
