/-
  cisternlaw3.Turned: other bytes, as many.
-/
import Derived.Test.YtoifmiloaefanaaCopy
import Derived.Laws.CopyOwn
namespace Go.Proofs.Ytoifmiloaefanaa
open Go.RowKit

set_option maxRecDepth 100000 in
set_option maxHeartbeats 1000000 in
theorem Turned_nil (t : Int) (w : World) : Calls Try.prog 7 #[.slice none 0 0, .int .i64 t] w fun e w' => e = .returned (.slice none 0 0) ∧ w' = w := by
  have hnil := fun u => Lib.run_eql_slice_nil (P := Try.prog) u 22 5 none 0 0 0 0 Try.underlying22
  go_enter Try.func7, Try.ntmps7
  go_wp2
  go_ret
  exact ⟨rfl, rfl⟩

set_option maxRecDepth 100000 in
set_option maxHeartbeats 2000000 in
theorem Turned_any (ad : Addr) (n c : Nat) (t : Int) (zs : List Int) (w : World) (hn : n ≤ 16777216) (hR : Rd w.heap.size w (some ad) n zs) :
    Calls Try.prog 7 #[.slice (some ad) n c, .int .i64 t] w fun e w' => ∃ g ys, e = .returned (.slice (some ⟨g, 0, none⟩) n n) ∧ w.heap.size ≤ g ∧ ys.length = n ∧ Pl.isB ys ∧ Blk .u8 5 w' g ys ∧ Below w.heap.size w w' := by
  have hnil := fun u => Lib.run_eql_slice_nil (P := Try.prog) u 22 5 (some ad) n c 0 0 Try.underlying22
  have hmk := make_u8 n (by omega) w
  obtain ⟨W1, hW1⟩ : ∃ W1, W1 = w.alloc (.cells ((zeros n).map (Value.int .u8)).toArray 5) := ⟨_, rfl⟩
  have b1 : Below w.heap.size w W1 := by rw [hW1]; exact (Below.refl _ _).alloc (Nat.le_refl _) _
  have hB0 : Blk .u8 5 W1 w.heap.size (zeros n) := by rw [hW1]; exact Blk.new w (zeros n)
  obtain ⟨W2, hcp, hB2, z2, hg2⟩ := copy_u8 w.heap.size 0 n n (some ad) n c (zeros n) zs W1 w.heap.size hB0 (hR.below b1) (Nat.le_refl _) (by rw [length_zeros]; omega)
  have b2 : Below w.heap.size w W2 := b1.trans ⟨hg2.os, hg2.tape, hg2.output, by have := b1.size; omega, fun k hk => hg2.block k (by have := b1.size; omega) (by simp; omega)⟩
  have hl2 : (splice (zeros n) 0 zs).length = n := by simp [splice, zeros, hR.1]
  have hI2 : Pl.isB (splice (zeros n) 0 zs) := isB_splice (isB_zeros n) hR.2.1 0
  have HD : Hid (0 < n → ∃ b off, some ad = some ⟨b, off, none⟩ ∧ b < w.heap.size ∧ ∀ t, t < n → w.cell? ⟨b, off + t, none⟩ = some (.int .u8 (zs.getD t 0))) := fun h0 => hR.2.2.resolve_left (by omega)
  have HZB := hid hR.2.1
  have hzl := hR.1
  obtain ⟨g, hgd⟩ : ∃ g, g = w.heap.size := ⟨_, rfl⟩
  have hg : w.heap.size ≤ g := by omega
  rw [← hgd] at hB2 hcp hmk
  rw [hW1] at hcp
  obtain ⟨ys0, hys⟩ : ∃ ys0, ys0 = splice (zeros n) 0 zs := ⟨_, rfl⟩
  rw [← hys] at hB2 hl2 hI2
  have FB0 := hid (And.intro hB2 (And.intro hl2 (And.intro hI2 b2)))
  have HW1 := hid hW1
  clear hW1 b1 hB0 z2 hg2 b2 hR hys hgd
  by_cases t1 : t = 1
  · by_cases hn0 : 0 < n
    · have hq : n / 2 < n := by omega
      have hq' : ((n / 2 : Nat) : Int) < (n : Int) := by omega
      have hdv : (n : Int) / 2 = ((n / 2 : Nat) : Int) := by omega
      have hn0' : (0 : Int) < (n : Int) := by omega
      have hc1 := FB0.out.1.cell (n / 2) (by have := FB0.out.2.1; omega)
      have hf1 := FB0.out.1.frozen (n / 2)
      have hzz := Pl.isB_getD FB0.out.2.2.1 (n / 2)
      rw [← List.getD_eq_getElem?_getD] at hzz
      have FB := hid (And.intro (FB0.out.1.set (n / 2) (bits .xor .u8 (ys0.getD (n / 2) 0) 1)) (And.intro (show (ys0.set (n / 2) (bits .xor .u8 (ys0.getD (n / 2) 0) 1)).length = n by rw [List.length_set]; exact FB0.out.2.1) (And.intro (isB_set FB0.out.2.2.1 (n / 2) (xor_u8_bd hzz 1 (by decide))) (FB0.out.2.2.2.setCell (p := ⟨g, n / 2, none⟩) hg (.int .u8 (bits .xor .u8 (ys0.getD (n / 2) 0) 1))))))
      clear FB0 hzz hB2 hl2 hI2
      generalize ys0.getD (n / 2) 0 = z0 at *
      generalize hm0 : n / 2 = m0 at *
      clear hm0
      subst t1
      go_enter Try.func7, Try.ntmps7
      go_wp2_with fail
      go_loopw [6] (fun iv wt => ∃ (k : Nat) (ys : List Int), k ≤ n ∧ iv = .int .i64 (k : Int) ∧ Blk .u8 5 wt g ys ∧ ys.length = n ∧ Pl.isB ys ∧ Below w.heap.size w wt) (fun iv _ => n - (intOf iv).toNat)
      case atStart => exact ⟨0, _, Nat.zero_le _, rfl, FB.out.1, FB.out.2.1, FB.out.2.2.1, FB.out.2.2.2⟩
      case round =>
        clear FB
        obtain ⟨k, ys, hk, rfl, hBk, hyl, hyB, hbt⟩ := hrel
        have FE := hid (And.intro hyl (And.intro hyB (And.intro hBk hbt)))
        clear hbt hBk hyB hyl
        go_wp2
        go_ret
        first | exact ⟨g, ys, rfl, hg, FE.out⟩ | exact ⟨g, rfl, hg, ys, FE.out⟩
    · have FB := FB0
      have hn0' : ¬ (0 : Int) < (n : Int) := by omega
      clear FB0 hB2 hl2 hI2
      subst t1
      go_enter Try.func7, Try.ntmps7
      go_wp2_with fail
      go_loopw [6] (fun iv wt => ∃ (k : Nat) (ys : List Int), k ≤ n ∧ iv = .int .i64 (k : Int) ∧ Blk .u8 5 wt g ys ∧ ys.length = n ∧ Pl.isB ys ∧ Below w.heap.size w wt) (fun iv _ => n - (intOf iv).toNat)
      case atStart => exact ⟨0, _, Nat.zero_le _, rfl, FB.out.1, FB.out.2.1, FB.out.2.2.1, FB.out.2.2.2⟩
      case round =>
        clear FB
        obtain ⟨k, ys, hk, rfl, hBk, hyl, hyB, hbt⟩ := hrel
        have FE := hid (And.intro hyl (And.intro hyB (And.intro hBk hbt)))
        clear hbt hBk hyB hyl
        go_wp2
        go_ret
        first | exact ⟨g, ys, rfl, hg, FE.out⟩ | exact ⟨g, rfl, hg, ys, FE.out⟩
  · have FB := FB0
    have t2 : (t == 1) = false := by simpa using t1
    clear FB0 hB2 hl2 hI2 t1
    go_enter Try.func7, Try.ntmps7
    go_wp2_with fail
    go_loopw [6] (fun iv wt => ∃ (k : Nat) (ys : List Int), k ≤ n ∧ iv = .int .i64 (k : Int) ∧ Blk .u8 5 wt g ys ∧ ys.length = n ∧ Pl.isB ys ∧ Below w.heap.size w wt) (fun iv _ => n - (intOf iv).toNat)
    case atStart => exact ⟨0, _, Nat.zero_le _, rfl, FB.out.1, FB.out.2.1, FB.out.2.2.1, FB.out.2.2.2⟩
    case round =>
      clear FB
      obtain ⟨k, ys, hk, rfl, hBk, hyl, hyB, hbt⟩ := hrel
      by_cases h2 : t = 2
      · by_cases hkn : k < n
        · have hkn' : (k : Int) < (n : Int) := by omega
          obtain ⟨b, off, he, hblt, hcl⟩ := HD.out (by omega)
          have hsrc := (hbt.cell (p := ⟨b, off + (n - 1 - k), none⟩) hblt).trans (hcl (n - 1 - k) (by omega))
          have hz := Pl.isB_getD HZB.out (n - 1 - k)
          rw [← List.getD_eq_getElem?_getD] at hz
          have hdst := hBk.cell k (by omega)
          have hfr := hBk.frozen k
          have NB := hid (hBk.set k (zs.getD (n - 1 - k) 0))
          have NI := hid (isB_set hyB k hz)
          have NL := hid (hbt.setCell (p := ⟨g, k, none⟩) hg (.int .u8 (zs.getD (n - 1 - k) 0)))
          have hix : (n : Int) - 1 - (k : Int) = ((n - 1 - k : Nat) : Int) := by omega
          have hix2 : ((n - 1 - k : Nat) : Int) < (n : Int) := by omega
          clear hbt hBk hyB hcl
          injection he with he
          subst he
          subst h2
          generalize zs.getD (n - 1 - k) 0 = z at *
          generalize hm : n - 1 - k = m at *
          clear hm
          go_wp2
          go_roundw
          case rel => exact ⟨k + 1, _, by omega, by go_num, NB.out, by simpa using hyl, NI.out, NL.out⟩
          case measure => simp [intOf]; omega
        · have hkn' : ¬ (k : Int) < (n : Int) := by omega
          have FE := hid (And.intro hyl (And.intro hyB (And.intro hBk hbt)))
          subst h2
          clear hbt hBk hyB hyl
          go_wp2
          go_ret
          first | exact ⟨g, ys, rfl, hg, FE.out⟩ | exact ⟨g, rfl, hg, ys, FE.out⟩
      · have h3 : (t == 2) = false := by simpa using h2
        have FE := hid (And.intro hyl (And.intro hyB (And.intro hBk hbt)))
        clear hbt hBk hyB hyl h2
        go_wp2
        go_ret
        first | exact ⟨g, ys, rfl, hg, FE.out⟩ | exact ⟨g, rfl, hg, ys, FE.out⟩

end Go.Proofs.Ytoifmiloaefanaa
