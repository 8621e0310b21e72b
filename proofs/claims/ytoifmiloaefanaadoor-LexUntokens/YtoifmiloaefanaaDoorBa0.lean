/-
  back: the tokens that were lent stand as they stood, and the others behind them.
-/
import Derived.Test.YtoifmiloaefanaaDoorLe0
namespace Go.Proofs.YtoifmiloaefanaaDoor
open Go.RowKit

theorem BlT.next {w w' : World} {g : Nat} {ts : List Tk} (h : BlT w g ts) (hb : Below w.heap.size w w') : BlT w' g ts := by
  have hl := h.lt
  unfold BlT at *
  rw [hb.block g hl]
  exact h
set_option maxRecDepth 100000 in
set_option maxHeartbeats 1000000 in
theorem back_yes (G n c2 : Nat) (a2 : Option Addr) (ts : List Tk) (w : World) (hn : ts.length = n) (hN : n ≤ 1048576) (hB : BlT w G (ts ++ othT n (n + 70))) (hR : TkR w a2 ts) :
    Calls Tryd.prog 16 #[.slice (some ⟨G, 0, none⟩) n (2 * n + 70), .slice a2 n c2] w fun e w' => e = .returned (.bool true) ∧ Below w.heap.size w w' := by
  have HB := hid hB
  have HR := hid hR
  have h1 : (n : Int) ≤ 2 * (n : Int) + 70 := by omega
  clear hB hR
  go_enter Tryd.func16, Tryd.ntmps16
  go_wp2_with fail
  go_loopw [6] (fun iv wr => ∃ i : Nat, iv = .int .i64 (((n + i : Nat)) : Int) ∧ i ≤ n + 70 ∧ Below w.heap.size w wr) (fun iv _ => 2 * n + 70 - (intOf iv).toNat)
  case atStart => exact ⟨0, rfl, Nat.zero_le _, Below.refl _ _⟩
  case round =>
    obtain ⟨i, rfl, hi, hBe⟩ := hrel
    by_cases q : i < n + 70
    · have hlen : (ts ++ othT n (n + 70)).length = 2 * n + 70 := by rw [List.length_append, othT_len, hn]; omega
      have hcs := (HB.out.next hBe).cell (n + i) (by omega)
      have hat : (ts ++ othT n (n + 70))[n + i]'(by omega) = ⟨77 + ((n : Int) + (i : Int)), [], 0, 78⟩ := by
        rw [List.getElem_append_right (by omega)]
        simp [othT, hn]
      rw [hat] at hcs
      obtain ⟨c0, c1, c2, c3⟩ := hcs
      have e0 : strOfNums [] = (⟨#[]⟩ : ByteArray) := rfl
      simp only [e0] at c1
      have HC : Hid (Calls Tryd.prog 23 #[.agg #[.int .i64 (77 + ((n : Int) + (i : Int))), .string ⟨#[]⟩, .int .i64 0, .int .i64 78], .agg #[.int .i64 (77 + ((n : Int) + (i : Int))), .string ⟨#[]⟩, .int .i64 0, .int .i64 78]] wr fun e w' => e = .returned (.bool true) ∧ Below w.heap.size w w') := by
        refine (SameToken_yes _ _ _ _ wr).mono ?_
        rintro e w' ⟨rfl, h⟩
        exact ⟨rfl, hBe.trans (h.mono hBe.size)⟩
      have q' : (n : Int) + (i : Int) < 2 * (n : Int) + 70 := by omega
      clear hat hBe e0 hlen
      go_wp2_with fail
      refine Calls.mono HC.out ?_
      rintro e w' ⟨rfl, h⟩
      have H := hid h
      clear h HC
      go_wp2_with fail
      exact ⟨⟨i + 1, by rw [show ((n + (i + 1) : Nat) : Int) = (n : Int) + (i : Int) + 1 by omega], by omega, H.out⟩, by simp [intOf]; omega⟩
    · obtain rfl : i = n + 70 := by omega
      have hg : TkR wr (some ⟨G, 0, none⟩) ts := by
        have := ((HB.out.next hBe).rd).take n
        rw [List.take_left' hn] at this
        exact this
      have HC : Hid (Calls Tryd.prog 24 #[.slice (some ⟨G, 0, none⟩) n (2 * n + 70), .slice a2 n c2] wr fun e w' => e = .returned (.bool true) ∧ Below w.heap.size w w') := by
        refine (SameTokens_yes _ a2 n _ c2 ts wr hn hg (HR.out.next hBe) (by omega)).mono ?_
        rintro e w' ⟨rfl, h⟩
        exact ⟨rfl, hBe.trans (h.mono hBe.size)⟩
      have q' : ¬ (n : Int) + ((n : Int) + 70) < 2 * (n : Int) + 70 := by omega
      clear hBe hg
      go_wp2_with fail
      refine Calls.mono HC.out ?_
      rintro e w' ⟨rfl, h⟩
      have H := hid h
      clear h HC
      go_wp2_with fail
      go_ret
      exact ⟨rfl, H.out⟩

end Go.Proofs.YtoifmiloaefanaaDoor
