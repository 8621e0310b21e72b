/-
  Back.
-/
import Derived.Test.YtoifmiloaefanaaCopy
import Derived.Deep.QuietTactic
import Derived.BigQuiet
namespace Go.Proofs.Ytoifmiloaefanaa
open Go.RowKit

theorem Lnd.but {X : Nat → Prop} {w w' : World} {L : Nat} {bv : Value} {N : Int} (h : Lnd w L bv N) (hb : But X w w') (hx : ¬ X L) : Lnd w' L bv N := h.of_block (hb.block L h.lt hx)
theorem But.drewN {X : Nat → Prop} {a w : World} (h : But X a w) (q : Nat) : But X a (w.drewN q) := ⟨h.os, h.tape, h.output, h.size, h.block⟩

set_option maxRecDepth 100000 in
set_option maxHeartbeats 1000000 in
theorem Back_ok (L G M : Nat) (a : Option Addr) (n c : Nat) (ys zs : List Int) (w : World) (hn : n ≤ 16777216) (hB : Blk .u8 5 w G ys) (hyl : ys.length = M) (hyt : ys.take (2 * n + 70) = lent zs) (hL : Lnd w L (.slice (some ⟨G, 0, none⟩) M M) n) (hGL : L ≠ G) (hM : 2 * n + 70 ≤ M) (hM2 : M ≤ 1073741824)
    (hR : RdN (fun x => x = L ∨ x = G) w a n zs) :
    Calls Try.prog 10 #[.pointer (some ⟨L, 0, none⟩), .slice a n c] w fun e w' => ∃ ys', e = .returned (.bool true) ∧ Blk .u8 5 w' G ys' ∧ ys'.length = M ∧ Lnd w' L (.slice (some ⟨G, 0, none⟩) M M) n ∧ But (fun x => x = G) w w' := by
  have hzl := hR.1
  have hget : ∀ j, j < 2 * n + 70 → ys.getD j 0 = (lent zs).getD j 0 := by
    intro j hj
    rw [← hyt, List.getD_eq_getElem?_getD, List.getD_eq_getElem?_getD, List.getElem?_take_of_lt hj]
  have r1 : ∀ q, Rd w.heap.size (w.drewN q) (some ⟨G, 0, none⟩) n zs := fun q => ⟨hzl, hR.2.1, .inr ⟨G, 0, rfl, hB.lt, fun t ht => by
    have h := hB.cell t (by omega)
    rw [hget t (by omega), lent_lo (by omega)] at h
    rw [Nat.zero_add]
    exact h⟩⟩
  have e1 := fun q => conv_str (r1 q) M
  have e2 : ∀ q, (convert 22 9 (.slice a n c)).run Try.prog (w.drewN q) = .ok (.string (strOfNums zs)) (w.drewN q) := fun q => conv_str (hR.but ((But.refl _ w).drewN q)).rd c
  have hbuf := hL.buf
  have hnum := hL.num
  have hnM : (n : Int) ≤ (M : Int) := by omega
  have HR := hid hR
  have HG := hid hget
  clear hR hget r1
  generalize strOfNums zs = s at *
  go_enter Try.func10, Try.ntmps10
  go_wp2_with fail
  go_quiet (fail)
  go_wp2
  clear e1 e2 hbuf hnum
  go_loopw [5, 6] (fun ok i wt => ∃ j : Nat, n ≤ j ∧ j ≤ 2 * n + 70 ∧ i = .int .i64 (j : Int) ∧ ok = .bool true ∧ But (fun _ => False) w wt) (fun _ i _ => 2 * n + 70 - (intOf i).toNat)
  case atStart => exact ⟨n, Nat.le_refl _, by omega, rfl, by simp, (But.refl _ _).drewN _⟩
  case round =>
    obtain ⟨j, hj1, hj2, rfl, rfl, hbt⟩ := hrel
    have hL2 := hL.but hbt (fun h => h)
    have hnum := hL2.num
    have hbuf := hL2.buf
    by_cases hjn : j < 2 * n + 70
    · have hcell := (hB.but hbt (fun h => h)).cell j (by omega)
      rw [HG.out j hjn, lent_hi (by omega) (by omega)] at hcell
      have hk2 : (j : Int) < (M : Int) := by omega
      go_wp2_with fail
      go_quiet ((go_at_call 15; exact Calls.quiet_of_same (mark_any _ _ _ (by omega))))
      go_wp2
      go_roundw
      case rel => exact ⟨j + 1, by omega, by omega, by go_num, by simp, hbt.drewN _⟩
      case measure => simp [intOf]; omega
    · have HB := hid (hB.but hbt (fun h => h))
      have Hyl := hid hyl
      have HL := hid hL2
      have Hb := hid (hbt.mono (Y := fun x => x = G) (fun _ _ h => h.elim))
      clear hB hyl hL hL2 hbt
      go_wp2
      go_loopw [7] (fun i wt => ∃ (k : Nat) (ys' : List Int), k ≤ n ∧ i = .int .i64 (k : Int) ∧ Blk .u8 5 wt G ys' ∧ ys'.length = M ∧ Lnd wt L (.slice (some ⟨G, 0, none⟩) M M) n ∧ But (fun x => x = G) w wt) (fun i _ => n - (intOf i).toNat)
      case atStart => exact ⟨0, ys, Nat.zero_le _, rfl, HB.out, Hyl.out, HL.out, Hb.out⟩
      case round =>
        clear HB Hyl HL Hb hnum hbuf
        obtain ⟨k, ys', hk, rfl, hB, hyl, hL, hbt⟩ := hrel
        have hnum := hL.num
        have hbuf := hL.buf
        by_cases hkn : k < n
        · have hcell := hB.cell k (by omega)
          have hfr := hB.frozen k
          have hk2 : (k : Int) < (M : Int) := by omega
          have HB := hid (hB.set k 120)
          have Hyl := hid hyl
          have HL := hid (hL.setOther (p := ⟨G, k, none⟩) (by exact hGL) (.int .u8 120))
          have Hb := hid (hbt.setCell (p := ⟨G, k, none⟩) rfl (.int .u8 120))
          clear hB hyl hL hbt
          go_wp2
          go_roundw
          case rel => exact ⟨k + 1, _, by omega, by go_num, HB.out, by simpa using Hyl.out, HL.out, Hb.out⟩
          case measure => simp [intOf]; omega
        · have HB := hid hB
          have Hyl := hid hyl
          have HL := hid hL
          clear hB hyl hL
          go_wp2
          go_ret
          exact ⟨ys', rfl, HB.out, Hyl.out, HL.out, hbt⟩

end Go.Proofs.Ytoifmiloaefanaa
