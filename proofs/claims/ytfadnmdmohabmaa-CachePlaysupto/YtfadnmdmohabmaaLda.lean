/-
  The lender of a desk: its state.
-/
import Derived.Test.YtfadnmdmohabmaaBka
import Derived.Deep.QuietTactic
import Derived.BigQuiet
namespace Go.Proofs.Ytfadnmdmohabmaa
open Go.RowKit

/-- what else a desk's block holds -/
structure DV where
  d : Value
  c0 : Value
  c1 : Value
  r : Value
  x0 : Value
  x1 : Value
  b0 : Value
  b1 : Value
  b2 : Value
  b3 : Value
  b4 : Value
  b5 : Value
  b6 : Value
  b7 : Value
  y0 : Value
  y1 : Value
  y2 : Value
  y3 : Value
  y4 : Value
  y5 : Value
  y6 : Value
  y7 : Value
  n : Value
/-- block L is a desk whose lender's buffer is bv and whose number is N -/
def Lnd (D : DV) (w : World) (L : Nat) (bv : Value) (N : Int) : Prop := w.heap[L]? = some (.cells #[D.d, D.c0, D.c1, D.r, D.x0, D.x1, D.b0, D.b1, D.b2, D.b3, D.b4, D.b5, D.b6, D.b7, D.y0, D.y1, D.y2, D.y3, D.y4, D.y5, D.y6, D.y7, bv, .int .i64 N, D.n] 52 (0, 0))
theorem Lnd.lt {D : DV} {w : World} {L : Nat} {bv : Value} {N : Int} (h : Lnd D w L bv N) : L < w.heap.size := (Array.getElem?_eq_some_iff.1 h).1
theorem Lnd.buf {D : DV} {w : World} {L : Nat} {bv : Value} {N : Int} (h : Lnd D w L bv N) : w.cell? ⟨L, 22, none⟩ = some bv := by unfold Lnd at h; simp [World.cell?, h]
theorem Lnd.num {D : DV} {w : World} {L : Nat} {bv : Value} {N : Int} (h : Lnd D w L bv N) : w.cell? ⟨L, 23, none⟩ = some (.int .i64 N) := by unfold Lnd at h; simp [World.cell?, h]
theorem Lnd.frozen {D : DV} {w : World} {L : Nat} {bv : Value} {N : Int} (h : Lnd D w L bv N) (t : Nat) : w.frozen? ⟨L, t, none⟩ = false := by unfold Lnd at h; simp [World.frozen?, h]
theorem Lnd.of_block {D : DV} {w w' : World} {L : Nat} {bv : Value} {N : Int} (h : Lnd D w L bv N) (hw : w'.heap[L]? = w.heap[L]?) : Lnd D w' L bv N := by unfold Lnd at *; rw [hw]; exact h
theorem Lnd.setOther {D : DV} {w : World} {L : Nat} {bv : Value} {N : Int} (h : Lnd D w L bv N) {p : Addr} (hp : L ≠ p.block) (u : Value) : Lnd D (w.setCell p u) L bv N := h.of_block (Below.heap_setCell _ _ _ _ hp)
theorem Lnd.alloc {D : DV} {w : World} {L : Nat} {bv : Value} {N : Int} (h : Lnd D w L bv N) (o : Obj) : Lnd D (w.alloc o) L bv N := h.of_block (Below.heap_alloc _ _ _ h.lt)
theorem Lnd.setBuf {D : DV} {w : World} {L : Nat} {bv : Value} {N : Int} (h : Lnd D w L bv N) (u : Value) : Lnd D (w.setCell ⟨L, 22, none⟩ u) L u N := by
  unfold Lnd at *
  simp only [World.setCell, Array.getElem?_modify]
  rw [h]
  simp
theorem Lnd.setNum {D : DV} {w : World} {L : Nat} {bv : Value} {N : Int} (h : Lnd D w L bv N) (u : Int) : Lnd D (w.setCell ⟨L, 23, none⟩ (.int .i64 u)) L bv u := by
  unfold Lnd at *
  simp only [World.setCell, Array.getElem?_modify]
  rw [h]
  simp
/-- the mark at a place; what lies in the buffer -/
def mk (i : Nat) : Int := (203 - 5 * (i : Int)) % 256
def lent (zs : List Int) : List Int := zs ++ (List.range (zs.length + 70)).map fun i => mk (zs.length + i)
theorem length_lent (zs : List Int) : (lent zs).length = 2 * zs.length + 70 := by simp [lent]; omega
theorem lent_lo {zs : List Int} {k : Nat} (h : k < zs.length) : (lent zs).getD k 0 = zs.getD k 0 := by
  simp [lent, h, List.getElem?_append_left]
theorem lent_hi {zs : List Int} {k : Nat} (h : zs.length ≤ k) (h2 : k < 2 * zs.length + 70) : (lent zs).getD k 0 = mk k := by
  have h3 : k - zs.length < zs.length + 70 := by omega
  simp [lent, List.getElem?_append_right h, h3]
  congr 1
  omega
theorem isB_lent {zs : List Int} (h : Pl.isB zs) : Pl.isB (lent zs) := by
  refine Pl.isB_append.2 ⟨h, ?_⟩
  intro z hz
  simp only [List.mem_map] at hz
  obtain ⟨i, _, rfl⟩ := hz
  unfold mk
  omega
set_option maxHeartbeats 400000 in
theorem mark_any (p : Value) (i : Nat) (w : World) (h : i ≤ 1073741824) :
    Calls Try.prog 76 #[p, .int .i64 (i : Int)] w fun e w' => e = .returned (.int .u8 (mk i)) ∧ w' = w := by
  go_enter Try.func76, Try.ntmps76
  go_wp2
  go_ret
  exact ⟨rfl, rfl⟩
theorem Lnd.but {D : DV} {X : Nat → Prop} {w w' : World} {L : Nat} {bv : Value} {N : Int} (h : Lnd D w L bv N) (hb : But X w w') (hx : ¬ X L) : Lnd D w' L bv N := h.of_block (hb.block L h.lt hx)

end Go.Proofs.Ytfadnmdmohabmaa

/-
  The lender of a desk: Back.
-/
namespace Go.Proofs.Ytfadnmdmohabmaa
open Go.RowKit

set_option maxRecDepth 100000 in
set_option maxHeartbeats 1000000 in
theorem Back_ok {D : DV} (L G M : Nat) (a : Option Addr) (n c : Nat) (ys zs : List Int) (w : World) (hn : n ≤ 16777216) (hB : Blk .u8 5 w G ys) (hyl : ys.length = M) (hyt : ys.take (2 * n + 70) = lent zs) (hL : Lnd D w L (.slice (some ⟨G, 0, none⟩) M M) n) (hGL : L ≠ G) (hM : 2 * n + 70 ≤ M) (hM2 : M ≤ 1073741824)
    (hR : RdN (fun x => x = L ∨ x = G) w a n zs) :
    Calls Try.prog 44 #[.pointer (some ⟨L, 22, none⟩), .slice a n c] w fun e w' => ∃ ys', e = .returned (.bool true) ∧ Blk .u8 5 w' G ys' ∧ ys'.length = M ∧ Lnd D w' L (.slice (some ⟨G, 0, none⟩) M M) n ∧ But (fun x => x = G) w w' := by
  have hzl := hR.1
  have hget : ∀ j, j < 2 * n + 70 → ys.getD j 0 = (lent zs).getD j 0 := by
    intro j hj
    rw [← hyt, List.getD_eq_getElem?_getD, List.getD_eq_getElem?_getD, List.getElem?_take_of_lt hj]
  have r1 : ∀ q, Rd w.heap.size (w.drewN q) (some ⟨G, 0, none⟩) n zs := fun q => ⟨hzl, hR.2.1, .inr ⟨G, 0, rfl, hB.lt, fun t ht => by
    have h := hB.cell t (by omega)
    rw [hget t (by omega), lent_lo (by omega)] at h
    rw [Nat.zero_add]
    exact h⟩⟩
  have e1 := fun q => conv_str (r1 q) M
  have e2 : ∀ q, (convert 34 9 (.slice a n c)).run Try.prog (w.drewN q) = .ok (.string (strOfNums zs)) (w.drewN q) := fun q => conv_str (hR.but ((But.refl _ w).drewN q)).rd c
  have hbuf := hL.buf
  have hnum := hL.num
  have hnM : (n : Int) ≤ (M : Int) := by omega
  have HR := hid hR
  have HG := hid hget
  clear hR hget r1
  generalize strOfNums zs = s at *
  go_enter Try.func44, Try.ntmps44
  go_wp2_with fail
  go_quiet (fail)
  go_wp2
  clear e1 e2 hbuf hnum
  go_loopw [5, 6] (fun ok i wt => ∃ j : Nat, n ≤ j ∧ j ≤ 2 * n + 70 ∧ i = .int .i64 (j : Int) ∧ ok = .bool true ∧ But (fun _ => False) w wt) (fun _ i _ => 2 * n + 70 - (intOf i).toNat)
  case atStart => exact ⟨n, Nat.le_refl _, by omega, rfl, by simp, (But.refl _ _).drewN _⟩
  case round =>
    obtain ⟨j, hj1, hj2, rfl, rfl, hbt⟩ := hrel
    have hL2 := hL.but hbt (fun h => h)
    have hnum := hL2.num
    have hbuf := hL2.buf
    by_cases hjn : j < 2 * n + 70
    · have hcell := (hB.but hbt (fun h => h)).cell j (by omega)
      rw [HG.out j hjn, lent_hi (by omega) (by omega)] at hcell
      have hk2 : (j : Int) < (M : Int) := by omega
      go_wp2_with fail
      go_quiet ((go_at_call 76; exact Calls.quiet_of_same (mark_any _ _ _ (by omega))))
      go_wp2
      go_roundw
      case rel => exact ⟨j + 1, by omega, by omega, by go_num, by simp, hbt.drewN _⟩
      case measure => simp [intOf]; omega
    · have HB := hid (hB.but hbt (fun h => h))
      have Hyl := hid hyl
      have HL := hid hL2
      have Hb := hid (hbt.mono (Y := fun x => x = G) (fun _ _ h => h.elim))
      clear hB hyl hL hL2 hbt
      go_wp2
      go_loopw [7] (fun i wt => ∃ (k : Nat) (ys' : List Int), k ≤ n ∧ i = .int .i64 (k : Int) ∧ Blk .u8 5 wt G ys' ∧ ys'.length = M ∧ Lnd D wt L (.slice (some ⟨G, 0, none⟩) M M) n ∧ But (fun x => x = G) w wt) (fun i _ => n - (intOf i).toNat)
      case atStart => exact ⟨0, ys, Nat.zero_le _, rfl, HB.out, Hyl.out, HL.out, Hb.out⟩
      case round =>
        clear HB Hyl HL Hb hnum hbuf
        obtain ⟨k, ys', hk, rfl, hB, hyl, hL, hbt⟩ := hrel
        have hnum := hL.num
        have hbuf := hL.buf
        by_cases hkn : k < n
        · have hcell := hB.cell k (by omega)
          have hfr := hB.frozen k
          have hk2 : (k : Int) < (M : Int) := by omega
          have HB := hid (hB.set k 120)
          have Hyl := hid hyl
          have HL := hid (hL.setOther (p := ⟨G, k, none⟩) (by exact hGL) (.int .u8 120))
          have Hb := hid (hbt.setCell (p := ⟨G, k, none⟩) rfl (.int .u8 120))
          clear hB hyl hL hbt
          go_wp2
          go_roundw
          case rel => exact ⟨k + 1, _, by omega, by go_num, HB.out, by simpa using Hyl.out, HL.out, Hb.out⟩
          case measure => simp [intOf]; omega
        · have HB := hid hB
          have Hyl := hid hyl
          have HL := hid hL
          clear hB hyl hL
          go_wp2
          go_ret
          exact ⟨ys', rfl, HB.out, Hyl.out, HL.out, hbt⟩

end Go.Proofs.Ytfadnmdmohabmaa
