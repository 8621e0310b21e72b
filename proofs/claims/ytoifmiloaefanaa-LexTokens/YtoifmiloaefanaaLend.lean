/-
  Lend.
-/
import Derived.Test.YtoifmiloaefanaaBut
namespace Go.Proofs.Ytoifmiloaefanaa
open Go.RowKit

theorem But.comp {X Y : Nat → Prop} {a b c : World} (h : But X a b) (k : But Y b c) (hY : ∀ x, x < a.heap.size → Y x → X x) : But X a c :=
  ⟨k.os.trans h.os, k.tape.trans h.tape, k.output.trans h.output, Nat.le_trans h.size k.size, fun i hi hx => (k.block i (Nat.lt_of_lt_of_le hi h.size) (fun hy => hx (hY i hi hy))).trans (h.block i hi hx)⟩

set_option maxRecDepth 100000 in
set_option maxHeartbeats 1000000 in
/-- the buffer is long enough -/
theorem Lend_old (L G M : Nat) (N : Int) (a : Option Addr) (n c : Nat) (ys0 zs : List Int) (w : World) (hn : n ≤ 16777216) (hB0 : Blk .u8 5 w G ys0) (hl0 : ys0.length = M) (hL0 : Lnd w L (.slice (some ⟨G, 0, none⟩) M M) N) (hGL : L ≠ G) (hM : 2 * n + 70 ≤ M) (hM2 : M ≤ 1073741824)
    (hR : RdN (fun x => x = L ∨ x = G) w a n zs) :
    Calls Try.prog 8 #[.pointer (some ⟨L, 0, none⟩), .slice a n c] w fun e w' => ∃ (G' M' : Nat) (ys : List Int), e = .returned (.slice (some ⟨G', 0, none⟩) n (2 * n + 70)) ∧ Blk .u8 5 w' G' ys ∧ ys.length = M' ∧ ys.take (2 * n + 70) = lent zs ∧ Lnd w' L (.slice (some ⟨G', 0, none⟩) M' M') n ∧ G' = G ∧ M' = M ∧ But (fun x => x = L ∨ x = G) w w' := by
  obtain ⟨hzl, hzb, hsrc⟩ := hR
  obtain ⟨W, hW⟩ : ∃ W, W = w := ⟨_, rfl⟩
  subst hW
  have hbuf0 := hL0.buf
  have hlt : ¬ ((M : Int) < 2 * (n : Int) + 70) := by omega
  go_enter Try.func8, Try.ntmps8
  go_wp2
  clear hbuf0 hlt
  go_loopw [5] (fun i wt => ∃ (k : Nat) (ys : List Int), k ≤ n ∧ i = .int .i64 (k : Int) ∧ Blk .u8 5 wt G ys ∧ ys.length = M ∧ ys.take k = (lent zs).take k ∧ Lnd wt L (.slice (some ⟨G, 0, none⟩) M M) N ∧ But (fun x => x = L ∨ x = G) W wt) (fun i _ => n - (intOf i).toNat)
  case atStart => exact ⟨0, ys0, Nat.zero_le _, rfl, hB0, hl0, rfl, hL0, But.refl _ _⟩
  case round =>
    obtain ⟨k, ys, hk, rfl, hB, hyl, htk, hL, hbt⟩ := hrel
    by_cases hkn : k < n
    · obtain ⟨b, off, rfl, hb, hbx, hc⟩ := hsrc.resolve_left (by omega)
      have hcs := (hbt.cell (p := ⟨b, off + k, none⟩) hb hbx).trans (hc k hkn)
      have hbuf := hL.buf
      have hcell := hB.cell k (by omega)
      have hfr := hB.frozen k
      have hk1 : (k : Int) < (n : Int) := by omega
      have hk2 : (k : Int) < (M : Int) := by omega
      have HB := hid (hB.set k (zs.getD k 0))
      have HT := hid (take_set (ys := ys) (k := k) (z := zs.getD k 0) (l := lent zs) (by omega) (by rw [length_lent]; omega) htk (lent_lo (by omega)).symm)
      have HL := hid (hL.setOther (p := ⟨G, k, none⟩) (by exact hGL) (.int .u8 (zs.getD k 0)))
      have Hb := hid (hbt.setCell (p := ⟨G, k, none⟩) (.inr rfl) (.int .u8 (zs.getD k 0)))
      have Hyl := hid hyl
      generalize ys.getD k 0 = old at *
      generalize zs.getD k 0 = z at *
      clear hB htk hL hbt hc hyl hsrc
      go_wp2
      go_region
      all_goals go_wp2
      all_goals
        go_roundw
        case rel => exact ⟨k + 1, _, by omega, by go_num, HB.out.drew, by simpa using Hyl.out, HT.out, HL.out, Hb.out.drew⟩
        case measure => simp [intOf]; omega
    · have e : k = n := by omega
      subst e
      clear hkn hk
      go_wp2
      go_loopw [6] (fun i wt => ∃ (j : Nat) (ys : List Int), k ≤ j ∧ j ≤ 2 * k + 70 ∧ i = .int .i64 (j : Int) ∧ Blk .u8 5 wt G ys ∧ ys.length = M ∧ ys.take j = (lent zs).take j ∧ Lnd wt L (.slice (some ⟨G, 0, none⟩) M M) N ∧ But (fun x => x = L ∨ x = G) W wt) (fun i _ => 2 * k + 70 - (intOf i).toNat)
      case atStart => exact ⟨k, ys, Nat.le_refl _, by omega, rfl, hB, hyl, htk, hL, hbt⟩
      case round =>
        clear hB htk hL hbt hyl ys
        obtain ⟨j, ys, hj1, hj2, rfl, hB, hyl, htk, hL, hbt⟩ := hrel
        by_cases hjn : j < 2 * k + 70
        · have hbuf := hL.buf
          have hcell := hB.cell j (by omega)
          have hfr := hB.frozen j
          have hk2 : (j : Int) < (M : Int) := by omega
          have HB := hid (hB.set j (mk j))
          have HT := hid (take_set (ys := ys) (k := j) (z := mk j) (l := lent zs) (by omega) (by rw [length_lent]; omega) htk (lent_hi (by omega) (by omega)).symm)
          have HL := hid (hL.setOther (p := ⟨G, j, none⟩) (by exact hGL) (.int .u8 (mk j)))
          have Hb := hid (hbt.setCell (p := ⟨G, j, none⟩) (.inr rfl) (.int .u8 (mk j)))
          have Hyl := hid hyl
          generalize ys.getD j 0 = old at *
          clear hB htk hL hbt hyl hsrc
          go_wp2_with fail
          go_region_with (go_at_call 15; refine (mark_any _ j _ (by omega)).mono ?_; rintro e w1 ⟨rfl, rfl⟩)
          all_goals go_wp2
          all_goals
            go_roundw
            case rel => exact ⟨j + 1, _, by omega, by omega, by go_num, HB.out.drew, by simpa using Hyl.out, HT.out, HL.out, Hb.out.drew⟩
            case measure => simp [intOf]; omega
        · have e : j = 2 * k + 70 := by omega
          subst e
          have hbuf := hL.buf
          have hnum := hL.num
          have hfr := hL.frozen 1
          have HB := hid hB
          have HL := hid (hL.setNum k)
          have Hb := hid (hbt.setCell (p := ⟨L, 1, none⟩) (.inl rfl) (.int .i64 (k : Int)))
          have HT : Hid (ys.take (2 * k + 70) = lent zs) := by
            show _ = _
            rw [htk, List.take_of_length_le (by rw [length_lent]; omega)]
          have Hyl := hid hyl
          clear hB hL hbt htk hyl hsrc
          go_wp2
          go_ret
          exact ⟨G, M, ys, rfl, HB.out.setOther (Ne.symm hGL) _, Hyl.out, HT.out, HL.out, rfl, rfl, Hb.out⟩

set_option maxRecDepth 100000 in
set_option maxHeartbeats 1000000 in
/-- a new buffer -/
theorem Lend_new (L : Nat) (a0 : Option Addr) (m0 c0 : Nat) (N : Int) (a : Option Addr) (n c : Nat) (zs : List Int) (w : World) (hn : n ≤ 16777216) (hL0 : Lnd w L (.slice a0 m0 c0) N) (hM : m0 < 2 * n + 70)
    (hR : RdN (fun x => x = L) w a n zs) :
    Calls Try.prog 8 #[.pointer (some ⟨L, 0, none⟩), .slice a n c] w fun e w' => ∃ (G' M' : Nat) (ys : List Int), e = .returned (.slice (some ⟨G', 0, none⟩) n (2 * n + 70)) ∧ Blk .u8 5 w' G' ys ∧ ys.length = M' ∧ ys.take (2 * n + 70) = lent zs ∧ Lnd w' L (.slice (some ⟨G', 0, none⟩) M' M') n ∧ G' = w.heap.size ∧ M' = 4 * n + 512 ∧ But (fun x => x = L) w w' := by
  have hmk := make_u8 (4 * n + 512) (by omega)
  have hcast : (((4 * n + 512 : Nat) : Nat) : Int) = 4 * (n : Int) + 512 := by omega
  rw [hcast] at hmk
  have hbuf0 := hL0.buf
  have hfr0 := hL0.frozen 0
  have hlt : ((m0 : Int) < 2 * (n : Int) + 70) := by omega
  have hLs := hL0.lt
  have HL0 := hid ((hL0.setBuf (.slice (some ⟨w.heap.size, 0, none⟩) (4 * n + 512) (4 * n + 512))).alloc (.cells ((zeros (4 * n + 512)).map (Value.int .u8)).toArray 5))
  have HB0 : Hid (Blk .u8 5 ((w.setCell ⟨L, 0, none⟩ (.slice (some ⟨w.heap.size, 0, none⟩) (4 * n + 512) (4 * n + 512))).alloc (.cells ((zeros (4 * n + 512)).map (Value.int .u8)).toArray 5)) w.heap.size (zeros (4 * n + 512))) := by
    have h := Blk.new (k := .u8) (e := 5) (w.setCell ⟨L, 0, none⟩ (.slice (some ⟨w.heap.size, 0, none⟩) (4 * n + 512) (4 * n + 512))) (zeros (4 * n + 512))
    rw [show (w.setCell ⟨L, 0, none⟩ (.slice (some ⟨w.heap.size, 0, none⟩) (4 * n + 512) (4 * n + 512))).heap.size = w.heap.size from by simp [World.setCell]] at h
    exact h
  have Hb0 := hid (((But.refl (fun x => x = L) w).setCell (p := ⟨L, 0, none⟩) rfl (.slice (some ⟨w.heap.size, 0, none⟩) (4 * n + 512) (4 * n + 512))).alloc (.cells ((zeros (4 * n + 512)).map (Value.int .u8)).toArray 5))
  have hl0 := length_zeros (4 * n + 512)
  have HG := hid hLs
  clear hL0
  go_enter Try.func8, Try.ntmps8
  go_wp2
  have hR1 := hR.but Hb0.out
  have hL0 := HL0.out
  have hB0 := HB0.out
  have hGL : L ≠ w.heap.size := by omega
  have hRY : RdN (fun x => x = L ∨ x = w.heap.size) ((w.setCell ⟨L, 0, none⟩ (.slice (some ⟨w.heap.size, 0, none⟩) (4 * n + 512) (4 * n + 512))).alloc (.cells ((zeros (4 * n + 512)).map (Value.int .u8)).toArray 5)) a n zs := by
    obtain ⟨q1, q2, q3⟩ := hR
    obtain ⟨_, _, r3⟩ := hR1
    refine ⟨q1, q2, ?_⟩
    rcases q3 with q3 | ⟨b, off, rfl, hb, hx, _⟩
    · exact .inl q3
    · rcases r3 with r3 | ⟨b', off', e', hb', hx', hc'⟩
      · exact .inl r3
      · simp at e'
        obtain ⟨rfl, rfl⟩ := e'
        exact .inr ⟨b, off, rfl, hb', by omega, hc'⟩
  clear HL0 HB0 hmk hbuf0 hfr0 hlt hcast hR hR1 HG
  have HW := hid hLs
  generalize ((w.setCell ⟨L, 0, none⟩ (.slice (some ⟨w.heap.size, 0, none⟩) (4 * n + 512) (4 * n + 512))).alloc (.cells ((zeros (4 * n + 512)).map (Value.int .u8)).toArray 5)) = W at *
  generalize zeros (4 * n + 512) = ys0 at *
  obtain ⟨hzl, hzb, hsrc⟩ := hRY
  have hM : 2 * n + 70 ≤ 4 * n + 512 := by omega
  have hM2 : 4 * n + 512 ≤ 1073741824 := by omega
  generalize hGG : w.heap.size = G at *
  generalize hMM : 4 * n + 512 = M at *
  have HGG := hid hGG
  have HMM := hid hMM
  clear hGG hMM
  go_loopw [5] (fun i wt => ∃ (k : Nat) (ys : List Int), k ≤ n ∧ i = .int .i64 (k : Int) ∧ Blk .u8 5 wt G ys ∧ ys.length = M ∧ ys.take k = (lent zs).take k ∧ Lnd wt L (.slice (some ⟨G, 0, none⟩) M M) N ∧ But (fun x => x = L ∨ x = G) W wt) (fun i _ => n - (intOf i).toNat)
  case atStart => exact ⟨0, ys0, Nat.zero_le _, rfl, hB0, hl0, rfl, hL0, But.refl _ _⟩
  case round =>
    obtain ⟨k, ys, hk, rfl, hB, hyl, htk, hL, hbt⟩ := hrel
    by_cases hkn : k < n
    · obtain ⟨b, off, rfl, hb, hbx, hc⟩ := hsrc.resolve_left (by omega)
      have hcs := (hbt.cell (p := ⟨b, off + k, none⟩) hb hbx).trans (hc k hkn)
      have hbuf := hL.buf
      have hcell := hB.cell k (by omega)
      have hfr := hB.frozen k
      have hk1 : (k : Int) < (n : Int) := by omega
      have hk2 : (k : Int) < (M : Int) := by omega
      have HB := hid (hB.set k (zs.getD k 0))
      have HT := hid (take_set (ys := ys) (k := k) (z := zs.getD k 0) (l := lent zs) (by omega) (by rw [length_lent]; omega) htk (lent_lo (by omega)).symm)
      have HL := hid (hL.setOther (p := ⟨G, k, none⟩) (by exact hGL) (.int .u8 (zs.getD k 0)))
      have Hb := hid (hbt.setCell (p := ⟨G, k, none⟩) (.inr rfl) (.int .u8 (zs.getD k 0)))
      have Hyl := hid hyl
      generalize ys.getD k 0 = old at *
      generalize zs.getD k 0 = z at *
      clear hB htk hL hbt hc hyl hsrc
      go_wp2
      go_region
      all_goals go_wp2
      all_goals
        go_roundw
        case rel => exact ⟨k + 1, _, by omega, by go_num, HB.out.drew, by simpa using Hyl.out, HT.out, HL.out, Hb.out.drew⟩
        case measure => simp [intOf]; omega
    · have e : k = n := by omega
      subst e
      clear hkn hk
      go_wp2
      go_loopw [6] (fun i wt => ∃ (j : Nat) (ys : List Int), k ≤ j ∧ j ≤ 2 * k + 70 ∧ i = .int .i64 (j : Int) ∧ Blk .u8 5 wt G ys ∧ ys.length = M ∧ ys.take j = (lent zs).take j ∧ Lnd wt L (.slice (some ⟨G, 0, none⟩) M M) N ∧ But (fun x => x = L ∨ x = G) W wt) (fun i _ => 2 * k + 70 - (intOf i).toNat)
      case atStart => exact ⟨k, ys, Nat.le_refl _, by omega, rfl, hB, hyl, htk, hL, hbt⟩
      case round =>
        clear hB htk hL hbt hyl ys
        obtain ⟨j, ys, hj1, hj2, rfl, hB, hyl, htk, hL, hbt⟩ := hrel
        by_cases hjn : j < 2 * k + 70
        · have hbuf := hL.buf
          have hcell := hB.cell j (by omega)
          have hfr := hB.frozen j
          have hk2 : (j : Int) < (M : Int) := by omega
          have HB := hid (hB.set j (mk j))
          have HT := hid (take_set (ys := ys) (k := j) (z := mk j) (l := lent zs) (by omega) (by rw [length_lent]; omega) htk (lent_hi (by omega) (by omega)).symm)
          have HL := hid (hL.setOther (p := ⟨G, j, none⟩) (by exact hGL) (.int .u8 (mk j)))
          have Hb := hid (hbt.setCell (p := ⟨G, j, none⟩) (.inr rfl) (.int .u8 (mk j)))
          have Hyl := hid hyl
          generalize ys.getD j 0 = old at *
          clear hB htk hL hbt hyl hsrc
          go_wp2_with fail
          go_region_with (go_at_call 15; refine (mark_any _ j _ (by omega)).mono ?_; rintro e w1 ⟨rfl, rfl⟩)
          all_goals go_wp2
          all_goals
            go_roundw
            case rel => exact ⟨j + 1, _, by omega, by omega, by go_num, HB.out.drew, by simpa using Hyl.out, HT.out, HL.out, Hb.out.drew⟩
            case measure => simp [intOf]; omega
        · have e : j = 2 * k + 70 := by omega
          subst e
          have hbuf := hL.buf
          have hnum := hL.num
          have hfr := hL.frozen 1
          have HB := hid hB
          have HL := hid (hL.setNum k)
          have Hb := hid (hbt.setCell (p := ⟨L, 1, none⟩) (.inl rfl) (.int .i64 (k : Int)))
          have HT : Hid (ys.take (2 * k + 70) = lent zs) := by
            show _ = _
            rw [htk, List.take_of_length_le (by rw [length_lent]; omega)]
          have Hyl := hid hyl
          clear hB hL hbt htk hyl hsrc
          go_wp2
          go_ret
          exact ⟨G, M, ys, rfl, HB.out.setOther (Ne.symm hGL) _, Hyl.out, HT.out, HL.out, HGG.out.symm, HMM.out.symm, Hb0.out.comp Hb.out (fun x hx h => h.elim id (fun h => absurd h (by have := HGG.out; omega)))⟩

end Go.Proofs.Ytoifmiloaefanaa
