/-
  lend and turned.
-/
import Derived.Test.YtajnokkmpjdliaaEd0
import Derived.Lib.AppendZeros
namespace Go.Proofs.Ytajnokkmpjdliaa
open Go.RowKit

def LdQ (m : Nat) (w : World) (e : Ending) (w' : World) : Prop := ∃ g G, e = .returned (.slice (some ⟨g, 0, none⟩) m (2 * m + 70)) ∧ w.heap.size ≤ g ∧ BlE w' g G ∧ G.length = 2 * m + 70 ∧ (∀ i, m ≤ i → i < 2 * m + 70 → zg G i = (-7 - (i : Int), -8)) ∧ Below w.heap.size w w'
theorem lend_wr (m q M : Nat) (hm : m ≤ 1048576) (hq : q = 2 * m) (hM : M = q + 70) : wrap64 (2 * (m : Int)) = (q : Int) ∧ IntKind.i64.wrap (2 * (m : Int)) = (q : Int) ∧ wrap64 ((q : Int) + 70) = (M : Int) ∧ IntKind.i64.wrap ((q : Int) + 70) = (M : Int) :=
  ⟨by rw [w64 _ (by omega)]; omega, by rw [iw64 _ (by omega)]; omega, by rw [w64 _ (by omega)]; omega, by rw [iw64 _ (by omega)]; omega⟩
theorem neg_wr (i : Nat) (h : i ≤ 4194304) (z : Int) (hz : z = -7 - (i : Int)) : wrap64 (-7 - (i : Int)) = z ∧ IntKind.i64.wrap (-7 - (i : Int)) = z := ⟨by rw [w64 _ (by omega)]; exact hz.symm, by rw [iw64 _ (by omega)]; exact hz.symm⟩
theorem inc_wr4 (a : Nat) (hb : a ≤ 4194304) : wrap64 ((a : Int) + 1) = (a : Int) + 1 ∧ IntKind.i64.wrap ((a : Int) + 1) = (a : Int) + 1 := ⟨w64 _ (by omega), iw64 _ (by omega)⟩
theorem but_cell2 (w : World) (g s t : Nat) (v u : Value) : But (fun k => k = g) w ((w.setCell ⟨g, s, none⟩ v).setCell ⟨g, t, none⟩ u) := (but_cell w g s v).trans (but_cell _ g t u)

set_option maxRecDepth 100000 in
set_option maxHeartbeats 4000000 in
theorem lend_any (m c : Nat) (a : Option Addr) (Z : List (Int × Int)) (hm : m ≤ 1048576) (w : World) (hR : RdZ w a m Z) :
    Calls Try.prog 9 #[.slice a m c] w (LdQ m w) := by
  obtain ⟨PO, hPO⟩ : ∃ PO, PO = LdQ m w := ⟨_, rfl⟩
  rw [← hPO]
  have HPO := hid hPO
  obtain ⟨q, hq⟩ : ∃ q, q = 2 * m := ⟨_, rfl⟩
  obtain ⟨M, hM⟩ : ∃ M, M = q + 70 := ⟨_, rfl⟩
  have hmk := fun u => make_e M (by omega) u
  obtain ⟨B, hB⟩ : ∃ B, B = w.heap.size := ⟨_, rfl⟩
  have HB := hid hB
  have HR : Hid (∀ W, Below B w W → RdZ W a m Z) := fun W hb => hR.next (by rw [← hB]; exact hb)
  obtain ⟨w1, hw1⟩ : ∃ w1, w1 = w.alloc (.cells (flatE (List.replicate M (0, 0))).toArray 28) := ⟨_, rfl⟩
  obtain ⟨G0, hG0⟩ : ∃ G0 : List (Int × Int), G0 = List.replicate M (0, 0) := ⟨_, rfl⟩
  rw [← hG0] at hw1 hmk
  have HI0 : Hid (BlE w1 w.heap.size G0 ∧ G0.length = M ∧ Below B w w1) := ⟨by rw [hw1]; exact heap_new _ _, by rw [hG0]; simp, by rw [hw1, hB]; exact below1 _ _⟩
  have HM : Hid (M = 2 * m + 70 ∧ m ≤ 1048576) := ⟨by omega, hm⟩
  have hmM : (m : Int) ≤ (M : Int) := by omega
  have hmM' : m ≤ M := by omega
  have HW1 := hid hw1
  obtain ⟨e1, e2, e3, e4⟩ := lend_wr m q M hm hq hM
  clear hPO hB hR hG0 hw1 hq hM hm
  go_enter Try.func9, Try.ntmps9
  go_wp2_with fail
  rw [← HW1.out]
  obtain ⟨g, hg⟩ : ∃ g, g = w.heap.size := ⟨_, rfl⟩
  rw [← hg]
  rw [← hg] at HI0
  have HGB : Hid (B = g) := by rw [hg]; exact HB.out
  clear hg HW1 hmk e1 e2 e3 e4
  go_loopw [4] (fun iv wr => ∃ (i : Nat) (G : List (Int × Int)), iv = .int .i64 (i : Int) ∧ i ≤ M ∧ BlE wr g G ∧ G.length = M ∧ (∀ j, j < i → zg G j = (-7 - (j : Int), -8)) ∧ Below B w wr) (fun iv _ => M - (intOf iv).toNat)
  case atStart => exact ⟨0, G0, rfl, by omega, HI0.out.1, HI0.out.2.1, fun j hj => by omega, HI0.out.2.2⟩
  case round =>
    clear HI0
    obtain ⟨i, G, rfl, hi, hbl, hGl, hv, hb⟩ := hrel
    by_cases p : i = M
    · obtain ⟨w4, G4, hc, hbl4, hl4, h41, h42, hbt⟩ := copy_e (M := M) (dCap := M) (sCap := c) hbl (HR.out wr hb) hmM' (by omega)
      have HD : Hid (PO (.returned (.slice (some ⟨g, 0, none⟩) m M)) w4) := by
        unfold Hid
        rw [HPO.out]
        have hM := HM.out.1
        refine ⟨g, G4, by rw [hM], by rw [← HB.out, HGB.out]; exact Nat.le_refl _, hbl4, by omega, fun j h1 h2 => by rw [h42 j h1]; exact hv j (by omega), ?_⟩
        rw [← HB.out]
        exact hb.trans (hbt.below (by have := hbl.lt; have := HGB.out; omega) (fun k hk e => by have := HGB.out; omega))
      have qq : (M : Int) ≤ (i : Int) := by omega
      clear hi hbl hGl hv hb hbl4 hl4 h41 h42 hbt p
      go_wp2_with (refine wpList_copy_run _ rfl _ _ _ _ rfl _ _ rfl rfl _ _ hc ?_)
      exact HD.out
    · have hiM : i < M := by omega
      have qi : (i : Int) < (M : Int) := by omega
      obtain ⟨z, hz⟩ : ∃ z, z = -7 - (i : Int) := ⟨_, rfl⟩
      obtain ⟨u2, hu2⟩ : ∃ u2, u2 = (wr.setCell ⟨g, i * 2, none⟩ (.int .i64 z)).setCell ⟨g, i * 2 + 1, none⟩ (.int .i64 (-8)) := ⟨_, rfl⟩
      have hbl2 : BlE u2 g (G.set i (z, -8)) := by rw [hu2]; exact hbl.set2 i z (-8) (by omega)
      have HNx : Hid (i + 1 ≤ M ∧ BlE u2 g (G.set i (z, -8)) ∧ (G.set i (z, -8)).length = M ∧ (∀ j, j < i + 1 → zg (G.set i (z, -8)) j = (-7 - (j : Int), -8)) ∧ Below B w u2) := by
        refine ⟨by omega, hbl2, by rw [List.length_set]; exact hGl, fun j hj => ?_, ?_⟩
        · rw [zg_set _ _ _ _ (by omega)]
          by_cases e : j = i
          · rw [if_pos e, hz, e]
          · rw [if_neg e]; exact hv j (by omega)
        · rw [hu2]
          exact hb.trans ((but_cell2 wr g _ _ _ _).below (by have := hbl.lt; have := HGB.out; omega) (fun k hk e => by have := HGB.out; omega))
      obtain ⟨c1, c2⟩ := hbl.cell i (by omega)
      have f1 := hbl.frozen (i * 2)
      have f2 := hbl.frozen (i * 2 + 1)
      obtain ⟨o1, ho1⟩ : ∃ o1, o1 = (zg G i).1 := ⟨_, rfl⟩
      obtain ⟨o2, ho2⟩ : ∃ o2, o2 = (zg G i).2 := ⟨_, rfl⟩
      rw [← ho1] at c1
      rw [← ho2] at c2
      have hM9 := HM.out
      have HU2 := hid hu2
      obtain ⟨e5, e6⟩ := neg_wr i (by omega) z hz
      obtain ⟨ew, ewb⟩ := inc_wr4 i (by omega)
      clear hi hbl hGl hv hb p hz hbl2 hu2 ho1 ho2 hM9
      go_wp2_with fail
      rw [← HU2.out]
      refine ⟨⟨i + 1, _, by rw [Int.natCast_add]; rfl, HNx.out⟩, ?_⟩
      exact mea_step HNx.out.1

/-! ### turned -/
theorem OwE.set2 {B : Nat} {w : World} {g m c : Nat} {Y : List (Int × Int)} (h : OwE B w (.slice (some ⟨g, 0, none⟩) m c) Y) (hm : Y.length = m) (k : Nat) (x y : Int) (hk : k < m) : OwE B ((w.setCell ⟨g, k * 2, none⟩ (.int .i64 x)).setCell ⟨g, k * 2 + 1, none⟩ (.int .i64 y)) (.slice (some ⟨g, 0, none⟩) m c) (Y.set k (x, y)) := by
  unfold OwE at *
  rw [flatE_set Y k (x, y) (by omega), List.length_set]
  rw [hm] at h ⊢
  exact ((h.stored (k * 2) (.int .i64 x)).1.stored (k * 2 + 1) (.int .i64 y)).1
theorem app_e (w : World) (a : Option Addr) (m c : Nat) (Z : List (Int × Int)) (hm : m ≤ 1048576) (hc : a = none → c = 0) (hR : RdZ w a m Z) :
    ∃ g c' w2, (Builtin.append_ #[22, 22] 22 #[.slice (some ⟨w.heap.size, 0, none⟩) 0 0, .slice a m c]).run Try.prog (w.alloc (.cells #[] 28)) = .ok (.slice (some ⟨g, 0, none⟩) m c') w2 ∧ OwE w.heap.size w2 (.slice (some ⟨g, 0, none⟩) m c') Z ∧ w.heap.size ≤ g ∧ Below w.heap.size w w2 := by
  obtain ⟨i0, hi, hz0, hz1, hz2⟩ := info_parts info28
  have hb1 := below1 w (.cells #[] 28)
  have h0 : (w.alloc (.cells #[] 28)).ownsRow w.heap.size 28 2 (.slice (some ⟨w.heap.size, 0, none⟩) 0 0) 0 [] := ⟨rfl, .inr ⟨w.heap.size, 0, #[], rfl, Nat.le_refl _, heap_new _ _, Nat.le_refl _, by unfold maxLen; omega, rfl, rfl⟩⟩
  have hl := hR.1
  cases a with
  | none =>
    have hm0 : m = 0 := by
      by_cases e : m = 0
      · exact e
      · obtain ⟨g, off, ha⟩ := rdz_some hR (by omega)
        cases ha
    subst hm0
    rw [hc rfl]
    have hr := run_append_owned_none (P := Try.prog) (w.alloc (.cells #[] 28)) w.heap.size 22 22 28 i0 2 Try.underlying22 hi _ 0 [] h0
    have hZ : Z = [] := List.eq_nil_of_length_eq_zero hl
    subst hZ
    exact ⟨w.heap.size, 0, _, hr, h0, Nat.le_refl _, hb1⟩
  | some ad =>
    have hR2 := hR.next hb1
    obtain ⟨v', w2, hr, r1, r2, r3, r4⟩ := run_append_own_at (P := Try.prog) (w.alloc (.cells #[] 28)) w.heap.size 22 22 28 i0 _ 2 16 Try.underlying22 hi hz0 hz1 hz2 rfl (by decide) _ _ _ h0 ad m c (flatE Z) (by rw [flatE_len, hl]) (rdz_src hR2) (flatE_one _) (by unfold maxLen; omega) (by omega) (by simp)
    rw [Nat.zero_add, List.nil_append] at r1
    rcases own_form r1 with ⟨e, hn⟩ | ⟨g, c', rfl, hg⟩
    · have := r3.1 e
      simp at this
    · refine ⟨g, c', w2, hr, by unfold OwE; rw [hl]; exact r1, (own_blk r1 hg).1, hb1.trans ⟨r2.os, r2.tape, r2.output, Nat.le_trans (by simp) r2.size, fun k hk => r2.block k (by simp; omega) (fun e => by simp [Value.ownBlock] at e; omega)⟩⟩
def TuQ (m : Nat) (w : World) (e : Ending) (w' : World) : Prop := ∃ g c' Y, e = .returned (.slice (some ⟨g, 0, none⟩) m c') ∧ w.heap.size ≤ g ∧ OwE w.heap.size w' (.slice (some ⟨g, 0, none⟩) m c') Y ∧ Y.length = m ∧ Below w.heap.size w w'
theorem OwE.lt {B : Nat} {w : World} {g m c : Nat} {Y : List (Int × Int)} (h : OwE B w (.slice (some ⟨g, 0, none⟩) m c) Y) : B ≤ g ∧ g < w.heap.size := ⟨(own_blk h (g := g) rfl).1, (own_blk h (g := g) rfl).2.1⟩
theorem OwE.frozen {B : Nat} {w : World} {g m c : Nat} {Y : List (Int × Int)} (h : OwE B w (.slice (some ⟨g, 0, none⟩) m c) Y) (i : Nat) : w.frozen? ⟨g, i, none⟩ = false := by
  have h2 := own_blk h (g := g) rfl
  obtain ⟨_, _, cur, hh⟩ := h2
  simp [World.frozen?, hh]
theorem last_wr (m i k : Nat) (hm : m ≤ 1048576) (hk : k + i + 1 = m) : wrap64 ((m : Int) - 1 - (i : Int)) = (k : Int) ∧ IntKind.i64.wrap ((m : Int) - 1 - (i : Int)) = (k : Int) ∧ wrap64 ((m : Int) - 1) = (m : Int) - 1 ∧ IntKind.i64.wrap ((m : Int) - 1) = (m : Int) - 1 := ⟨by rw [w64 _ (by omega)]; omega, by rw [iw64 _ (by omega)]; omega, w64 _ (by omega), iw64 _ (by omega)⟩

set_option maxRecDepth 100000 in
set_option maxHeartbeats 4000000 in
theorem turned_any (m c : Nat) (a : Option Addr) (t : Int) (Z : List (Int × Int)) (hm : m ≤ 1048576) (hc : a = none → c = 0) (w : World) (hR : RdZ w a m Z) :
    Calls Try.prog 10 #[.slice a m c, .int .i64 t] w (TuQ m w) := by
  obtain ⟨PO, hPO⟩ : ∃ PO, PO = TuQ m w := ⟨_, rfl⟩
  rw [← hPO]
  have HPO := hid hPO
  obtain ⟨B, hB⟩ : ∃ B, B = w.heap.size := ⟨_, rfl⟩
  have HB := hid hB
  have HR : Hid (∀ W, Below B w W → RdZ W a m Z) := fun W hb => hR.next (by rw [← hB]; exact hb)
  obtain ⟨go, c', w2, hrun, hO, hge, hb2⟩ := app_e w a m c Z hm hc hR
  have HD : Hid (∀ W Y, OwE B W (.slice (some ⟨go, 0, none⟩) m c') Y → Y.length = m → Below B w W → PO (.returned (.slice (some ⟨go, 0, none⟩) m c')) W) := fun W Y h1 h2 h3 => by
    rw [HPO.out]
    rw [HB.out] at h1 h3
    exact ⟨go, c', Y, rfl, by rw [← HB.out] at *; exact h1.lt.1, h1, h2, h3⟩
  have HO : Hid (OwE B w2 (.slice (some ⟨go, 0, none⟩) m c') Z ∧ Z.length = m ∧ Below B w w2) := by
    rw [hB]
    exact ⟨hO, hR.1, hb2⟩
  have HM := hid hm
  clear hPO hB hR hO hge hb2 hc
  by_cases t1 : t = 1
  · subst t1
    by_cases m0 : m = 0
    · subst m0
      have HF := hid (HD.out w2 Z HO.out.1 HO.out.2.1 HO.out.2.2)
      clear hm
      go_enter Try.func10, Try.ntmps10
      go_wp2_with (at_builtin; refine Lib.wpList_append_run _ rfl _ _ _ _ rfl _ _ rfl rfl _ _ hrun ?_)
      go_loopw [7] (fun iv wr => iv = .int .i64 0 ∧ wr = w2) (fun _ _ => 0)
      case atStart => exact ⟨rfl, rfl⟩
      case round =>
        obtain ⟨rfl, hw⟩ := hrel
        subst hw
        go_wp2_with fail
        exact HF.out
    · obtain ⟨k, hk⟩ : ∃ k, k = m / 2 := ⟨_, rfl⟩
      have hkm : k < m := by omega
      obtain ⟨g, off, ha, c1, c2⟩ := (HR.out w2 HO.out.2.2).2 k hkm
      obtain ⟨x, hx⟩ : ∃ x, x = (zg Z k).1 := ⟨_, rfl⟩
      obtain ⟨y, hy⟩ : ∃ y, y = (zg Z k).2 := ⟨_, rfl⟩
      rw [← hx] at c1
      rw [← hy] at c2
      obtain ⟨u2, hu2⟩ : ∃ u2, u2 = ((w2.setCell ⟨go, k * 2, none⟩ (.int .i64 y)).setCell ⟨go, k * 2 + 1, none⟩ (.int .i64 x)).drew := ⟨_, rfl⟩
      have hO2 := HO.out.1.set2 HO.out.2.1 k y x hkm
      have hlt := HO.out.1.lt
      have HF : Hid (PO (.returned (.slice (some ⟨go, 0, none⟩) m c')) u2) := by
        refine HD.out u2 (Z.set k (y, x)) ?_ (by rw [List.length_set]; exact HO.out.2.1) ?_
        · rw [hu2]; exact hO2
        · rw [hu2]
          exact HO.out.2.2.trans ((but_cell2 w2 go _ _ _ _).drew.below (by omega) (fun k hk e => by omega))
      have hrd := (HO.out.1.rd HO.out.2.1).2 k hkm
      obtain ⟨g9, off9, hg9, d1, d2⟩ := hrd
      cases hg9
      rw [Nat.zero_add] at d1 d2
      rw [← hx] at d1
      rw [← hy] at d2
      have f1 := HO.out.1.frozen (k * 2)
      have f2 := HO.out.1.frozen (k * 2 + 1)
      have HS4 : Hid ((fun q => q.cell? ⟨g, off + k * 2 + 1, none⟩ = some (.int .i64 y) ∧ q.cell? ⟨g, off + k * 2, none⟩ = some (.int .i64 x)) w2.drew) := ⟨c2, c1⟩
      have q0 : 0 < m := by omega
      have q1 : (k : Int) < (m : Int) := by omega
      have q2 : (m : Int) / 2 = (k : Int) := by omega
      have q3 : (m : Int).tdiv 2 = (k : Int) := by rw [Int.tdiv_eq_ediv_of_nonneg (by omega)]; omega
      have q4 : 0 ≤ (k : Int) := by omega
      have HU2 := hid hu2
      obtain ⟨_, _, e7, e8⟩ := pred_wr k (by omega)
      clear hm m0 hk hkm hx hy hO2 hlt hu2
      subst ha
      go_enter Try.func10, Try.ntmps10
      go_wp2_with (at_builtin; refine Lib.wpList_append_run _ rfl _ _ _ _ rfl _ _ rfl rfl _ _ hrun ?_)
      refine wp_region_last (S := (fun q => q.cell? ⟨g, off + k * 2 + 1, none⟩ = some (.int .i64 y) ∧ q.cell? ⟨g, off + k * 2, none⟩ = some (.int .i64 x))) 14 14 (by kernel_rfl) (by kernel_rfl) (by kernel_rfl) HS4.out (fun hSS => ?_)
      refine wpAnyH_take (i := 0) (oi := ({ dst := some 21, op := Op.move (Operand.tmp 5), type := 22, pos := _, after := _, guard := none } : Oper)) (v := ?_) rfl (by kernel_rfl) (by kernel_rfl) (by kernel_rfl) (fun _ _ _ h => h) (Or.inl ⟨by rfl, ?_⟩) hSS ?_
      rotate_left
      · intro w9 hSw
        (try dsimp only at hSw)
        (try go_split_ands)
        first | (go_simp; done) | (go_simp; with_reducible rfl)
      try simp only [Act.put, List.setIfInBounds_toArray, List.set_cons_zero, List.set_cons_succ]
      refine wpAnyH_take (i := 1) (oi := ({ dst := some 22, op := Op.move (Operand.tmp 6), type := 3, pos := _, after := _, guard := none } : Oper)) (v := ?_) rfl (by kernel_rfl) (by kernel_rfl) (by kernel_rfl) (fun _ _ _ h => h) (Or.inl ⟨by rfl, ?_⟩) hSS ?_
      rotate_left
      · intro w9 hSw
        (try dsimp only at hSw)
        (try go_split_ands)
        first | (go_simp; done) | (go_simp; with_reducible rfl)
      try simp only [Act.put, List.setIfInBounds_toArray, List.set_cons_zero, List.set_cons_succ]
      refine wpAnyH_take (i := 2) (oi := ({ dst := some 23, op := Op.move (Operand.tmp 0), type := 22, pos := _, after := _, guard := none } : Oper)) (v := ?_) rfl (by kernel_rfl) (by kernel_rfl) (by kernel_rfl) (fun _ _ _ h => h) (Or.inl ⟨by rfl, ?_⟩) hSS ?_
      rotate_left
      · intro w9 hSw
        (try dsimp only at hSw)
        (try go_split_ands)
        first | (go_simp; done) | (go_simp; with_reducible rfl)
      try simp only [Act.put, List.setIfInBounds_toArray, List.set_cons_zero, List.set_cons_succ]
      refine wpAnyH_take (i := 3) (oi := ({ dst := some 24, op := Op.move (Operand.tmp 6), type := 3, pos := _, after := _, guard := none } : Oper)) (v := ?_) rfl (by kernel_rfl) (by kernel_rfl) (by kernel_rfl) (fun _ _ _ h => h) (Or.inl ⟨by rfl, ?_⟩) hSS ?_
      rotate_left
      · intro w9 hSw
        (try dsimp only at hSw)
        (try go_split_ands)
        first | (go_simp; done) | (go_simp; with_reducible rfl)
      try simp only [Act.put, List.setIfInBounds_toArray, List.set_cons_zero, List.set_cons_succ]
      refine wpAnyH_take (i := 4) (oi := ({ dst := some 25, op := Op.indexAddr 22 (Operand.tmp 23) (Operand.tmp 24), type := 0, pos := _, after := _, guard := none } : Oper)) (v := ?_) rfl (by kernel_rfl) (by kernel_rfl) (by kernel_rfl) (fun _ _ _ h => h) (Or.inl ⟨by rfl, ?_⟩) hSS ?_
      rotate_left
      · intro w9 hSw
        (try dsimp only at hSw)
        (try go_split_ands)
        first | (go_simp; done) | (go_simp; with_reducible rfl)
      try simp only [Act.put, List.setIfInBounds_toArray, List.set_cons_zero, List.set_cons_succ]
      refine wpAnyH_take (i := 5) (oi := ({ dst := some 26, op := Op.fieldAddr 28 (Operand.tmp 25) 1, type := 0, pos := _, after := _, guard := none } : Oper)) (v := ?_) rfl (by kernel_rfl) (by kernel_rfl) (by kernel_rfl) (fun _ _ _ h => h) (Or.inl ⟨by rfl, ?_⟩) hSS ?_
      rotate_left
      · intro w9 hSw
        (try dsimp only at hSw)
        (try go_split_ands)
        first | (go_simp; done) | (go_simp; with_reducible rfl)
      try simp only [Act.put, List.setIfInBounds_toArray, List.set_cons_zero, List.set_cons_succ]
      refine wpAnyH_take (i := 6) (oi := ({ dst := some 27, op := Op.load 3 (Operand.tmp 26), type := 3, pos := _, after := _, guard := none } : Oper)) (v := ?_) rfl (by kernel_rfl) (by kernel_rfl) (by kernel_rfl) (fun _ _ _ h => h) (Or.inl ⟨by rfl, ?_⟩) hSS ?_
      rotate_left
      · intro w9 hSw
        (try dsimp only at hSw)
        (try go_split_ands)
        first | (go_simp; done) | (go_simp; with_reducible rfl)
      try simp only [Act.put, List.setIfInBounds_toArray, List.set_cons_zero, List.set_cons_succ]
      refine wpAnyH_take (i := 7) (oi := ({ dst := some 28, op := Op.move (Operand.tmp 0), type := 22, pos := _, after := _, guard := none } : Oper)) (v := ?_) rfl (by kernel_rfl) (by kernel_rfl) (by kernel_rfl) (fun _ _ _ h => h) (Or.inl ⟨by rfl, ?_⟩) hSS ?_
      rotate_left
      · intro w9 hSw
        (try dsimp only at hSw)
        (try go_split_ands)
        first | (go_simp; done) | (go_simp; with_reducible rfl)
      try simp only [Act.put, List.setIfInBounds_toArray, List.set_cons_zero, List.set_cons_succ]
      refine wpAnyH_take (i := 8) (oi := ({ dst := some 29, op := Op.move (Operand.tmp 6), type := 3, pos := _, after := _, guard := none } : Oper)) (v := ?_) rfl (by kernel_rfl) (by kernel_rfl) (by kernel_rfl) (fun _ _ _ h => h) (Or.inl ⟨by rfl, ?_⟩) hSS ?_
      rotate_left
      · intro w9 hSw
        (try dsimp only at hSw)
        (try go_split_ands)
        first | (go_simp; done) | (go_simp; with_reducible rfl)
      try simp only [Act.put, List.setIfInBounds_toArray, List.set_cons_zero, List.set_cons_succ]
      refine wpAnyH_take (i := 9) (oi := ({ dst := some 30, op := Op.indexAddr 22 (Operand.tmp 28) (Operand.tmp 29), type := 0, pos := _, after := _, guard := none } : Oper)) (v := ?_) rfl (by kernel_rfl) (by kernel_rfl) (by kernel_rfl) (fun _ _ _ h => h) (Or.inl ⟨by rfl, ?_⟩) hSS ?_
      rotate_left
      · intro w9 hSw
        (try dsimp only at hSw)
        (try go_split_ands)
        first | (go_simp; done) | (go_simp; with_reducible rfl)
      try simp only [Act.put, List.setIfInBounds_toArray, List.set_cons_zero, List.set_cons_succ]
      refine wpAnyH_take (i := 10) (oi := ({ dst := some 31, op := Op.fieldAddr 28 (Operand.tmp 30) 0, type := 0, pos := _, after := _, guard := none } : Oper)) (v := ?_) rfl (by kernel_rfl) (by kernel_rfl) (by kernel_rfl) (fun _ _ _ h => h) (Or.inl ⟨by rfl, ?_⟩) hSS ?_
      rotate_left
      · intro w9 hSw
        (try dsimp only at hSw)
        (try go_split_ands)
        first | (go_simp; done) | (go_simp; with_reducible rfl)
      try simp only [Act.put, List.setIfInBounds_toArray, List.set_cons_zero, List.set_cons_succ]
      refine wpAnyH_take (i := 11) (oi := ({ dst := some 32, op := Op.load 3 (Operand.tmp 31), type := 3, pos := _, after := _, guard := none } : Oper)) (v := ?_) rfl (by kernel_rfl) (by kernel_rfl) (by kernel_rfl) (fun _ _ _ h => h) (Or.inl ⟨by rfl, ?_⟩) hSS ?_
      rotate_left
      · intro w9 hSw
        (try dsimp only at hSw)
        (try go_split_ands)
        first | (go_simp; done) | (go_simp; with_reducible rfl)
      try simp only [Act.put, List.setIfInBounds_toArray, List.set_cons_zero, List.set_cons_succ]
      refine wpAnyH_take (i := 12) (oi := ({ dst := some 33, op := Op.build 28 #[(0, Operand.tmp 27), (1, Operand.tmp 32)], type := 28, pos := _, after := _, guard := none } : Oper)) (v := ?_) rfl (by kernel_rfl) (by kernel_rfl) (by kernel_rfl) (fun _ _ _ h => h) (Or.inl ⟨by rfl, ?_⟩) hSS ?_
      rotate_left
      · intro w9 hSw
        (try dsimp only at hSw)
        (try go_split_ands)
        first | (go_simp; done) | (go_simp; with_reducible rfl)
      try simp only [Act.put, List.setIfInBounds_toArray, List.set_cons_zero, List.set_cons_succ]
      refine wpAnyH_take (i := 13) (oi := ({ dst := some 34, op := Op.indexAddr 22 (Operand.tmp 21) (Operand.tmp 22), type := 0, pos := _, after := _, guard := none } : Oper)) (v := ?_) rfl (by kernel_rfl) (by kernel_rfl) (by kernel_rfl) (fun _ _ _ h => h) (Or.inl ⟨by rfl, ?_⟩) hSS ?_
      rotate_left
      · intro w9 hSw
        (try dsimp only at hSw)
        (try go_split_ands)
        first | (go_simp; done) | (go_simp; with_reducible rfl)
      try simp only [Act.put, List.setIfInBounds_toArray, List.set_cons_zero, List.set_cons_succ]
      refine wpAnyH_done (by kernel_rfl) ?_ _
      refine last_step (L := 14) (o := ({ dst := none, op := Op.store 28 (Operand.tmp 34) (Operand.tmp 33), type := 0, pos := _, after := _, guard := none } : Oper)) rfl (fun K9 hK9 => ?_)
      go_simp
      refine hK9.out _ _ ?_
      clear hK9 K9
      try simp only [Act.put, List.setIfInBounds_toArray, List.set_cons_zero, List.set_cons_succ]
      rw [← HU2.out]
      go_wp2_with fail
      go_loopw [7] (fun iv wr => iv = .int .i64 0 ∧ wr = u2) (fun _ _ => 0)
      case atStart => exact ⟨rfl, rfl⟩
      case round =>
        obtain ⟨rfl, hw⟩ := hrel
        subst hw
        go_wp2_with fail
        exact HF.out
  · by_cases t2 : t = 2
    · subst t2
      clear hm t1
      go_enter Try.func10, Try.ntmps10
      go_wp2_with (at_builtin; refine Lib.wpList_append_run _ rfl _ _ _ _ rfl _ _ rfl rfl _ _ hrun ?_)
      clear hrun
      go_loopw [7] (fun iv wr => ∃ (i : Nat) (Y : List (Int × Int)), iv = .int .i64 (i : Int) ∧ i ≤ m ∧ OwE B wr (.slice (some ⟨go, 0, none⟩) m c') Y ∧ Y.length = m ∧ Below B w wr) (fun iv _ => m - (intOf iv).toNat)
      case atStart => exact ⟨0, Z, rfl, by omega, HO.out⟩
      case round =>
        obtain ⟨i, Y, rfl, hi, hOw, hYl, hb⟩ := hrel
        by_cases p : i = m
        · have HF := hid (HD.out wr Y hOw hYl hb)
          have qq : (m : Int) ≤ (i : Int) := by omega
          clear hi hOw hYl hb p
          go_wp2_with fail
          exact HF.out
        · have him : i < m := by omega
          have qi : (i : Int) < (m : Int) := by omega
          obtain ⟨k, hk⟩ : ∃ k, k + i + 1 = m := ⟨m - 1 - i, by omega⟩
          obtain ⟨g, off, ha, c1, c2⟩ := (HR.out wr hb).2 k (by omega)
          obtain ⟨x, hx⟩ : ∃ x, x = (zg Z k).1 := ⟨_, rfl⟩
          obtain ⟨y, hy⟩ : ∃ y, y = (zg Z k).2 := ⟨_, rfl⟩
          rw [← hx] at c1
          rw [← hy] at c2
          obtain ⟨u2, hu2⟩ : ∃ u2, u2 = ((wr.setCell ⟨go, i * 2, none⟩ (.int .i64 x)).setCell ⟨go, i * 2 + 1, none⟩ (.int .i64 y)) := ⟨_, rfl⟩
          have hO2 := hOw.set2 hYl i x y him
          rw [← hu2] at hO2
          have hlt := hOw.lt
          have HNx : Hid (i + 1 ≤ m ∧ OwE B u2 (.slice (some ⟨go, 0, none⟩) m c') (Y.set i (x, y)) ∧ (Y.set i (x, y)).length = m ∧ Below B w u2) := by
            refine ⟨by omega, hO2, by rw [List.length_set]; exact hYl, ?_⟩
            rw [hu2]
            exact hb.trans ((but_cell2 wr go _ _ _ _).below (by omega) (fun k hk e => by omega))
          obtain ⟨g9, off9, hg9, d1, d2⟩ := (hOw.rd hYl).2 i him
          cases hg9
          rw [Nat.zero_add] at d1 d2
          obtain ⟨o1, ho1⟩ : ∃ o1, o1 = (zg Y i).1 := ⟨_, rfl⟩
          obtain ⟨o2, ho2⟩ : ∃ o2, o2 = (zg Y i).2 := ⟨_, rfl⟩
          rw [← ho1] at d1
          rw [← ho2] at d2
          have f1 := hOw.frozen (i * 2)
          have f2 := hOw.frozen (i * 2 + 1)
          have q1 : (k : Int) < (m : Int) := by omega
          have q4 : 0 ≤ (k : Int) := by omega
          have q5 : (m : Int) - 1 - (i : Int) = (k : Int) := by omega
          have HM9 := HM.out
          have HU2 := hid hu2
          have hi9 : i ≤ 2097152 := by omega
          have hk9 : k ≤ 1048576 := by omega
          obtain ⟨_, _, e7, e8⟩ := pred_wr k hk9
          obtain ⟨e1, e2, e3, e4⟩ := last_wr m i k HM9 hk
          obtain ⟨ew, ewb⟩ := inc_wr i hi9
          clear hi hOw hYl hb p hO2 hlt hx hy ho1 ho2 hk HM9 hu2 hi9 hk9
          subst ha
          go_wp2_with fail
          rw [← HU2.out]
          refine ⟨⟨i + 1, _, by rw [Int.natCast_add]; rfl, HNx.out⟩, ?_⟩
          exact mea_step HNx.out.1
    · have HF := hid (HD.out w2 Z HO.out.1 HO.out.2.1 HO.out.2.2)
      have b1 : (t == 1) = false := by simpa using t1
      have b2 : (t == 2) = false := by simpa using t2
      clear hm
      go_enter Try.func10, Try.ntmps10
      go_wp2_with (at_builtin; refine Lib.wpList_append_run _ rfl _ _ _ _ rfl _ _ rfl rfl _ _ hrun ?_)
      go_loopw [7] (fun iv wr => iv = .int .i64 0 ∧ wr = w2) (fun _ _ => 0)
      case atStart => exact ⟨rfl, rfl⟩
      case round =>
        obtain ⟨rfl, hw⟩ := hrel
        subst hw
        go_wp2_with fail
        exact HF.out
end Go.Proofs.Ytajnokkmpjdliaa
