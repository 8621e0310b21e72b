/-
  The law OrderOrders.
-/
import Derived.Test.YtajnokkmpjdliaaEd2
namespace Go.Proofs.Ytajnokkmpjdliaa
open Go.RowKit

theorem arr_len (n : Nat) (E : List (Nat × Nat)) : ∀ (f : Nat) (out : List Nat), (arr n E f out).length ≤ out.length + f
  | 0, out => by simp [arr]
  | f + 1, out => by
    simp only [arr]
    split
    · omega
    · rename_i x _
      have := arr_len n E f (out ++ [x])
      rw [List.length_append, List.length_singleton] at this
      exact Nat.le_trans this (by omega)
theorem orX_len (s : Int) (Z : List (Int × Int)) : (orX s Z).1.length ≤ 1048576 := by
  unfold orX
  split
  · rename_i h
    have hok := okZ_iff.1 h
    have := arr_len s.toNat (toN Z) s.toNat []
    split
    · simp
    · show (ordP s.toNat (toN Z)).length ≤ _
      unfold ordP
      simp at this
      omega
  · simp
theorem idx0 (s r : Int) (w : World) : Sem.run Try.prog (Instr.index 39 (.agg #[.int .i64 s, .int .i64 0, .int .i64 r, .int .i64 0, .int .i64 s, .int .i64 0, .int .i64 s, .int .i64 0]) (.int .i64 0)) w = .ok (.agg #[.int .i64 s, .int .i64 0]) w := by kernel_rfl
theorem idx1 (s r : Int) (w : World) : Sem.run Try.prog (Instr.index 39 (.agg #[.int .i64 s, .int .i64 0, .int .i64 r, .int .i64 0, .int .i64 s, .int .i64 0, .int .i64 s, .int .i64 0]) (.int .i64 1)) w = .ok (.agg #[.int .i64 r, .int .i64 0]) w := by kernel_rfl
theorem idx2 (s r : Int) (w : World) : Sem.run Try.prog (Instr.index 39 (.agg #[.int .i64 s, .int .i64 0, .int .i64 r, .int .i64 0, .int .i64 s, .int .i64 0, .int .i64 s, .int .i64 0]) (.int .i64 2)) w = .ok (.agg #[.int .i64 s, .int .i64 0]) w := by kernel_rfl
theorem idx3 (s r : Int) (w : World) : Sem.run Try.prog (Instr.index 39 (.agg #[.int .i64 s, .int .i64 0, .int .i64 r, .int .i64 0, .int .i64 s, .int .i64 0, .int .i64 s, .int .i64 0]) (.int .i64 3)) w = .ok (.agg #[.int .i64 s, .int .i64 0]) w := by kernel_rfl
theorem RdZ.own {B : Nat} {w : World} {g m c : Nat} {Y : List (Int × Int)} (h : OwE B w (.slice (some ⟨g, 0, none⟩) m c) Y) (hm : Y.length = m) : RdZ w (some ⟨g, 0, none⟩) m Y := h.rd hm

set_option maxRecDepth 100000 in
set_option maxHeartbeats 8000000 in
theorem law_any (m c : Nat) (a : Option Addr) (s : Int) (Z : List (Int × Int)) (hm : m ≤ 1048576) (hc : a = none → c = 0) (w : World) (hR : RdZ w a m Z) :
    Calls Try.prog 5 #[.int .i64 s, .slice a m c] w fun e w' => e = .returned (.bool true) ∧ Below w.heap.size w w' := by
  obtain ⟨PO, hPO⟩ : ∃ PO : Ending → World → Prop, PO = fun e w' => e = .returned (.bool true) ∧ Below w.heap.size w w' := ⟨_, rfl⟩
  rw [← hPO]
  have HPO := hid hPO
  obtain ⟨B, hB⟩ : ∃ B, B = w.heap.size := ⟨_, rfl⟩
  have HB := hid hB
  have HR : Hid (∀ W, Below B w W → RdZ W a m Z) := fun W hb => hR.next (by rw [← hB]; exact hb)
  have HLd := hid (lend_any m c a Z hm w hR)
  have HM := hid hm
  have HC := hid hc
  obtain ⟨M, hM⟩ : ∃ M, M = 2 * m + 70 := ⟨_, rfl⟩
  have HMM := hid hM
  clear hPO hB hR hm hc hM
  go_enter Try.func5, Try.ntmps5
  go_wp2_with fail
  go_at_call 9
  refine Calls.mono HLd.out ?_
  rintro e w1 ⟨g, G0, rfl, hg, hbl, hGl, htl, hb1⟩
  rw [← HMM.out] at hGl htl ⊢
  rw [← HB.out] at hg hb1
  have HI0 : Hid (BlE w1 g G0 ∧ G0.length = M ∧ (∀ i, m ≤ i → i < M → zg G0 i = (-7 - (i : Int), -8)) ∧ Below B w w1) := ⟨hbl, hGl, htl, hb1⟩
  have HGB := hid hg
  clear hbl hGl htl hb1 HLd hg
  go_wp2_with fail
  go_loopw [6] (fun iv wr => ∃ (t : Nat) (G : List (Int × Int)), iv = .int .i64 (t : Int) ∧ t ≤ 4 ∧ BlE wr g G ∧ G.length = M ∧ (∀ i, m ≤ i → i < M → zg G i = (-7 - (i : Int), -8)) ∧ Below B w wr) (fun iv _ => 4 - (intOf iv).toNat)
  case atStart => exact ⟨0, G0, rfl, by omega, HI0.out⟩
  case round =>
    clear HI0
    obtain ⟨t, G, rfl, ht, hbl, hGl, htl, hb⟩ := hrel
    by_cases p : t = 4
    · have HD : Hid (PO (.returned (.bool true)) wr) := by
        unfold Hid
        rw [HPO.out, ← HB.out]
        exact ⟨rfl, hb⟩
      subst p
      clear hbl hGl htl hb ht
      go_wp2_with fail
      exact HD.out
    · have ht3 : t ≤ 3 := by omega
      have q1 : (t : Int) ≤ 3 := by omega
      have HTu := hid (turned_any m c a (t : Int) Z HM.out HC.out wr (HR.out wr hb))
      have hsz : B ≤ wr.heap.size := by have := hb.size; have := HB.out; omega
      have HCp : Hid (∀ (g2 c' : Nat) (Y : List (Int × Int)) (w2 : World), wr.heap.size ≤ g2 → OwE wr.heap.size w2 (.slice (some ⟨g2, 0, none⟩) m c') Y → Y.length = m → Below wr.heap.size wr w2 → ∃ w3 G3, (Builtin.copy_ #[22, 22] 3 #[.slice (some ⟨g, 0, none⟩) m M, .slice (some ⟨g2, 0, none⟩) m c']).run Try.prog w2 = .ok (.int .i64 (m : Int)) w3 ∧ BlE w3 g G3 ∧ G3.length = M ∧ (∀ i, i < m → zg G3 i = zg Y i) ∧ (∀ i, m ≤ i → i < M → zg G3 i = (-7 - (i : Int), -8)) ∧ OwE wr.heap.size w3 (.slice (some ⟨g2, 0, none⟩) m c') Y ∧ Below B w w3) := fun g2 c' Y w2 h1 h2 h3 h4 => by
        have hgl := hbl.lt
        have hbl2 := hbl.next h4
        obtain ⟨w3, G3, k1, k2, k3, k4, k5, k6⟩ := copy_e (M := m) (dCap := M) (sCap := c') hbl2 (h2.rd h3) (Nat.le_refl _) (by have := HMM.out; omega)
        refine ⟨w3, G3, k1, k2, by omega, k4, fun i h5 h6 => by rw [k5 i h5]; exact htl i h5 h6, ?_, ?_⟩
        · unfold OwE at *
          exact own_keep h2 fun g' hg' => k6.block g' (own_blk h2 hg').2.1 (fun e => by have := (own_blk h2 hg').1; omega)
        · have := h4.size
          exact (hb.trans (h4.mono hsz)).trans (k6.below (by omega) (fun k hk e => by have := HGB.out; omega))
      have HT3 := hid ht3
      clear hbl hGl htl hb ht p
      go_wp2_with fail
      go_at_call 10
      refine Calls.mono HTu.out ?_
      rintro e w2 ⟨g2, c', Y, rfl, h1, h2, h3, h4⟩
      obtain ⟨w3, G3, hrun, k2, k3, k4, k5, k6, k7⟩ := HCp.out g2 c' Y w2 h1 h2 h3 h4
      have HS3 : Hid (BlE w3 g G3 ∧ G3.length = M ∧ (∀ i, i < m → zg G3 i = zg Y i) ∧ (∀ i, m ≤ i → i < M → zg G3 i = (-7 - (i : Int), -8)) ∧ RdZ w3 (some ⟨g2, 0, none⟩) m Y ∧ Below B w w3) := ⟨k2, k3, k4, k5, k6.rd h3, k7⟩
      have HYl := hid h3
      clear h1 h2 h3 h4 k2 k3 k4 k5 k6 k7 HTu HCp
      go_wp2_with (refine wpList_copy_run _ rfl _ _ _ _ rfl _ _ rfl rfl _ _ hrun ?_)
      go_at_call 17
      refine Calls.mono (Asked_any s w3) ?_
      rintro e w4 ⟨r, rfl, hb4⟩
      have HS4 : Hid (BlE w4 g G3 ∧ RdZ w4 (some ⟨g2, 0, none⟩) m Y ∧ Below B w w4) := ⟨HS3.out.1.next hb4, HS3.out.2.2.2.2.1.next hb4, HS3.out.2.2.2.2.2.trans (hb4.mono (by have := HS3.out.2.2.2.2.2.size; have := HB.out; omega))⟩
      clear hb4 hrun
      generalize wr = wo at *
      go_wp2_with fail
      go_loopw [28] (fun iv wr => ∃ j : Nat, iv = .int .i64 (j : Int) ∧ j ≤ 4 ∧ Below w4.heap.size w4 wr) (fun iv _ => 4 - (intOf iv).toNat)
      case atStart => exact ⟨0, rfl, by omega, Below.refl _ _⟩
      case round =>
        obtain ⟨j, rfl, hj, hb⟩ := hrel
        by_cases p : j = 4
        · have HN4 : Hid (t + 1 ≤ 4 ∧ BlE wr g G3 ∧ G3.length = M ∧ (∀ i, m ≤ i → i < M → zg G3 i = (-7 - (i : Int), -8)) ∧ Below B w wr) := ⟨by have := HT3.out; omega, HS4.out.1.next hb, HS3.out.2.1, HS3.out.2.2.2.1, HS4.out.2.2.trans (hb.mono (by have := HS4.out.2.2.size; have := HB.out; omega))⟩
          obtain ⟨ew, ewb⟩ := inc_wr t (by omega)
          subst p
          clear hb hj
          go_wp2_with fail
          refine ⟨⟨t + 1, G3, by rw [Int.natCast_add]; rfl, HN4.out⟩, ?_⟩
          exact mea_step HN4.out.1
        · have HCalls : Hid (∀ x : Int, Calls Try.prog 14 #[.int .i64 x, .slice (some ⟨g, 0, none⟩) m M] (wr.alloc (.cells #[.int .i64 x, .int .i64 0] 38)) fun e u1 => ∃ a1 c1 L f, e = .returned (.tuple #[.slice a1 L c1, .int .i64 f]) ∧ u1.cell? ⟨wr.heap.size, 0, none⟩ = some (.int .i64 x) ∧ Calls Try.prog 18 #[.int .i64 x, .slice (some ⟨g2, 0, none⟩) m c'] u1 fun e u2 => ∃ a2 c2, e = .returned (.tuple #[.slice a2 L c2, .int .i64 f]) ∧ Calls Try.prog 8 #[.slice a1 L c1, .slice a2 L c2] u2 fun e u3 => e = .returned (.bool true) ∧ Calls Try.prog 12 #[.slice (some ⟨g, 0, none⟩) m M, .slice (some ⟨g2, 0, none⟩) m c'] u3 fun e u4 => e = .returned (.bool true) ∧ j + 1 ≤ 4 ∧ Below w4.heap.size w4 u4) := fun x => by
            obtain ⟨u, hu⟩ : ∃ u, u = wr.alloc (.cells #[.int .i64 x, .int .i64 0] 38) := ⟨_, rfl⟩
            rw [← hu]
            have b0 : Below w4.heap.size w4 u := by rw [hu]; exact hb.trans ((below1 _ _).mono hb.size)
            have hbox : u.cell? ⟨wr.heap.size, 0, none⟩ = some (.int .i64 x) := by
              rw [hu]
              have := heap_new wr (.cells #[.int .i64 x, .int .i64 0] 38)
              unfold World.cell?
              rw [this]
              rfl
            have hGu := HS4.out.1.next b0
            have hYu := HS4.out.2.1.next b0
            have hRg : RdZ u (some ⟨g, 0, none⟩) m Y := hGu.rd (by have := HS3.out.2.1; have := HMM.out; omega) HYl.out HS3.out.2.2.1
            refine (Order_any m M _ x Y HM.out u hRg).mono ?_
            rintro e u1 ⟨ov1, rfl, r1, b1⟩
            obtain ⟨a1, c1, rfl, n1⟩ := rdn_own r1
            refine ⟨a1, c1, _, _, rfl, (b1.cell (World.block_lt_of_cell? u _ hbox)).trans hbox, ?_⟩
            refine (refOrder_any m c' _ x Y HM.out u1 (hYu.next b1)).mono ?_
            rintro e u2 ⟨ov2, rfl, r2, b2⟩
            obtain ⟨a2, c2, rfl, n2⟩ := rdn_own r2
            refine ⟨a2, c2, rfl, ?_⟩
            refine (SameInts_any a1 a2 _ c1 c2 _ (orX_len x Y) u2 (n1.next b2) n2).mono ?_
            rintro e u3 ⟨rfl, b3⟩
            refine ⟨rfl, ?_⟩
            have s0 := b0.size
            have s1 := b1.size
            have s2 := b2.size
            have b13 : Below u.heap.size u u3 := (b1.trans (b2.mono s1)).trans (b3.mono (by omega))
            refine (back_any m M c' g _ G3 Y HM.out HMM.out u3 (hGu.next b13) HS3.out.2.1 (hYu.next b13) HS3.out.2.2.1 HS3.out.2.2.2.1).mono ?_
            rintro e u4 ⟨rfl, b4⟩
            exact ⟨rfl, by omega, (b0.trans (b13.mono s0)).trans (b4.mono (by have := b13.size; omega))⟩
          have hj4 : j = 0 ∨ j = 1 ∨ j = 2 ∨ j = 3 := by omega
          obtain ⟨ew, ewb⟩ := inc_wr j (by omega)
          clear hb hj p
          have hi0 := fun u => idx0 s r u
          have hi1 := fun u => idx1 s r u
          have hi2 := fun u => idx2 s r u
          have hi3 := fun u => idx3 s r u
          rcases hj4 with rfl | rfl | rfl | rfl
          all_goals
            go_wp2_with fail
            go_at_call 14
            refine Calls.mono (HCalls.out _) ?_
            rintro e u1 ⟨a1, c1, L, f, rfl, hbx, h1⟩
            have H1 := hid h1
            clear h1
            go_wp2_with fail
            go_at_call 18
            refine Calls.mono H1.out ?_
            rintro e u2 ⟨a2, c2, rfl, h2⟩
            have H2 := hid h2
            clear h2 H1
            go_wp2_with fail
            go_at_call 7
            refine Calls.mono (Num_any _ _) ?_
            rintro e wq ⟨rfl, hw0⟩
            have hw0 := hw0.symm
            subst hw0
            go_wp2_with fail
            go_at_call 8
            refine Calls.mono H2.out ?_
            rintro e u3 ⟨rfl, h3⟩
            have H3 := hid h3
            clear h3 H2
            go_wp2_with fail
            go_at_call 12
            refine Calls.mono H3.out ?_
            rintro e u4 ⟨rfl, h4⟩
            have H4 := hid h4
            clear h4 H3
            go_wp2_with fail
            exact ⟨⟨_, rfl, H4.out⟩, by decide⟩
end Go.Proofs.Ytajnokkmpjdliaa
