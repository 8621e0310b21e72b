/-
  scope: reckoned, of a list: the least, the most.
-/
import Derived.Test.YtbllaacbeagljaaGreatDoorSb8
namespace Go.Proofs.YtbllaacbeagljaaGreatDoor
open Go.RowKit Go.Maps

set_option maxRecDepth 100000 in
set_option maxHeartbeats 4000000 in
theorem reck_least (rb : Nat) (at_ : Int) (g n c : Nat) (xs : List Rs) (w : World) (hn : xs.length = n) (h0 : 0 < n) (hc : n ≤ c) (hm : n ≤ 16777216) (hg : g < w.heap.size)
    (hv : ∀ i (hi : i < xs.length), ∃ T X, w.cell? ⟨g, i, none⟩ = some (.iface T X) ∧ ∀ u, Below w.heap.size w u → Nu rb (.iface T X) xs[i] u) (hx : ∀ i (hi : i < xs.length), xs[i].e = 0 → 0 ≤ xs[i].v ∧ xs[i].v ≤ 1099511627776) :
    Calls Tryz.prog 54 #[.pointer (some ⟨rb, 0, none⟩), .iface 122 (.agg #[.int .i64 at_, .slice (some ⟨g, 0, none⟩) n c])] w (RkQ (foldR min (xs.headD ⟨0, 0, 0⟩) xs.tail) w) := by
  obtain ⟨PO, hPO⟩ : ∃ PO, PO = RkQ (foldR min (xs.headD ⟨0, 0, 0⟩) xs.tail) w := ⟨_, rfl⟩
  rw [← hPO]
  have HPO := hid hPO
  obtain ⟨W, hW⟩ : ∃ W, W = w.alloc (.cells #[.int .i64 at_, .slice (some ⟨g, 0, none⟩) n c] 122) := ⟨_, rfl⟩
  obtain ⟨b, hb⟩ : ∃ b, b = w.heap.size := ⟨_, rfl⟩
  have hbl : Below w.heap.size w W := by rw [hW]; exact below1 _ _
  have hC : Cs W b 122 #[.int .i64 at_, .slice (some ⟨g, 0, none⟩) n c] := by rw [hW, hb]; exact Cs.new _ _ _
  obtain ⟨T0, X0, hc0, hN0⟩ := hv 0 (by omega)
  have hx0 := hx 0 (by omega)
  have e0 : xs.headD ⟨0, 0, 0⟩ = xs[0]'(by omega) := by cases xs with | nil => simp at hn; omega | cons x r => rfl
  have hd0 : xs.tail = xs.drop 1 := by cases xs <;> rfl
  rw [e0, hd0] at HPO
  have H1 := hid (hN0 W hbl)
  have HV := hid hv
  have HX := hid hx
  have HB := hid hbl
  have HC := hid hC
  have HW := hid hW
  have Hb := hid hb
  have HN := hid hn
  have HG := hid hg
  have hcW : W.cell? ⟨g, 0, none⟩ = some (.iface T0 X0) := (hbl.cell (p := ⟨g, 0, none⟩) hg).trans hc0
  have hgb : ¬ g = b := by omega
  have hta110 := ta122_110
  have hta112 := ta122_112
  have hta116 := ta122_116
  have hta118 := ta122_118
  have hta122 := ta122_122
  have i0 : (0 : Int) < (n : Int) := by omega
  have i1 : (1 : Int) ≤ (n : Int) := by omega
  have i2 : (n : Int) ≤ (c : Int) := by omega
  obtain ⟨q, hq⟩ : ∃ q, q = xs[0]'(by omega) := ⟨_, rfl⟩
  rw [← hq] at H1 HPO hx0
  clear hPO hW hbl hC hv hx hn hb hN0 e0 hd0 hq
  obtain ⟨qv, qa, qe⟩ := q
  simp only at *
  by_cases hqe : qe = 0
  · subst hqe
    obtain ⟨hq0, hq1⟩ := hx0 rfl
    clear hx0
    go_enter Tryz.func54, Tryz.ntmps54
    go_wp2_with fail
    rw [← HW.out, ← Hb.out]
    refine Calls.mono H1.out ?_
    rintro e w2 ⟨⟨-, rfl⟩ | ⟨he, -⟩, hb2⟩
    · have HB2 := hid (HB.out.trans (hb2.mono HB.out.size))
      have hC2 := HC.out.next hb2
      have m0 := hC2.cell 0 _ rfl
      have m1 := hC2.cell 1 _ rfl
      have HC2 := hid hC2
      clear hb2 hC2 hcW hc0
      have hcc : (c = 1) ∨ ¬ c = 1 := by omega
      rcases hcc with rfl | hc1
      · obtain rfl : n = 1 := by omega
        go_wp2_with fail
        go_loopw [10, 62] (fun av iv wr => ∃ (j : Nat) (z za : Int), iv = .int .i64 (j : Int) ∧ av = .int .i64 z ∧ j + 1 ≤ 1 ∧ 0 ≤ z ∧ z ≤ 1099511627776 ∧ foldR min ⟨qv, qa, 0⟩ (xs.drop 1) = foldR min ⟨z, za, 0⟩ (xs.drop (j + 1)) ∧ Below w.heap.size w wr) (fun _ iv _ => 1 - (intOf iv).toNat)
        case atStart => exact ⟨0, qv, qa, rfl, rfl, by omega, hq0, hq1, rfl, HB2.out⟩
        case round =>
          obtain ⟨j, z, za, rfl, rfl, hj, hz0, hz1, hfo, hBe⟩ := hrel
          have HF := hid hfo
          clear HB2 HC2 m0 m1 hfo
          by_cases hjn : j + 1 < 1
          · exfalso
            omega
          · have hlen := HN.out
            have HZ : Hid (foldR min ⟨qv, qa, 0⟩ (xs.drop 1) = ⟨z, za, 0⟩) := hid (by rw [HF.out, List.drop_eq_nil_of_le (by omega)]; rfl)
            have HB3 := hid hBe
            clear hBe HF hlen
            obtain rfl : j = 0 := by omega
            go_wp2_with fail
            show PO (.returned (.int .i64 z)) _
            rw [HPO.out, HZ.out]
            exact ⟨.inl ⟨rfl, rfl⟩, HB3.out⟩
      · have hc1' : ¬ (c : Int) = 1 := by omega
        go_wp2_with fail
        go_loopw [10, 62] (fun av iv wr => ∃ (j : Nat) (z za : Int), iv = .int .i64 (j : Int) ∧ av = .int .i64 z ∧ j + 1 ≤ n ∧ 0 ≤ z ∧ z ≤ 1099511627776 ∧ foldR min ⟨qv, qa, 0⟩ (xs.drop 1) = foldR min ⟨z, za, 0⟩ (xs.drop (j + 1)) ∧ Below w.heap.size w wr) (fun _ iv _ => n - (intOf iv).toNat)
        case atStart => exact ⟨0, qv, qa, rfl, rfl, by omega, hq0, hq1, rfl, HB2.out⟩
        case round =>
          obtain ⟨j, z, za, rfl, rfl, hj, hz0, hz1, hfo, hBe⟩ := hrel
          have HF := hid hfo
          clear HB2 HC2 m0 m1 hfo
          by_cases hjn : j + 1 < n
          · have hjn' : (j : Int) < (n : Int) - 1 := by omega
            have hlen := HN.out
            obtain ⟨T1, X1, hc1c, hN1⟩ := HV.out (j + 1) (by omega)
            have hx1 := HX.out (j + 1) (by omega)
            have hcw : wr.cell? ⟨g, 1 + j, none⟩ = some (.iface T1 X1) := by rw [Nat.add_comm 1 j]; exact (hBe.cell (p := ⟨g, j + 1, none⟩) HG.out).trans hc1c
            have H36 := hid (hN1 wr hBe)
            have hdr : xs.drop (j + 1) = xs[j + 1]'(by omega) :: xs.drop (j + 1 + 1) := List.drop_eq_getElem_cons (by omega)
            rw [hdr] at HF
            obtain ⟨y, hy⟩ : ∃ y, y = xs[j + 1]'(by omega) := ⟨_, rfl⟩
            rw [← hy] at HF H36 hx1
            have HBe := hid hBe
            clear hdr hy hBe hN1 hc1c hlen
            obtain ⟨yv, ya, ye⟩ := y
            simp only at hx1
            by_cases hye : ye = 0
            · subst hye
              obtain ⟨hy0, hy1⟩ := hx1 rfl
              have hmm : 0 ≤ min z yv ∧ min z yv ≤ 1099511627776 := by omega
              have HF2 : Hid (foldR min ⟨qv, qa, 0⟩ (xs.drop 1) = foldR min ⟨min z yv, 0, 0⟩ (xs.drop (j + 1 + 1))) := hid HF.out
              clear hx1 HF
              go_wp2_with fail
              refine Calls.mono H36.out ?_
              rintro e w3 ⟨⟨-, rfl⟩ | ⟨he, -⟩, hb3⟩
              · have HB3 := hid (HBe.out.trans (hb3.mono HBe.out.size))
                clear hb3
                go_wp2_with fail
                exact ⟨⟨j + 1, _, 0, by go_num, rfl, by omega, hmm.1, hmm.2, HF2.out, HB3.out⟩, by simp [intOf]; omega⟩
              · exact absurd rfl he
            · have HYE := hid hye
              have HZ : Hid (foldR min ⟨qv, qa, 0⟩ (xs.drop 1) = ⟨yv, ya, ye⟩) := hid (by rw [HF.out]; show (if (0 : Int) ≠ 0 then _ else if ye ≠ 0 then _ else _) = _; rw [if_neg (by simp), if_pos hye])
              clear hx1 HF hye
              go_wp2_with fail
              refine Calls.mono H36.out ?_
              rintro e w3 ⟨⟨he, -⟩ | ⟨-, rfl⟩, hb3⟩
              · exact absurd he HYE.out
              · have HB3 := hid (HBe.out.trans (hb3.mono HBe.out.size))
                clear hb3
                go_wp2_with fail
                exact ⟨rfl, by rw [HPO.out, HZ.out]; exact ⟨.inr ⟨HYE.out, rfl⟩, HB3.out⟩⟩
          · have hlen := HN.out
            have HZ : Hid (foldR min ⟨qv, qa, 0⟩ (xs.drop 1) = ⟨z, za, 0⟩) := hid (by rw [HF.out, List.drop_eq_nil_of_le (by omega)]; rfl)
            have HB3 := hid hBe
            clear hBe HF hlen
            have hjn' : ¬ (j : Int) < (n : Int) - 1 := by omega
            go_wp2_with fail
            show PO (.returned (.int .i64 z)) _
            rw [HPO.out, HZ.out]
            exact ⟨.inl ⟨rfl, rfl⟩, HB3.out⟩
    · exact absurd rfl he
  · have HQE := hid hqe
    have HZ : Hid (foldR min ⟨qv, qa, qe⟩ (xs.drop 1) = ⟨qv, qa, qe⟩) := hid (by cases xs.drop 1 with | nil => rfl | cons y r => show (if qe ≠ 0 then _ else _) = _; rw [if_pos hqe])
    clear hx0 hqe
    go_enter Tryz.func54, Tryz.ntmps54
    go_wp2_with fail
    rw [← HW.out, ← Hb.out]
    refine Calls.mono H1.out ?_
    rintro e w2 ⟨⟨he, -⟩ | ⟨-, rfl⟩, hb2⟩
    · exact absurd he HQE.out
    · have HB2 := hid (HB.out.trans (hb2.mono HB.out.size))
      clear hb2
      go_wp2_with fail
      exact ⟨rfl, by rw [HPO.out, HZ.out]; exact ⟨.inr ⟨HQE.out, rfl⟩, HB2.out⟩⟩
set_option maxRecDepth 100000 in
set_option maxHeartbeats 4000000 in
theorem reck_most (rb : Nat) (at_ : Int) (g n c : Nat) (xs : List Rs) (w : World) (hn : xs.length = n) (h0 : 0 < n) (hc : n ≤ c) (hm : n ≤ 16777216) (hg : g < w.heap.size)
    (hv : ∀ i (hi : i < xs.length), ∃ T X, w.cell? ⟨g, i, none⟩ = some (.iface T X) ∧ ∀ u, Below w.heap.size w u → Nu rb (.iface T X) xs[i] u) (hx : ∀ i (hi : i < xs.length), xs[i].e = 0 → 0 ≤ xs[i].v ∧ xs[i].v ≤ 1099511627776) :
    Calls Tryz.prog 54 #[.pointer (some ⟨rb, 0, none⟩), .iface 123 (.agg #[.int .i64 at_, .slice (some ⟨g, 0, none⟩) n c])] w (RkQ (foldR max (xs.headD ⟨0, 0, 0⟩) xs.tail) w) := by
  obtain ⟨PO, hPO⟩ : ∃ PO, PO = RkQ (foldR max (xs.headD ⟨0, 0, 0⟩) xs.tail) w := ⟨_, rfl⟩
  rw [← hPO]
  have HPO := hid hPO
  obtain ⟨W, hW⟩ : ∃ W, W = w.alloc (.cells #[.int .i64 at_, .slice (some ⟨g, 0, none⟩) n c] 123) := ⟨_, rfl⟩
  obtain ⟨b, hb⟩ : ∃ b, b = w.heap.size := ⟨_, rfl⟩
  have hbl : Below w.heap.size w W := by rw [hW]; exact below1 _ _
  have hC : Cs W b 123 #[.int .i64 at_, .slice (some ⟨g, 0, none⟩) n c] := by rw [hW, hb]; exact Cs.new _ _ _
  obtain ⟨T0, X0, hc0, hN0⟩ := hv 0 (by omega)
  have hx0 := hx 0 (by omega)
  have e0 : xs.headD ⟨0, 0, 0⟩ = xs[0]'(by omega) := by cases xs with | nil => simp at hn; omega | cons x r => rfl
  have hd0 : xs.tail = xs.drop 1 := by cases xs <;> rfl
  rw [e0, hd0] at HPO
  have H1 := hid (hN0 W hbl)
  have HV := hid hv
  have HX := hid hx
  have HB := hid hbl
  have HC := hid hC
  have HW := hid hW
  have Hb := hid hb
  have HN := hid hn
  have HG := hid hg
  have hcW : W.cell? ⟨g, 0, none⟩ = some (.iface T0 X0) := (hbl.cell (p := ⟨g, 0, none⟩) hg).trans hc0
  have hgb : ¬ g = b := by omega
  have hta110 := ta123_110
  have hta112 := ta123_112
  have hta116 := ta123_116
  have hta118 := ta123_118
  have hta122 := ta123_122
  have hta123 := ta123_123
  have i0 : (0 : Int) < (n : Int) := by omega
  have i1 : (1 : Int) ≤ (n : Int) := by omega
  have i2 : (n : Int) ≤ (c : Int) := by omega
  obtain ⟨q, hq⟩ : ∃ q, q = xs[0]'(by omega) := ⟨_, rfl⟩
  rw [← hq] at H1 HPO hx0
  clear hPO hW hbl hC hv hx hn hb hN0 e0 hd0 hq
  obtain ⟨qv, qa, qe⟩ := q
  simp only at *
  by_cases hqe : qe = 0
  · subst hqe
    obtain ⟨hq0, hq1⟩ := hx0 rfl
    clear hx0
    go_enter Tryz.func54, Tryz.ntmps54
    go_wp2_with fail
    rw [← HW.out, ← Hb.out]
    refine Calls.mono H1.out ?_
    rintro e w2 ⟨⟨-, rfl⟩ | ⟨he, -⟩, hb2⟩
    · have HB2 := hid (HB.out.trans (hb2.mono HB.out.size))
      have hC2 := HC.out.next hb2
      have m0 := hC2.cell 0 _ rfl
      have m1 := hC2.cell 1 _ rfl
      have HC2 := hid hC2
      clear hb2 hC2 hcW hc0
      have hcc : (c = 1) ∨ ¬ c = 1 := by omega
      rcases hcc with rfl | hc1
      · obtain rfl : n = 1 := by omega
        go_wp2_with fail
        go_loopw [14, 86] (fun av iv wr => ∃ (j : Nat) (z za : Int), iv = .int .i64 (j : Int) ∧ av = .int .i64 z ∧ j + 1 ≤ 1 ∧ 0 ≤ z ∧ z ≤ 1099511627776 ∧ foldR max ⟨qv, qa, 0⟩ (xs.drop 1) = foldR max ⟨z, za, 0⟩ (xs.drop (j + 1)) ∧ Below w.heap.size w wr) (fun _ iv _ => 1 - (intOf iv).toNat)
        case atStart => exact ⟨0, qv, qa, rfl, rfl, by omega, hq0, hq1, rfl, HB2.out⟩
        case round =>
          obtain ⟨j, z, za, rfl, rfl, hj, hz0, hz1, hfo, hBe⟩ := hrel
          have HF := hid hfo
          clear HB2 HC2 m0 m1 hfo
          by_cases hjn : j + 1 < 1
          · exfalso
            omega
          · have hlen := HN.out
            have HZ : Hid (foldR max ⟨qv, qa, 0⟩ (xs.drop 1) = ⟨z, za, 0⟩) := hid (by rw [HF.out, List.drop_eq_nil_of_le (by omega)]; rfl)
            have HB3 := hid hBe
            clear hBe HF hlen
            obtain rfl : j = 0 := by omega
            go_wp2_with fail
            show PO (.returned (.int .i64 z)) _
            rw [HPO.out, HZ.out]
            exact ⟨.inl ⟨rfl, rfl⟩, HB3.out⟩
      · have hc1' : ¬ (c : Int) = 1 := by omega
        go_wp2_with fail
        go_loopw [14, 86] (fun av iv wr => ∃ (j : Nat) (z za : Int), iv = .int .i64 (j : Int) ∧ av = .int .i64 z ∧ j + 1 ≤ n ∧ 0 ≤ z ∧ z ≤ 1099511627776 ∧ foldR max ⟨qv, qa, 0⟩ (xs.drop 1) = foldR max ⟨z, za, 0⟩ (xs.drop (j + 1)) ∧ Below w.heap.size w wr) (fun _ iv _ => n - (intOf iv).toNat)
        case atStart => exact ⟨0, qv, qa, rfl, rfl, by omega, hq0, hq1, rfl, HB2.out⟩
        case round =>
          obtain ⟨j, z, za, rfl, rfl, hj, hz0, hz1, hfo, hBe⟩ := hrel
          have HF := hid hfo
          clear HB2 HC2 m0 m1 hfo
          by_cases hjn : j + 1 < n
          · have hjn' : (j : Int) < (n : Int) - 1 := by omega
            have hlen := HN.out
            obtain ⟨T1, X1, hc1c, hN1⟩ := HV.out (j + 1) (by omega)
            have hx1 := HX.out (j + 1) (by omega)
            have hcw : wr.cell? ⟨g, 1 + j, none⟩ = some (.iface T1 X1) := by rw [Nat.add_comm 1 j]; exact (hBe.cell (p := ⟨g, j + 1, none⟩) HG.out).trans hc1c
            have H36 := hid (hN1 wr hBe)
            have hdr : xs.drop (j + 1) = xs[j + 1]'(by omega) :: xs.drop (j + 1 + 1) := List.drop_eq_getElem_cons (by omega)
            rw [hdr] at HF
            obtain ⟨y, hy⟩ : ∃ y, y = xs[j + 1]'(by omega) := ⟨_, rfl⟩
            rw [← hy] at HF H36 hx1
            have HBe := hid hBe
            clear hdr hy hBe hN1 hc1c hlen
            obtain ⟨yv, ya, ye⟩ := y
            simp only at hx1
            by_cases hye : ye = 0
            · subst hye
              obtain ⟨hy0, hy1⟩ := hx1 rfl
              have hmm : 0 ≤ max z yv ∧ max z yv ≤ 1099511627776 := by omega
              have HF2 : Hid (foldR max ⟨qv, qa, 0⟩ (xs.drop 1) = foldR max ⟨max z yv, 0, 0⟩ (xs.drop (j + 1 + 1))) := hid HF.out
              clear hx1 HF
              go_wp2_with fail
              refine Calls.mono H36.out ?_
              rintro e w3 ⟨⟨-, rfl⟩ | ⟨he, -⟩, hb3⟩
              · have HB3 := hid (HBe.out.trans (hb3.mono HBe.out.size))
                clear hb3
                go_wp2_with fail
                exact ⟨⟨j + 1, _, 0, by go_num, rfl, by omega, hmm.1, hmm.2, HF2.out, HB3.out⟩, by simp [intOf]; omega⟩
              · exact absurd rfl he
            · have HYE := hid hye
              have HZ : Hid (foldR max ⟨qv, qa, 0⟩ (xs.drop 1) = ⟨yv, ya, ye⟩) := hid (by rw [HF.out]; show (if (0 : Int) ≠ 0 then _ else if ye ≠ 0 then _ else _) = _; rw [if_neg (by simp), if_pos hye])
              clear hx1 HF hye
              go_wp2_with fail
              refine Calls.mono H36.out ?_
              rintro e w3 ⟨⟨he, -⟩ | ⟨-, rfl⟩, hb3⟩
              · exact absurd he HYE.out
              · have HB3 := hid (HBe.out.trans (hb3.mono HBe.out.size))
                clear hb3
                go_wp2_with fail
                exact ⟨rfl, by rw [HPO.out, HZ.out]; exact ⟨.inr ⟨HYE.out, rfl⟩, HB3.out⟩⟩
          · have hlen := HN.out
            have HZ : Hid (foldR max ⟨qv, qa, 0⟩ (xs.drop 1) = ⟨z, za, 0⟩) := hid (by rw [HF.out, List.drop_eq_nil_of_le (by omega)]; rfl)
            have HB3 := hid hBe
            clear hBe HF hlen
            have hjn' : ¬ (j : Int) < (n : Int) - 1 := by omega
            go_wp2_with fail
            show PO (.returned (.int .i64 z)) _
            rw [HPO.out, HZ.out]
            exact ⟨.inl ⟨rfl, rfl⟩, HB3.out⟩
    · exact absurd rfl he
  · have HQE := hid hqe
    have HZ : Hid (foldR max ⟨qv, qa, qe⟩ (xs.drop 1) = ⟨qv, qa, qe⟩) := hid (by cases xs.drop 1 with | nil => rfl | cons y r => show (if qe ≠ 0 then _ else _) = _; rw [if_pos hqe])
    clear hx0 hqe
    go_enter Tryz.func54, Tryz.ntmps54
    go_wp2_with fail
    rw [← HW.out, ← Hb.out]
    refine Calls.mono H1.out ?_
    rintro e w2 ⟨⟨he, -⟩ | ⟨-, rfl⟩, hb2⟩
    · exact absurd he HQE.out
    · have HB2 := hid (HB.out.trans (hb2.mono HB.out.size))
      clear hb2
      go_wp2_with fail
      exact ⟨rfl, by rw [HPO.out, HZ.out]; exact ⟨.inr ⟨HQE.out, rfl⟩, HB2.out⟩⟩

end Go.Proofs.YtbllaacbeagljaaGreatDoor
