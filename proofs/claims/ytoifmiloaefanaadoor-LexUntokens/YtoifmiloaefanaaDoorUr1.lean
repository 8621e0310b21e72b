/-
  The document's: decimal, written; []byte(s) with one byte behind it.
-/
import Derived.Test.YtoifmiloaefanaaDoorUr0
import Derived.Test.YtoifmiloaefanaaDoorRe2
import Derived.Test.YtoifmiloaefanaaDoorMk
import Derived.ArgAppend
namespace Go.Proofs.YtoifmiloaefanaaDoor
open Go.RowKit

theorem str_app (a b : List Int) : strOfNums a ++ strOfNums b = strOfNums (a ++ b) := by
  apply ByteArray.ext
  simp [strOfNums]
theorem itoL_len : ∀ (d v : Nat), v < 10 ^ (d + 1) → (itoL (v : Int)).length ≤ d + 1
  | 0, v, h => by rw [itoL_small (by simpa using h)]; simp
  | d + 1, v, h => by
    by_cases q : v < 10
    · rw [itoL_small q]; simp
    · have := itoL_len d (v / 10) (by rw [Nat.pow_succ] at h; omega)
      rw [itoL_big q, List.length_append, List.length_singleton]
      omega
set_option maxRecDepth 100000 in
set_option maxHeartbeats 2000000 in
theorem rdecimal_any (v : Nat) : v ≤ 1099511627776 → ∀ w, Calls Tryd.prog 37 #[.int .i64 (v : Int)] w fun e w' => e = .returned (.string (strOfNums (itoL (v : Int)))) ∧ w' = w := by
  induction v using Nat.strongRecOn with
  | _ v ih =>
    intro hv w
    by_cases h : v < 10
    · rw [itoL_small h]
      clear ih
      rcases (show v = 0 ∨ v = 1 ∨ v = 2 ∨ v = 3 ∨ v = 4 ∨ v = 5 ∨ v = 6 ∨ v = 7 ∨ v = 8 ∨ v = 9 by omega) with rfl | rfl | rfl | rfl | rfl | rfl | rfl | rfl | rfl | rfl
      all_goals
        go_enter Tryd.func37, Tryd.ntmps37
        go_wp2
        go_ret
        exact ⟨rfl, rfl⟩
    · have H1 := hid (ih (v / 10) (by omega) (by omega) w)
      have H2 := hid (ih (v % 10) (by omega) (by omega) w)
      have hq : ((v : Int)).tdiv 10 = ((v / 10 : Nat) : Int) := by rw [Int.tdiv_eq_ediv_of_nonneg (by omega)]; omega
      have hr : ((v : Int)).tmod 10 = ((v % 10 : Nat) : Int) := by rw [Int.tmod_eq_emod_of_nonneg (by omega)]; omega
      have l1 := itoL_len 12 (v / 10) (by omega)
      have l2 := itoL_len 12 (v % 10) (by omega)
      have HE : Hid (strOfNums (itoL (v : Int)) = strOfNums (itoL ((v / 10 : Nat) : Int)) ++ strOfNums (itoL ((v % 10 : Nat) : Int))) := by
        show _ = _
        rw [str_app, itoL_big h, itoL_small (show v % 10 < 10 by omega)]
      have s1 := str_size (itoL ((v / 10 : Nat) : Int))
      have s2 := str_size (itoL ((v % 10 : Nat) : Int))
      have hn : ¬ (v : Int) < 10 := by omega
      have hb0 : (v : Int) ≤ 1099511627776 := by omega
      have hb1 : (0 : Int) ≤ (v : Int) := by omega
      rw [HE.out]
      have t1 : (strOfNums (itoL ((v / 10 : Nat) : Int))).size ≤ 13 := by omega
      have t2 : (strOfNums (itoL ((v % 10 : Nat) : Int))).size ≤ 13 := by omega
      clear ih h l1 l2 s1 s2 HE
      generalize strOfNums (itoL ((v / 10 : Nat) : Int)) = S1 at *
      generalize strOfNums (itoL ((v % 10 : Nat) : Int)) = S2 at *
      obtain ⟨q, hq'⟩ : ∃ q : Nat, q = v / 10 := ⟨_, rfl⟩
      obtain ⟨r, hr'⟩ : ∃ r : Nat, r = v % 10 := ⟨_, rfl⟩
      have hqb : (q : Int) ≤ 1099511627776 := by omega
      have hrb : (r : Int) ≤ 10 := by omega
      rw [← hq'] at hq H1
      rw [← hr'] at hr H2
      clear hq' hr'
      go_enter Tryd.func37, Tryd.ntmps37
      go_wp2_with fail
      refine Calls.mono H1.out ?_
      rintro e w1 ⟨rfl, rfl⟩
      go_wp2_with fail
      refine Calls.mono H2.out ?_
      rintro e w1 ⟨rfl, rfl⟩
      go_wp2_with fail
      go_ret
      exact ⟨rfl, rfl⟩

set_option maxRecDepth 100000 in
set_option maxHeartbeats 2000000 in
theorem rwritten_any (t : Tk) (w : World) (hm : mayT t = true) (hl : t.tx.length ≤ 140737488355328) : Calls Tryd.prog 22 #[tokV t] w fun e w' => e = .returned (.string (strOfNums (wrT t))) ∧ Below w.heap.size w w' := by
  obtain ⟨k, l, n, a⟩ := t
  have hsz := str_size l
  have HB := hid (below1 w (.cells (tcs k (strOfNums l) n a) 29))
  by_cases k3 : k = 3
  · subst k3
    have hn : 0 ≤ n ∧ n ≤ 1099511627776 := by
      unfold mayT at hm
      simp at hm
      omega
    obtain ⟨v, rfl⟩ : ∃ v : Nat, n = (v : Int) := ⟨n.toNat, by omega⟩
    have HC : Hid (Calls Tryd.prog 37 #[.int .i64 (v : Int)] (w.alloc (.cells (tcs 3 (strOfNums l) (v : Int) a) 29)) fun e w' => e = .returned (.string (strOfNums (itoL (v : Int)))) ∧ Below w.heap.size w w') := by
      refine (rdecimal_any v (by omega) _).mono ?_
      rintro e w' ⟨rfl, rfl⟩
      exact ⟨rfl, HB.out⟩
    have hw : wrT ⟨3, l, (v : Int), a⟩ = itoL (v : Int) := by unfold wrT; simp
    rw [hw]
    clear hm hn HB hw
    simp only [tokV] at HC ⊢
    generalize strOfNums l = S at *
    generalize strOfNums (itoL (v : Int)) = V at *
    go_enter Tryd.func22, Tryd.ntmps22
    go_wp2_with fail
    refine Calls.mono HC.out ?_
    rintro e w' ⟨rfl, h⟩
    have H := hid h
    clear h HC
    go_wp2_with fail
    go_ret
    exact ⟨rfl, H.out⟩
  by_cases k2 : k = 2
  · subst k2
    have hw : wrT ⟨2, l, n, a⟩ = 34 :: (l ++ [34]) := by unfold wrT wrL; simp
    rw [hw, ← cat34]
    clear hm hw
    simp only [tokV] at HB ⊢
    generalize strOfNums l = S at *
    have hs1 : S.size ≤ 140737488355328 := by simp only at hl; omega
    go_enter Tryd.func22, Tryd.ntmps22
    go_wp2
    go_ret
    exact ⟨rfl, HB.out⟩
  · have hk : k = 1 ∨ k = 4 := by
      by_cases h1 : k = 1
      · exact .inl h1
      by_cases h4 : k = 4
      · exact .inr h4
      unfold mayT at hm
      simp [k3, k2, h1, h4] at hm
    have hw : wrT ⟨k, l, n, a⟩ = l := by unfold wrT wrL; rw [if_neg k3, if_pos hk]
    rw [hw]
    clear hm hw hk
    simp only [tokV] at HB ⊢
    generalize strOfNums l = S at *
    go_enter Tryd.func22, Tryd.ntmps22
    go_wp2
    go_ret
    exact ⟨rfl, HB.out⟩

/-- []byte(s), and one byte behind it -/
theorem conv_app (l : List Int) (hb : Pl.isB l) (hl : l.length ≤ 16777216) (w : World) : ∃ W c, (convert 9 22 (.string (strOfNums l))).run Tryd.prog w = .ok (.slice (some ⟨w.heap.size, 0, none⟩) l.length c) W ∧ (∀ j, j < l.length → W.cell? ⟨w.heap.size, j, none⟩ = some (.int .u8 (l.getD j 0))) ∧ Below w.heap.size w W ∧
    ∀ ty, ∃ g c2 W2, (Builtin.append_ #[22, 22] ty #[.slice (some ⟨w.heap.size, 0, none⟩) l.length c, .slice (some ⟨W.heap.size, 0, none⟩) 1 1]).run Tryd.prog (W.alloc (.cells #[.int .u8 34] 5)) = .ok (.slice (some ⟨g, 0, none⟩) (l.length + 1) c2) W2 ∧ (∀ j, j < l.length + 1 → W2.cell? ⟨g, j, none⟩ = some (.int .u8 ((l ++ [34]).getD j 0))) ∧ Below w.heap.size w W2 := by
  obtain ⟨W, hW⟩ : ∃ W, W = Lib.bytesWorld w 5 (strOfNums l) := ⟨_, rfl⟩
  obtain ⟨c, hc⟩ : ∃ c, c = grownCap w (strOfNums l).size 0 5 := ⟨_, rfl⟩
  have hcs : ∀ j, j < l.length → W.cell? ⟨w.heap.size, j, none⟩ = some (.int .u8 (l.getD j 0)) := fun j hj => by
    rw [hW, Lib.bytesWorld_cell _ _ _ _ (by rw [str_size]; exact hj)]
    have h := hb (l[j]'hj) (List.getElem_mem hj)
    congr 2
    simp [strOfNums, hj]
    omega
  have hbl : Below w.heap.size w W := by
    rw [hW]
    exact ⟨rfl, rfl, rfl, by rw [Lib.bytesWorld_size]; omega, fun k hk => Lib.bytesWorld_at_old _ _ _ _ hk⟩
  have hnew := Lib.bytesWorld_at_new w 5 (strOfNums l)
  have hsz : (Lib.bytesCells w 5 (strOfNums l)).size = c := by
    have := grownCap_ge w (strOfNums l).size 0 5
    unfold Lib.bytesCells
    rw [hc]
    simp
    have e : (strOfNums l).data.size = (strOfNums l).size := rfl
    omega
  rw [← hW, hsz] at hnew
  have hWs : W.heap.size = w.heap.size + 1 := by rw [hW, Lib.bytesWorld_size]
  refine ⟨W, c, ?_, hcs, hbl, fun ty => ?_⟩
  · rw [Lib.run_convert_string_bytes w 9 22 5 (strOfNums l) Tryd.underlying9 Tryd.underlying22 Tryd.underlying5, str_size, hW, hc]
    rw [str_size]
  obtain ⟨i0, hi, hz0, hz1, hz2⟩ := info_parts info5
  obtain ⟨V, hV⟩ : ∃ V, V = W.alloc (.cells #[.int .u8 34] 5) := ⟨_, rfl⟩
  have bV : Below W.heap.size W V := by rw [hV]; exact below1 _ _
  have hVn : V.heap[W.heap.size]? = some (.cells #[.int .u8 34] 5 (0, 0)) := by rw [hV]; exact heap_new _ _
  have hVo : V.heap[w.heap.size]? = W.heap[w.heap.size]? := bV.block _ (by omega)
  have hcV : ∀ j, j < l.length → V.cell? ⟨w.heap.size, j, none⟩ = some (.int .u8 (l.getD j 0)) := fun j hj => by
    have := hcs j hj
    simp only [World.cell?] at this ⊢
    rw [hVo]
    exact this
  have hsrc : ∀ j (u : Value), [Value.int .u8 34][j]? = some u → V.cell? ((⟨W.heap.size, 0, none⟩ : Addr).add j) = some u := fun j u hu => by
    rw [Addr.add_lit, Nat.zero_add]
    simp only [World.cell?, hVn]
    simpa using hu
  have hone : ∀ u ∈ [Value.int .u8 34], u.oneCell' = true := fun u hu => by
    simp only [List.mem_cons, List.not_mem_nil, or_false] at hu
    rw [hu]
    rfl
  rw [← hV]
  by_cases hroom : l.length + 1 ≤ c
  · have hr := run_append_room_cells (P := Tryd.prog) V 22 ty 5 i0 Tryd.underlying22 hi w.heap.size 0 l.length c ⟨W.heap.size, 0, none⟩ 1 1 [.int .u8 34] (by rw [hz1]; rfl) hsrc hone hroom
      (fun j hj => by
        have : j = 0 := by simpa using hj
        subst this
        simp only [World.cell?, hVo, hnew, hz1]
        rw [Array.getElem?_eq_getElem (by rw [hsz]; show 0 + l.length * 1 + 0 < c; omega)]
        rfl)
      (fun j hj => by
        have : j = 0 := by simpa using hj
        subst this
        simp only [World.frozen?, hVo, hnew, hz1]
        simp
        omega)
    refine ⟨w.heap.size, c, _, hr, fun j hj => ?_, ?_⟩
    · by_cases q : j < l.length
      · rw [World.cell?_setCells_out _ _ _ _ _ (fun _ _ => .inl (by rw [hz1]; show j < 0 + l.length * 1; omega)), hcV j q]
        rw [List.getD_eq_getElem?_getD, List.getD_eq_getElem?_getD, List.getElem?_append_left q]
      · obtain rfl : j = l.length := by omega
        have h2 := World.cell?_setCells_in w.heap.size [.int .u8 34] (0 + l.length * i0.size) V (fun j hj => by
          have : j = 0 := by simpa using hj
          subst this
          simp only [World.cell?, hVo, hnew, hz1]
          rw [Array.getElem?_eq_getElem (by rw [hsz]; show 0 + l.length * 1 + 0 < c; omega)]
          rfl) 0 (by simp)
        have e1 : 0 + l.length * i0.size + 0 = l.length := by rw [hz1]; show 0 + l.length * 1 + 0 = _; omega
        rw [e1] at h2
        have e2 : (l ++ [34]).getD l.length 0 = (34 : Int) := by simp
        rw [e2]
        exact h2
    · have b2 : Below w.heap.size w V := hbl.trans (bV.mono (by omega))
      exact b2.setCell (p := ⟨w.heap.size, 0 + l.length * i0.size, none⟩) (Nat.le_refl _) _
  · obtain ⟨v', w', hr, k1, k2⟩ := run_append_arg_grows (P := Tryd.prog) V 22 ty 5 i0 _ 1 1 Tryd.underlying22 hi hz0 hz1 hz2 rfl (by decide) ⟨w.heap.size, 0, none⟩ l.length c (l.map (Value.int .u8)) (by simp) (fun j u hu => by
      rw [Addr.add_lit, Nat.zero_add]
      have hj : j < l.length := by
        have := (List.getElem?_eq_some_iff.1 hu).1
        simpa using this
      rw [hcV j hj]
      simp [hj] at hu
      simp [List.getD_eq_getElem?_getD, hj, hu]) ⟨W.heap.size, 0, none⟩ 1 1 [.int .u8 34] rfl hsrc (by omega) (by unfold maxLen; omega) (by omega)
    have ho : OwB V.heap.size w' v' (l ++ [34]) := by
      unfold OwB
      rw [List.length_append]
      simpa using k1
    obtain ⟨g, c2, rfl, hg, hgs⟩ := ho.form (by simp)
    have bw : Below V.heap.size V w' := ⟨k2.os, k2.tape, k2.output, k2.size, fun k hk => k2.block k hk (by simp)⟩
    refine ⟨g, c2, w', by rw [hr, List.length_append]; rfl, fun j hj => ?_, (hbl.trans (bV.mono (by omega))).trans (bw.mono (by have := bV.size; omega))⟩
    have h2 := World.ownsRow.cellAt ho j (by simpa using hj)
    have hj' : j < (l ++ [34]).length := by simpa using hj
    rw [h2, List.getElem?_map, List.getElem?_eq_getElem hj', List.getD_eq_getElem?_getD, List.getElem?_eq_getElem hj']
    rfl

end Go.Proofs.YtoifmiloaefanaaDoor
