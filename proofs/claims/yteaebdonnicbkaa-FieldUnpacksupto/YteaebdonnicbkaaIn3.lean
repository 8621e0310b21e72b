/-
  The record of numbers: write (function 51).
-/
import Derived.Test.YteaebdonnicbkaaInA
import Derived.Deep.RegionHeld3
import Derived.Deep.DeepCutAuto
import Derived.Deep.Light
namespace Go.Proofs.Yteaebdonnicbkaa
open Go.RowKit

/-- the lists below i are written over -/
def Zo (Z : Nat → List Int) (bs : List Int) (i j : Nat) : List Int := if j < i then mkI (bs.getD j 0) (Z j).length else Z j
theorem length_Zo (Z : Nat → List Int) (bs : List Int) (i j : Nat) : (Zo Z bs i j).length = (Z j).length := by
  unfold Zo
  split
  · exact length_mkI _ _
  · rfl
theorem Zo_at (Z : Nat → List Int) (bs : List Int) (i : Nat) : Zo Z bs i i = Z i := by unfold Zo; rw [if_neg (by omega)]
theorem mk_take {ys : List Int} {m x : Int} {k len : Nat} (hl : ys.length = len) (hk : k < len) (ht : ys.take k = (mkI m len).take k) (hx : x = -1 - (m + (k : Int))) : (ys.set k x).take (k + 1) = (mkI m len).take (k + 1) := by
  have h2 : (mkI m len).getD k 0 = x := by rw [mkI_getD m hk, hx]
  have e1 : (mkI m len).take (k + 1) = (mkI m len).take k ++ [x] := by
    rw [List.take_succ_eq_append_getElem (by rw [length_mkI]; exact hk)]
    congr 1
    rw [← h2]
    simp [length_mkI, hk]
  rw [e1, ← ht, List.take_succ_eq_append_getElem (by simp; omega)]
  simp [List.take_set_of_le (Nat.le_refl k)]

theorem updZ_twice (Z : Nat → List Int) (i : Nat) (ys zs : List Int) (j : Nat) : updZ (updZ Z i ys) i zs j = updZ Z i zs j := by
  unfold updZ
  split <;> rfl
theorem In.drew {B : Nat} {κ : Nat → Nat} {w : World} {q : Nat} {cnt tot lk : Int} {lo n nK nM : Nat} {fr wa ba ke ma : Value} {fv hv kv : List Value} {bs ms : List Int} {Z K : Nat → List Int}
    (h : In B κ w q cnt tot lk lo n nK nM fr wa ba ke ma fv hv kv bs ms Z K) (hn : n ≤ 90) : In B κ w.drew q cnt tot lk lo n nK nM fr wa ba ke ma fv hv kv bs ms Z K :=
  h.kept (t := 200) ⟨Nat.le_refl _, fun _ _ _ => rfl⟩ (Nat.le_refl _) hn

theorem Inb.far {w : World} {q : Nat} {cnt tot : Int} {fr wa ba : Value} {lk : Int} {ke ma : Value} (h : Inb w q cnt tot fr wa ba lk ke ma) (j t : Nat) (v : Value) (hj : j ≠ t) : (w.setCell ⟨q, j, none⟩ v).cell? ⟨q, t, none⟩ = w.cell? ⟨q, t, none⟩ := by
  have h1 := h.set j v
  have e1 : (w.setCell ⟨q, j, none⟩ v).cell? ⟨q, t, none⟩ = (#[Value.int .i64 cnt, .int .i64 tot, .bool false, fr, wa, ba, .int .i64 lk, ke, ma].setIfInBounds j v)[t]? := by simp [World.cell?, h1]
  rw [e1, h.cell t, Array.getElem?_setIfInBounds_ne hj]

/-- the last statement of a sequence: what lies behind it is laid aside -/
theorem wp_last2 {P : Program} {c : Code} {Q : Exit → Act → World → Prop} {a : Act} {w : World} (R : Act → Act → World → Prop) (h2 : ∀ a' w', R a a' w' → Q .normal a' w') (h1 : ∀ N : Act → World → Prop, Hid (∀ a' w', R a a' w' → N a' w') → c.wp P (fun e a' w' => e = .normal ∧ N a' w') a w) : c.wp P Q a w :=
  Code.wp_mono (fun e a' w' h => by obtain ⟨rfl, h⟩ := h; exact h2 a' w' h) (h1 (R a) (hid (fun _ _ h => h)))

set_option maxRecDepth 100000 in
set_option maxHeartbeats 4000000 in
theorem iwrite_any (B : Nat) (κ : Nat → Nat) (w : World) (q : Nat) (cnt tot lk : Int) (n nK : Nat) (fr wa ba ke ma : Value) (fv hv kv : List Value) (bs ms : List Int) (Z K : Nat → List Int) (hn : n ≤ 3) (hnK : nK ≤ 67108864) (ht0 : 0 ≤ tot) (ht1 : tot ≤ 1125899906842624)
    (hl : ∀ i, i < n → (Z i).length ≤ 16777216) (hbs : ∀ i, i < n → 0 ≤ bs.getD i 0 ∧ bs.getD i 0 ≤ 562949953421312) (h : In B κ w q cnt tot lk 0 n nK nK fr wa ba ke ma fv hv kv bs ms Z K) (hh : Hs3 κ w n hv Z) (hK : Hk3 nK K ms) :
    Calls Try.prog 51 #[.pointer (some ⟨q, 0, none⟩)] w fun e w' => e = .returned (.tuple #[]) ∧ ∃ κ' ke' ma' kv' ms' K', In B κ' w' q cnt tot lk 0 0 (nK + 2 * n) (nK + 2 * n) (.slice none 0 0) (.slice none 0 0) (.slice none 0 0) ke' ma' [] [] kv' [] ms' Z K' ∧ Hk3 (nK + 2 * n) K' ms' ∧
      (∀ j, j < nK → (K' j).length = (K j).length ∧ ms'.getD j 0 = ms.getD j 0) ∧ (∀ j, nK ≤ j → j < nK + 2 * n → (K' j).length ≤ 16779286 ∧ 0 ≤ ms'.getD j 0 ∧ ms'.getD j 0 ≤ 562949953421312) ∧ (∀ x, x < w.heap.size → κ x = 200 → κ' x = 200) ∧ But (fun x => κ x ≤ 90) w w' := by
  have HU := hid (iuntouched_any B κ w q cnt tot lk n nK nK fr wa ba ke ma fv hv kv bs ms Z K hn (fun i hi => by have := hl i hi; omega) h hh)
  obtain ⟨aF, cF, rfl, _⟩ := owns_slice h.oF
  obtain ⟨aB, cB, rfl, _⟩ := owns_slice h.oB
  have hq0 := h.kq
  clear h hh
  go_enter Try.func51, Try.ntmps51
  go_wp2_with fail
  refine Calls.mono HU.out ?_
  rintro e w0 ⟨rfl, h0, _, u0⟩
  have H0 := hid h0
  have U0 : Hid (But (fun x => κ x ≤ 90) w w0) := u0.mono (fun x _ e => by rw [e, hq0]; omega)
  have q3 := h0.blk.cell 3
  simp only [List.getElem?_toArray, List.getElem?_cons_succ, List.getElem?_cons_zero] at q3
  clear h0 u0 HU
  go_wp2_with fail
  clear q3
  go_loopw [2] (fun s2 wt => ∃ i : Nat, i ≤ n ∧ s2 = .int .i64 (i : Int) ∧ In B κ wt q cnt tot lk 0 n nK nK (.slice aF n cF) wa (.slice aB n cB) ke ma fv hv kv bs ms (Zo Z bs i) K ∧ But (fun x => κ x ≤ 90) w wt) (fun s2 _ => n - (intOf s2).toNat)
  case atStart => exact ⟨0, Nat.zero_le _, rfl, H0.out.congrZ (fun j _ _ => by unfold Zo; rw [if_neg (by omega)]), U0.out⟩
  case round =>
    clear H0 U0
    obtain ⟨i, hi, rfl, hI, hu⟩ := hrel
    have q3 := hI.blk.cell 3
    simp only [List.getElem?_toArray, List.getElem?_cons_succ, List.getElem?_cons_zero] at q3
    by_cases hin : i < n
    · have hin' : (i : Int) < (n : Int) := by omega
      obtain ⟨gF, cF', eF, _, lF, rF⟩ := row_cell hI.oF hin
      cases eF
      obtain ⟨gB, cB', eB, _, lB, rB⟩ := row_cell hI.oB hin
      cases eB
      obtain ⟨af, ef, cf⟩ := hI.fcell (Nat.zero_le _) hin
      rw [ef, length_Zo] at rF
      have HI := hid hI
      have HU := hid hu
      have hlen := hl i hin
      have hb0 := hbs i hin
      clear hI hu ef cf rB
      generalize hWO : wr = WO at *
      clear hWO
      go_wp2_with fail
      clear q3 rF
      go_loopw [3] (fun s3 wt => ∃ (k : Nat) (ys : List Int), k ≤ (Z i).length ∧ s3 = .int .i64 (k : Int) ∧ ys.length = (Z i).length ∧ ys.take k = (mkI (bs.getD i 0) (Z i).length).take k ∧ In B κ wt q cnt tot lk 0 n nK nK (.slice (some ⟨gF, 0, none⟩) n cF) wa (.slice (some ⟨gB, 0, none⟩) n cB) ke ma fv hv kv bs ms (updZ (Zo Z bs i) i ys) K ∧ But (fun x => κ x ≤ 90) w wt) (fun s3 _ => (Z i).length - (intOf s3).toNat)
      case atStart => exact ⟨0, Z i, Nat.zero_le _, rfl, rfl, rfl, HI.out.congrZ (fun j _ _ => by
        by_cases e : j = i
        · subst e; rw [updZ_at, Zo_at]
        · rw [updZ_ne _ _ e]), HU.out⟩
      case round =>
        clear HI HU
        obtain ⟨k, ys, hk, rfl, hyl, hyt, hI, hu⟩ := hrel
        have q3 := hI.blk.cell 3
        have q5 := hI.blk.cell 5
        simp only [List.getElem?_toArray, List.getElem?_cons_succ, List.getElem?_cons_zero] at q3 q5
        obtain ⟨gF', cF2, eF, _, _, rF⟩ := row_cell hI.oF hin
        cases eF
        obtain ⟨gB', cB2, eB, _, _, rB⟩ := row_cell hI.oB hin
        cases eB
        have rB' : wr.cell? ⟨gB, i, none⟩ = some (.int .i64 (bs.getD i 0)) := by
          rw [rB]
          have := hI.oB.len
          simp [show i < bs.length by omega]
        obtain ⟨af, ef, cf⟩ := hI.fcell (Nat.zero_le _) hin
        rw [updZ_at, hyl] at ef cf
        rw [ef] at rF
        by_cases hkz : k < (Z i).length
        · have hkz' : (k : Int) < ((Z i).length : Int) := by omega
          obtain ⟨g, rfl, hg1, hg2, hg3⟩ := cf.resolve_left (by omega)
          have c1 := hg3.cell k (by omega)
          have f1 := hg3.frozen k
          have n1 : q ≠ g := fun e => by have := hI.kq; rw [e] at this; omega
          have n2 : gF ≠ g := fun e => by have := hI.kF gF rfl; rw [e] at this; omega
          have n3 : gB ≠ g := fun e => by have := hI.kB gB rfl; rw [e] at this; omega
          have HW := hid (hI.wrote (by omega) (k := k) (Nat.zero_le _) hin (by rw [updZ_at, hyl]; exact ef) (by rw [updZ_at]; exact hg3) hg2 (-1 - (bs.getD i 0 + (k : Int))))
          have HU := hid (hu.setCell (p := ⟨g, k, none⟩) (show κ g ≤ 90 by omega) (.int .i64 (-1 - (bs.getD i 0 + (k : Int)))))
          have HT := hid (mk_take (m := bs.getD i 0) (x := -1 - (bs.getD i 0 + (k : Int))) hyl hkz hyt rfl)
          clear hI hu hg3 rB ef hyt
          generalize hm : bs.getD i 0 = m at *
          have Hm := hid hm
          clear hm
          generalize hzl : (Z i).length = zl at *
          have Hzl := hid hzl
          clear hzl
          generalize ys.getD k 0 = old at *
          have e1 : IntKind.i64.wrap (m + (k : Int)) = m + (k : Int) := by rw [IntKind.wrap_i64]; omega
          have e2 : IntKind.i64.wrap (-1 - (m + (k : Int))) = -1 - (m + (k : Int)) := by rw [IntKind.wrap_i64]; omega
          have nb : ∀ (x j : Nat), x ≠ g → (wr.setCell ⟨g, k, none⟩ (.int .i64 (-1 - (m + (k : Int))))).cell? ⟨x, j, none⟩ = wr.cell? ⟨x, j, none⟩ := fun x j hx => World.cell?_of_block (Below.heap_setCell _ _ _ _ hx)
          have SK := hid (And.intro ((nb q 3 n1).trans q3) (And.intro ((nb q 5 n1).trans q5) (And.intro ((nb gF i n2).trans rF) ((nb gB i n3).trans rB'))))
          clear nb
          go_wp2_with fail
          go_region_held3 (fun w' => w'.cell? ⟨q, 3, none⟩ = some (.slice (some ⟨gF, 0, none⟩) n cF) ∧ w'.cell? ⟨q, 5, none⟩ = some (.slice (some ⟨gB, 0, none⟩) n cB) ∧ w'.cell? ⟨gF, i, none⟩ = some (.slice (some ⟨g, 0, none⟩) zl zl) ∧ w'.cell? ⟨gB, i, none⟩ = some (.int .i64 m)) (first | (exact ⟨by assumption, by assumption, by assumption, by assumption⟩) | (exact SK.out) | go_keep) (fail)
          go_wp2
          go_roundw
          case rel => exact ⟨k + 1, ys.set k (-1 - (m + (k : Int))), by omega, by go_num, by simp [hyl], HT.out, (HW.out.drew (by omega)).congrZ (fun j _ _ => by rw [updZ_twice, updZ_at]), HU.out.drew⟩
          case measure => simp [intOf]; omega
        · have hkz' : ¬ ((k : Int) < ((Z i).length : Int)) := by omega
          have hke : k = (Z i).length := by omega
          have HI : Hid (In B κ wr q cnt tot lk 0 n nK nK (.slice (some ⟨gF, 0, none⟩) n cF) wa (.slice (some ⟨gB, 0, none⟩) n cB) ke ma fv hv kv bs ms (Zo Z bs (i + 1)) K) := by
            refine hI.congrZ (fun j _ _ => ?_)
            by_cases e : j = i
            · subst e
              rw [updZ_at]
              unfold Zo
              rw [if_pos (by omega)]
              rw [List.take_of_length_le (by omega), List.take_of_length_le (by rw [length_mkI]; omega)] at hyt
              exact hyt
            · rw [updZ_ne _ _ e]
              unfold Zo
              by_cases hj : j < i
              · rw [if_pos hj, if_pos (by omega)]
              · rw [if_neg hj, if_neg (by omega)]
          have HU := hid hu
          clear hI hu ef cf hyt rB rB' q5
          go_wp2_with fail
          go_roundw
          case rel => exact ⟨i + 1, by omega, by go_num, HI.out, HU.out⟩
          case measure => simp [intOf]; omega
    · have hin' : ¬ ((i : Int) < (n : Int)) := by omega
      obtain rfl : n = i := by omega
      have HI := hid (hI.congrZ (Z' := fun j => mkI (bs.getD j 0) (Z j).length) (fun j _ hj => by unfold Zo; rw [if_pos hj]))
      have HU := hid hu
      clear hI hu
      go_wp2_with fail
      clear q3
      go_loopw [4] (fun s4 wt => ∃ (i : Nat) (κi : Nat → Nat) (kei mai : Value) (kvi : List Value) (msi : List Int) (Ki : Nat → List Int), i ≤ n ∧ s4 = .int .i64 (i : Int) ∧ In B κi wt q cnt tot lk i n (nK + 2 * i) (nK + 2 * i) (.slice aF n cF) wa (.slice aB n cB) kei mai fv hv kvi bs msi (fun j => mkI (bs.getD j 0) (Z j).length) Ki ∧ Hk3 (nK + 2 * i) Ki msi ∧ (∀ j, j < nK → (Ki j).length = (K j).length ∧ msi.getD j 0 = ms.getD j 0) ∧ (∀ j, nK ≤ j → j < nK + 2 * i → (Ki j).length ≤ 16779286 ∧ 0 ≤ msi.getD j 0 ∧ msi.getD j 0 ≤ 562949953421312) ∧ (∀ x, x < w.heap.size → κ x = 200 → κi x = 200) ∧ (∀ x, x < w.heap.size → κi x ≤ 90 → κ x ≤ 90) ∧ But (fun x => κ x ≤ 90) w wt) (fun s4 _ => n - (intOf s4).toNat)
      case atStart => exact ⟨0, κ, ke, ma, kv, ms, K, Nat.zero_le _, rfl, HI.out, hK, fun _ _ => ⟨rfl, rfl⟩, fun j h1 h2 => (by omega), fun _ _ h => h, fun _ _ h => h, HU.out⟩
      case round =>
        clear HI HU
        obtain ⟨i, κi, kei, mai, kvi, msi, Ki, hi, rfl, hI, hKi, hs1, hs2, hκ1, hκ2, hu⟩ := hrel
        have q3 := hI.blk.cell 3
        have q1 := hI.blk.cell 1
        have q7 := hI.blk.cell 7
        simp only [List.getElem?_toArray, List.getElem?_cons_succ, List.getElem?_cons_zero] at q3 q1 q7
        by_cases hin : i < n
        · have hin' : (i : Int) < (n : Int) := by omega
          obtain ⟨gF, cF', eF, _, lF, rF⟩ := row_cell hI.oF hin
          cases eF
          obtain ⟨gB, cB', eB, _, lB, rB⟩ := row_cell hI.oB hin
          cases eB
          obtain ⟨aK, cK, rfl, _⟩ := owns_slice hI.oK
          obtain ⟨aM, cM, rfl, _⟩ := owns_slice hI.oM
          obtain ⟨af, ef, cf⟩ := hI.fcell (Nat.le_refl _) hin
          simp only [length_mkI] at ef cf
          rw [ef] at rF
          have HI := hid hI
          have HU := hid hu
          have HS := hid (And.intro hKi (And.intro hs1 (And.intro hs2 (And.intro hκ1 hκ2))))
          have hlen := hl i hin
          have hb0 := hbs i hin
          clear hI hu hKi hs1 hs2 hκ1 hκ2 rB
          generalize hWO : wr = WO at *
          clear hWO
          go_upto_region 12 with fail
          go_cut [6] (fun s6 wx => ∃ M : Nat, 70 ≤ M ∧ M ≤ 2070 ∧ s6 = .int .i64 (M : Int) ∧ WO = wx)
          case first =>
            obtain ⟨T, rfl⟩ := Int.eq_ofNat_of_zero_le ht0
            clear q3 q7 rF cf
            go_wp2_with fail
            all_goals go_meet
            all_goals first
            | exact ⟨2070, by omega, by omega, by go_num, rfl⟩
            | exact ⟨T + 70, by omega, by omega, by go_num, rfl⟩
          case rest =>
          obtain ⟨M0, hM1, hM2, rfl, rfl⟩ := hcut
          go_upto_if 77 with fail
          go_cut [6] (fun s6 wx => ∃ M : Nat, 70 ≤ M ∧ M ≤ 2070 ∧ s6 = .int .i64 (M : Int) ∧ WO = wx)
          case first =>
            clear q3 rF cf q1 q7
            go_wp2_with fail
            all_goals go_meet
            all_goals first
            | exact ⟨M0, by omega, by omega, rfl, rfl⟩
            | exact ⟨100, by omega, by omega, by go_num, rfl⟩
          case rest =>
          clear hM1 hM2
          obtain ⟨M, hM1, hM2, rfl, rfl⟩ := hcut
          have hqlt := HI.out.blk.lt
          have q5 := HI.out.blk.cell 5
          simp only [List.getElem?_toArray, List.getElem?_cons_succ, List.getElem?_cons_zero] at q5
          have rB' : WO.cell? ⟨gB, i, none⟩ = some (.int .i64 (bs.getD i 0)) := by
            obtain ⟨gB', cB2, eB, _, _, rB⟩ := row_cell HI.out.oB hin
            cases eB
            rw [rB]
            have := HI.out.oB.len
            simp [show i < bs.length by omega]
          have hz0 : af = none → (Z i).length = 0 := fun e => cf.resolve_right (fun ⟨g, e2, _⟩ => by rw [e] at e2; cases e2)
          have CF := hid cf
          have Q := hid (And.intro q3 (And.intro q5 (And.intro rF rB')))
          clear q1 q7 cf ef
          generalize hm : bs.getD i 0 = m at *
          have Hm := hid hm
          clear hm
          generalize hzl : (Z i).length = zl at *
          have Hzl := hid hzl
          clear hzl q5 rB'
          go_wp2_with fail
          clear q3 rF
          go_loopw [5, 7] (fun s5 s7 wt => ∃ k : Nat, zl ≤ k ∧ k ≤ zl + M ∧ s7 = .int .i64 (k : Int) ∧ Below WO.heap.size WO wt ∧ ((k = zl ∧ s5 = .slice af zl zl) ∨ (zl < k ∧ ∃ gg cp, s5 = .slice (some ⟨gg, 0, none⟩) k cp ∧ WO.heap.size ≤ gg ∧ OwI WO.heap.size wt s5 k (mkI m k)))) (fun _ s7 _ => zl + M - (intOf s7).toNat)
          case atStart => exact ⟨zl, Nat.le_refl _, by omega, rfl, Below.refl _ _, .inl ⟨rfl, rfl⟩⟩
          case round =>
            obtain ⟨k, hk0, hk1, rfl, hbk, hg⟩ := hrel
            obtain ⟨t3, t5, tF, tB⟩ := Q.out
            have q3 := (hbk.cell (p := ⟨q, 3, none⟩) (by exact hqlt)).trans t3
            have q5 := (hbk.cell (p := ⟨q, 5, none⟩) (by exact hqlt)).trans t5
            have rF := (hbk.cell (p := ⟨gF, i, none⟩) (by exact lF)).trans tF
            have rB := (hbk.cell (p := ⟨gB, i, none⟩) (by exact lB)).trans tB
            clear t3 t5 tF tB
            by_cases hkM : k < zl + M
            · have hkM' : (k : Int) < (zl : Int) + (M : Int) := by omega
              have e1 : IntKind.i64.wrap (m + (k : Int)) = m + (k : Int) := by rw [IntKind.wrap_i64]; omega
              have e2 : IntKind.i64.wrap (-1 - (m + (k : Int))) = -1 - (m + (k : Int)) := by rw [IntKind.wrap_i64]; omega
              rcases hg with ⟨hkz, rfl⟩ | ⟨hkz, gg, cp, rfl, hgg, hO⟩
              · have S4 : Hid (∀ b', af = some b' → ∀ j u, ((mkI m zl).map (Value.int .i64))[j]? = some u → (wr.alloc (.cells #[.int .i64 (-1 - (m + (k : Int)))] 3)).cell? (b'.add j) = some u) := by
                  show ∀ b', _ → ∀ j u, _ → _
                  intro b' eb j u hj
                  have hjl : j < zl := by
                    have := (List.getElem?_eq_some_iff.1 hj).1
                    simpa [length_mkI] using this
                  obtain ⟨g, e2, hg1, hg2, hg3⟩ := CF.out.resolve_left (by omega)
                  rw [eb] at e2
                  cases e2
                  have e : (⟨g, 0, none⟩ : Addr).add j = ⟨g, j, none⟩ := by unfold Addr.add; split <;> simp_all
                  have hb4 := hbk.alloc hbk.size (.cells #[.int .i64 (-1 - (m + (k : Int)))] 3)
                  rw [e, hb4.cell (p := ⟨g, j, none⟩) (by exact hg1), hg3.cell j (by rw [length_mkI]; exact hjl), ← hj]
                  simp [length_mkI, hjl]
                have Hbk := hid (hbk.alloc hbk.size (.cells #[.int .i64 (-1 - (m + (k : Int)))] 3))
                clear hbk
                subst hkz
                obtain ⟨i3, hi3, hz3, hs3, hb3⟩ := info_parts infoI
                go_wp2_with (at_builtin; refine wpList_append_grows _ rfl _ _ 36 (by rfl) 3 i3 (.int .i64 0) 1 8 Try.underlying36 hi3 hz3 hs3 hb3 rfl (by decide) af k k ((mkI m k).map (Value.int .i64)) (by rfl) (fun h => ⟨hz0 h, hz0 h⟩) (by rw [List.length_map, length_mkI, Nat.mul_one]) (by exact S4.out) ⟨wr.heap.size, 0, none⟩ 1 1 [.int .i64 (-1 - (m + (k : Int)))] (by rfl) (by rfl) (by exact newsI wr _) (by intro u hu; simp at hu; subst hu; rfl) (by omega) (by unfold maxLen; omega) (by omega) ?_)
                intro v' w' ho hgr
                have ho2 : OwI WO.heap.size w' v' (k + 1) (mkI m (k + 1)) := by
                  have := owns_base ho (B := WO.heap.size) (by have := Hbk.out.size; simpa using this)
                  unfold OwI
                  rw [mkI_succ]
                  simpa using this
                obtain ⟨g5, cp5, e5, hg5, _⟩ := owns_form ho2 (by
                  intro e
                  have := ho2.len
                  rcases ho2.2 with ⟨_, q⟩ | ⟨g, cap, cur, q, _⟩
                  · rw [length_mkI] at this; omega
                  · rw [e] at q; cases q)
                subst e5
                have HO' := hid ho2
                have Hb' := hid (Hbk.out.trans ((below_grown hgr).mono Hbk.out.size))
                clear ho hgr ho2 S4 Hbk
                go_wp2
                go_roundw
                case rel => exact ⟨k + 1, by omega, by omega, by go_num, Hb'.out, .inr ⟨by omega, g5, cp5, rfl, hg5, HO'.out⟩⟩
                case measure => simp [intOf]; omega
              · have HO := hid (hO.alloc (.cells #[.int .i64 (-1 - (m + (k : Int)))] 3))
                have Hbk := hid (hbk.alloc hbk.size (.cells #[.int .i64 (-1 - (m + (k : Int)))] 3))
                clear hbk hO
                go_wp2_with (at_builtin; refine wpI_one (by rfl) _ _ (by rfl) WO.heap.size _ k (mkI m k) (by rfl) (by exact HO.out) ⟨wr.heap.size, 0, none⟩ 1 (-1 - (m + (k : Int))) (by rfl) (by exact newsI wr _) (by omega) (by exact Hbk.out.size) ?_)
                intro g5 cp5 w' ho hb5
                have hg5 : WO.heap.size ≤ g5 := (World.ownsRow.lt ho g5 rfl).1
                have HO' := hid ho
                have Hb' := hid (Hbk.out.trans hb5)
                clear ho hb5 HO Hbk
                go_wp2
                go_roundw
                case rel => exact ⟨k + 1, by omega, by omega, by go_num, Hb'.out, .inr ⟨by omega, g5, cp5, rfl, hg5, by rw [mkI_succ]; exact HO'.out⟩⟩
                case measure => simp [intOf]; omega
            · have hkM' : ¬ ((k : Int) < (zl : Int) + (M : Int)) := by omega
              obtain rfl : zl + M = k := by omega
              rcases hg with ⟨hkz, _⟩ | ⟨hkz, gg, cp, rfl, hgg, hO⟩
              · omega
              have HO := hid hO
              have Hbk := hid hbk
              clear hbk hO
              have hR := hid ((HI.out.retag (κ' := rtg κi WO.heap.size i) (by omega) (by omega) (fun x hx hne => rtg_ne κi hx hne)).kept (t := 200) (w' := wr) (Kp.below Hbk.out) (Nat.le_refl _) (by omega))
              have HJ := hid ((hR.out.kept (t := 200) (Kp.below ((Below.refl _ _).alloc (Nat.le_refl _) (.cells #[.slice af zl zl, .slice (some ⟨gg, 0, none⟩) (zl + M) cp] 36))) (Nat.le_refl _) (by omega)).drew (by omega))
              have q7 := hR.out.blk.cell 7
              simp only [List.getElem?_toArray, List.getElem?_cons_succ, List.getElem?_cons_zero] at q7
              have hqr := hR.out.blk.lt
              have ka7 : (wr.alloc (.cells #[.slice af zl zl, .slice (some ⟨gg, 0, none⟩) (zl + M) cp] 36)).cell? ⟨q, 7, none⟩ = some (.slice aK (nK + 2 * i) cK) := (World.cell?_alloc_past _ _ _ hqr).trans q7
              obtain ⟨i36, hi36, hz36, hs36, hb36⟩ := info_parts info36
              have hUr := hid (HU.out.step (But.of_below (X := fun _ => False) Hbk.out) (fun _ _ q => q.elim))
              have S1 := hid (show Sl3 (rtg κi WO.heap.size i) wr (.slice af zl zl) (mkI m zl) from by
                have := Sl3.of_blk (κ := rtg κi WO.heap.size i) (w := wr) (a := af) (zs := mkI m zl) (by
                  rcases CF.out with h0 | ⟨g, h1, h2, h3, h4⟩
                  · exact .inl (by rw [length_mkI]; exact h0)
                  · exact .inr ⟨g, h1, rtg_at κi _ h3, h4.of_block (Hbk.out.block g h2)⟩)
                rw [length_mkI] at this
                exact this)
              have S2 := hid (Sl3.of_own (κ := rtg κi WO.heap.size i) HO.out (rtg_new κi i hgg))
              have hsz := Hbk.out.size
              go_upto_region 19 with fail
              go_cut [5, 7] (fun s5 s7 wx => ∃ (κj : Nat → Nat) (kej : Value) (kvj : List Value), In B κj wx q cnt tot lk (i + 1) n (nK + 2 * i + 2) (nK + 2 * i) (.slice (some ⟨gF, 0, none⟩) n cF) wa (.slice (some ⟨gB, 0, none⟩) n cB) kej (.slice aM (nK + 2 * i) cM) fv hv kvj bs msi (fun j => mkI (bs.getD j 0) (Z j).length) (updZ (updZ Ki (nK + 2 * i) (mkI m zl)) (nK + 2 * i + 1) (mkI m (zl + M))) ∧ (∀ x, x < w.heap.size → (κi x = 200 → κj x = 200) ∧ (κj x ≤ 90 → κi x ≤ 90)) ∧ But (fun x => κ x ≤ 90) w wx)
              case first =>
                go_wp2_with fail
                go_region_law (first
                  | (refine step_append_lies _ (by rfl) _ _ _ (by rfl) B 36 i36 (.slice none 0 0) 1 24 Try.underlying65 hi36 hz36 hs36 hb36 rfl (by decide) _ (nK + 2 * i) kvi (by rfl) (by exact HJ.out.oK) ⟨wr.heap.size, 0, none⟩ 2 2 [.slice af zl zl, .slice (some ⟨gg, 0, none⟩) (zl + M) cp] (by rfl) (by rfl) (by exact newsV2 wr _ _ _) (by intro u hu; simp at hu; rcases hu with rfl | rfl <;> rfl) (by decide) (by unfold maxLen; omega) (by omega) (by have := hR.out.qB; simp; omega) (wr.heap.size + 1) (by simp) ?_; intro g4 cap4 w5 ho4 hg4 hlie4 _; have bb := setq (w5 := w5) hR.out.blk hR.out.kq (t := 4) (by decide) (((Below.refl _ _).alloc (Nat.le_refl _) (.cells #[.slice af zl zl, .slice (some ⟨gg, 0, none⟩) (zl + M) cp] 36)).drew) hg4 hR.out.kK; have c7'' := bb.cell 7; have f7'' := bb.frozen 7; simp only [List.getElem?_toArray, List.getElem?_cons_succ, List.getElem?_cons_zero] at c7''; have HO4 := hid ho4; have HG4 : Hid ((wr.alloc (.cells #[.slice af zl zl, .slice (some ⟨gg, 0, none⟩) (zl + M) cp] 36)).drew.grownBy w5 (Value.slice aK (nK + 2 * i) cK).ownBlock) := hg4; have L4 : Hid ((Value.slice aK (nK + 2 * i) cK).ownBlock = some g4 ∨ g4 = wr.heap.size + 1) := hlie4; clear ho4 hg4 hlie4 bb))
                all_goals
                  have hkl : kvi.length = nK + 2 * i := by have := HJ.out.oK.1; simpa using this
                  have J4 := hid (hR.out.stepK ((Below.refl _ _).alloc (Nat.le_refl _) (.cells #[.slice af zl zl, .slice (some ⟨gg, 0, none⟩) (zl + M) cp] 36)).drew HG4.out (by simpa using L4.out) HO4.out S1.out S2.out hkl)
                  have G4 := (grew (j := 7) (u := .slice (some ⟨g4, 0, none⟩) (nK + 2 * i + 2) cap4) hR.out.kq ((Below.refl _ _).alloc (Nat.le_refl _) (.cells #[.slice af zl zl, .slice (some ⟨gg, 0, none⟩) (zl + M) cp] 36)).drew HG4.out hR.out.kK (by simpa using L4.out)).same
                  have U4 := hid (((hUr.out.alloc (.cells #[.slice af zl zl, .slice (some ⟨gg, 0, none⟩) (zl + M) cp] 36)).drew.of_grown HG4.out (fun x hx hxw => by
                    have k4 := hR.out.kK x hx
                    have hxW : x < WO.heap.size := Nat.lt_of_lt_of_le hxw HU.out.size
                    unfold rtg at k4
                    split at k4
                    · omega
                    · exact HS.out.2.2.2.2 x hxw (by omega))).setCell (p := ⟨q, 7, none⟩) (show κ q ≤ 90 by omega) (.slice (some ⟨g4, 0, none⟩) (nK + 2 * i + 2) cap4))
                  have T4 : ∀ x, x < w.heap.size → (κi x = 200 → tag (rtg κi WO.heap.size i) g4 4 x = 200) ∧ (tag (rtg κi WO.heap.size i) g4 4 x ≤ 90 → κi x ≤ 90) := fun x hx => by
                    have hxW : x < WO.heap.size := Nat.lt_of_lt_of_le hx HU.out.size
                    rw [G4 x (by omega)]
                    unfold rtg
                    split <;> constructor <;> intro h <;> omega
                  have HT4 := hid T4
                  clear T4 G4
                  clear q3 q5 rF rB q7 ka7 c7'' f7''
                  go_wp2_with fail
                  go_meet
                  exact ⟨_, _, _, J4.out, HT4.out, U4.out⟩
              case rest =>
              obtain ⟨κj, kej, kvj, hJ, hT, hU⟩ := hcut
              have HJ5 := hid hJ
              have HT5 := hid hT
              have HU5 := hid hU
              have q8 := hJ.blk.cell 8
              have q5' := hJ.blk.cell 5
              simp only [List.getElem?_toArray, List.getElem?_cons_succ, List.getElem?_cons_zero] at q8 q5'
              have rBc : wc.cell? ⟨gB, i, none⟩ = some (.int .i64 m) := by
                obtain ⟨gB', cB2, eB, _, _, rB⟩ := row_cell hJ.oB hin
                cases eB
                rw [rB, ← Hm.out]
                have := hJ.oB.len
                simp [show i < bs.length by omega]
              clear hJ hT hU q3 q5 rF rB q7 ka7 hR HJ S1 S2 HO Hbk hUr hi36 hz36 hs36 hb36
              have HJ6 := hid ((HJ5.out.kept (t := 200) (Kp.below ((Below.refl _ _).alloc (Nat.le_refl _) (.cells #[.int .i64 m, .int .i64 m] 3))) (Nat.le_refl _) (by omega)).drew (by omega))
              have hqr' := HJ5.out.blk.lt
              have ka8 : (wc.alloc (.cells #[.int .i64 m, .int .i64 m] 3)).cell? ⟨q, 8, none⟩ = some (.slice aM (nK + 2 * i) cM) := (World.cell?_alloc_past _ _ _ hqr').trans q8
              obtain ⟨i3, hi3, hz3, hs3, hb3⟩ := info_parts infoI
              go_wp2_with fail
              have hlB := (World.ownsRow.lt HJ5.out.oB gB rfl).2
              have hkB := HJ5.out.kB gB rfl
              have hnB : gB ≠ q := fun e => by have := HJ5.out.kq; rw [e] at hkB; omega
              have SA : Hid ((wc.alloc (.cells #[.int .i64 m, .int .i64 m] 3)).cell? ⟨q, 5, none⟩ = some (.slice (some ⟨gB, 0, none⟩) n cB) ∧ (wc.alloc (.cells #[.int .i64 m, .int .i64 m] 3)).cell? ⟨gB, i, none⟩ = some (.int .i64 m)) := ⟨(World.cell?_alloc_past _ _ _ hqr').trans q5', (World.cell?_alloc_past _ _ _ hlB).trans rBc⟩
              refine wp_last2 (fun A a' w' => ∃ (g4 cap4 : Nat) (w5 : World), w' = w5.setCell ⟨q, 8, none⟩ (.slice (some ⟨g4, 0, none⟩) (nK + 2 * i + 2) cap4) ∧ a' = (((((((((((((((((((((((A.put (some 126) (.pointer (some ⟨q, 0, none⟩))).put (some 127) (.pointer (some ⟨q, 0, none⟩))).put (some 128) (.pointer (some ⟨q, 0, none⟩))).put (some 129) (.pointer (some ⟨q, 8, none⟩))).put (some 130) (.slice aM (nK + 2 * i) cM)).put (some 131) (.pointer (some ⟨q, 0, none⟩))).put (some 132) (.pointer (some ⟨q, 0, none⟩))).put (some 133) (.pointer (some ⟨q, 5, none⟩))).put (some 134) (.slice (some ⟨gB, 0, none⟩) n cB)).put (some 135) (.int .i64 (i : Int))).put (some 136) (.pointer (some ⟨gB, i, none⟩))).put (some 137) (.int .i64 m)).put (some 138) (.pointer (some ⟨q, 0, none⟩))).put (some 139) (.pointer (some ⟨q, 0, none⟩))).put (some 140) (.pointer (some ⟨q, 5, none⟩))).put (some 141) (.slice (some ⟨gB, 0, none⟩) n cB)).put (some 142) (.int .i64 (i : Int))).put (some 143) (.pointer (some ⟨gB, i, none⟩))).put (some 144) (.int .i64 m)).put (some 145) (.slice (some ⟨wc.heap.size, 0, none⟩) 2 2)).put (some 146) (.slice (some ⟨g4, 0, none⟩) (nK + 2 * i + 2) cap4)).put (some 147) (.pointer (some ⟨q, 0, none⟩))).put (some 148) (.pointer (some ⟨q, 8, none⟩))) ∧ w5.ownsRow B 3 1 (.slice (some ⟨g4, 0, none⟩) (nK + 2 * i + 2) cap4) (nK + 2 * i + 2) (msi.map (Value.int .i64) ++ [.int .i64 m, .int .i64 m]) ∧ (wc.alloc (.cells #[.int .i64 m, .int .i64 m] 3)).drew.grownBy w5 (Value.slice aM (nK + 2 * i) cM).ownBlock ∧ ((Value.slice aM (nK + 2 * i) cM).ownBlock = some g4 ∨ g4 = wc.heap.size + 1)) ?_ ?_
              · rintro a' w' ⟨g4, cap4, w5, rfl, rfl, ho4, hg4, hl4⟩
                simp only [Act.put, List.setIfInBounds_toArray, List.set_cons_zero, List.set_cons_succ]
                have ho5 : OwI B w5 (.slice (some ⟨g4, 0, none⟩) (nK + 2 * i + 2) cap4) (nK + 2 * i + 2) (msi ++ [m, m]) := by
                  unfold OwI
                  rw [List.map_append]
                  exact ho4
                have J4 := hid (HJ5.out.stepM (d := 2) (m2 := [m, m]) ((Below.refl _ _).alloc (Nat.le_refl _) (.cells #[.int .i64 m, .int .i64 m] 3)).drew hg4 (by simpa using hl4) ho5)
                have G4 := (grew (j := 8) (u := .slice (some ⟨g4, 0, none⟩) (nK + 2 * i + 2) cap4) HJ5.out.kq ((Below.refl _ _).alloc (Nat.le_refl _) (.cells #[.int .i64 m, .int .i64 m] 3)).drew hg4 HJ5.out.kM (by simpa using hl4)).same
                have U4 := hid (((HU5.out.alloc (.cells #[.int .i64 m, .int .i64 m] 3)).drew.of_grown hg4 (fun x hx hxw => by
                  have k4 := HJ5.out.kM x hx
                  exact HS.out.2.2.2.2 x hxw ((HT5.out x hxw).2 (by omega)))).setCell (p := ⟨q, 8, none⟩) (show κ q ≤ 90 by omega) (.slice (some ⟨g4, 0, none⟩) (nK + 2 * i + 2) cap4))
                have T4 : ∀ x, x < w.heap.size → (κi x = 200 → tag κj g4 5 x = 200) ∧ (tag κj g4 5 x ≤ 90 → κi x ≤ 90) := fun x hx => by
                  rw [G4 x (Nat.lt_of_lt_of_le hx HU5.out.size)]
                  exact HT5.out x hx
                have HT7 := hid T4
                have HU7 := hid U4.out
                have HJ7 := hid J4.out
                have hml : msi.length = nK + 2 * i := HI.out.oM.len
                clear T4 G4 ho5 J4 U4
                obtain ⟨hKi, hs1, hs2, hκ1, hκ2⟩ := HS.out
                have HF := hid (And.intro (hKi.two hml m zl (zl + M)) (And.intro (fun j (hj : j < nK) => by
                  obtain ⟨e1, e2⟩ := two_old (j := j) (K := Ki) hml m (mkI m zl) (mkI m (zl + M)) (by omega)
                  rw [e1, e2]
                  exact hs1 j hj : ∀ j, j < nK → (updZ (updZ Ki (nK + 2 * i) (mkI m zl)) (nK + 2 * i + 1) (mkI m (zl + M)) j).length = (K j).length ∧ (msi ++ [m, m]).getD j 0 = ms.getD j 0)
                  (fun j (h1 : nK ≤ j) (h2 : j < nK + 2 * (i + 1)) => by
                  by_cases hj : j < nK + 2 * i
                  · obtain ⟨e1, e2⟩ := two_old (j := j) (K := Ki) hml m (mkI m zl) (mkI m (zl + M)) hj
                    rw [e1, e2]
                    exact hs2 j h1 hj
                  · obtain ⟨e1, e2⟩ := two_new (j := j) (K := Ki) hml m (mkI m zl) (mkI m (zl + M)) (by omega) (by omega)
                    rw [e2]
                    refine ⟨?_, hb0⟩
                    rcases e1 with e1 | e1 <;> rw [e1, length_mkI] <;> omega : ∀ j, nK ≤ j → j < nK + 2 * (i + 1) → (updZ (updZ Ki (nK + 2 * i) (mkI m zl)) (nK + 2 * i + 1) (mkI m (zl + M)) j).length ≤ 16779286 ∧ 0 ≤ (msi ++ [m, m]).getD j 0 ∧ (msi ++ [m, m]).getD j 0 ≤ 562949953421312)))
                have HG := hid (And.intro (fun x hx h => (HT7.out x hx).1 (hκ1 x hx h) : ∀ x, x < w.heap.size → κ x = 200 → tag κj g4 5 x = 200) (fun x hx h => hκ2 x hx ((HT7.out x hx).2 h) : ∀ x, x < w.heap.size → tag κj g4 5 x ≤ 90 → κ x ≤ 90))
                clear hKi hs1 hs2 hκ1 hκ2 q8 q5' rBc ka8
                go_wp2
                go_roundw
                case rel =>
                  exact ⟨i + 1, tag κj g4 5, kej, _, kvj, msi ++ [m, m], _, by omega, by go_num, HJ7.out, HF.out.1, HF.out.2.1, HF.out.2.2, HG.out.1, HG.out.2, HU7.out⟩
                case measure => simp [intOf]; omega
              · intro N hN
                go_light
                refine wp_region_held_drew (S := (fun w' => w'.cell? ⟨q, 5, none⟩ = some (.slice (some ⟨gB, 0, none⟩) n cB) ∧ w'.cell? ⟨gB, i, none⟩ = some (.int .i64 m))) (by kernel_rfl) ⟨q5', rBc⟩ (fun hHeld => ?_)
                refine wpAnyH_take (i := 0) (oi := ({ dst := some 126, op := Op.move (Operand.tmp 0), type := 64, pos := _, after := _, guard := none } : Oper)) (v := .pointer (some ⟨q, 0, none⟩)) rfl (by kernel_rfl) (by kernel_rfl) (by kernel_rfl) (fun _ _ _ h => by cases h.1) (Or.inl ⟨by rfl, ?_⟩) (by assumption) ?_
                · intro w' hSw
                  (try dsimp only at hSw)
                  first | (go_simp; done) | (go_simp; with_reducible rfl)
                try simp only [Act.put, List.setIfInBounds_toArray, List.set_cons_zero, List.set_cons_succ]
                refine wpAnyH_take (i := 1) (oi := ({ dst := some 127, op := Op.move (Operand.tmp 0), type := 64, pos := _, after := _, guard := none } : Oper)) (v := .pointer (some ⟨q, 0, none⟩)) rfl (by kernel_rfl) (by kernel_rfl) (by kernel_rfl) (fun _ _ _ h => by cases h.1) (Or.inl ⟨by rfl, ?_⟩) (by assumption) ?_
                · intro w' hSw
                  (try dsimp only at hSw)
                  first | (go_simp; done) | (go_simp; with_reducible rfl)
                try simp only [Act.put, List.setIfInBounds_toArray, List.set_cons_zero, List.set_cons_succ]
                refine wpAnyH_take (i := 2) (oi := ({ dst := some 128, op := Op.nilCheck (Operand.tmp 127), type := 0, pos := _, after := _, guard := none } : Oper)) (v := .pointer (some ⟨q, 0, none⟩)) rfl (by kernel_rfl) (by kernel_rfl) (by kernel_rfl) (fun _ _ _ h => by cases h.1) (Or.inl ⟨by rfl, ?_⟩) (by assumption) ?_
                · intro w' hSw
                  (try dsimp only at hSw)
                  first | (go_simp; done) | (go_simp; with_reducible rfl)
                try simp only [Act.put, List.setIfInBounds_toArray, List.set_cons_zero, List.set_cons_succ]
                refine wpAnyH_take (i := 3) (oi := ({ dst := some 129, op := Op.fieldAddr 67 (Operand.tmp 128) 8, type := 0, pos := _, after := _, guard := none } : Oper)) (v := .pointer (some ⟨q, 8, none⟩)) rfl (by kernel_rfl) (by kernel_rfl) (by kernel_rfl) (fun _ _ _ h => by cases h.1) (Or.inl ⟨by rfl, ?_⟩) (by assumption) ?_
                · intro w' hSw
                  (try dsimp only at hSw)
                  first | (go_simp; done) | (go_simp; with_reducible rfl)
                try simp only [Act.put, List.setIfInBounds_toArray, List.set_cons_zero, List.set_cons_succ]
                refine wpAnyH_take (i := 5) (oi := ({ dst := some 131, op := Op.move (Operand.tmp 0), type := 64, pos := _, after := _, guard := none } : Oper)) (v := .pointer (some ⟨q, 0, none⟩)) rfl (by kernel_rfl) (by kernel_rfl) (by kernel_rfl) (fun _ _ _ h => by cases h.1) (Or.inl ⟨by rfl, ?_⟩) (by assumption) ?_
                · intro w' hSw
                  (try dsimp only at hSw)
                  first | (go_simp; done) | (go_simp; with_reducible rfl)
                try simp only [Act.put, List.setIfInBounds_toArray, List.set_cons_zero, List.set_cons_succ]
                refine wpAnyH_take (i := 6) (oi := ({ dst := some 132, op := Op.nilCheck (Operand.tmp 131), type := 0, pos := _, after := _, guard := none } : Oper)) (v := .pointer (some ⟨q, 0, none⟩)) rfl (by kernel_rfl) (by kernel_rfl) (by kernel_rfl) (fun _ _ _ h => by cases h.1) (Or.inl ⟨by rfl, ?_⟩) (by assumption) ?_
                · intro w' hSw
                  (try dsimp only at hSw)
                  first | (go_simp; done) | (go_simp; with_reducible rfl)
                try simp only [Act.put, List.setIfInBounds_toArray, List.set_cons_zero, List.set_cons_succ]
                refine wpAnyH_take (i := 7) (oi := ({ dst := some 133, op := Op.fieldAddr 67 (Operand.tmp 132) 5, type := 0, pos := _, after := _, guard := none } : Oper)) (v := .pointer (some ⟨q, 5, none⟩)) rfl (by kernel_rfl) (by kernel_rfl) (by kernel_rfl) (fun _ _ _ h => by cases h.1) (Or.inl ⟨by rfl, ?_⟩) (by assumption) ?_
                · intro w' hSw
                  (try dsimp only at hSw)
                  first | (go_simp; done) | (go_simp; with_reducible rfl)
                try simp only [Act.put, List.setIfInBounds_toArray, List.set_cons_zero, List.set_cons_succ]
                refine wpAnyH_take (i := 8) (oi := ({ dst := some 134, op := Op.load 36 (Operand.tmp 133), type := 36, pos := _, after := _, guard := none } : Oper)) (v := .slice (some ⟨gB, 0, none⟩) n cB) rfl (by kernel_rfl) (by kernel_rfl) (by kernel_rfl) (fun _ _ _ h => by cases h.1) (Or.inl ⟨by rfl, ?_⟩) (by assumption) ?_
                · intro w' hSw
                  (try dsimp only at hSw)
                  first | (go_simp; done) | (go_simp; with_reducible rfl)
                try simp only [Act.put, List.setIfInBounds_toArray, List.set_cons_zero, List.set_cons_succ]
                refine wpAnyH_take (i := 9) (oi := ({ dst := some 135, op := Op.move (Operand.tmp 4), type := 3, pos := _, after := _, guard := none } : Oper)) (v := .int .i64 (i : Int)) rfl (by kernel_rfl) (by kernel_rfl) (by kernel_rfl) (fun _ _ _ h => by cases h.1) (Or.inl ⟨by rfl, ?_⟩) (by assumption) ?_
                · intro w' hSw
                  (try dsimp only at hSw)
                  first | (go_simp; done) | (go_simp; with_reducible rfl)
                try simp only [Act.put, List.setIfInBounds_toArray, List.set_cons_zero, List.set_cons_succ]
                refine wpAnyH_take (i := 10) (oi := ({ dst := some 136, op := Op.indexAddr 36 (Operand.tmp 134) (Operand.tmp 135), type := 0, pos := _, after := _, guard := none } : Oper)) (v := .pointer (some ⟨gB, i, none⟩)) rfl (by kernel_rfl) (by kernel_rfl) (by kernel_rfl) (fun _ _ _ h => by cases h.1) (Or.inl ⟨by rfl, ?_⟩) (by assumption) ?_
                · intro w' hSw
                  (try dsimp only at hSw)
                  first | (go_simp; done) | (go_simp; with_reducible rfl)
                try simp only [Act.put, List.setIfInBounds_toArray, List.set_cons_zero, List.set_cons_succ]
                refine wpAnyH_take (i := 11) (oi := ({ dst := some 137, op := Op.load 3 (Operand.tmp 136), type := 3, pos := _, after := _, guard := none } : Oper)) (v := .int .i64 m) rfl (by kernel_rfl) (by kernel_rfl) (by kernel_rfl) (fun _ _ _ h => by cases h.1) (Or.inl ⟨by rfl, ?_⟩) (by assumption) ?_
                · intro w' hSw
                  (try dsimp only at hSw)
                  first | (go_simp; done) | (go_simp; with_reducible rfl)
                try simp only [Act.put, List.setIfInBounds_toArray, List.set_cons_zero, List.set_cons_succ]
                refine wpAnyH_take (i := 12) (oi := ({ dst := some 138, op := Op.move (Operand.tmp 0), type := 64, pos := _, after := _, guard := none } : Oper)) (v := .pointer (some ⟨q, 0, none⟩)) rfl (by kernel_rfl) (by kernel_rfl) (by kernel_rfl) (fun _ _ _ h => by cases h.1) (Or.inl ⟨by rfl, ?_⟩) (by assumption) ?_
                · intro w' hSw
                  (try dsimp only at hSw)
                  first | (go_simp; done) | (go_simp; with_reducible rfl)
                try simp only [Act.put, List.setIfInBounds_toArray, List.set_cons_zero, List.set_cons_succ]
                refine wpAnyH_take (i := 13) (oi := ({ dst := some 139, op := Op.nilCheck (Operand.tmp 138), type := 0, pos := _, after := _, guard := none } : Oper)) (v := .pointer (some ⟨q, 0, none⟩)) rfl (by kernel_rfl) (by kernel_rfl) (by kernel_rfl) (fun _ _ _ h => by cases h.1) (Or.inl ⟨by rfl, ?_⟩) (by assumption) ?_
                · intro w' hSw
                  (try dsimp only at hSw)
                  first | (go_simp; done) | (go_simp; with_reducible rfl)
                try simp only [Act.put, List.setIfInBounds_toArray, List.set_cons_zero, List.set_cons_succ]
                refine wpAnyH_take (i := 14) (oi := ({ dst := some 140, op := Op.fieldAddr 67 (Operand.tmp 139) 5, type := 0, pos := _, after := _, guard := none } : Oper)) (v := .pointer (some ⟨q, 5, none⟩)) rfl (by kernel_rfl) (by kernel_rfl) (by kernel_rfl) (fun _ _ _ h => by cases h.1) (Or.inl ⟨by rfl, ?_⟩) (by assumption) ?_
                · intro w' hSw
                  (try dsimp only at hSw)
                  first | (go_simp; done) | (go_simp; with_reducible rfl)
                try simp only [Act.put, List.setIfInBounds_toArray, List.set_cons_zero, List.set_cons_succ]
                refine wpAnyH_take (i := 15) (oi := ({ dst := some 141, op := Op.load 36 (Operand.tmp 140), type := 36, pos := _, after := _, guard := none } : Oper)) (v := .slice (some ⟨gB, 0, none⟩) n cB) rfl (by kernel_rfl) (by kernel_rfl) (by kernel_rfl) (fun _ _ _ h => by cases h.1) (Or.inl ⟨by rfl, ?_⟩) (by assumption) ?_
                · intro w' hSw
                  (try dsimp only at hSw)
                  first | (go_simp; done) | (go_simp; with_reducible rfl)
                try simp only [Act.put, List.setIfInBounds_toArray, List.set_cons_zero, List.set_cons_succ]
                refine wpAnyH_take (i := 16) (oi := ({ dst := some 142, op := Op.move (Operand.tmp 4), type := 3, pos := _, after := _, guard := none } : Oper)) (v := .int .i64 (i : Int)) rfl (by kernel_rfl) (by kernel_rfl) (by kernel_rfl) (fun _ _ _ h => by cases h.1) (Or.inl ⟨by rfl, ?_⟩) (by assumption) ?_
                · intro w' hSw
                  (try dsimp only at hSw)
                  first | (go_simp; done) | (go_simp; with_reducible rfl)
                try simp only [Act.put, List.setIfInBounds_toArray, List.set_cons_zero, List.set_cons_succ]
                refine wpAnyH_take (i := 17) (oi := ({ dst := some 143, op := Op.indexAddr 36 (Operand.tmp 141) (Operand.tmp 142), type := 0, pos := _, after := _, guard := none } : Oper)) (v := .pointer (some ⟨gB, i, none⟩)) rfl (by kernel_rfl) (by kernel_rfl) (by kernel_rfl) (fun _ _ _ h => by cases h.1) (Or.inl ⟨by rfl, ?_⟩) (by assumption) ?_
                · intro w' hSw
                  (try dsimp only at hSw)
                  first | (go_simp; done) | (go_simp; with_reducible rfl)
                try simp only [Act.put, List.setIfInBounds_toArray, List.set_cons_zero, List.set_cons_succ]
                refine wpAnyH_take (i := 18) (oi := ({ dst := some 144, op := Op.load 3 (Operand.tmp 143), type := 3, pos := _, after := _, guard := none } : Oper)) (v := .int .i64 m) rfl (by kernel_rfl) (by kernel_rfl) (by kernel_rfl) (fun _ _ _ h => by cases h.1) (Or.inl ⟨by rfl, ?_⟩) (by assumption) ?_
                · intro w' hSw
                  (try dsimp only at hSw)
                  first | (go_simp; done) | (go_simp; with_reducible rfl)
                try simp only [Act.put, List.setIfInBounds_toArray, List.set_cons_zero, List.set_cons_succ]
                refine wpAnyH_ready (rs := [4, 19]) (by kernel_rfl) (by simp) ?_
                refine AllReadyH.cons (o := ({ dst := some 130, op := Op.load 36 (Operand.tmp 129), type := 36, pos := _, after := _, guard := none } : Oper)) rfl (fun K hK => ?_) ?_
                · go_simp
                  refine hK.out _ _ hHeld (fun hHeld => ?_)
                  clear hK K
                  try simp only [Act.put, List.setIfInBounds_toArray, List.set_cons_zero, List.set_cons_succ]
                  refine wpAnyH_ready (rs := [19]) (by kernel_rfl) (by simp) ?_
                  refine AllReadyH.cons (o := ({ dst := some 145, op := Op.buildSlice 36 2 #[(0, Operand.tmp 137), (1, Operand.tmp 144)], type := 36, pos := _, after := _, guard := none } : Oper)) rfl (fun K hK => ?_) AllReadyH.nil
                  go_simp
                  refine hK.out _ _ SA.out (fun hHeld => ?_)
                  clear hK K
                  try simp only [Act.put, List.setIfInBounds_toArray, List.set_cons_zero, List.set_cons_succ]
                  refine wpAnyH_ready (rs := [20]) (by kernel_rfl) (by simp) ?_
                  refine AllReadyH.cons (o := ({ dst := some 146, op := Op.call { callee := Callee.builtin Builtin.append, args := #[Operand.tmp 130, Operand.tmp 145], argTypes := #[36, 36] }, type := 36, pos := _, after := _, guard := none } : Oper)) rfl (fun K hK => ?_) AllReadyH.nil
                  refine step_append_lies _ (by rfl) _ _ _ (by rfl) B 3 i3 (.int .i64 0) 1 8 Try.underlying36 hi3 hz3 hs3 hb3 rfl (by decide) _ (nK + 2 * i) (msi.map (Value.int .i64)) (by rfl) (by exact HJ6.out.oM) ⟨wc.heap.size, 0, none⟩ 2 2 [.int .i64 m, .int .i64 m] (by rfl) (by rfl) (by exact newsV2 wc _ _ _) (by intro u hu; simp at hu; subst hu; rfl) (by decide) (by unfold maxLen; omega) (by omega) (by have := HJ5.out.qB; simp; omega) (wc.heap.size + 1) (by simp) ?_; intro g4 cap4 w5 ho4 hg4 hlie4 _; have bb := setq (w5 := w5) HJ5.out.blk HJ5.out.kq (t := 5) (by decide) (((Below.refl _ _).alloc (Nat.le_refl _) (.cells #[.int .i64 m, .int .i64 m] 3)).drew) hg4 HJ5.out.kM; have c8'' := bb.cell 8; have f8'' := bb.frozen 8; simp only [List.getElem?_toArray, List.getElem?_cons_succ, List.getElem?_cons_zero] at c8''; have S5 : Hid (w5.cell? ⟨q, 5, none⟩ = some (.slice (some ⟨gB, 0, none⟩) n cB) ∧ w5.cell? ⟨gB, i, none⟩ = some (.int .i64 m)) := ⟨(by have c5'' := bb.cell 5; simp only [List.getElem?_toArray, List.getElem?_cons_succ, List.getElem?_cons_zero] at c5''; exact c5''), (World.cell?_of_block (w := (wc.alloc (.cells #[.int .i64 m, .int .i64 m] 3)).drew) (a := ⟨gB, i, none⟩) (hg4.block gB (Nat.lt_of_lt_of_le hlB (by simp)) (fun e => by have := HJ5.out.kM gB e.symm; omega))).trans SA.out.2⟩; have S6 : Hid ((w5.setCell ⟨q, 8, none⟩ (.slice (some ⟨g4, 0, none⟩) (nK + 2 * i + 2) cap4)).cell? ⟨q, 5, none⟩ = some (.slice (some ⟨gB, 0, none⟩) n cB) ∧ (w5.setCell ⟨q, 8, none⟩ (.slice (some ⟨g4, 0, none⟩) (nK + 2 * i + 2) cap4)).cell? ⟨gB, i, none⟩ = some (.int .i64 m)) := ⟨(bb.far 8 5 _ (by decide)).trans S5.out.1, (World.cell?_of_block (w := w5) (a := ⟨gB, i, none⟩) (Below.heap_setCell _ _ _ _ hnB)).trans S5.out.2⟩; have HO4 := hid ho4; have HG4 : Hid ((wc.alloc (.cells #[.int .i64 m, .int .i64 m] 3)).drew.grownBy w5 (Value.slice aM (nK + 2 * i) cM).ownBlock) := hg4; have L4 : Hid ((Value.slice aM (nK + 2 * i) cM).ownBlock = some g4 ∨ g4 = wc.heap.size + 1) := hlie4; clear ho4 hg4 hlie4 bb
                  refine hK.out _ _ S5.out (fun hHeld => ?_)
                  clear hK K
                  try simp only [Act.put, List.setIfInBounds_toArray, List.set_cons_zero, List.set_cons_succ]
                  refine wpAnyH_take (i := 21) (oi := ({ dst := some 147, op := Op.nilCheck (Operand.tmp 126), type := 0, pos := _, after := _, guard := none } : Oper)) (v := .pointer (some ⟨q, 0, none⟩)) rfl (by kernel_rfl) (by kernel_rfl) (by kernel_rfl) (fun _ _ _ h => by cases h.1) (Or.inl ⟨by rfl, ?_⟩) (by assumption) ?_
                  · intro w' hSw
                    (try dsimp only at hSw)
                    first | (go_simp; done) | (go_simp; with_reducible rfl)
                  try simp only [Act.put, List.setIfInBounds_toArray, List.set_cons_zero, List.set_cons_succ]
                  refine wpAnyH_take (i := 22) (oi := ({ dst := some 148, op := Op.fieldAddr 67 (Operand.tmp 147) 8, type := 0, pos := _, after := _, guard := none } : Oper)) (v := .pointer (some ⟨q, 8, none⟩)) rfl (by kernel_rfl) (by kernel_rfl) (by kernel_rfl) (fun _ _ _ h => by cases h.1) (Or.inl ⟨by rfl, ?_⟩) (by assumption) ?_
                  · intro w' hSw
                    (try dsimp only at hSw)
                    first | (go_simp; done) | (go_simp; with_reducible rfl)
                  try simp only [Act.put, List.setIfInBounds_toArray, List.set_cons_zero, List.set_cons_succ]
                  refine wpAnyH_ready (rs := [23]) (by kernel_rfl) (by simp) ?_
                  refine AllReadyH.cons (o := ({ dst := none, op := Op.store 36 (Operand.tmp 148) (Operand.tmp 146), type := 0, pos := _, after := _, guard := none } : Oper)) rfl (fun K hK => ?_) AllReadyH.nil
                  go_simp
                  refine hK.out _ _ S6.out (fun hHeld => ?_)
                  clear hK K
                  try simp only [Act.put, List.setIfInBounds_toArray, List.set_cons_zero, List.set_cons_succ]
                  refine wpAnyH_done (by kernel_rfl) ?_ _
                  refine ⟨rfl, hN.out _ _ ⟨g4, cap4, w5, rfl, ?_, HO4.out, HG4.out, L4.out⟩⟩
                  try simp only [Act.put, List.setIfInBounds_toArray, List.set_cons_zero, List.set_cons_succ]
                · refine AllReadyH.cons (o := ({ dst := some 145, op := Op.buildSlice 36 2 #[(0, Operand.tmp 137), (1, Operand.tmp 144)], type := 36, pos := _, after := _, guard := none } : Oper)) rfl (fun K hK => ?_) AllReadyH.nil
                  go_simp
                  refine hK.out _ _ SA.out (fun hHeld => ?_)
                  clear hK K
                  try simp only [Act.put, List.setIfInBounds_toArray, List.set_cons_zero, List.set_cons_succ]
                  refine wpAnyH_ready (rs := [4]) (by kernel_rfl) (by simp) ?_
                  refine AllReadyH.cons (o := ({ dst := some 130, op := Op.load 36 (Operand.tmp 129), type := 36, pos := _, after := _, guard := none } : Oper)) rfl (fun K hK => ?_) AllReadyH.nil
                  go_simp
                  refine hK.out _ _ hHeld (fun hHeld => ?_)
                  clear hK K
                  try simp only [Act.put, List.setIfInBounds_toArray, List.set_cons_zero, List.set_cons_succ]
                  refine wpAnyH_ready (rs := [20]) (by kernel_rfl) (by simp) ?_
                  refine AllReadyH.cons (o := ({ dst := some 146, op := Op.call { callee := Callee.builtin Builtin.append, args := #[Operand.tmp 130, Operand.tmp 145], argTypes := #[36, 36] }, type := 36, pos := _, after := _, guard := none } : Oper)) rfl (fun K hK => ?_) AllReadyH.nil
                  refine step_append_lies _ (by rfl) _ _ _ (by rfl) B 3 i3 (.int .i64 0) 1 8 Try.underlying36 hi3 hz3 hs3 hb3 rfl (by decide) _ (nK + 2 * i) (msi.map (Value.int .i64)) (by rfl) (by exact HJ6.out.oM) ⟨wc.heap.size, 0, none⟩ 2 2 [.int .i64 m, .int .i64 m] (by rfl) (by rfl) (by exact newsV2 wc _ _ _) (by intro u hu; simp at hu; subst hu; rfl) (by decide) (by unfold maxLen; omega) (by omega) (by have := HJ5.out.qB; simp; omega) (wc.heap.size + 1) (by simp) ?_; intro g4 cap4 w5 ho4 hg4 hlie4 _; have bb := setq (w5 := w5) HJ5.out.blk HJ5.out.kq (t := 5) (by decide) (((Below.refl _ _).alloc (Nat.le_refl _) (.cells #[.int .i64 m, .int .i64 m] 3)).drew) hg4 HJ5.out.kM; have c8'' := bb.cell 8; have f8'' := bb.frozen 8; simp only [List.getElem?_toArray, List.getElem?_cons_succ, List.getElem?_cons_zero] at c8''; have S5 : Hid (w5.cell? ⟨q, 5, none⟩ = some (.slice (some ⟨gB, 0, none⟩) n cB) ∧ w5.cell? ⟨gB, i, none⟩ = some (.int .i64 m)) := ⟨(by have c5'' := bb.cell 5; simp only [List.getElem?_toArray, List.getElem?_cons_succ, List.getElem?_cons_zero] at c5''; exact c5''), (World.cell?_of_block (w := (wc.alloc (.cells #[.int .i64 m, .int .i64 m] 3)).drew) (a := ⟨gB, i, none⟩) (hg4.block gB (Nat.lt_of_lt_of_le hlB (by simp)) (fun e => by have := HJ5.out.kM gB e.symm; omega))).trans SA.out.2⟩; have S6 : Hid ((w5.setCell ⟨q, 8, none⟩ (.slice (some ⟨g4, 0, none⟩) (nK + 2 * i + 2) cap4)).cell? ⟨q, 5, none⟩ = some (.slice (some ⟨gB, 0, none⟩) n cB) ∧ (w5.setCell ⟨q, 8, none⟩ (.slice (some ⟨g4, 0, none⟩) (nK + 2 * i + 2) cap4)).cell? ⟨gB, i, none⟩ = some (.int .i64 m)) := ⟨(bb.far 8 5 _ (by decide)).trans S5.out.1, (World.cell?_of_block (w := w5) (a := ⟨gB, i, none⟩) (Below.heap_setCell _ _ _ _ hnB)).trans S5.out.2⟩; have HO4 := hid ho4; have HG4 : Hid ((wc.alloc (.cells #[.int .i64 m, .int .i64 m] 3)).drew.grownBy w5 (Value.slice aM (nK + 2 * i) cM).ownBlock) := hg4; have L4 : Hid ((Value.slice aM (nK + 2 * i) cM).ownBlock = some g4 ∨ g4 = wc.heap.size + 1) := hlie4; clear ho4 hg4 hlie4 bb
                  refine hK.out _ _ S5.out (fun hHeld => ?_)
                  clear hK K
                  try simp only [Act.put, List.setIfInBounds_toArray, List.set_cons_zero, List.set_cons_succ]
                  refine wpAnyH_take (i := 21) (oi := ({ dst := some 147, op := Op.nilCheck (Operand.tmp 126), type := 0, pos := _, after := _, guard := none } : Oper)) (v := .pointer (some ⟨q, 0, none⟩)) rfl (by kernel_rfl) (by kernel_rfl) (by kernel_rfl) (fun _ _ _ h => by cases h.1) (Or.inl ⟨by rfl, ?_⟩) (by assumption) ?_
                  · intro w' hSw
                    (try dsimp only at hSw)
                    first | (go_simp; done) | (go_simp; with_reducible rfl)
                  try simp only [Act.put, List.setIfInBounds_toArray, List.set_cons_zero, List.set_cons_succ]
                  refine wpAnyH_take (i := 22) (oi := ({ dst := some 148, op := Op.fieldAddr 67 (Operand.tmp 147) 8, type := 0, pos := _, after := _, guard := none } : Oper)) (v := .pointer (some ⟨q, 8, none⟩)) rfl (by kernel_rfl) (by kernel_rfl) (by kernel_rfl) (fun _ _ _ h => by cases h.1) (Or.inl ⟨by rfl, ?_⟩) (by assumption) ?_
                  · intro w' hSw
                    (try dsimp only at hSw)
                    first | (go_simp; done) | (go_simp; with_reducible rfl)
                  try simp only [Act.put, List.setIfInBounds_toArray, List.set_cons_zero, List.set_cons_succ]
                  refine wpAnyH_ready (rs := [23]) (by kernel_rfl) (by simp) ?_
                  refine AllReadyH.cons (o := ({ dst := none, op := Op.store 36 (Operand.tmp 148) (Operand.tmp 146), type := 0, pos := _, after := _, guard := none } : Oper)) rfl (fun K hK => ?_) AllReadyH.nil
                  go_simp
                  refine hK.out _ _ S6.out (fun hHeld => ?_)
                  clear hK K
                  try simp only [Act.put, List.setIfInBounds_toArray, List.set_cons_zero, List.set_cons_succ]
                  refine wpAnyH_done (by kernel_rfl) ?_ _
                  refine ⟨rfl, hN.out _ _ ⟨g4, cap4, w5, rfl, ?_, HO4.out, HG4.out, L4.out⟩⟩
                  try simp only [Act.put, List.setIfInBounds_toArray, List.set_cons_zero, List.set_cons_succ]
        · have hin' : ¬ ((i : Int) < (n : Int)) := by omega
          obtain rfl : n = i := by omega
          have f3 := hI.blk.frozen 3
          have HI := hid hI.clear
          have HU := hid (((hu.setCell (p := ⟨q, 3, none⟩) (show κ q ≤ 90 by omega) (.slice none 0 0)).setCell (p := ⟨q, 4, none⟩) (show κ q ≤ 90 by omega) (.slice none 0 0)).setCell (p := ⟨q, 5, none⟩) (show κ q ≤ 90 by omega) (.slice none 0 0))
          have b1 : Inb (wr.setCell ⟨q, 3, none⟩ (.slice none 0 0)) q cnt tot (.slice none 0 0) wa (.slice aB n cB) lk kei mai := by unfold Inb; simpa using hI.blk.set 3 (.slice none 0 0)
          have b2 : Inb ((wr.setCell ⟨q, 3, none⟩ (.slice none 0 0)).setCell ⟨q, 4, none⟩ (.slice none 0 0)) q cnt tot (.slice none 0 0) (.slice none 0 0) (.slice aB n cB) lk kei mai := by unfold Inb; simpa using b1.set 4 (.slice none 0 0)
          have q4 := b1.cell 4
          have q5 := b2.cell 5
          have f4 := b1.frozen 4
          have f5 := b2.frozen 5
          simp only [List.getElem?_toArray, List.getElem?_cons_succ, List.getElem?_cons_zero] at q4 q5
          have HR := hid (And.intro hKi (And.intro hs1 (And.intro hs2 hκ1)))
          clear hI hu hKi hs1 hs2 hκ1 hκ2 b1 b2 q1 q7
          go_wp2
          go_end0
          exact ⟨rfl, κi, kei, mai, kvi, msi, Ki, HI.out.congrZ (fun j h1 h2 => by omega), HR.out.1, HR.out.2.1, HR.out.2.2.1, HR.out.2.2.2, HU.out⟩

end Go.Proofs.Yteaebdonnicbkaa
