/-
  The Ledger: write.
-/
import Derived.Test.YtfadnmdmohabmaaBks
import Derived.Test.YtfadnmdmohabmaaLh1
import Derived.Deep.RegionHeld3
import Derived.Deep.DeepCutAuto
namespace Go.Proofs.Ytfadnmdmohabmaa
open Go.RowKit

variable {ω : Oth}


/-- the lists below i are written over -/
def Zo (Z : Nat → List Int) (bs : List Int) (i j : Nat) : List Int := if j < i then mkI (bs.getD j 0) (Z j).length else Z j
theorem length_Zo (Z : Nat → List Int) (bs : List Int) (i j : Nat) : (Zo Z bs i j).length = (Z j).length := by
  unfold Zo
  split
  · exact length_mkI _ _
  · rfl
theorem Zo_at (Z : Nat → List Int) (bs : List Int) (i : Nat) : Zo Z bs i i = Z i := by unfold Zo; rw [if_neg (by omega)]
theorem below_grownL {w w' : World} (h : w.grownBy w' none) : Below w.heap.size w w' := ⟨h.os, h.tape, h.output, h.size, fun k hk => h.block k hk (by simp)⟩
theorem newsV2h (w : World) (u v : Value) (t : TypeId) {S : Nat} (hS : w.heap.size = S) : ∀ j y, [u, v][j]? = some y → (w.alloc (.cells #[u, v] t)).cell? ((⟨S, 0, none⟩ : Addr).add j) = some y := by
  subst hS
  exact newsV2 w u v t
theorem mkI_drop (m : Int) {a b : Nat} (h : a ≤ b) : mkI m a ++ (mkI m b).drop a = mkI m b := by
  have : mkI m a = (mkI m b).take a := by
    unfold mkI
    rw [← List.map_take, List.take_range, Nat.min_eq_left h]
  rw [this, List.take_append_drop]
theorem updZ_twice (Z : Nat → List Int) (i : Nat) (ys zs : List Int) (j : Nat) : updZ (updZ Z i ys) i zs j = updZ Z i zs j := by
  unfold updZ
  split <;> rfl
theorem In.drew {B : Nat} {κ : Nat → Nat} {w : World} {q : Nat} {cnt tot : Int} {lo n nK nM : Nat} {fr wa ba ke ma : Value} {fv hv kv : List Value} {bs : List Int} {wv : List Value} {Z K : Nat → List Int}
    (h : In ω B κ w q cnt tot lo n nK nM fr wa ba ke ma fv hv kv bs wv Z K) (hn : n ≤ 90) : In ω B κ w.drew q cnt tot lo n nK nM fr wa ba ke ma fv hv kv bs wv Z K :=
  h.kept (t := 200) ⟨Nat.le_refl _, fun _ _ _ => rfl⟩ (Nat.le_refl _) hn

theorem Inb.far {w : World} {q : Nat} {cnt tot : Int} {fr wa ba : Value} {ke ma : Value} (h : Inb ω w q cnt tot fr wa ba ke ma) (j t : Nat) (v : Value) (hj : j ≠ t) : (w.setCell ⟨q, j, none⟩ v).cell? ⟨q, t, none⟩ = w.cell? ⟨q, t, none⟩ := by
  have h1 := h.set j v
  have e1 : (w.setCell ⟨q, j, none⟩ v).cell? ⟨q, t, none⟩ = (#[ω.d, ω.c0, ω.c1, ω.r, ω.x0, ω.x1, ω.y0, ω.y1, ω.y2, ω.y3, ω.y4, ω.y5, ω.y6, ω.y7, .int .i64 cnt, .int .i64 tot, .bool false, fr, wa, ba, ke, ma, ω.u0, ω.u1, ω.n].setIfInBounds j v)[t]? := by simp [World.cell?, h1]
  rw [e1, h.cell t, Array.getElem?_setIfInBounds_ne hj]

set_option maxRecDepth 100000 in
set_option maxHeartbeats 4000000 in
theorem lwrite_any (B : Nat) (κ : Nat → Nat) (w : World) (q : Nat) (cnt : Int) (tot : Nat) (n nK : Nat) (fr wa ba ke ma : Value) (fv hv kv : List Value) (bs : List Int) (wv : List Value) (Z K : Nat → List Int) (hn : n ≤ 3) (hnK : nK ≤ 67108864) (ht1 : tot ≤ 4294967296)
    (hl : ∀ i, i < n → (Z i).length ≤ 16777216) (hbs : ∀ i, i < n → 0 ≤ bs.getD i 0 ∧ bs.getD i 0 ≤ 562949953421312000) (h : In ω B κ w q cnt tot 0 n nK nK fr wa ba ke ma fv hv kv bs wv Z K) (hh : Hs3 κ w n hv Z) (hK : ∀ j, j < nK → (K j).length ≤ 8589934592) :
    Calls Try.prog 77 #[.pointer (some ⟨q, 14, none⟩)] w fun e w' => e = .returned (.tuple #[]) ∧ ∃ κ' ke' ma' kv' wv' K', In ω B κ' w' q cnt tot 0 0 (nK + 2 * n) (nK + 2 * n) (.slice none 0 0) (.slice none 0 0) (.slice none 0 0) ke' ma' [] [] kv' [] wv' Z K' ∧
      (∀ j, j < nK + 2 * n → (K' j).length ≤ 8589934592) ∧ (∀ x, x < w.heap.size → κ x = 200 → κ' x = 200) ∧ But (fun x => κ x ≤ 90) w w' := by
  have HU := hid (luntouched_any B κ w q cnt tot n nK nK fr wa ba ke ma fv hv kv bs wv Z K hn (fun i hi => by have := hl i hi; omega) h hh)
  obtain ⟨aF, cF, rfl, _⟩ := owns_slice h.oF
  obtain ⟨aB, cB, rfl, _⟩ := owns_slice h.oB
  have hq0 := h.kq
  clear h hh
  go_enter Try.func77, Try.ntmps77
  go_wp2_with fail
  refine Calls.mono HU.out ?_
  rintro e w0 ⟨rfl, h0, _, u0⟩
  have H0 := hid h0
  have U0 : Hid (But (fun x => κ x ≤ 90) w w0) := u0.mono (fun x _ e => by rw [e, hq0]; omega)
  have q3 := h0.blk.cell 17
  simp only [List.getElem?_toArray, List.getElem?_cons_succ, List.getElem?_cons_zero] at q3
  clear h0 u0 HU
  go_wp2_with fail
  clear q3
  go_loopw [2] (fun s2 wt => ∃ i : Nat, i ≤ n ∧ s2 = .int .i64 (i : Int) ∧ In ω B κ wt q cnt tot 0 n nK nK (.slice aF n cF) wa (.slice aB n cB) ke ma fv hv kv bs wv (Zo Z bs i) K ∧ But (fun x => κ x ≤ 90) w wt) (fun s2 _ => n - (intOf s2).toNat)
  case atStart => exact ⟨0, Nat.zero_le _, rfl, H0.out.congrZ (fun j _ _ => by unfold Zo; rw [if_neg (by omega)]), U0.out⟩
  case round =>
    clear H0 U0
    obtain ⟨i, hi, rfl, hI, hu⟩ := hrel
    have q3 := hI.blk.cell 17
    simp only [List.getElem?_toArray, List.getElem?_cons_succ, List.getElem?_cons_zero] at q3
    by_cases hin : i < n
    · have hin' : (i : Int) < (n : Int) := by omega
      obtain ⟨gF, cF', eF, _, lF, rF⟩ := row_cell hI.oF hin
      cases eF
      obtain ⟨gB, cB', eB, _, lB, rB⟩ := row_cell hI.oB hin
      cases eB
      obtain ⟨af, ef, cf⟩ := hI.fcell (Nat.zero_le _) hin
      rw [ef, length_Zo] at rF
      have HI := hid hI
      have HU := hid hu
      have hlen := hl i hin
      have hb0 := hbs i hin
      clear hI hu ef cf rB
      generalize hWO : wr = WO at *
      clear hWO
      go_wp2_with fail
      clear q3 rF
      go_loopw [3] (fun s3 wt => ∃ (k : Nat) (ys : List Int), k ≤ (Z i).length ∧ s3 = .int .i64 (k : Int) ∧ ys.length = (Z i).length ∧ ys.take k = (mkI (bs.getD i 0) (Z i).length).take k ∧ In ω B κ wt q cnt tot 0 n nK nK (.slice (some ⟨gF, 0, none⟩) n cF) wa (.slice (some ⟨gB, 0, none⟩) n cB) ke ma fv hv kv bs wv (updZ (Zo Z bs i) i ys) K ∧ But (fun x => κ x ≤ 90) w wt) (fun s3 _ => (Z i).length - (intOf s3).toNat)
      case atStart => exact ⟨0, Z i, Nat.zero_le _, rfl, rfl, rfl, HI.out.congrZ (fun j _ _ => by
        by_cases e : j = i
        · subst e; rw [updZ_at, Zo_at]
        · rw [updZ_ne _ _ e]), HU.out⟩
      case round =>
        clear HI HU
        obtain ⟨k, ys, hk, rfl, hyl, hyt, hI, hu⟩ := hrel
        have q3 := hI.blk.cell 17
        have q5 := hI.blk.cell 19
        simp only [List.getElem?_toArray, List.getElem?_cons_succ, List.getElem?_cons_zero] at q3 q5
        obtain ⟨gF', cF2, eF, _, _, rF⟩ := row_cell hI.oF hin
        cases eF
        obtain ⟨gB', cB2, eB, _, _, rB⟩ := row_cell hI.oB hin
        cases eB
        have rB' : wr.cell? ⟨gB, i, none⟩ = some (.int .i64 (bs.getD i 0)) := by
          rw [rB]
          have := hI.oB.len
          simp [show i < bs.length by omega]
        obtain ⟨af, ef, cf⟩ := hI.fcell (Nat.zero_le _) hin
        rw [updZ_at, hyl] at ef cf
        rw [ef] at rF
        by_cases hkz : k < (Z i).length
        · have hkz' : (k : Int) < ((Z i).length : Int) := by omega
          obtain ⟨g, rfl, hg1, hg2, hg3⟩ := cf.resolve_left (by omega)
          have c1 := hg3.cell k (by omega)
          have f1 := hg3.frozen k
          have n1 : q ≠ g := fun e => by have := hI.kq; rw [e] at this; omega
          have n2 : gF ≠ g := fun e => by have := hI.kF gF rfl; rw [e] at this; omega
          have n3 : gB ≠ g := fun e => by have := hI.kB gB rfl; rw [e] at this; omega
          have HW := hid (hI.wrote (by omega) (k := k) (Nat.zero_le _) hin (by rw [updZ_at, hyl]; exact ef) (by rw [updZ_at]; exact hg3) hg2 (bs.getD i 0 + (k : Int)))
          have HU := hid (hu.setCell (p := ⟨g, k, none⟩) (show κ g ≤ 90 by omega) (.int .i64 (bs.getD i 0 + (k : Int))))
          have HT := hid (mkI_take (m := bs.getD i 0) (x := bs.getD i 0 + (k : Int)) hyl hkz hyt rfl)
          clear hI hu hg3 rB ef hyt
          generalize hm : bs.getD i 0 = m at *
          have Hm := hid hm
          clear hm
          generalize hzl : (Z i).length = zl at *
          have Hzl := hid hzl
          clear hzl
          generalize ys.getD k 0 = old at *
          have e1 : IntKind.i64.wrap (m + (k : Int)) = m + (k : Int) := by rw [IntKind.wrap_i64]; omega
          have nb : ∀ (x j : Nat), x ≠ g → (wr.setCell ⟨g, k, none⟩ (.int .i64 (m + (k : Int)))).cell? ⟨x, j, none⟩ = wr.cell? ⟨x, j, none⟩ := fun x j hx => World.cell?_of_block (Below.heap_setCell _ _ _ _ hx)
          have SK := hid (And.intro ((nb q 17 n1).trans q3) (And.intro ((nb q 19 n1).trans q5) (And.intro ((nb gF i n2).trans rF) ((nb gB i n3).trans rB'))))
          clear nb
          go_wp2_with fail
          go_region_held3 (fun w' => w'.cell? ⟨q, 17, none⟩ = some (.slice (some ⟨gF, 0, none⟩) n cF) ∧ w'.cell? ⟨q, 19, none⟩ = some (.slice (some ⟨gB, 0, none⟩) n cB) ∧ w'.cell? ⟨gF, i, none⟩ = some (.slice (some ⟨g, 0, none⟩) zl zl) ∧ w'.cell? ⟨gB, i, none⟩ = some (.int .i64 m)) (first | (exact ⟨by assumption, by assumption, by assumption, by assumption⟩) | (exact SK.out) | go_keep) (fail)
          go_wp2
          go_roundw
          case rel => exact ⟨k + 1, ys.set k (m + (k : Int)), by omega, by go_num, by simp [hyl], HT.out, (HW.out.drew (by omega)).congrZ (fun j _ _ => by rw [updZ_twice, updZ_at]), HU.out.drew⟩
          case measure => simp [intOf]; omega
        · have hkz' : ¬ ((k : Int) < ((Z i).length : Int)) := by omega
          have hke : k = (Z i).length := by omega
          have HI : Hid (In ω B κ wr q cnt tot 0 n nK nK (.slice (some ⟨gF, 0, none⟩) n cF) wa (.slice (some ⟨gB, 0, none⟩) n cB) ke ma fv hv kv bs wv (Zo Z bs (i + 1)) K) := by
            refine hI.congrZ (fun j _ _ => ?_)
            by_cases e : j = i
            · subst e
              rw [updZ_at]
              unfold Zo
              rw [if_pos (by omega)]
              rw [List.take_of_length_le (by omega), List.take_of_length_le (by rw [length_mkI]; omega)] at hyt
              exact hyt
            · rw [updZ_ne _ _ e]
              unfold Zo
              by_cases hj : j < i
              · rw [if_pos hj, if_pos (by omega)]
              · rw [if_neg hj, if_neg (by omega)]
          have HU := hid hu
          clear hI hu ef cf hyt rB rB' q5
          go_wp2_with fail
          go_roundw
          case rel => exact ⟨i + 1, by omega, by go_num, HI.out, HU.out⟩
          case measure => simp [intOf]; omega
    · have hin' : ¬ ((i : Int) < (n : Int)) := by omega
      obtain rfl : n = i := by omega
      have HI := hid (hI.congrZ (Z' := fun j => mkI (bs.getD j 0) (Z j).length) (fun j _ hj => by unfold Zo; rw [if_pos hj]))
      have HU := hid hu
      clear hI hu
      go_wp2_with fail
      clear q3
      go_loopw [4] (fun s4 wt => ∃ (i : Nat) (κi : Nat → Nat) (kei mai : Value) (kvi wvi : List Value) (Ki : Nat → List Int), i ≤ n ∧ s4 = .int .i64 (i : Int) ∧ In ω B κi wt q cnt tot i n (nK + 2 * i) (nK + 2 * i) (.slice aF n cF) wa (.slice aB n cB) kei mai fv hv kvi bs wvi (fun j => mkI (bs.getD j 0) (Z j).length) Ki ∧ (∀ j, j < nK + 2 * i → (Ki j).length ≤ 8589934592) ∧ (∀ x, x < w.heap.size → κ x = 200 → κi x = 200) ∧ (∀ x, x < w.heap.size → κi x ≤ 90 → κ x ≤ 90) ∧ But (fun x => κ x ≤ 90) w wt) (fun s4 _ => n - (intOf s4).toNat)
      case atStart => exact ⟨0, κ, ke, ma, kv, wv, K, Nat.zero_le _, rfl, HI.out, hK, fun _ _ h => h, fun _ _ h => h, HU.out⟩
      case round =>
        clear HI HU
        obtain ⟨i, κi, kei, mai, kvi, wvi, Ki, hi, rfl, hI, hKi, hκ1, hκ2, hu⟩ := hrel
        have q1 := hI.blk.cell 15
        have q3 := hI.blk.cell 17
        have q5 := hI.blk.cell 19
        simp only [List.getElem?_toArray, List.getElem?_cons_succ, List.getElem?_cons_zero] at q1 q3 q5
        by_cases hin : i < n
        · have hin' : (i : Int) < (n : Int) := by omega
          obtain ⟨gF, cF', eF, _, lF, rF⟩ := row_cell hI.oF hin
          cases eF
          obtain ⟨gB, cB', eB, _, lB, rB⟩ := row_cell hI.oB hin
          cases eB
          obtain ⟨aK, cK, rfl, _⟩ := owns_slice hI.oK
          obtain ⟨aM, cM, rfl, _⟩ := owns_slice hI.oM
          obtain ⟨af, ef, cf⟩ := hI.fcell (Nat.le_refl _) hin
          simp only [length_mkI] at ef cf
          rw [ef] at rF
          have rB' : wr.cell? ⟨gB, i, none⟩ = some (.int .i64 (bs.getD i 0)) := by
            rw [rB]
            have := hI.oB.len
            simp [show i < bs.length by omega]
          have hlen := hl i hin
          have hb0 := hbs i hin
          have hz0 : af = none → (Z i).length = 0 := fun e => cf.resolve_right (fun ⟨g, e2, _⟩ => by rw [e] at e2; cases e2)
          have HI := hid hI
          have HU := hid hu
          have HS := hid (And.intro hKi (And.intro hκ1 hκ2))
          have CF := hid cf
          have hqlt := hI.blk.lt
          clear hI hu hKi hκ1 hκ2 rB cf ef hl hbs
          generalize hm : bs.getD i 0 = m at *
          have Hm := hid hm
          clear hm
          generalize hzl : (Z i).length = zl at *
          have Hzl := hid hzl
          clear hzl
          obtain ⟨NN, hNN⟩ : ∃ NN : Nat, NN = zl + tot + 70 := ⟨_, rfl⟩
          have ewN : IntKind.i64.wrap ((zl : Int) + (tot : Int)) = (zl : Int) + (tot : Int) := by rw [IntKind.wrap_i64]; omega
          have ewM : IntKind.i64.wrap ((zl : Int) + (tot : Int) + 70) = (NN : Int) := by rw [IntKind.wrap_i64]; omega
          have HMk := marks_any NN m wr.drew (by omega) hb0.1 (by omega)
          rw [show ((NN : Nat) : Int) = IntKind.i64.wrap (IntKind.i64.wrap ((zl : Int) + (tot : Int)) + 70) from by rw [ewN, ewM]] at HMk
          have hN1 : zl < NN := by omega
          have hN2 : NN ≤ 8589934592 := by omega
          clear ewN ewM hNN
          have HMk := hid HMk
          generalize hWO : wr = WO at *
          clear hWO
          go_wp2_with fail
          go_region_held3 (fun w' => w'.cell? ⟨q, 15, none⟩ = some (.int .i64 (tot : Int)) ∧ w'.cell? ⟨q, 19, none⟩ = some (.slice (some ⟨gB, 0, none⟩) n cB) ∧ w'.cell? ⟨gB, i, none⟩ = some (.int .i64 m)) (first | (exact ⟨by assumption, by assumption, by assumption⟩) | go_keep)
            ((go_at_call 89; refine Calls.mono HMk.out ?_; rintro e w1 ⟨rfl, hB1, hs1, hb1⟩
              have Hb1 := hid (below_undrew' hb1)
              have HB1 := hid hB1
              have Hs1 := hid hs1
              have p1 := (Hb1.out.cell (p := ⟨q, 15, none⟩) hqlt).trans q1
              have p5 := (Hb1.out.cell (p := ⟨q, 19, none⟩) hqlt).trans q5
              have pB := (Hb1.out.cell (p := ⟨gB, i, none⟩) lB).trans rB'
              clear hb1 hB1 hs1))
          clear q1 q3 q5 rF rB' p1 p5 pB HMk
          obtain ⟨i3, hi3, hz3, hs3, hb3⟩ := info_parts infoI
          have S4 : Hid (∀ b', af = some b' → ∀ j u, ((mkI m zl).map (Value.int .i64))[j]? = some u → w1.cell? (b'.add j) = some u) := by
            show ∀ b', _ → ∀ j u, _ → _
            intro b' eb j u hj
            have hjl : j < zl := by
              have := (List.getElem?_eq_some_iff.1 hj).1
              simpa [length_mkI] using this
            obtain ⟨g, e2, hg1, hg2, hg3⟩ := CF.out.resolve_left (by omega)
            rw [eb] at e2
            cases e2
            have e : (⟨g, 0, none⟩ : Addr).add j = ⟨g, j, none⟩ := by unfold Addr.add; split <;> simp_all
            rw [e, Hb1.out.cell (p := ⟨g, j, none⟩) (by exact hg1), hg3.cell j (by rw [length_mkI]; exact hjl), ← hj]
            simp [length_mkI, hjl]
          have S5 : Hid (∀ j u, (((mkI m NN).drop zl).map (Value.int .i64))[j]? = some u → w1.cell? ((⟨WO.heap.size, zl, none⟩ : Addr).add j) = some u) := by
            show ∀ j u, _ → _
            intro j u hj
            have hjl : j < NN - zl := by
              have := (List.getElem?_eq_some_iff.1 hj).1
              simpa [length_mkI] using this
            have e : (⟨WO.heap.size, zl, none⟩ : Addr).add j = ⟨WO.heap.size, zl + j, none⟩ := by unfold Addr.add; split <;> simp_all
            have hB1 : Blk .i64 3 w1 WO.heap.size (mkI m NN) := HB1.out
            rw [e, hB1.cell (zl + j) (by rw [length_mkI]; omega), ← hj]
            simp [length_mkI, show zl + j < NN by omega]
          go_wp2_with (at_builtin; refine wpList_append_grows _ rfl _ _ 43 (by rfl) 3 i3 (.int .i64 0) 1 8 Try.underlying43 hi3 hz3 hs3 hb3 rfl (by decide) af zl zl ((mkI m zl).map (Value.int .i64)) (by rfl) (fun h => ⟨hz0 h, hz0 h⟩) (by rw [List.length_map, length_mkI, Nat.mul_one]) (by exact S4.out) ⟨WO.heap.size, zl, none⟩ (NN - zl) (NN - zl) (((mkI m NN).drop zl).map (Value.int .i64)) (by rfl) (by simp [length_mkI]) (by exact S5.out) (by intro u hu; obtain ⟨y, _, rfl⟩ := List.mem_map.1 hu; rfl) (by omega) (by unfold maxLen; omega) (by omega) ?_)
          intro v' w2 ho hgr
          have ho2 : OwI w1.heap.size w2 v' NN (mkI m NN) := by
            have h2 := ho
            rw [show zl + (NN - zl) = NN from by omega, ← List.map_drop, ← List.map_append, mkI_drop m (by omega)] at h2
            exact h2
          obtain ⟨g5, cp5, e5, hg5, _⟩ := owns_form ho2 (by
            intro e
            have := ho2.len
            rcases ho2.2 with ⟨_, q⟩ | ⟨g, cap, cur, q, _⟩
            · omega
            · rw [e] at q; cases q)
          subst e5
          have HO2 := hid ho2
          have Hb2 := hid (Hb1.out.trans ((below_grownL hgr).mono Hb1.out.size))
          have hg5' : WO.heap.size ≤ g5 := Nat.le_trans Hb1.out.size hg5
          have hR := hid ((HI.out.retag (κ' := rtg κi WO.heap.size i) (by omega) (by omega) (fun x hx hne => rtg_ne κi hx hne)).kept (t := 200) (w' := w2) (Kp.below Hb2.out) (Nat.le_refl _) (by omega))
          have S1 := hid (show Sl3 (rtg κi WO.heap.size i) w2 (.slice af zl zl) (mkI m zl) from by
            have := Sl3.of_blk (κ := rtg κi WO.heap.size i) (w := w2) (a := af) (zs := mkI m zl) (by
              rcases CF.out with h0 | ⟨g, h1, h2, h3, h4⟩
              · exact .inl (by rw [length_mkI]; exact h0)
              · exact .inr ⟨g, h1, rtg_at κi _ h3, h4.of_block (Hb2.out.block g h2)⟩)
            rw [length_mkI] at this
            exact this)
          have S2 := hid (Sl3.of_own (κ := rtg κi WO.heap.size i) HO2.out (rtg_new κi i hg5'))
          have hB2 : Blk .i64 3 w2 WO.heap.size (mkI m NN) := (show Blk .i64 3 w1 WO.heap.size (mkI m NN) from HB1.out).of_block ((below_grownL hgr).block WO.heap.size (by have : w1.heap.size = WO.heap.size + 1 := Hs1.out; omega))
          have S3 := hid (show Sl3 (rtg κi WO.heap.size i) w2 (.slice (some ⟨WO.heap.size, 0, none⟩) NN NN) (mkI m NN) from by
            have := Sl3.of_blk (κ := rtg κi WO.heap.size i) (w := w2) (a := some ⟨WO.heap.size, 0, none⟩) (zs := mkI m NN) (.inr ⟨_, rfl, rtg_new κi i (Nat.le_refl _), hB2⟩)
            rw [length_mkI] at this
            exact this)
          have S3' := hid (show Sl3 (rtg κi WO.heap.size i) w2 (.slice (some ⟨WO.heap.size, 0, none⟩) zl NN) (mkI m zl) from ⟨_, NN, by rw [length_mkI], .inr ⟨WO.heap.size, rfl, rtg_new κi i (Nat.le_refl _), hB2.lt, fun t ht => by
            rw [length_mkI] at ht
            rw [hB2.cell t (by rw [length_mkI]; omega), mkI_getD m (show t < NN by omega), mkI_getD m ht]⟩⟩)
          have hUr := hid (HU.out.step (But.of_below (X := fun _ => False) Hb2.out) (fun _ _ q => q.elim))
          clear ho hgr ho2 S4 S5 HO2 HB1 hB2 Hs1
          obtain ⟨i36, hi36, hz36, hs36, hb36⟩ := info_parts info36
          have q7 := hR.out.blk.cell 20
          simp only [List.getElem?_toArray, List.getElem?_cons_succ, List.getElem?_cons_zero] at q7
          have hqr := hR.out.blk.lt
          have HJ := hid (hR.out.kept (t := 200) (Kp.below ((Below.refl _ _).alloc (Nat.le_refl _) (.cells #[.slice af zl zl, .slice (some ⟨g5, 0, none⟩) NN cp5] 43))) (Nat.le_refl _) (by omega))
          have ka7 : (w2.alloc (.cells #[.slice af zl zl, .slice (some ⟨g5, 0, none⟩) NN cp5] 43)).cell? ⟨q, 20, none⟩ = some (.slice aK (nK + 2 * i) cK) := (World.cell?_alloc_past _ _ _ hqr).trans q7
          have hqB := hR.out.qB
          go_wp2_with (at_builtin; refine wpList_append_lies _ rfl _ _ 46 (by rfl) B 43 i36 (.slice none 0 0) 1 24 Try.underlying46 hi36 hz36 hs36 hb36 rfl (by decide) _ (nK + 2 * i) kvi (by rfl) HJ.out.oK ⟨w2.heap.size, 0, none⟩ 2 2 [.slice af zl zl, .slice (some ⟨g5, 0, none⟩) NN cp5] (by rfl) (by rfl) (by exact newsV2 w2 _ _ _) (by intro u hu; simp at hu; rcases hu with rfl | rfl <;> rfl) (by decide) (by unfold maxLen; omega) (by omega) (by simp; omega) (w2.heap.size + 1) (by simp) ?_)
          intro g4 cap4 w5 ho4 hg4 hlie4 _
          have bb := setq (w5 := w5) hR.out.blk hR.out.kq (t := 4) (by decide) ((Below.refl _ _).alloc (Nat.le_refl _) (.cells #[.slice af zl zl, .slice (some ⟨g5, 0, none⟩) NN cp5] 43)) hg4 hR.out.kK
          have c7'' := bb.cell 20
          have f7'' := bb.frozen 20
          simp only [List.getElem?_toArray, List.getElem?_cons_succ, List.getElem?_cons_zero] at c7''
          have hkl : kvi.length = nK + 2 * i := by have := HJ.out.oK.1; simpa using this
          have hwl : wvi.length = nK + 2 * i := by have := HJ.out.oM.1; simpa using this
          have J4 := hid (hR.out.stepK ((Below.refl _ _).alloc (Nat.le_refl _) (.cells #[.slice af zl zl, .slice (some ⟨g5, 0, none⟩) NN cp5] 43)) hg4 (by simpa using hlie4) ho4 S1.out S2.out hkl (Nat.le_refl _))
          have G4 := hid (grew (j := 20) (u := .slice (some ⟨g4, 0, none⟩) (nK + 2 * i + 2) cap4) hR.out.kq ((Below.refl _ _).alloc (Nat.le_refl _) (.cells #[.slice af zl zl, .slice (some ⟨g5, 0, none⟩) NN cp5] 43)) hg4 hR.out.kK (by simpa using hlie4))
          have U4 := hid (((hUr.out.alloc (.cells #[.slice af zl zl, .slice (some ⟨g5, 0, none⟩) NN cp5] 43)).of_grown hg4 (fun x hx hxw => by
            have k4 := hR.out.kK x hx
            have hxW : x < WO.heap.size := Nat.lt_of_lt_of_le hxw HU.out.size
            unfold rtg at k4
            split at k4
            · omega
            · exact HS.out.2.2 x hxw (by omega))).setCell (p := ⟨q, 20, none⟩) (show κ q ≤ 90 by omega) (.slice (some ⟨g4, 0, none⟩) (nK + 2 * i + 2) cap4))
          have T4 := hid (show ∀ x, x < w.heap.size → (κi x = 200 → tag (rtg κi WO.heap.size i) g4 4 x = 200) ∧ (tag (rtg κi WO.heap.size i) g4 4 x ≤ 90 → κi x ≤ 90) from fun x hx => by
            have hxW : x < WO.heap.size := Nat.lt_of_lt_of_le hx HU.out.size
            have hx2 : x < w2.heap.size := Nat.lt_of_lt_of_le hxW Hb2.out.size
            rw [G4.out.same x hx2]
            unfold rtg
            split <;> constructor <;> intro h <;> omega)
          have S6 := hid (G4.out.sl (by decide) S3.out)
          have S6' := hid (G4.out.sl (by decide) S3'.out)
          clear ho4 hg4 hlie4 bb S1 S2 S3 S3' HJ q7 ka7 hR hUr G4
          go_wp2_with fail
          clear c7'' f7''
          generalize hV : w5.setCell ⟨q, 20, none⟩ (.slice (some ⟨g4, 0, none⟩) (nK + 2 * i + 2) cap4) = V at *
          clear hV
          have q8 := J4.out.blk.cell 21
          simp only [List.getElem?_toArray, List.getElem?_cons_succ, List.getElem?_cons_zero] at q8
          have hqv := J4.out.blk.lt
          have HJ8 := hid ((J4.out.kept (t := 200) (Kp.below ((Below.refl _ _).alloc (Nat.le_refl _) (.cells #[.slice (some ⟨WO.heap.size, 0, none⟩) zl NN, .slice (some ⟨WO.heap.size, 0, none⟩) NN NN] 43))) (Nat.le_refl _) (by omega)).drew (by omega))
          have ka8 : (V.alloc (.cells #[.slice (some ⟨WO.heap.size, 0, none⟩) zl NN, .slice (some ⟨WO.heap.size, 0, none⟩) NN NN] 43)).cell? ⟨q, 21, none⟩ = some (.slice aM (nK + 2 * i) cM) := (World.cell?_alloc_past _ _ _ hqv).trans q8
          have hB5 : B ≤ V.heap.size := by omega
          have hslc : zl ≤ NN := by omega
          go_region_law (first
            | (refine step_append_lies _ (by rfl) _ _ _ (by rfl) B 43 i36 (.slice none 0 0) 1 24 Try.underlying46 hi36 hz36 hs36 hb36 rfl (by decide) _ (nK + 2 * i) wvi (by rfl) (by exact HJ8.out.oM) ⟨V.heap.size, 0, none⟩ 2 2 [.slice (some ⟨WO.heap.size, 0, none⟩) zl NN, .slice (some ⟨WO.heap.size, 0, none⟩) NN NN] (by rfl) (by rfl) (by exact newsV2 V _ _ _) (by intro u hu; simp at hu; rcases hu with rfl | rfl <;> rfl) (by decide) (by unfold maxLen; omega) (by omega) (by simp; omega) (V.heap.size + 1) (by simp) ?_; intro g6 cap6 w6 ho6 hg6 hlie6 _; have bb := setq (w5 := w6) J4.out.blk J4.out.kq (t := 5) (by decide) (((Below.refl _ _).alloc (Nat.le_refl _) (.cells #[.slice (some ⟨WO.heap.size, 0, none⟩) zl NN, .slice (some ⟨WO.heap.size, 0, none⟩) NN NN] 43)).drew) hg6 J4.out.kM; have c8 := bb.cell 21; have f8 := bb.frozen 21; simp only [List.getElem?_toArray, List.getElem?_cons_succ, List.getElem?_cons_zero] at c8; have HO6 := hid ho6; have HG6 : Hid ((V.alloc (.cells #[.slice (some ⟨WO.heap.size, 0, none⟩) zl NN, .slice (some ⟨WO.heap.size, 0, none⟩) NN NN] 43)).drew.grownBy w6 (Value.slice aM (nK + 2 * i) cM).ownBlock) := hg6; have L6 : Hid ((Value.slice aM (nK + 2 * i) cM).ownBlock = some g6 ∨ g6 = V.heap.size + 1) := hlie6; clear ho6 hg6 hlie6 bb))
          all_goals
            have e0 : updZ (updZ Ki (nK + 2 * i) (mkI m zl)) (nK + 2 * i + 1) (mkI m NN) (nK + 2 * i) = mkI m zl := by rw [updZ_ne _ _ (by omega), updZ_at]
            have e1 : updZ (updZ Ki (nK + 2 * i) (mkI m zl)) (nK + 2 * i + 1) (mkI m NN) (nK + 2 * i + 1) = mkI m NN := updZ_at _ _ _
            have J8 := hid (J4.out.stepM (((Below.refl _ _).alloc (Nat.le_refl _) (.cells #[.slice (some ⟨WO.heap.size, 0, none⟩) zl NN, .slice (some ⟨WO.heap.size, 0, none⟩) NN NN] 43)).drew) HG6.out (by simpa using L6.out) HO6.out (by rw [e0]; exact S6'.out) (by rw [e1]; exact S6.out) hwl)
            have G8 := (grew (j := 21) (u := .slice (some ⟨g6, 0, none⟩) (nK + 2 * i + 2) cap6) J4.out.kq (((Below.refl _ _).alloc (Nat.le_refl _) (.cells #[.slice (some ⟨WO.heap.size, 0, none⟩) zl NN, .slice (some ⟨WO.heap.size, 0, none⟩) NN NN] 43)).drew) HG6.out J4.out.kM (by simpa using L6.out)).same
            have U8 := hid (((U4.out.alloc (.cells #[.slice (some ⟨WO.heap.size, 0, none⟩) zl NN, .slice (some ⟨WO.heap.size, 0, none⟩) NN NN] 43)).drew.of_grown HG6.out (fun x hx hxw => by
              have k4 := J4.out.kM x hx
              exact HS.out.2.2 x hxw ((T4.out x hxw).2 (by omega)))).setCell (p := ⟨q, 21, none⟩) (show κ q ≤ 90 by omega) (.slice (some ⟨g6, 0, none⟩) (nK + 2 * i + 2) cap6))
            have T8 := hid (show ∀ x, x < w.heap.size → (κ x = 200 → tag (tag (rtg κi WO.heap.size i) g4 4) g6 5 x = 200) ∧ (tag (tag (rtg κi WO.heap.size i) g4 4) g6 5 x ≤ 90 → κ x ≤ 90) from fun x hx => by
              rw [G8 x (Nat.lt_of_lt_of_le hx U4.out.size)]
              exact ⟨fun h => (T4.out x hx).1 (HS.out.2.1 x hx h), fun h => HS.out.2.2 x hx ((T4.out x hx).2 h)⟩)
            have K8 := hid (show ∀ j, j < nK + 2 * (i + 1) → (updZ (updZ Ki (nK + 2 * i) (mkI m zl)) (nK + 2 * i + 1) (mkI m NN) j).length ≤ 8589934592 from fun j hj => by
              by_cases hj' : j < nK + 2 * i
              · rw [two_old _ _ hj']
                exact HS.out.1 j hj'
              · rcases two_new (K := Ki) (mkI m zl) (mkI m NN) (show nK + 2 * i ≤ j by omega) (by omega) with e | e <;> rw [e, length_mkI] <;> omega)
            clear G8 e0 e1 q8 ka8
            go_wp2_with fail
            go_roundw
            case rel => exact ⟨i + 1, _, _, _, _, _, _, by omega, by go_num, J8.out, K8.out, fun x hx => (T8.out x hx).1, fun x hx => (T8.out x hx).2, U8.out⟩
            case measure => simp [intOf]; omega
        · have hin' : ¬ ((i : Int) < (n : Int)) := by omega
          obtain rfl : n = i := by omega
          have HI := hid hI
          have HU := hid hu
          have HS := hid (And.intro hKi (And.intro hκ1 hκ2))
          have HCl := hid hI.clear
          have f3 := hI.blk.frozen 17
          have q4 := hI.blk.cell 18
          simp only [List.getElem?_toArray, List.getElem?_cons_succ, List.getElem?_cons_zero] at q4
          have b1 : Inb ω (wr.setCell ⟨q, 17, none⟩ (.slice none 0 0)) q cnt tot (.slice none 0 0) wa (.slice aB n cB) kei mai := by unfold Inb; simpa using hI.blk.set 17 (.slice none 0 0)
          have b2 : Inb ω ((wr.setCell ⟨q, 17, none⟩ (.slice none 0 0)).setCell ⟨q, 18, none⟩ (.slice none 0 0)) q cnt tot (.slice none 0 0) (.slice none 0 0) (.slice aB n cB) kei mai := by unfold Inb; simpa using b1.set 18 (.slice none 0 0)
          have f18 := b1.frozen 18
          have c18 := b1.cell 18
          have f19 := b2.frozen 19
          have c19 := b2.cell 19
          simp only [List.getElem?_toArray, List.getElem?_cons_succ, List.getElem?_cons_zero] at c18 c19
          clear b1 b2
          have c16 := HCl.out.blk.cell 16
          simp only [List.getElem?_toArray, List.getElem?_cons_succ, List.getElem?_cons_zero] at c16
          have UC := hid (((HU.out.setCell (p := ⟨q, 17, none⟩) (show κ q ≤ 90 by omega) (.slice none 0 0)).setCell (p := ⟨q, 18, none⟩) (show κ q ≤ 90 by omega) (.slice none 0 0)).setCell (p := ⟨q, 19, none⟩) (show κ q ≤ 90 by omega) (.slice none 0 0))
          have HAl := hid (lall_any B κi _ q cnt tot 0 0 (nK + 2 * n) _ _ _ kei mai [] [] kvi [] wvi _ Ki (by omega) (by omega) HS.out.1 HCl.out)
          clear hI hu hKi hκ1 hκ2 q1
          go_wp2_with fail
          refine Calls.mono HAl.out ?_
          rintro e w9 ⟨rfl, hb9⟩
          generalize hWC : ((wr.setCell ⟨q, 17, none⟩ (.slice none 0 0)).setCell ⟨q, 18, none⟩ (.slice none 0 0)).setCell ⟨q, 19, none⟩ (.slice none 0 0) = WC at *
          clear hWC
          have h9 := HCl.out.kept (t := 200) (w' := w9) (Kp.below hb9) (Nat.le_refl _) (by omega)
          have c9 := h9.blk.cell 16
          have f9 := h9.blk.frozen 16
          simp only [List.getElem?_toArray, List.getElem?_cons_succ, List.getElem?_cons_zero] at c9
          have H9 := hid h9.bad
          have U9 := hid ((UC.out.step (But.of_below (X := fun _ => False) hb9) (fun _ _ q => q.elim)).setCell (p := ⟨q, 16, none⟩) (show κ q ≤ 90 by omega) (.bool false))
          clear h9 hb9 HAl HCl c16 f3 q3 q4 q5 f18 f19 c18 c19 HI HU UC
          go_wp2
          go_end0
          exact ⟨rfl, κi, kei, mai, kvi, wvi, Ki, H9.out.congrZ (fun j _ hj => by omega), HS.out.1, HS.out.2.1, U9.out⟩

end Go.Proofs.Ytfadnmdmohabmaa
