/-
  The Ledger: untouched, all, Holds.
-/
import Derived.Test.YtfadnmdmohabmaaBks
import Derived.Test.YtfadnmdmohabmaaPa
import Derived.Deep.RegionHeld3
namespace Go.Proofs.Ytfadnmdmohabmaa
open Go.RowKit

variable {ω : Oth}

set_option maxHeartbeats 1000000 in
theorem sameL_eq (B : Nat) (a a2 : Option Addr) (n c c2 : Nat) (zs : List Int) (w : World) (hB : B ≤ w.heap.size) (hn : n ≤ 8589934592) (h : RdI B w a n zs) (h2 : RdI B w a2 n zs) :
    Calls Try.prog 62 #[.slice a n c, .slice a2 n c2] w fun e w' => e = .returned (.bool true) ∧ Below w.heap.size w w' := by
  go_enter Try.func62, Try.ntmps62
  go_wp2
  go_loopw [5] (fun i wr => ∃ k : Nat, k ≤ n ∧ i = .int .i64 (k : Int) ∧ Below w.heap.size w wr) (fun i _ => n - (intOf i).toNat)
  case atStart => exact ⟨0, Nat.zero_le _, rfl, Below.refl _ _⟩
  case round =>
    obtain ⟨k, hk, rfl, hbr⟩ := hrel
    by_cases hkn : k < n
    · obtain ⟨b, off, rfl, hb, hc⟩ := h.2.resolve_left (by omega)
      obtain ⟨b2, off2, rfl, hb2, hc2⟩ := h2.2.resolve_left (by omega)
      have c1 := (hbr.cell (p := ⟨b, off + k, none⟩) (Nat.lt_of_lt_of_le hb hB)).trans (hc k hkn)
      have c2 := (hbr.cell (p := ⟨b2, off2 + k, none⟩) (Nat.lt_of_lt_of_le hb2 hB)).trans (hc2 k hkn)
      clear hc hc2 h h2
      generalize zs.getD k 0 = z at *
      have hk1 : (k : Int) < (n : Int) := by omega
      go_wp2
      go_region
      all_goals go_wp2
      all_goals
        go_roundw
        case rel => exact ⟨k + 1, by omega, by go_num, hbr.drew⟩
        case measure => simp [intOf]; omega
    · go_wp2
      go_ret
      exact ⟨rfl, hbr⟩


theorem make_i64b (n : Nat) (hn : n ≤ 8589934592) (u : World) : (Instr.makeSlice 43 (.int .i64 (n : Int)) (.int .i64 (n : Int))).run Try.prog u =
    .ok (.slice (some ⟨u.heap.size, 0, none⟩) n n) (u.alloc (.cells ((zeros n).map (Value.int .i64)).toArray 3)) := by
  obtain ⟨i0, hi, hz0, hz1, hz2⟩ := info_parts info3
  have h := run_make (P := Try.prog) u 43 3 i0 (.int .i64 0) Try.underlying43 hi hz0 .i64 .i64 (n : Int) (n : Int) (by omega) (Int.le_refl _) (by rw [hz2]; omega) (by omega)
  have e : ((n : Int)).toNat = n := by omega
  rw [e] at h
  rw [← made_zeros]
  simpa [hz1, Value.cells] using h
theorem mkI_take {ys : List Int} {m x : Int} {k len : Nat} (hl : ys.length = len) (hk : k < len) (ht : ys.take k = (mkI m len).take k) (hx : x = m + (k : Int)) : (ys.set k x).take (k + 1) = (mkI m len).take (k + 1) := by
  have h2 : (mkI m len).getD k 0 = x := by rw [mkI_getD m hk, hx]
  have e1 : (mkI m len).take (k + 1) = (mkI m len).take k ++ [x] := by
    rw [List.take_succ_eq_append_getElem (by rw [length_mkI]; exact hk)]
    congr 1
    rw [← h2]
    simp [length_mkI, hk]
  rw [e1, ← ht, List.take_succ_eq_append_getElem (by simp; omega)]
  simp [List.take_set_of_le (Nat.le_refl k)]
set_option maxHeartbeats 400000 in
theorem marks_any (k : Nat) (mark : Int) (w : World) (hk : k ≤ 8589934592) (h0 : 0 ≤ mark) (h1 : mark ≤ 1152921504606846976) :
    Calls Try.prog 89 #[.int .i64 (k : Int), .int .i64 mark] w fun e w' => e = .returned (.slice (some ⟨w.heap.size, 0, none⟩) k k) ∧ Blk .i64 3 w' w.heap.size (mkI mark k) ∧ w'.heap.size = w.heap.size + 1 ∧ Below w.heap.size w w' := by
  have hmk := make_i64b k (by omega)
  have HB0 := hid (Blk.new (k := .i64) (e := 3) w (zeros k))
  have Hb0 := hid ((Below.refl w.heap.size w).alloc (Nat.le_refl _) (.cells ((zeros k).map (Value.int .i64)).toArray 3))
  go_enter Try.func89, Try.ntmps89
  go_wp2
  go_loopw [6] (fun i wt => ∃ (j : Nat) (ys : List Int), j ≤ k ∧ i = .int .i64 (j : Int) ∧ Blk .i64 3 wt w.heap.size ys ∧ ys.length = k ∧ ys.take j = (mkI mark k).take j ∧ wt.heap.size = w.heap.size + 1 ∧ Below w.heap.size w wt) (fun i _ => k - (intOf i).toNat)
  case atStart => exact ⟨0, zeros k, Nat.zero_le _, rfl, HB0.out, length_zeros k, rfl, by simp, Hb0.out⟩
  case round =>
    clear HB0 Hb0 hmk
    obtain ⟨j, ys, hj, rfl, hB, hl, ht, hs, hb⟩ := hrel
    by_cases hjk : j < k
    · have hc := hB.cell j (by omega)
      have hf := hB.frozen j
      have HB := hid (hB.set j (mark + (j : Int)))
      have HT := hid (mkI_take hl hjk ht rfl)
      have Hl := hid hl
      have Hs := hid hs
      have Hb := hid (hb.setCell (p := ⟨w.heap.size, j, none⟩) (Nat.le_refl _) (.int .i64 (mark + (j : Int))))
      have ew : IntKind.i64.wrap (mark + (j : Int)) = mark + (j : Int) := by rw [IntKind.wrap_i64]; omega
      generalize ys.getD j 0 = old at *
      clear hB ht hl hs hb
      go_wp2
      go_roundw
      case rel => exact ⟨j + 1, _, by omega, by go_num, HB.out, by simpa using Hl.out, HT.out, by simpa [World.setCell] using Hs.out, Hb.out⟩
      case measure => simp [intOf]; omega
    · have e : ys = mkI mark k := by
        rw [List.take_of_length_le (by omega), List.take_of_length_le (by rw [length_mkI]; omega)] at ht
        exact ht
      have HB := hid (e ▸ hB)
      have Hs := hid hs
      clear hB ht hl e hs
      go_wp2
      go_ret
      exact ⟨rfl, HB.out, Hs.out, hb⟩
theorem Sl3.rdi {κ : Nat → Nat} {w : World} {v : Value} {zs : List Int} (h : Sl3 κ w v zs) : ∃ a c, v = .slice a zs.length c ∧ RdI w.heap.size w a zs.length zs := by
  obtain ⟨a, c, e, h⟩ := h
  refine ⟨a, c, e, rfl, h.imp (fun q => by rw [q]; rfl) (fun ⟨g, h1, h2, h3, h4⟩ => ⟨g, 0, h1, h3, fun t ht => by rw [Nat.zero_add]; exact h4 t ht⟩)⟩
theorem In.frdi {B : Nat} {κ : Nat → Nat} {w : World} {q : Nat} {cnt tot : Int} {lo n nK nM : Nat} {fr wa ba ke ma : Value} {fv hv kv : List Value} {bs : List Int} {wv : List Value} {Z K : Nat → List Int}
    (h : In ω B κ w q cnt tot lo n nK nM fr wa ba ke ma fv hv kv bs wv Z K) {i : Nat} (h1 : lo ≤ i) (h2 : i < n) : ∃ a, fv.getD i (.bool false) = .slice a (Z i).length (Z i).length ∧ RdI w.heap.size w a (Z i).length (Z i) := by
  obtain ⟨a, e, hc⟩ := h.fcell h1 h2
  refine ⟨a, e, rfl, hc.imp id (fun ⟨g, h1, h2, _, h4⟩ => ⟨g, 0, h1, h2, fun t ht => by rw [Nat.zero_add]; exact h4.cell t ht⟩)⟩
theorem below_undrew' {n : Nat} {w w' : World} (h : Below n w.drew w') : Below n w w' := ⟨h.os, h.tape, h.output, h.size, h.block⟩

set_option maxRecDepth 100000 in
set_option maxHeartbeats 4000000 in
theorem luntouched_any (B : Nat) (κ : Nat → Nat) (w : World) (q : Nat) (cnt tot : Int) (n nK nM : Nat) (fr wa ba ke ma : Value) (fv hv kv : List Value) (bs : List Int) (wv : List Value) (Z K : Nat → List Int) (hn : n ≤ 3) (hl : ∀ i, i < n → (Z i).length ≤ 67108864)
    (h : In ω B κ w q cnt tot 0 n nK nM fr wa ba ke ma fv hv kv bs wv Z K) (hh : Hs3 κ w n hv Z) :
    Calls Try.prog 27 #[.pointer (some ⟨q, 14, none⟩)] w fun e w' => e = .returned (.tuple #[]) ∧ In ω B κ w' q cnt tot 0 n nK nM fr wa ba ke ma fv hv kv bs wv Z K ∧ Hs3 κ w' n hv Z ∧ But (fun x => x = q) w w' := by
  obtain ⟨aF, cF, rfl, _⟩ := owns_slice h.oF
  obtain ⟨aW, cW, rfl, _⟩ := owns_slice h.oW
  have H := hid h
  have HH := hid hh
  clear h hh
  go_enter Try.func27, Try.ntmps27
  go_wp2_with fail
  go_loopw [2] (fun s2 wt => ∃ i : Nat, i ≤ n ∧ s2 = .int .i64 (i : Int) ∧ In ω B κ wt q cnt tot 0 n nK nM (.slice aF n cF) (.slice aW n cW) ba ke ma fv hv kv bs wv Z K ∧ Hs3 κ wt n hv Z ∧ But (fun x => x = q) w wt) (fun s2 _ => n - (intOf s2).toNat)
  case atStart => exact ⟨0, Nat.zero_le _, rfl, H.out, HH.out, But.refl _ _⟩
  case round =>
    clear H HH
    obtain ⟨i, hi, rfl, hI, hh, hu⟩ := hrel
    have q2 := hI.blk.cell 16
    have q3 := hI.blk.cell 17
    have q4 := hI.blk.cell 18
    simp only [List.getElem?_toArray, List.getElem?_cons_succ, List.getElem?_cons_zero] at q2 q3 q4
    by_cases hin : i < n
    · obtain ⟨g3, c3', e3, _, hl3, r3⟩ := row_cell hI.oF hin
      obtain ⟨g4, c4', e4, _, hl4, r4⟩ := row_cell hI.oW hin
      cases e3
      cases e4
      obtain ⟨af, ef, rf⟩ := hI.frdi (Nat.zero_le _) hin
      obtain ⟨ah, ch, eh, rh⟩ := (hh i hin).rdi
      rw [ef] at r3
      rw [eh] at r4
      have hzl := hl i hin
      have HSI := hid (sameL_eq wr.heap.size _ _ _ (Z i).length ch _ wr.drew (Nat.le_refl _) (by omega) rf rh)
      have hi1 : (i : Int) < (n : Int) := by omega
      have HI := hid hI
      have HU := hid hu
      have HHs := hid hh
      have hql := hI.blk.lt
      have fz := hI.blk.frozen 16
      clear hI hu hh rf rh ef eh hl
      generalize (Z i).length = zl at *
      go_wp2_with fail
      go_region_held3 (fun w' => w'.cell? ⟨q, 16, none⟩ = some (.bool false) ∧ w'.cell? ⟨q, 17, none⟩ = some (.slice (some ⟨g3, 0, none⟩) n cF) ∧ w'.cell? ⟨q, 18, none⟩ = some (.slice (some ⟨g4, 0, none⟩) n cW) ∧ w'.cell? ⟨g3, i, none⟩ = some (.slice af zl zl) ∧ w'.cell? ⟨g4, i, none⟩ = some (.slice ah zl ch)) (first | (exact ⟨by assumption, by assumption, by assumption, by assumption, by assumption⟩) | (exact SK.out) | go_keep)
        ((go_at_call 62; refine Calls.mono HSI.out ?_; rintro e w2 ⟨rfl, hb2⟩
          have Hb2 := hid (below_undrew' hb2)
          have p3 := (Hb2.out.cell (p := ⟨q, 17, none⟩) hql).trans q3
          have p4 := (Hb2.out.cell (p := ⟨q, 18, none⟩) hql).trans q4
          have pr3 := (Hb2.out.cell (p := ⟨g3, i, none⟩) hl3).trans r3
          have pr4 := (Hb2.out.cell (p := ⟨g4, i, none⟩) hl4).trans r4
          have p2 := (Hb2.out.cell (p := ⟨q, 16, none⟩) hql).trans q2
          have pf : w2.frozen? ⟨q, 16, none⟩ = false := (World.frozen?_of_block (w := wr) (a := ⟨q, 16, none⟩) (Hb2.out.block q hql)).trans fz
          have nq3 : g3 ≠ q := fun e => by have := HI.out.kF g3 rfl; rw [e, HI.out.kq] at this; omega
          have nq4 : g4 ≠ q := fun e => by have := HI.out.kW g4 rfl; rw [e, HI.out.kq] at this; omega
          have b2 : Inb ω w2 q cnt tot (.slice (some ⟨g3, 0, none⟩) n cF) (.slice (some ⟨g4, 0, none⟩) n cW) ba ke ma := HI.out.blk.of_block (Hb2.out.block q hql)
          have bs2 : Inb ω (w2.setCell ⟨q, 16, none⟩ (.bool false)) q cnt tot (.slice (some ⟨g3, 0, none⟩) n cF) (.slice (some ⟨g4, 0, none⟩) n cW) ba ke ma := by unfold Inb; simpa using b2.set 16 (.bool false)
          have SK := hid (And.intro (bs2.cell 16) (And.intro (bs2.cell 17) (And.intro (bs2.cell 18) (And.intro ((World.cell?_of_block (a := ⟨g3, i, none⟩) (Below.heap_setCell w2 ⟨q, 16, none⟩ (.bool false) g3 nq3)).trans pr3) ((World.cell?_of_block (a := ⟨g4, i, none⟩) (Below.heap_setCell w2 ⟨q, 16, none⟩ (.bool false) g4 nq4)).trans pr4)))))
          clear hb2 b2 bs2))
      have FIN := hid ((HI.out.kept (t := 200) (w' := w2) (Kp.below Hb2.out) (Nat.le_refl _) (by omega)).bad)
      have FHs := hid ((HHs.out.kp (t := 200) (w' := w2) (Kp.below Hb2.out) (by decide)).kp ((HI.out.kept (t := 200) (w' := w2) (Kp.below Hb2.out) (Nat.le_refl _) (by omega)).kp0 16 (.bool false)) (by decide))
      have FU := hid ((HU.out.step (But.of_below (X := fun _ => False) Hb2.out) (fun _ _ q => q.elim)).setCell (p := ⟨q, 16, none⟩) (show (fun x => x = q) q from rfl) (.bool false))
      clear q2 q3 q4 r3 r4 p2 p3 p4 pr3 pr4 pf SK HSI
      go_wp2_with fail
      go_roundw
      case rel => exact ⟨i + 1, by omega, by go_num, FIN.out, FHs.out, FU.out⟩
      case measure => simp [intOf]; omega
    · have HI := hid hI
      have HU := hid hu
      have HHs := hid hh
      have hin' : ¬ (i : Int) < (n : Int) := by omega
      clear hI hu hh q2 q4
      go_wp2
      go_end0
      exact ⟨rfl, HI.out, HHs.out, HU.out⟩

set_option maxRecDepth 100000 in
set_option maxHeartbeats 4000000 in
theorem lall_any (B : Nat) (κ : Nat → Nat) (w : World) (q : Nat) (cnt tot : Int) (lo n nK : Nat) (fr wa ba ke ma : Value) (fv hv kv : List Value) (bs : List Int) (wv : List Value) (Z K : Nat → List Int) (hn : n ≤ 90) (hnK : nK ≤ 134217728) (hl : ∀ j, j < nK → (K j).length ≤ 8589934592)
    (h : In ω B κ w q cnt tot lo n nK nK fr wa ba ke ma fv hv kv bs wv Z K) :
    Calls Try.prog 28 #[.pointer (some ⟨q, 14, none⟩)] w fun e w' => e = .returned (.bool true) ∧ Below w.heap.size w w' := by
  obtain ⟨aF, cF, rfl, _⟩ := owns_slice h.oK
  obtain ⟨aW, cW, rfl, _⟩ := owns_slice h.oM
  have H := hid h
  clear h
  go_enter Try.func28, Try.ntmps28
  go_wp2_with fail
  go_loopw [3] (fun s2 wt => ∃ i : Nat, i ≤ nK ∧ s2 = .int .i64 (i : Int) ∧ Below w.heap.size w wt) (fun s2 _ => nK - (intOf s2).toNat)
  case atStart => exact ⟨0, Nat.zero_le _, rfl, Below.refl _ _⟩
  case round =>
    obtain ⟨i, hi, rfl, hbt⟩ := hrel
    have hI := H.out.kept (t := 200) (w' := wr) (Kp.below hbt) (Nat.le_refl _) hn
    have q3 := hI.blk.cell 20
    have q4 := hI.blk.cell 21
    simp only [List.getElem?_toArray, List.getElem?_cons_succ, List.getElem?_cons_zero] at q3 q4
    by_cases hin : i < nK
    · obtain ⟨g3, c3', e3, _, hl3, r3⟩ := row_cell hI.oK hin
      obtain ⟨g4, c4', e4, _, hl4, r4⟩ := row_cell hI.oM hin
      cases e3
      cases e4
      obtain ⟨af, cf, ef, rf⟩ := (hI.ks i hin).rdi
      obtain ⟨ah, ch, eh, rh⟩ := (hI.ws i hin).rdi
      rw [ef] at r3
      rw [eh] at r4
      have hzl := hl i hin
      have HSI := hid (sameL_eq wr.heap.size _ _ _ cf ch _ wr.drew (Nat.le_refl _) (by omega) rf rh)
      have hi1 : (i : Int) < (nK : Int) := by omega
      have Hbt := hid hbt
      have hql := hI.blk.lt
      clear hI hbt rf rh ef eh hl
      generalize (K i).length = zl at *
      go_wp2_with fail
      go_region_held3 (fun w' => w'.cell? ⟨q, 20, none⟩ = some (.slice (some ⟨g3, 0, none⟩) nK cF) ∧ w'.cell? ⟨q, 21, none⟩ = some (.slice (some ⟨g4, 0, none⟩) nK cW) ∧ w'.cell? ⟨g3, i, none⟩ = some (.slice af zl cf) ∧ w'.cell? ⟨g4, i, none⟩ = some (.slice ah zl ch)) (first | (exact ⟨by assumption, by assumption, by assumption, by assumption⟩) | go_keep)
        ((go_at_call 62; refine Calls.mono HSI.out ?_; rintro e w2 ⟨rfl, hb2⟩
          have Hb2 := hid (below_undrew' hb2)
          have p3 := (Hb2.out.cell (p := ⟨q, 20, none⟩) hql).trans q3
          have p4 := (Hb2.out.cell (p := ⟨q, 21, none⟩) hql).trans q4
          have pr3 := (Hb2.out.cell (p := ⟨g3, i, none⟩) hl3).trans r3
          have pr4 := (Hb2.out.cell (p := ⟨g4, i, none⟩) hl4).trans r4
          clear hb2))
      clear q3 q4 r3 r4 p3 p4 pr3 pr4 HSI
      go_wp2_with fail
      go_roundw
      case rel => exact ⟨i + 1, by omega, by go_num, Hbt.out.trans (Hb2.out.mono Hbt.out.size)⟩
      case measure => simp [intOf]; omega
    · have Hbt := hid hbt
      have hin' : ¬ (i : Int) < (nK : Int) := by omega
      clear hbt hI q4
      go_wp2
      go_ret
      exact ⟨rfl, Hbt.out⟩

set_option maxRecDepth 100000 in
set_option maxHeartbeats 2000000 in
theorem lholds_any (B : Nat) (κ : Nat → Nat) (w : World) (q : Nat) (cnt tot : Int) (n nK : Nat) (fr wa ba ke ma : Value) (fv hv kv : List Value) (bs : List Int) (wv : List Value) (Z K : Nat → List Int) (hn : n ≤ 3) (hl : ∀ i, i < n → (Z i).length ≤ 67108864) (hnK : nK ≤ 134217728) (hk : ∀ j, j < nK → (K j).length ≤ 8589934592)
    (h : In ω B κ w q cnt tot 0 n nK nK fr wa ba ke ma fv hv kv bs wv Z K) (hh : Hs3 κ w n hv Z) :
    Calls Try.prog 10 #[.pointer (some ⟨q, 14, none⟩)] w fun e w' => e = .returned (.bool true) ∧ In ω B κ w' q cnt tot 0 n nK nK fr wa ba ke ma fv hv kv bs wv Z K ∧ Hs3 κ w' n hv Z ∧ But (fun x => x = q) w w' := by
  have HU := hid (luntouched_any B κ w q cnt tot n nK nK fr wa ba ke ma fv hv kv bs wv Z K hn hl h hh)
  clear h hh
  go_enter Try.func10, Try.ntmps10
  go_wp2_with fail
  refine Calls.mono HU.out ?_
  rintro e w1 ⟨rfl, h1, hh1, u1⟩
  have HA := hid (lall_any B κ w1 q cnt tot 0 n nK fr wa ba ke ma fv hv kv bs wv Z K (by omega) hnK hk h1)
  have c2 := h1.blk.cell 16
  simp only [List.getElem?_toArray, List.getElem?_cons_succ, List.getElem?_cons_zero] at c2
  have H1 := hid (And.intro h1 (And.intro hh1 u1))
  clear h1 hh1 u1 HU
  go_wp2_with fail
  refine Calls.mono HA.out ?_
  rintro e w2 ⟨rfl, hb2⟩
  have F := hid (And.intro (H1.out.1.kept (t := 200) (w' := w2) (Kp.below hb2) (Nat.le_refl _) (by omega)) (And.intro (H1.out.2.1.kp (t := 200) (w' := w2) (Kp.below hb2) (by decide)) (H1.out.2.2.step (But.of_below (X := fun _ => False) hb2) (fun _ _ q => q.elim))))
  clear hb2 HA c2 H1
  go_wp2
  go_ret
  exact ⟨rfl, F.out⟩

end Go.Proofs.Ytfadnmdmohabmaa
