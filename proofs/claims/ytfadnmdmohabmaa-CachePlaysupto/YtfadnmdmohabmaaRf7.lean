/-
  The document's disk: Crash.
-/
import Derived.Test.YtfadnmdmohabmaaRfc
namespace Go.Proofs.Ytfadnmdmohabmaa
open Go.RowKit

/-- which of n writes stand among the first k places -/
def whichB (n : Nat) (ks : List Int) (k : Nat) : List Bool := (List.range n).map fun j : Nat => decide ((j : Int) ∈ ks.take k)
theorem length_whichB (n : Nat) (ks : List Int) (k : Nat) : (whichB n ks k).length = n := by simp [whichB]
theorem whichB_get {n : Nat} {ks : List Int} {k j : Nat} (h : j < n) : (whichB n ks k).getD j false = decide ((j : Int) ∈ ks.take k) := by simp [whichB, h]
theorem whichB_zero (n : Nat) (ks : List Int) : whichB n ks 0 = List.replicate n false := by
  apply List.ext_getElem?
  intro i
  simp [whichB]
  by_cases h : i < n <;> simp [h]
theorem whichB_step {n : Nat} {ks : List Int} {k j : Nat} (hk : k < ks.length) (hj : ks.getD k 0 = (j : Int)) (hjn : j < n) : (whichB n ks k).set j true = whichB n ks (k + 1) := by
  have e : ks[k] = (j : Int) := by rw [← hj]; simp [hk]
  apply List.ext_getElem?
  intro i
  rw [List.getElem?_set, length_whichB]
  by_cases hi : i < n
  · by_cases h : j = i
    · subst h
      rw [if_pos rfl, if_pos hjn]
      simp [whichB, hjn, List.take_succ_eq_append_getElem hk, e]
    · rw [if_neg h]
      have hne : ¬ ((i : Int) = (j : Int)) := by omega
      simp [whichB, hi, List.take_succ_eq_append_getElem hk, e, hne]
  · rw [if_neg (by omega), List.getElem?_eq_none (by rw [length_whichB]; omega), List.getElem?_eq_none (by rw [length_whichB]; omega)]

theorem layB_filter (img : List Int) (puts : List (Nat × List Int)) (bs : List Bool) (n : Nat) : layB img puts bs n = ((List.range n).filter fun i => bs.getD i false).foldl (fun im i => splice im ((puts.getD i (0, [])).1 * 512) (puts.getD i (0, [])).2) img := by
  induction n with
  | zero => rfl
  | succ n ih =>
    rw [layB_succ, List.range_succ, List.filter_append, List.foldl_append, ← ih]
    by_cases h : bs.getD n false = true
    · rw [if_pos h, List.filter_cons_of_pos (p := fun i => bs.getD i false) h]
      rfl
    · rw [if_neg h, List.filter_cons_of_neg (p := fun i => bs.getD i false) h]
      rfl
theorem good_lt {n : Nat} {ks : List Int} (h : GoodK n ks) : ∀ i j, i < j → j < ks.length → ks.getD i 0 < ks.getD j 0 := by
  intro i j
  induction j with
  | zero => intro h1; omega
  | succ j ih =>
    intro h1 h2
    have h3 := (h (j + 1) h2).1
    unfold leastK at h3
    rw [if_neg (by omega), Nat.add_sub_cancel] at h3
    by_cases e : i = j
    · subst e; omega
    · have := ih (by omega) (by omega)
      omega
theorem good_take {n : Nat} {ks : List Int} {i : Nat} (h : GoodK (n + 1) ks) (hi : i < ks.length) (hn : ks.getD i 0 = (n : Int)) : GoodK n (ks.take i) := by
  intro j hj
  have hj' : j < i := by simp at hj; omega
  have h1 := h j (by omega)
  have h2 := good_lt h j i hj' hi
  have e : (ks.take i).getD j 0 = ks.getD j 0 := by rw [List.getD_eq_getElem?_getD, List.getElem?_take_of_lt hj', List.getD_eq_getElem?_getD]
  have e2 : leastK (ks.take i) j = leastK ks j := by
    unfold leastK
    split
    · rfl
    · rw [List.getD_eq_getElem?_getD, List.getElem?_take_of_lt (by omega), List.getD_eq_getElem?_getD]
  rw [e, e2]
  exact ⟨h1.1, by omega⟩
theorem filter_good : ∀ (n : Nat) (ks : List Int), GoodK n ks → (List.range n).filter (fun i : Nat => decide ((i : Int) ∈ ks)) = ks.map Int.toNat := by
  intro n
  induction n with
  | zero =>
    intro ks h
    cases ks with
    | nil => rfl
    | cons z r => have h1 := h 0 (by simp); have h2 := good_lo h 0 (by simp); omega
  | succ n ih =>
    intro ks h
    rw [List.range_succ, List.filter_append]
    by_cases hm : (n : Int) ∈ ks
    · obtain ⟨i, hi, e⟩ := List.mem_iff_getElem.1 hm
      have hd : ks.getD i 0 = (n : Int) := by rw [← e]; simp [hi]
      have hlast : i + 1 = ks.length := by
        by_cases h2 : i + 1 < ks.length
        · have h3 := good_lt h i (i + 1) (by omega) h2
          have h4 := (h (i + 1) h2).2
          omega
        · omega
      have hks : ks = ks.take i ++ [(n : Int)] := by
        have e1 := List.take_append_drop i ks
        rw [List.drop_eq_getElem_cons hi, e, List.drop_eq_nil_of_le (by omega)] at e1
        exact e1.symm
      have hg := good_take h hi hd
      have e2 : (List.range n).filter (fun j : Nat => decide ((j : Int) ∈ ks)) = (List.range n).filter (fun j : Nat => decide ((j : Int) ∈ ks.take i)) := by
        apply List.filter_congr
        intro j hj
        have hj' : j < n := List.mem_range.1 hj
        have hne : ¬ ((j : Int) = (n : Int)) := by omega
        conv => lhs; rw [hks]
        simp [hne]
      rw [e2, ih _ hg]
      conv => rhs; rw [hks]
      simp [List.filter, hm]
    · have hg : GoodK n ks := fun i hi => ⟨(h i hi).1, by
        have h1 := (h i hi).2
        have h2 : ks.getD i 0 ≠ (n : Int) := fun e => hm (by rw [← e]; simp [hi])
        omega⟩
      rw [ih ks hg]
      simp [List.filter, hm]
theorem crash_laid {img : List Int} {puts : List (Nat × List Int)} {ks : List Int} (h : GoodK puts.length ks) : layB img puts (whichB puts.length ks ks.length) puts.length = crashZ img puts ks := by
  rw [layB_filter]
  have e : (List.range puts.length).filter (fun i => (whichB puts.length ks ks.length).getD i false) = ks.map Int.toNat := by
    rw [← filter_good _ _ h]
    apply List.filter_congr
    intro j hj
    rw [whichB_get (List.mem_range.1 hj), List.take_length]
  rw [e, List.foldl_map]
  rfl
theorem isB_layB {img : List Int} {puts : List (Nat × List Int)} (hb : Pl.isB img) (hd : ∀ q ∈ puts, Pl.isB q.2) (bs : List Bool) : ∀ k, k ≤ puts.length → Pl.isB (layB img puts bs k) := by
  intro k
  induction k with
  | zero => intro _; exact hb
  | succ k ih =>
    intro hk
    rw [layB_succ]
    split
    · have e : puts.getD k (0, []) = puts[k] := by simp [show k < puts.length by omega]
      rw [e]
      exact isB_splice (ih (by omega)) (hd _ (List.getElem_mem (by omega))) _
    · exact ih (by omega)

theorem made_bools (n : Nat) : madeCells #[.bool false] n = ((List.replicate n false).map Value.bool).toArray := by
  rw [← Array.toList_inj, toList_madeCells_one]
  simp
theorem make_bool (n : Nat) (hn : n ≤ 1073741824) (u : World) : (Instr.makeSlice 135 (.int .i64 (n : Int)) (.int .i64 (n : Int))).run Try.prog u =
    .ok (.slice (some ⟨u.heap.size, 0, none⟩) n n) (u.alloc (.cells ((List.replicate n false).map Value.bool).toArray 4)) := by
  obtain ⟨i0, hi, hz0, hz1, hz2⟩ := info_parts info4
  have h := run_make (P := Try.prog) u 135 4 i0 (.bool false) Try.underlying135 hi hz0 .i64 .i64 (n : Int) (n : Int) (by omega) (Int.le_refl _) (by rw [hz2]; omega) (by omega)
  have e : ((n : Int)).toNat = n := by omega
  rw [e] at h
  rw [← made_bools]
  simpa [hz1, Value.cells] using h

set_option maxRecDepth 100000 in
set_option maxHeartbeats 2000000 in
theorem refCrash_any {X : Nat → Prop} {w : World} {r : Nat} {img : List Int} {puts : List (Nat × List Int)} {fu : Int} {off : Bool} {nb : Nat} (h : Rk X w r img puts fu off nb) (hl : puts.length ≤ 1073741824) (hib : Pl.isB img) (hpb : ∀ q ∈ puts, Pl.isB q.2) (a : Option Addr) (m c : Nat) (ks : List Int) (hm : m ≤ 1073741824) (hR : RdI w.heap.size w a m ks) :
    Calls Try.prog 60 #[.pointer (some ⟨r, 0, none⟩), .slice a m c] w fun e w' => Below w.heap.size w w' ∧
      ((placesC puts.length ks ≠ 0 ∧ e = .returned (.tuple #[.slice none 0 0, .int .i64 26])) ∨
       (placesC puts.length ks = 0 ∧ ∃ a2 c2, e = .returned (.tuple #[.slice a2 (512 * nb) c2, .int .i64 0]) ∧ Rd w'.heap.size w' a2 (512 * nb) (crashZ img puts ks))) := by
  obtain ⟨lv, pv, h⟩ := h
  obtain ⟨aP, cP, rfl, _⟩ := owns_slice h.rowP
  have q1 := h.blk.cell 1
  simp only [List.getElem?_toArray, List.getElem?_cons_succ, List.getElem?_cons_zero] at q1
  have hrl := h.blk.lt
  have hmk := make_bool puts.length (by omega) w
  obtain ⟨wm, hwm⟩ : ∃ wm, wm = w.alloc (.cells ((List.replicate puts.length false).map Value.bool).toArray 4) := ⟨_, rfl⟩
  rw [← hwm] at hmk
  have bm : Below w.heap.size w wm := by rw [hwm]; exact (Below.refl _ _).alloc (Nat.le_refl _) _
  have hB0 : wm.heap[w.heap.size]? = some (.cells ((whichB puts.length ks 0).map Value.bool).toArray 4 (0, 0)) := by
    rw [whichB_zero, hwm]
    show (w.heap.push _)[w.heap.size]? = _
    simp
  obtain ⟨hkl, hR⟩ := hR
  have HR := hid hR
  have H := hid h
  have Hbm := hid bm
  have HB0 := hid hB0
  clear h hR bm hB0 hwm
  go_enter Try.func60, Try.ntmps60
  go_wp2_with fail
  clear hmk
  go_loopw [7, 8] (fun l i wt => ∃ k : Nat, k ≤ m ∧ i = .int .i64 (k : Int) ∧ l = .int .i64 (leastK ks k - 1) ∧ (∀ j, j < k → leastK ks j ≤ ks.getD j 0 ∧ ks.getD j 0 < (puts.length : Int)) ∧ wt.heap[w.heap.size]? = some (.cells ((whichB puts.length ks k).map Value.bool).toArray 4 (0, 0)) ∧ Below w.heap.size w wt) (fun _ i _ => m - (intOf i).toNat)
  case atStart => exact ⟨0, Nat.zero_le _, rfl, rfl, (fun j hj => by omega), HB0.out, Hbm.out⟩
  case round =>
    clear HB0 Hbm
    obtain ⟨k, hk, rfl, rfl, hg, hB, hbt⟩ := hrel
    by_cases hkm : k < m
    · obtain ⟨b, o, rfl, hb, hcs⟩ := HR.out.resolve_left (by omega)
      have r0 := (hbt.cell (p := ⟨b, o + k, none⟩) hb).trans (hcs k hkm)
      have r1 := (hbt.cell (p := ⟨r, 1, none⟩) hrl).trans q1
      have hkm' : (k : Int) < (m : Int) := by omega
      have Hg := hid hg
      have HB := hid hB
      have Hbt := hid hbt
      clear hcs hg hB hbt
      by_cases h1 : ks.getD k 0 < leastK ks k
      · have hno : placesC puts.length ks = 26 := if_neg (fun hG => by have := (hG k (by omega)).1; omega)
        have h1' : ks.getD k 0 ≤ leastK ks k - 1 := by omega
        clear h1
        generalize leastK ks k - 1 = L at *
        generalize ks.getD k 0 = z at *
        go_wp2_with fail
        go_quiet (fail)
        go_wp2
        go_ret2
        exact ⟨below_drewN Hbt.out _, .inl ⟨by omega, rfl⟩⟩
      · have h1' : ¬ (ks.getD k 0 ≤ leastK ks k - 1) := by omega
        by_cases h2 : (puts.length : Int) ≤ ks.getD k 0
        · have hno : placesC puts.length ks = 26 := if_neg (fun hG => by have := (hG k (by omega)).2; omega)
          clear h1
          generalize leastK ks k - 1 = L at *
          generalize ks.getD k 0 = z at *
          go_wp2_with fail
          go_quiet (fail)
          go_wp2
          go_ret2
          exact ⟨below_drewN Hbt.out _, .inl ⟨by omega, rfl⟩⟩
        · obtain ⟨j, hj⟩ : ∃ j : Nat, ks.getD k 0 = (j : Int) := ⟨(ks.getD k 0).toNat, by
            have h3 : ∀ i, i ≤ k → 0 ≤ leastK ks i := by
              intro i
              induction i with
              | zero => intro _; simp [leastK]
              | succ i ih =>
                intro hi
                have := (Hg.out i (by omega)).1
                have := ih (by omega)
                unfold leastK
                rw [if_neg (by omega), Nat.add_sub_cancel]
                omega
            have := h3 k (Nat.le_refl _)
            omega⟩
          have hjn : j < puts.length := by omega
          have hnx : leastK ks (k + 1) - 1 = (j : Int) := by unfold leastK; rw [if_neg (by omega), Nat.add_sub_cancel]; omega
          have hgk : leastK ks k ≤ ks.getD k 0 ∧ ks.getD k 0 < (puts.length : Int) := by omega
          have hws := whichB_step (by omega : k < ks.length) hj hjn
          have cw : wr.cell? ⟨w.heap.size, j, none⟩ = some (.bool ((whichB puts.length ks k).getD j false)) := by
            simp only [World.cell?, HB.out]
            simp [length_whichB, hjn]
          have fw : wr.frozen? ⟨w.heap.size, j, none⟩ = false := by simp [World.frozen?, HB.out]
          have HB' : Hid ((wr.setCell ⟨w.heap.size, j, none⟩ (.bool true)).heap[w.heap.size]? = some (.cells ((whichB puts.length ks (k + 1)).map Value.bool).toArray 4 (0, 0))) := by
            show _ = _
            simp only [World.setCell, Array.getElem?_modify, HB.out]
            rw [← hws, List.map_set]
            simp
          have Hgk := hid hgk
          have Hnx := hid hnx
          have Hj := hid hj
          rw [hj] at r0 h1' h2
          have hjn' : (j : Int) < (puts.length : Int) := by omega
          generalize (whichB puts.length ks k).getD j false = bv at *
          generalize leastK ks k - 1 = L at *
          clear h1 hgk hnx hws hj
          go_wp2_with fail
          go_quiet (fail)
          go_wp2_with fail
          go_roundw
          case rel =>
            refine ⟨k + 1, by omega, by go_num, by rw [Hnx.out], fun i hi => ?_, HB'.out, below_drewN (Hbt.out.setCell (p := ⟨w.heap.size, j, none⟩) (Nat.le_refl _) (.bool true)) _⟩
            by_cases e : i = k
            · subst e; exact Hgk.out
            · exact Hg.out i (by omega)
          case measure => simp [intOf]; omega
    · obtain rfl : k = m := by omega
      have hG : GoodK puts.length ks := fun i hi => hg i (by omega)
      have hyes : placesC puts.length ks = 0 := if_pos hG
      have h4 := H.out.keep (w' := wr) (fun x _ hx => hbt.block x hx)
      have hT : RdT wr (some ⟨w.heap.size, 0, none⟩) puts.length (whichB puts.length ks k) := by
        refine ⟨length_whichB _ _ _, .inr ⟨w.heap.size, rfl, (Array.getElem?_eq_some_iff.1 hB).1, fun i hi => ?_⟩⟩
        simp only [World.cell?, hB]
        simp [length_whichB, hi]
      have HL := hid (laid_any h4 hl (some ⟨w.heap.size, 0, none⟩) puts.length _ hT)
      have Hbt := hid hbt
      have hlen := length_layB h4.len h4.dat (whichB puts.length ks k) puts.length (Nat.le_refl _)
      have hisb := isB_layB hib hpb (whichB puts.length ks k) puts.length (Nat.le_refl _)
      have hhi := h4.hi
      have ecr : layB img puts (whichB puts.length ks k) puts.length = crashZ img puts ks := by rw [← hkl]; exact crash_laid hG
      rw [ecr] at HL hlen hisb
      generalize leastK ks k - 1 = L at *
      clear h4 hT hbt hB hg hG ecr
      go_wp2_with fail
      refine Calls.mono HL.out ?_
      rintro e w5 ⟨g, cp, rfl, hg, hO, hb5⟩
      have HJ := hid (joined_any hO hisb hlen hhi)
      have Hb5 := hid hb5
      clear hO hb5 hg HL
      go_wp2_with fail
      refine Calls.mono HJ.out ?_
      rintro e w6 ⟨a2, c2, rfl, hR6, hb6⟩
      have HR6 := hid hR6
      have Hb6 := hid hb6
      clear hR6 hb6 HJ
      go_wp2
      go_ret2
      have z1 := Hbt.out.size
      have z2 := Hb5.out.size
      exact ⟨(Hbt.out.trans (Hb5.out.mono z1)).trans (Hb6.out.mono (by omega)), .inr ⟨hyes, a2, c2, rfl, HR6.out⟩⟩

end Go.Proofs.Ytfadnmdmohabmaa
