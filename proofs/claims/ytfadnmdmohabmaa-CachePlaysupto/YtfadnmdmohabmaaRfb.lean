/-
  The document's disk: Write.
-/
import Derived.Test.YtfadnmdmohabmaaRfa
import Derived.Lib.AppendStr
namespace Go.Proofs.Ytfadnmdmohabmaa
open Go.RowKit

set_option maxRecDepth 100000 in
set_option maxHeartbeats 4000000 in
theorem refWrite_any {X : Nat → Prop} {w : World} {r : Nat} {img : List Int} {puts : List (Nat × List Int)} {fu : Int} {off : Bool} {nb : Nat} (h : Rk X w r img puts fu off nb) (hl : puts.length ≤ 1073741823) (x : Int) (ad : Option Addr) (n c : Nat) (zs : List Int) (hR : RdN X w ad n zs) :
    Calls Try.prog 61 #[.pointer (some ⟨r, 0, none⟩), .int .i64 x, .slice ad n c] w fun e w' => e = .returned (.int .i64 (writeC off fu nb x n)) ∧ Rk (fun x => X x ∨ w.heap.size ≤ x) w' r img (if writeC off fu nb x n = 0 then puts ++ [(x.toNat, zs)] else puts) (writeF off fu nb x n) (writeO off fu nb x n) nb ∧ But X w w' := by
  obtain ⟨lv, pv, h⟩ := h
  obtain ⟨aL, cL, rfl, _⟩ := owns_slice h.rowL
  have hhi := h.hi
  have q0 := h.blk.cell 0
  have q2 := h.blk.cell 2
  simp only [List.getElem?_toArray, List.getElem?_cons_succ, List.getElem?_cons_zero] at q0 q2
  have H := hid h
  have HB := hid (burns_any h)
  have HR := hid hR
  have hzl := hR.1
  clear h hR
  have same : Hid (Rk (fun x => X x ∨ w.heap.size ≤ x) w r img puts fu off nb) := Rk.mono (X := X) ⟨_, _, H.out⟩ (fun x h => .inl h)
  by_cases ho : off = true
  · subst ho
    have e1 : writeC true fu nb x n = 24 := rfl
    have e2 : writeF true fu nb x n = fu := if_neg (fun h => by simp at h)
    have e3 : writeO true fu nb x n = true := if_neg (fun h => by simp at h)
    rw [e1, e2, e3]
    go_enter Try.func61, Try.ntmps61
    go_wp2
    go_ret
    exact ⟨rfl, same.out, But.refl _ _⟩
  · have ho' : off = false := by simpa using ho
    subst ho'
    by_cases hx : x < 0 ∨ (nb : Int) ≤ x
    · have e1 : writeC false fu nb x n = 22 := by unfold writeC; simp only [Bool.false_eq_true, if_false, if_pos hx]
      have e2 : writeF false fu nb x n = fu := if_neg (fun h => h.2.1 hx)
      have e3 : writeO false fu nb x n = false := if_neg (fun h => h.2.1 hx)
      rw [e1, e2, e3]
      go_enter Try.func61, Try.ntmps61
      by_cases h1 : x < 0
      · go_wp2
        go_ret
        exact ⟨rfl, same.out, But.refl _ _⟩
      · have h2 : (nb : Int) ≤ x := by omega
        go_wp2
        go_ret
        exact ⟨rfl, same.out, But.refl _ _⟩
    · have n1 : ¬ (x < 0) := by omega
      have n2 : ¬ ((nb : Int) ≤ x) := by omega
      by_cases hn : n = 512
      · subst hn
        have e1 : writeC false fu nb x 512 = burnC fu := by unfold writeC; simp only [Bool.false_eq_true, if_false, if_neg hx]; rw [if_neg (fun h => h rfl)]
        have e2 : writeF false fu nb x 512 = burnF fu := if_pos ⟨rfl, hx, rfl⟩
        have e3 : writeO false fu nb x 512 = burnO fu false := if_pos ⟨rfl, hx, rfl⟩
        rw [e1, e2, e3]
        obtain ⟨y, rfl⟩ : ∃ y : Nat, x = y := ⟨x.toNat, by omega⟩
        have hy : y < nb := by omega
        clear e1 e2 e3 hx ho same
        go_enter Try.func61, Try.ntmps61
        go_wp2_with fail
        refine Calls.mono HB.out ?_
        rintro e w3 ⟨rfl, h3, u3⟩
        have H3 := hid h3
        have U3 := hid (u3.mono (Y := X) (fun x _ e => e ▸ H.out.xr))
        clear u3 q0 q2
        by_cases hz : burnC fu = 0
        · obtain ⟨aP, cP, rfl, _⟩ := owns_slice h3.rowP
          have q1 := h3.blk.cell 1
          simp only [List.getElem?_toArray, List.getElem?_cons_succ, List.getElem?_cons_zero] at q1
          have hr3 := h3.blk.lt
          have hrd := (HR.out.but U3.out).rd
          have cv0 : (convert 34 9 (.slice ad 512 c)).run Try.prog w3 = .ok (.string (strOfNums zs)) w3 := conv_str hrd c
          have cv1 : (convert 34 9 (.slice ad 512 c)).run Try.prog w3.drew = .ok (.string (strOfNums zs)) w3.drew := conv_str (w := w3.drew) hrd c
          generalize hS : strOfNums zs = S at *
          have Hr3 := hid (owns_below h3.rowP ((Below.refl _ _).alloc (Nat.le_refl _) (.cells #[.int .i64 (y : Int), .string S] 132)))
          have ka1 : (w3.alloc (.cells #[.int .i64 (y : Int), .string S] 132)).cell? ⟨r, 1, none⟩ = some (.slice aP puts.length cP) := (World.cell?_alloc_past _ _ _ hr3).trans q1
          obtain ⟨i98, hi98, hz98, hs98, hb98⟩ := info_parts info98
          simp only [hz]
          have Hz := hid hz
          have HS := hid hS
          clear h3 hrd hz hS
          go_wp2_with fail
          go_region_law (first
            | (refine step_append_lies _ (by rfl) _ _ _ (by rfl) 0 132 i98 (.agg #[.int .i64 0, .string ⟨#[]⟩]) 2 24 Try.underlying85 hi98 hz98 hs98 hb98 rfl (by decide) _ puts.length (rcs puts) (by rfl) (by exact Hr3.out) ⟨w3.heap.size, 0, none⟩ 1 1 [.int .i64 (y : Int), .string S] (by rfl) (by rfl) (by exact news2 w3 _ _ _) (by intro u hu; simp at hu; rcases hu with rfl | rfl <;> rfl) (by decide) (by unfold maxLen; omega) (by omega) (by omega) (w3.heap.size + 1) (by simp) ?_; intro g4 cap4 w6 ho4 hg4 hlie4 _; have HO4 := hid ho4; have HG4 : Hid ((w3.alloc (.cells #[.int .i64 (y : Int), .string S] 132)).drew.grownBy w6 (Value.slice aP puts.length cP).ownBlock) := hg4; have L4 : Hid ((Value.slice aP puts.length cP).ownBlock = some g4 ∨ g4 = w3.heap.size + 1) := hlie4; have bb := H3.out.blk.of_block (w' := w6) ((hg4.block r (by simp; omega) (fun e => H3.out.apart.2.1 r e.symm rfl)).trans (Below.heap_alloc _ _ _ hr3)); have c1'' := bb.cell 1; have f1'' := bb.frozen 1; simp only [List.getElem?_toArray, List.getElem?_cons_succ, List.getElem?_cons_zero] at c1''; have Hbb := hid bb; clear ho4 hg4 hlie4 bb))
          all_goals
            have FIN : Hid (Rk (fun x => X x ∨ w.heap.size ≤ x) (w6.setCell ⟨r, 1, none⟩ (.slice (some ⟨g4, 0, none⟩) (puts.length + 1) cap4)) r img (puts ++ [(y, zs)]) (burnF fu) (burnO fu false) nb ∧ But X w (w6.setCell ⟨r, 1, none⟩ (.slice (some ⟨g4, 0, none⟩) (puts.length + 1) cap4))) := by
              show _ ∧ _
              have h3 := H3.out
              obtain ⟨a1, a2, a3⟩ := h3.apart
              have hww : w.heap.size ≤ w3.heap.size := U3.out.size
              have hg4 : g4 ≠ r := fun e => by
                rcases L4.out with q | q
                · exact a2 g4 q e
                · omega
              refine ⟨⟨.slice aL nb cL, .slice (some ⟨g4, 0, none⟩) (puts.length + 1) cap4, ?_⟩, (((U3.out.alloc _).drew.of_grown HG4.out (fun x e _ => h3.xp x e)).setCell (p := ⟨r, 1, none⟩) h3.xr _)⟩
              refine ⟨?_, owns_keep h3.rowL (fun g e => ?_), ?_, h3.len, h3.lo, h3.hi, ?_, .inl h3.xr, fun g e => .inl (h3.xl g e), ?_, h3.fus⟩
              · unfold Rfb; simpa using Hbb.out.set 1 (.slice (some ⟨g4, 0, none⟩) (puts.length + 1) cap4)
              · have hlt := (World.ownsRow.lt h3.rowL g e).2
                rw [Below.heap_setCell _ _ _ _ (show g ≠ r from a1 g e), HG4.out.block g (by simp; omega) (fun e2 => a3 g g e e2.symm rfl)]
                exact Below.heap_alloc _ _ _ hlt
              · rw [rcs_snoc, HS.out]
                have := owns_setCell HO4.out (p := ⟨r, 1, none⟩) (fun e => by simp [Value.ownBlock] at e; exact hg4 e) (.slice (some ⟨g4, 0, none⟩) (puts.length + 1) cap4)
                simpa using this
              · intro q hq
                rcases List.mem_append.1 hq with hq | hq
                · exact h3.dat q hq
                · simp at hq
                  subst hq
                  exact ⟨hy, hzl⟩
              · intro g e
                cases e
                rcases L4.out with q | q
                · exact .inl (h3.xp g4 q)
                · exact .inr (by show w.heap.size ≤ g4; omega)
            clear c1'' f1'' ka1 q1 cv0 cv1
            go_wp2
            go_ret
            exact ⟨rfl, FIN.out⟩
        · have hz24 : burnC fu = 24 := by unfold burnC at hz ⊢; split at hz <;> simp_all
          simp only [hz24]
          clear h3
          go_wp2
          go_ret
          exact ⟨rfl, Rk.mono (X := X) ⟨_, _, H3.out⟩ (fun x h => .inl h), U3.out⟩
      · have e1 : writeC false fu nb x n = 23 := by unfold writeC; simp only [Bool.false_eq_true, if_false, if_neg hx]; rw [if_pos hn]
        have e2 : writeF false fu nb x n = fu := if_neg (fun h => hn h.2.2)
        have e3 : writeO false fu nb x n = false := if_neg (fun h => hn h.2.2)
        have hn' : ¬ (n : Int) = 512 := by omega
        rw [e1, e2, e3]
        go_enter Try.func61, Try.ntmps61
        go_wp2
        go_ret
        exact ⟨rfl, same.out, But.refl _ _⟩

end Go.Proofs.Ytfadnmdmohabmaa

/-
  The document's disk: blocks of an image; joined, Image.
-/
namespace Go.Proofs.Ytfadnmdmohabmaa
open Go.RowKit

theorem get_splice {L cs : List Int} {o : Nat} (h : o + cs.length ≤ L.length) (j : Nat) : (splice L o cs)[j]? = if j < o then L[j]? else if j < o + cs.length then cs[j - o]? else L[j]? := by
  have hl : (L.take o).length = o := by simp; omega
  unfold splice
  by_cases h1 : j < o
  · rw [if_pos h1, List.getElem?_append_left (by omega), List.getElem?_take_of_lt h1]
  · rw [if_neg h1, List.getElem?_append_right (by omega), hl]
    by_cases h2 : j < o + cs.length
    · rw [if_pos h2, List.getElem?_append_left (by omega)]
    · rw [if_neg h2, List.getElem?_append_right (by omega), List.getElem?_drop]
      congr 1
      omega
theorem get_blkI (L : List Int) (i t : Nat) : (blkI L i)[t]? = if t < 512 then L[512 * i + t]? else none := by
  unfold blkI
  by_cases h : t < 512
  · rw [if_pos h, List.getElem?_take_of_lt h, List.getElem?_drop]
  · rw [if_neg h]
    exact List.getElem?_eq_none (by simp; omega)
theorem blkI_splice {im d : List Int} {nb x : Nat} (i : Nat) (hlen : im.length = 512 * nb) (hd : d.length = 512) (hx : x < nb) : blkI (splice im (x * 512) d) i = if i = x then d else blkI im i := by
  apply List.ext_getElem?
  intro t
  rw [get_blkI]
  by_cases ht : t < 512
  · rw [if_pos ht, get_splice (by omega)]
    by_cases e : i = x
    · subst e
      rw [if_neg (by omega), if_pos (by omega), if_pos rfl]
      congr 1
      omega
    · rw [if_neg e, get_blkI, if_pos ht]
      by_cases h1 : i < x
      · rw [if_pos (by omega)]
      · rw [if_neg (by omega), if_neg (by omega)]
  · rw [if_neg ht]
    by_cases e : i = x
    · rw [if_pos e]; exact (List.getElem?_eq_none (by omega)).symm
    · rw [if_neg e, get_blkI, if_neg ht]
theorem lcs_splice {im d : List Int} {nb x : Nat} (hlen : im.length = 512 * nb) (hd : d.length = 512) (hx : x < nb) : lcs (splice im (x * 512) d) nb = (lcs im nb).set x (.string (strOfNums d)) := by
  apply List.ext_getElem?
  intro i
  rw [List.getElem?_set]
  by_cases hi : i < nb
  · rw [lcs_get hi, blkI_splice i hlen hd hx]
    by_cases e : x = i
    · subst e; simp [lcs, hi]
    · rw [if_neg e, if_neg (fun h => e h.symm), lcs_get hi]
  · rw [List.getElem?_eq_none (by simp [lcs]; omega), if_neg (by omega), List.getElem?_eq_none (by simp [lcs]; omega)]
theorem strCells_num {zs : List Int} (h : Pl.isB zs) : Lib.strCells (strOfNums zs) = zs.map (Value.int .u8) := by
  unfold Lib.strCells
  rw [strOfNums_data, List.map_map]
  apply List.map_congr_left
  intro z hz
  have := h z hz
  have e : (UInt8.ofNat z.toNat).toNat = z.toNat := by simp; omega
  show Value.int .u8 ((UInt8.ofNat z.toNat).toNat : Int) = _
  rw [e]
  congr 1
  omega
theorem isB_blkI {img : List Int} (h : Pl.isB img) (i : Nat) : Pl.isB (blkI img i) := Pl.isB_take (Pl.isB_drop h _) _
theorem length_blkI {img : List Int} {nb i : Nat} (h : img.length = 512 * nb) (hi : i < nb) : (blkI img i).length = 512 := by simp [blkI]; omega

set_option maxRecDepth 100000 in
set_option maxHeartbeats 1000000 in
theorem joined_any {w : World} {aL : Option Addr} {nb cL : Nat} {img : List Int} (h : w.ownsRow 0 9 1 (.slice aL nb cL) nb (lcs img nb)) (hb : Pl.isB img) (hlen : img.length = 512 * nb) (hhi : nb ≤ 524288) :
    Calls Try.prog 81 #[.slice aL nb cL] w fun e w' => ∃ a c, e = .returned (.slice a (512 * nb) c) ∧ Rd w'.heap.size w' a (512 * nb) img ∧ Below w.heap.size w w' := by
  have HP : Hid (nb = 0 ∨ ∃ g, aL = some ⟨g, 0, none⟩ ∧ g < w.heap.size ∧ ∀ i, i < nb → w.cell? ⟨g, i, none⟩ = some (.string (strOfNums (blkI img i)))) := by
    show _ ∨ _
    by_cases h0 : nb = 0
    · exact .inl h0
    · obtain ⟨g, e, hg, hc⟩ := one_cell h (by omega)
      exact .inr ⟨g, e, hg, fun i hi => hc _ _ (lcs_get hi)⟩
  obtain ⟨i5, hi5, hz5, hs5, hb5⟩ := info_parts info5
  clear h
  go_enter Try.func81, Try.ntmps81
  go_wp2_with fail
  go_loopw [3, 4] (fun v i wt => ∃ k : Nat, k ≤ nb ∧ i = .int .i64 (k : Int) ∧ wt.ownsRow w.heap.size 5 1 v (512 * k) ((img.take (512 * k)).map (Value.int .u8)) ∧ Below w.heap.size w wt) (fun _ i _ => nb - (intOf i).toNat)
  case atStart => exact ⟨0, Nat.zero_le _, rfl, World.ownsRow_nil _ _ _ _, Below.refl _ _⟩
  case round =>
    obtain ⟨k, hk, rfl, hO, hbt⟩ := hrel
    by_cases hkn : k < nb
    · obtain ⟨g, rfl, hg, hcs⟩ := HP.out.resolve_left (by omega)
      have c0 := (hbt.cell (p := ⟨g, k, none⟩) hg).trans (hcs k hkn)
      have hkn' : (k : Int) < (nb : Int) := by omega
      have hst : (img.take (512 * (k + 1))).map (Value.int .u8) = (img.take (512 * k)).map (Value.int .u8) ++ Lib.strCells (strOfNums (blkI img k)) := by
        rw [strCells_num (isB_blkI hb k), show 512 * (k + 1) = 512 * k + 512 by omega, List.take_add, List.map_append]
        rfl
      have hsz : (strOfNums (blkI img k)).size = 512 := by rw [strOfNums_size, length_blkI hlen hkn]
      generalize strOfNums (blkI img k) = S at *
      have HO := hid hO
      have Hst := hid hst
      have Hbt := hid hbt
      have hws := hbt.size
      obtain ⟨aO, cO, rfl, _⟩ := owns_slice hO
      clear hcs hst hO hbt
      go_wp2_with (at_builtin; refine Lib.wpList_append_own_string _ rfl _ _ 34 9 (by rfl) w.heap.size 5 i5 Try.underlying34 Try.underlying9 hi5 hz5 hs5 hb5 _ (512 * k) ((img.take (512 * k)).map (Value.int .u8)) (by rfl) HO.out S (by rfl) (by unfold maxLen; omega) (by omega) (by omega) ?_)
      intro v4 w6 ho4 hg4 hnn4
      have HO4 := hid ho4
      have HB4 := hid (Hbt.out.grown hg4 hws (fun x e => (World.ownsRow.lt HO.out x e).1))
      clear ho4 hg4 c0 hnn4
      go_wp2_with fail
      go_roundw
      case rel =>
        refine ⟨k + 1, by omega, by go_num, ?_, HB4.out⟩
        rw [Hst.out, show 512 * (k + 1) = 512 * k + 512 by omega, List.map_take]
        exact HO4.out
      case measure => simp [intOf]; omega
    · obtain rfl : k = nb := by omega
      obtain ⟨aO, cO, rfl, _⟩ := owns_slice hO
      have HO := hid hO
      have Hbt := hid hbt
      clear hO hbt
      go_wp2
      go_ret
      refine ⟨aO, cO, rfl, ?_, Hbt.out⟩
      have ho := HO.out
      rw [← hlen, List.take_length] at ho
      refine ⟨by omega, hb, ?_⟩
      by_cases h0 : 512 * k = 0
      · exact .inl h0
      · obtain ⟨g, e, hg, hc⟩ := one_cell ho (by omega)
        refine .inr ⟨g, 0, e, hg, fun t ht => ?_⟩
        have hlt : t < img.length := by omega
        rw [Nat.zero_add]
        refine hc t _ ?_
        rw [List.getElem?_map, List.getElem?_eq_getElem hlt]
        simp [hlt]

theorem refImage_any {X : Nat → Prop} {w : World} {r : Nat} {img : List Int} {puts : List (Nat × List Int)} {fu : Int} {off : Bool} {nb : Nat} (h : Rk X w r img puts fu off nb) (hb : Pl.isB img) :
    Calls Try.prog 58 #[.pointer (some ⟨r, 0, none⟩)] w fun e w' => ∃ a c, e = .returned (.slice a (512 * nb) c) ∧ Rd w'.heap.size w' a (512 * nb) img ∧ Below w.heap.size w w' := by
  obtain ⟨lv, pv, h⟩ := h
  obtain ⟨aL, cL, rfl, _⟩ := owns_slice h.rowL
  have q0 := h.blk.cell 0
  simp only [List.getElem?_toArray, List.getElem?_cons_zero] at q0
  have HJ := hid (joined_any h.rowL hb h.len h.hi)
  clear h
  go_enter Try.func58, Try.ntmps58
  go_wp2_with fail
  refine Calls.mono HJ.out ?_
  rintro e w1 ⟨a, c, rfl, hR, hbl⟩
  have HR := hid hR
  have Hb := hid hbl
  clear hR hbl HJ q0
  go_wp2
  go_ret
  exact ⟨a, c, rfl, HR.out, Hb.out⟩

end Go.Proofs.Ytfadnmdmohabmaa
