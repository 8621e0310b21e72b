/-
  The document's disk: blocks of an image; joined, Image.
-/
import Derived.Test.YteokekllbpkemaaRf2
import Derived.Lib.AppendStr
namespace Go.Proofs.Yteokekllbpkemaa
open Go.RowKit

theorem get_splice {L cs : List Int} {o : Nat} (h : o + cs.length ≤ L.length) (j : Nat) : (splice L o cs)[j]? = if j < o then L[j]? else if j < o + cs.length then cs[j - o]? else L[j]? := by
  have hl : (L.take o).length = o := by simp; omega
  unfold splice
  by_cases h1 : j < o
  · rw [if_pos h1, List.getElem?_append_left (by omega), List.getElem?_take_of_lt h1]
  · rw [if_neg h1, List.getElem?_append_right (by omega), hl]
    by_cases h2 : j < o + cs.length
    · rw [if_pos h2, List.getElem?_append_left (by omega)]
    · rw [if_neg h2, List.getElem?_append_right (by omega), List.getElem?_drop]
      congr 1
      omega
theorem get_blkZ (L : List Int) (i t : Nat) : (blkZ L i)[t]? = if t < 512 then L[512 * i + t]? else none := by
  unfold blkZ
  by_cases h : t < 512
  · rw [if_pos h, List.getElem?_take_of_lt h, List.getElem?_drop]
  · rw [if_neg h]
    exact List.getElem?_eq_none (by simp; omega)
theorem blkZ_splice {im d : List Int} {nb x : Nat} (i : Nat) (hlen : im.length = 512 * nb) (hd : d.length = 512) (hx : x < nb) : blkZ (splice im (x * 512) d) i = if i = x then d else blkZ im i := by
  apply List.ext_getElem?
  intro t
  rw [get_blkZ]
  by_cases ht : t < 512
  · rw [if_pos ht, get_splice (by omega)]
    by_cases e : i = x
    · subst e
      rw [if_neg (by omega), if_pos (by omega), if_pos rfl]
      congr 1
      omega
    · rw [if_neg e, get_blkZ, if_pos ht]
      by_cases h1 : i < x
      · rw [if_pos (by omega)]
      · rw [if_neg (by omega), if_neg (by omega)]
  · rw [if_neg ht]
    by_cases e : i = x
    · rw [if_pos e]; exact (List.getElem?_eq_none (by omega)).symm
    · rw [if_neg e, get_blkZ, if_neg ht]
theorem lcs_splice {im d : List Int} {nb x : Nat} (hlen : im.length = 512 * nb) (hd : d.length = 512) (hx : x < nb) : lcs (splice im (x * 512) d) nb = (lcs im nb).set x (.string (strOfNums d)) := by
  apply List.ext_getElem?
  intro i
  rw [List.getElem?_set]
  by_cases hi : i < nb
  · rw [lcs_get hi, blkZ_splice i hlen hd hx]
    by_cases e : x = i
    · subst e; simp [lcs, hi]
    · rw [if_neg e, if_neg (fun h => e h.symm), lcs_get hi]
  · rw [List.getElem?_eq_none (by simp [lcs]; omega), if_neg (by omega), List.getElem?_eq_none (by simp [lcs]; omega)]
theorem strCells_num {zs : List Int} (h : Pl.isB zs) : Lib.strCells (strOfNums zs) = zs.map (Value.int .u8) := by
  unfold Lib.strCells
  rw [strOfNums_data, List.map_map]
  apply List.map_congr_left
  intro z hz
  have := h z hz
  have e : (UInt8.ofNat z.toNat).toNat = z.toNat := by simp; omega
  show Value.int .u8 ((UInt8.ofNat z.toNat).toNat : Int) = _
  rw [e]
  congr 1
  omega
theorem isB_blkZ {img : List Int} (h : Pl.isB img) (i : Nat) : Pl.isB (blkZ img i) := Pl.isB_take (Pl.isB_drop h _) _
theorem length_blkZ {img : List Int} {nb i : Nat} (h : img.length = 512 * nb) (hi : i < nb) : (blkZ img i).length = 512 := by simp [blkZ]; omega

set_option maxRecDepth 100000 in
set_option maxHeartbeats 1000000 in
theorem joined_any {w : World} {aL : Option Addr} {nb cL : Nat} {img : List Int} (h : w.ownsRow 0 9 1 (.slice aL nb cL) nb (lcs img nb)) (hb : Pl.isB img) (hlen : img.length = 512 * nb) (hhi : nb ≤ 524288) :
    Calls Try.prog 67 #[.slice aL nb cL] w fun e w' => ∃ a c, e = .returned (.slice a (512 * nb) c) ∧ Rd w'.heap.size w' a (512 * nb) img ∧ Below w.heap.size w w' := by
  have HP : Hid (nb = 0 ∨ ∃ g, aL = some ⟨g, 0, none⟩ ∧ g < w.heap.size ∧ ∀ i, i < nb → w.cell? ⟨g, i, none⟩ = some (.string (strOfNums (blkZ img i)))) := by
    show _ ∨ _
    by_cases h0 : nb = 0
    · exact .inl h0
    · obtain ⟨g, e, hg, hc⟩ := one_cell h (by omega)
      exact .inr ⟨g, e, hg, fun i hi => hc _ _ (lcs_get hi)⟩
  obtain ⟨i5, hi5, hz5, hs5, hb5⟩ := info_parts info5
  clear h
  go_enter Try.func67, Try.ntmps67
  go_wp2_with fail
  go_loopw [3, 4] (fun v i wt => ∃ k : Nat, k ≤ nb ∧ i = .int .i64 (k : Int) ∧ wt.ownsRow w.heap.size 5 1 v (512 * k) ((img.take (512 * k)).map (Value.int .u8)) ∧ Below w.heap.size w wt) (fun _ i _ => nb - (intOf i).toNat)
  case atStart => exact ⟨0, Nat.zero_le _, rfl, World.ownsRow_nil _ _ _ _, Below.refl _ _⟩
  case round =>
    obtain ⟨k, hk, rfl, hO, hbt⟩ := hrel
    by_cases hkn : k < nb
    · obtain ⟨g, rfl, hg, hcs⟩ := HP.out.resolve_left (by omega)
      have c0 := (hbt.cell (p := ⟨g, k, none⟩) hg).trans (hcs k hkn)
      have hkn' : (k : Int) < (nb : Int) := by omega
      have hst : (img.take (512 * (k + 1))).map (Value.int .u8) = (img.take (512 * k)).map (Value.int .u8) ++ Lib.strCells (strOfNums (blkZ img k)) := by
        rw [strCells_num (isB_blkZ hb k), show 512 * (k + 1) = 512 * k + 512 by omega, List.take_add, List.map_append]
        rfl
      have hsz : (strOfNums (blkZ img k)).size = 512 := by rw [strOfNums_size, length_blkZ hlen hkn]
      generalize strOfNums (blkZ img k) = S at *
      have HO := hid hO
      have Hst := hid hst
      have Hbt := hid hbt
      have hws := hbt.size
      obtain ⟨aO, cO, rfl, _⟩ := owns_slice hO
      clear hcs hst hO hbt
      go_wp2_with (at_builtin; refine Lib.wpList_append_own_string _ rfl _ _ 22 9 (by rfl) w.heap.size 5 i5 Try.underlying22 Try.underlying9 hi5 hz5 hs5 hb5 _ (512 * k) ((img.take (512 * k)).map (Value.int .u8)) (by rfl) HO.out S (by rfl) (by unfold maxLen; omega) (by omega) (by omega) ?_)
      intro v4 w6 ho4 hg4 hnn4
      have HO4 := hid ho4
      have HB4 := hid (Hbt.out.grown hg4 hws (fun x e => (World.ownsRow.lt HO.out x e).1))
      clear ho4 hg4 c0 hnn4
      go_wp2_with fail
      go_roundw
      case rel =>
        refine ⟨k + 1, by omega, by go_num, ?_, HB4.out⟩
        rw [Hst.out, show 512 * (k + 1) = 512 * k + 512 by omega, List.map_take]
        exact HO4.out
      case measure => simp [intOf]; omega
    · obtain rfl : k = nb := by omega
      obtain ⟨aO, cO, rfl, _⟩ := owns_slice hO
      have HO := hid hO
      have Hbt := hid hbt
      clear hO hbt
      go_wp2
      go_ret
      refine ⟨aO, cO, rfl, ?_, Hbt.out⟩
      have ho := HO.out
      rw [← hlen, List.take_length] at ho
      refine ⟨by omega, hb, ?_⟩
      by_cases h0 : 512 * k = 0
      · exact .inl h0
      · obtain ⟨g, e, hg, hc⟩ := one_cell ho (by omega)
        refine .inr ⟨g, 0, e, hg, fun t ht => ?_⟩
        have hlt : t < img.length := by omega
        rw [Nat.zero_add]
        refine hc t _ ?_
        rw [List.getElem?_map, List.getElem?_eq_getElem hlt]
        simp [hlt]

theorem refImage_any {X : Nat → Prop} {w : World} {r : Nat} {img : List Int} {puts : List (Nat × List Int)} {fu : Int} {off : Bool} {nb : Nat} (h : Rk X w r img puts fu off nb) (hb : Pl.isB img) :
    Calls Try.prog 41 #[.pointer (some ⟨r, 0, none⟩)] w fun e w' => ∃ a c, e = .returned (.slice a (512 * nb) c) ∧ Rd w'.heap.size w' a (512 * nb) img ∧ Below w.heap.size w w' := by
  obtain ⟨lv, pv, h⟩ := h
  obtain ⟨aL, cL, rfl, _⟩ := owns_slice h.rowL
  have q0 := h.blk.cell 0
  simp only [List.getElem?_toArray, List.getElem?_cons_zero] at q0
  have HJ := hid (joined_any h.rowL hb h.len h.hi)
  clear h
  go_enter Try.func41, Try.ntmps41
  go_wp2_with fail
  refine Calls.mono HJ.out ?_
  rintro e w1 ⟨a, c, rfl, hR, hbl⟩
  have HR := hid hR
  have Hb := hid hbl
  clear hR hbl HJ q0
  go_wp2
  go_ret
  exact ⟨a, c, rfl, HR.out, Hb.out⟩

end Go.Proofs.Yteokekllbpkemaa
