/-
  syntax: isReserved, isWord.
-/
import Derived.Test.YtbllaacbeagljaaGreatDoorMb0
import Derived.Test.YtbllaacbeagljaaGreatDoorSy0
namespace Go.Proofs.YtbllaacbeagljaaGreatDoor
open Go.RowKit

/-- the reserved words -/
def resL : List (List UInt8) := [[108, 101, 116], [118, 111, 108, 117, 109, 101], [102, 114, 111, 109], [115, 105, 122, 101], [116, 104, 105, 99, 107], [115, 110, 97, 112, 115, 104, 111, 116], [111, 102], [107, 101, 101, 112], [97, 98, 115, 101, 110, 116], [114, 101, 110, 97, 109, 101], [116, 111], [101, 120, 97, 99, 116], [114, 101, 112, 101, 97, 116], [119, 104, 101, 110], [101, 108, 115, 101], [111, 114], [97, 110, 100], [110, 111, 116], [109, 105, 110], [109, 97, 120], [102, 114, 101, 101], [101, 120, 105, 115, 116, 115]]
def resB (s : ByteArray) : Bool := resL.contains s.toList
theorem res_in {s : ByteArray} {x : List UInt8} (h : (s.toList == x) = true) (hx : x ∈ resL) : resB s = true := by
  unfold resB
  rw [List.contains_iff_exists_mem_beq]
  exact ⟨x, hx, h⟩
set_option maxRecDepth 100000 in
set_option maxHeartbeats 4000000 in
theorem isReserved_any (s : ByteArray) (w : World) : Calls Tryz.prog 134 #[.string s] w fun e w' => e = .returned (.bool (resB s)) ∧ w' = w := by
  obtain ⟨r, hr⟩ : ∃ r, r = resB s := ⟨_, rfl⟩
  rw [← hr]
  have H := hid hr
  clear hr
  go_enter Tryz.func134, Tryz.ntmps134
  go_wp2
  all_goals
    go_ret
    go_light
    refine ⟨ret_bool ?_, rfl⟩
    rw [H.out]
    first
      | exact (res_in (by assumption) (by simp [resL])).symm
      | (simp_all; done)
      | (simp only [beq_eq_false_iff_ne, ne_eq] at *; simp [resB, resL, *]; done)

/-- what Untoken tells of one word -/
def untW (l : List Int) : List Int × Int := if mbT ⟨1, l, 0, 0⟩ = true then jnQ [l] else ([], 185)
theorem Untoken_word (l : List Int) (g c : Nat) (w : World) (hB : Pl.isB l) (hl : l.length ≤ 16777216) (hc : Cs w g 227 (tcs 1 (strOfNums l) 0 0)) :
    Calls Tryz.prog 133 #[.slice (some ⟨g, 0, none⟩) 1 c] w fun e w' => e = .returned (.tuple #[.string (strOfNums (untW l).1), .int .i64 (untW l).2]) ∧ Below w.heap.size w w' := by
  have hR : TkR w (some ⟨g, 0, none⟩) [⟨1, l, 0, 0⟩] := .inr ⟨g, rfl, hc.lt, fun j hj => by
    obtain rfl : j = 0 := by simp at hj; omega
    exact ⟨hc.cell 0 _ rfl, hc.cell 1 _ rfl, hc.cell 2 _ rfl, hc.cell 3 _ rfl⟩⟩
  have hmb : ∀ w', Below w.heap.size w w' → Mb18 w' (tokV ⟨1, l, 0, 0⟩) (mbT ⟨1, l, 0, 0⟩) := fun w' _ => mayBe_any ⟨1, l, 0, 0⟩ w' (by simp) hB hl (by simp; omega)
  unfold untW
  by_cases h2 : mbT ⟨1, l, 0, 0⟩ = true
  · rw [if_pos h2]
    refine Untoken_yes _ 1 c [⟨1, l, 0, 0⟩] w rfl hR (by omega) (jnQ [l]).1 (jnQ [l]).2 (fun j hj w' hw => ?_) (fun w' hw => ?_)
    · obtain rfl : j = 0 := by simp at hj; omega
      have := hmb w' hw
      rw [h2] at this
      exact this
    · refine joined_any _ 1 c [⟨1, l, 0, 0⟩] [l] w' rfl rfl (hR.next hw) (by omega) (fun j hj hj' w'' hw' => ?_) (fun m hm => ?_)
      · obtain rfl : j = 0 := by simp at hj; omega
        exact written_any 1 l 0 0 w'' (by decide) (by omega)
      · obtain rfl : m = l := by simpa using hm
        exact hl
  · rw [if_neg h2]
    refine Untoken_no _ 1 c [⟨1, l, 0, 0⟩] w rfl hR (by omega) 0 (by omega) (fun j hj w' hjm hw => ?_)
    obtain rfl : j = 0 := by omega
    have := hmb w' hw
    rw [show mbT ⟨1, l, 0, 0⟩ = false by simpa using h2] at this
    simpa using this
/-- is it a word of the grammar? -/
def wordB (l : List Int) : Bool := mbT ⟨1, l, 0, 0⟩ && !resB (strOfNums l)
theorem unt_185 (l : List Int) : ((untW l).2 = 185) = (mbT ⟨1, l, 0, 0⟩ = false) := by
  unfold untW jnQ
  cases mbT ⟨1, l, 0, 0⟩ <;> simp
  split <;> simp
set_option maxRecDepth 100000 in
set_option maxHeartbeats 4000000 in
theorem isWord_any (l : List Int) (w : World) (hB : Pl.isB l) (hl : l.length ≤ 16777216) : Calls Tryz.prog 122 #[.string (strOfNums l)] w fun e w' => e = .returned (.bool (wordB l)) ∧ Below w.heap.size w w' := by
  obtain ⟨W, hW⟩ : ∃ W, W = w.alloc (.cells (tcs 1 (strOfNums l) 0 0) 227) := ⟨_, rfl⟩
  have hbl : Below w.heap.size w W := by rw [hW]; exact below1 _ _
  have hc : Cs W w.heap.size 227 (tcs 1 (strOfNums l) 0 0) := by rw [hW]; exact Cs.new _ _ _
  have H := hid (Untoken_word l w.heap.size 1 W hB hl hc)
  have HR := fun u => hid (isReserved_any (strOfNums l) u)
  have HW := hid hW
  have HB := hid hbl
  have e := unt_185 l
  unfold wordB
  clear hc hB hl hW hbl
  generalize (untW l).1 = u1 at *
  generalize (untW l).2 = u2 at *
  generalize strOfNums l = S at *
  cases hm : mbT ⟨1, l, 0, 0⟩ with
  | false =>
    rw [hm] at e
    obtain rfl : u2 = 185 := by simpa using e
    clear e hm HR
    go_enter Tryz.func122, Tryz.ntmps122
    go_wp2_with fail
    rw [← HW.out]
    refine Calls.mono H.out ?_
    rintro e w2 ⟨rfl, h⟩
    have H2 := hid (HB.out.trans (h.mono HB.out.size))
    clear h H
    go_wp2_with fail
    go_ret
    exact ⟨rfl, H2.out⟩
  | true =>
    rw [hm] at e
    have hne : (u2 != 185) = true := by simpa using e
    clear e hm
    go_enter Tryz.func122, Tryz.ntmps122
    go_wp2_with fail
    rw [← HW.out]
    refine Calls.mono H.out ?_
    rintro e w2 ⟨rfl, h⟩
    have H2 := hid (HB.out.trans (h.mono HB.out.size))
    clear h H
    go_wp2_with (go_at_call 134; refine (HR _).out.mono ?_; rintro e w3 ⟨rfl, rfl⟩)
    go_ret
    exact ⟨ret_bool (by simp), H2.out⟩

end Go.Proofs.YtbllaacbeagljaaGreatDoor
