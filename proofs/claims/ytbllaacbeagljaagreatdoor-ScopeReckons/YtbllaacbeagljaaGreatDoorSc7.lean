/-
  lex: strings.HasPrefix of a text and the two bytes that open a part.
-/
import Derived.Test.YtbllaacbeagljaaGreatDoorSc6
import Derived.Lib.Bytes
namespace Go.Proofs.YtbllaacbeagljaaGreatDoor
open Go.RowKit

abbrev s2 : ByteArray := ⟨#[36, 123]⟩
def pfx (zs : List Int) (b : Nat) : Bool := decide (zs.getD b 0 = 36) && decide (zs[b + 1]? = some 123)

theorem u8_eq {x : Int} (h0 : 0 ≤ x) (h1 : x < 256) (n : Nat) (hn : n < 256) : (UInt8.ofNat x.toNat = UInt8.ofNat n) ↔ x = n := by
  constructor
  · intro h
    have := congrArg UInt8.toNat h
    simp at this
    omega
  · intro h
    rw [h]
    simp
theorem two_eq {x y : Int} (hx : 0 ≤ x ∧ x < 256) (hy : 0 ≤ y ∧ y < 256) : ((strOfNums [x, y]).toList == ([36, 123] : List UInt8)) = (decide (x = 36) && decide (y = 123)) := by
  rw [Lib.strOfNums_toList]
  have e1 := u8_eq hx.1 hx.2 36 (by decide)
  have e2 := u8_eq hy.1 hy.2 123 (by decide)
  rw [Bool.eq_iff_iff]
  simp [Lib.bytesOf]
  exact and_congr e1 e2

set_option maxRecDepth 100000 in
set_option maxHeartbeats 2000000 in
theorem pre49 (S : ByteArray) (w : World) (r : Bool) (hr : if S.size < 2 then r = false else ((S.extract 0 2).toList == ([36, 123] : List UInt8)) = r) : Calls Tryz.prog 183 #[.string S, .string s2] w fun e w' => e = .returned (.bool r) ∧ w' = w := by
  by_cases q : S.size < 2
  · rw [if_pos q] at hr
    subst hr
    have q' : ¬ (2 : Int) ≤ (S.size : Int) := by omega
    go_enter Tryz.func183, Tryz.ntmps183
    go_wp2
    go_ret
    exact ⟨rfl, rfl⟩
  · rw [if_neg q] at hr
    have q' : (2 : Int) ≤ (S.size : Int) := by omega
    generalize hT : S.extract 0 2 = T at *
    go_enter Tryz.func183, Tryz.ntmps183
    go_wp2
    go_ret
    exact ⟨by rw [← hr]; rfl, rfl⟩
set_option maxRecDepth 100000 in
set_option maxHeartbeats 2000000 in
theorem pre44 (S : ByteArray) (w : World) (r : Bool) (hr : if S.size < 2 then r = false else ((S.extract 0 2).toList == ([36, 123] : List UInt8)) = r) : Calls Tryz.prog 177 #[.string S, .string s2] w fun e w' => e = .returned (.bool r) ∧ w' = w := by
  have H := hid (pre49 S w r hr)
  clear hr
  go_enter Tryz.func177, Tryz.ntmps177
  go_wp2_with fail
  refine Calls.mono H.out ?_
  rintro e w' ⟨rfl, rfl⟩
  go_wp2
  go_ret
  exact ⟨rfl, rfl⟩
theorem HasPrefix_any (zs : List Int) (hb : Pl.isB zs) (b : Nat) (hbl : b < zs.length) (w : World) : Calls Tryz.prog 177 #[.string (strOfNums (subL zs b zs.length)), .string s2] w fun e w' => e = .returned (.bool (pfx zs b)) ∧ w' = w := by
  apply pre44
  rw [str_size, subL_len (Nat.le_refl _)]
  split
  · unfold pfx
    rw [List.getElem?_eq_none (by omega)]
    simp
  · have hl : b + 1 < zs.length := by omega
    have e : subL (subL zs b zs.length) 0 2 = [zs.getD b 0, zs.getD (b + 1) 0] := by
      have hs : subL zs b zs.length = zs.drop b := by unfold subL; rw [List.take_length]
      rw [hs, drop_cons hbl, drop_cons hl]
      rfl
    rw [str_cut, e, two_eq (by rw [List.getD_eq_getElem?_getD]; exact Pl.isB_getD hb _) (by rw [List.getD_eq_getElem?_getD]; exact Pl.isB_getD hb _)]
    unfold pfx
    rw [at_some hl]
    simp

end Go.Proofs.YtbllaacbeagljaaGreatDoor
