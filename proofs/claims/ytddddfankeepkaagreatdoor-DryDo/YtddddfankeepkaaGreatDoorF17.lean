import Derived.Test.YtddddfankeepkaaGreatDoorF16
import Derived.Laws.BytesArg
import Derived.Lib.Bytealg
import Derived.Lib.Bytes
import Derived.Lib.IndexAny
import Derived.Laws.Externs
import Derived.Laws.Strings3
namespace Go.Proofs.YtddddfankeepkaaGreatDoor
open Go.RowKit
def isLow (z : Int) : Bool := (decide (97 ≤ z) && decide (z ≤ 122)) || decide (z = 126)
def isSign (z : Int) : Bool := isLow z || ((decide (48 ≤ z) && decide (z ≤ 57)) || decide (z = 46) || decide (z = 45) || decide (z = 95) || decide (z = 64))
def nmd (l : List Int) : Bool := decide (1 ≤ l.length) && decide (l.length ≤ 31) && isLow (l.getD 0 0) && l.all isSign
theorem lows_ok : ∀ n : Fin 256, (#[97, 98, 99, 100, 101, 102, 103, 104, 105, 106, 107, 108, 109, 110, 111, 112, 113, 114, 115, 116, 117, 118, 119, 120, 121, 122, 126] : Array UInt8).toList.contains (UInt8.ofNat n.val) = isLow (n.val : Int) := by decide +kernel
theorem signs_ok : ∀ n : Fin 256, (#[97, 98, 99, 100, 101, 102, 103, 104, 105, 106, 107, 108, 109, 110, 111, 112, 113, 114, 115, 116, 117, 118, 119, 120, 121, 122, 126, 48, 49, 50, 51, 52, 53, 54, 55, 56, 57, 46, 45, 95, 64] : Array UInt8).toList.contains (UInt8.ofNat n.val) = isSign (n.val : Int) := by decide +kernel
theorem lowB (z : Int) (h0 : 0 ≤ z) (h1 : z < 256) : decide (0 ≤ Lib.indexByte (#[97, 98, 99, 100, 101, 102, 103, 104, 105, 106, 107, 108, 109, 110, 111, 112, 113, 114, 115, 116, 117, 118, 119, 120, 121, 122, 126] : Array UInt8).toList z.toNat.toUInt8) = isLow z := by
 obtain ⟨n, rfl⟩ := Int.eq_ofNat_of_zero_le h0
 rw [← Lib.contains_iff_indexByte]
 exact lows_ok ⟨n, by omega⟩
theorem signB (z : Int) (h0 : 0 ≤ z) (h1 : z < 256) : decide (0 ≤ Lib.indexByte (#[97, 98, 99, 100, 101, 102, 103, 104, 105, 106, 107, 108, 109, 110, 111, 112, 113, 114, 115, 116, 117, 118, 119, 120, 121, 122, 126, 48, 49, 50, 51, 52, 53, 54, 55, 56, 57, 46, 45, 95, 64] : Array UInt8).toList z.toNat.toUInt8) = isSign z := by
 obtain ⟨n, rfl⟩ := Int.eq_ofNat_of_zero_le h0
 rw [← Lib.contains_iff_indexByte]
 exact signs_ok ⟨n, by omega⟩
set_option maxHeartbeats 1000000 in
set_option maxRecDepth 100000 in
theorem ibyte_any (s : ByteArray) (c : Int) (w : World) : Calls Tryz.prog 146 #[.string s, .int .u8 c] w fun e w' => e = .returned (.int .i64 (Lib.indexByte s.data.toList c.toNat.toUInt8)) ∧ w' = w := by
 go_enter Tryz.func146, Tryz.ntmps146
 go_wp2
 rw [run_callFunc_extern Tryz.func150 (by kernel_rfl) (by kernel_rfl) (by kernel_rfl) (e := Extern.BytealgIndexByte.indexByte) (by kernel_rfl), Lib.run_indexByteString]
 simp only [Result.andThen]
 rw [Oper.upon_value]
 go_wp2
 go_ret
 exact ⟨rfl, rfl⟩
set_option maxHeartbeats 1000000 in
theorem IndexByte_any (s : ByteArray) (c : Int) (w : World) : Calls Tryz.prog 139 #[.string s, .int .u8 c] w fun e w' => e = .returned (.int .i64 (Lib.indexByte s.data.toList c.toNat.toUInt8)) ∧ w' = w := by
 have H := hid (ibyte_any s c w)
 generalize Lib.indexByte s.data.toList c.toNat.toUInt8 = r at *
 go_enter Tryz.func139, Tryz.ntmps139
 go_wp2_with fail
 refine Calls.mono H.out ?_
 rintro e w' ⟨rfl, rfl⟩
 go_wp2
 go_ret
 exact ⟨rfl, rfl⟩
theorem str_size (l : List Int) : (strOfNums l).size = l.length := strOfNums_size l
theorem str_get (l : List Int) (hb : Pl.isB l) (i : Nat) (hi : i < l.length) (h : i < (strOfNums l).size) : ((((strOfNums l)[i]'h).toNat : Nat) : Int) = l.getD i 0 := by
 have e : (strOfNums l)[i]'h = UInt8.ofNat (l[i]'hi).toNat := by
  show ((l.map fun n => UInt8.ofNat n.toNat).toArray)[i]'(by simpa using hi) = _
  simp
 have h := hb (l[i]'hi) (List.getElem_mem hi)
 rw [e]
 simp [hi]
 omega
theorem str_one (l : List Int) (hl : 1 ≤ l.length) (u : World) : (Instr.slice 9 (.string (strOfNums l)) none (some (.int .i64 1)) none).run Tryz.prog u = .ok (.string (strOfNums [l.getD 0 0])) u := by
 rw [run_slice_string_to_if u 9 _ .i64 _ Tryz.underlying9, if_pos ⟨by decide, by rw [str_size]; omega⟩]
 cases l with
 | nil => simp at hl
 | cons z r =>
  congr 2
  apply ByteArray.ext
  simp [strOfNums]
set_option maxHeartbeats 1000000 in
set_option maxRecDepth 100000 in
theorem Contains_any (z : Int) (h0 : 0 ≤ z) (h1 : z < 256) (w : World) : Calls Tryz.prog 138 #[.string { data := #[97, 98, 99, 100, 101, 102, 103, 104, 105, 106, 107, 108, 109, 110, 111, 112, 113, 114, 115, 116, 117, 118, 119, 120, 121, 122, 126] }, .string (strOfNums [z])] w fun e w' => e = .returned (.bool (isLow z)) ∧ w' = w := by
 have hb : Pl.isB [z] := by intro x hx; simp at hx; subst hx; exact ⟨h0, h1⟩
 have hsz := str_size [z]
 have hix := str_get [z] hb 0 (by simp)
 have hne : ((strOfNums [z]).toList == ([97, 98, 99, 100, 101, 102, 103, 104, 105, 106, 107, 108, 109, 110, 111, 112, 113, 114, 115, 116, 117, 118, 119, 120, 121, 122, 126] : List UInt8)) = false := by rw [Lib.strOfNums_toList]; simp [Lib.bytesOf]
 have hL := lowB z h0 h1
 have HI := hid (ibyte_any { data := #[97, 98, 99, 100, 101, 102, 103, 104, 105, 106, 107, 108, 109, 110, 111, 112, 113, 114, 115, 116, 117, 118, 119, 120, 121, 122, 126] } z w)
 simp only [List.getD_cons_zero, List.length_cons, List.length_nil, Nat.zero_add] at hix hsz
 clear hb
 generalize strOfNums [z] = T at *
 have HX : Hid (Calls Tryz.prog 149 #[.string { data := #[97, 98, 99, 100, 101, 102, 103, 104, 105, 106, 107, 108, 109, 110, 111, 112, 113, 114, 115, 116, 117, 118, 119, 120, 121, 122, 126] }, .string T] w fun e w' => e = .returned (.int .i64 (Lib.indexByte (#[97, 98, 99, 100, 101, 102, 103, 104, 105, 106, 107, 108, 109, 110, 111, 112, 113, 114, 115, 116, 117, 118, 119, 120, 121, 122, 126] : Array UInt8).toList z.toNat.toUInt8)) ∧ w' = w) := by
  clear hL
  generalize Lib.indexByte (#[97, 98, 99, 100, 101, 102, 103, 104, 105, 106, 107, 108, 109, 110, 111, 112, 113, 114, 115, 116, 117, 118, 119, 120, 121, 122, 126] : Array UInt8).toList z.toNat.toUInt8 = r at *
  have HIX := hid hix
  clear hix
  go_enter Tryz.func149, Tryz.ntmps149
  go_wp2_with fail
  rw [HIX.out]
  refine Calls.mono HI.out ?_
  rintro e w' ⟨rfl, rfl⟩
  go_wp2
  go_ret
  exact ⟨rfl, rfl⟩
 clear HI hix hsz hne
 generalize Lib.indexByte (#[97, 98, 99, 100, 101, 102, 103, 104, 105, 106, 107, 108, 109, 110, 111, 112, 113, 114, 115, 116, 117, 118, 119, 120, 121, 122, 126] : Array UInt8).toList z.toNat.toUInt8 = r at *
 have HY : Hid (Calls Tryz.prog 145 #[.string { data := #[97, 98, 99, 100, 101, 102, 103, 104, 105, 106, 107, 108, 109, 110, 111, 112, 113, 114, 115, 116, 117, 118, 119, 120, 121, 122, 126] }, .string T] w fun e w' => e = .returned (.int .i64 r) ∧ w' = w) := by
  go_enter Tryz.func145, Tryz.ntmps145
  go_wp2_with fail
  refine Calls.mono HX.out ?_
  rintro e w' ⟨rfl, rfl⟩
  go_wp2
  go_ret
  exact ⟨rfl, rfl⟩
 rw [← hL]
 clear HX hL
 go_enter Tryz.func138, Tryz.ntmps138
 go_wp2_with fail
 refine Calls.mono HY.out ?_
 rintro e w' ⟨rfl, rfl⟩
 go_wp2
 all_goals go_ret
 all_goals exact ⟨by simp [*], rfl⟩
theorem isSign_low {z : Int} (h : isLow z = true) : isSign z = true := by unfold isSign; rw [h]; rfl
theorem nmd_no {l : List Int} {i : Nat} (hi : i < l.length) (h : isSign (l.getD i 0) = false) : nmd l = false := by
 unfold nmd
 have : l.all isSign = false := by
  rw [List.all_eq_false]
  rw [List.getD_eq_getElem?_getD, List.getElem?_eq_getElem hi] at h
  exact ⟨l[i], List.getElem_mem hi, by simpa using h⟩
 rw [this]
 simp
set_option maxRecDepth 100000 in
set_option maxHeartbeats 2000000 in
theorem IsName_any (l : List Int) (hb : Pl.isB l) (hl : l.length ≤ 16777216) (w : World) : Calls Tryz.prog 121 #[.string (strOfNums l)] w fun e w' => e = .returned (.bool (nmd l)) ∧ w' = w := by
 have hsz := str_size l
 by_cases q0 : l.length < 1
 ·have e : nmd l = false := by unfold nmd; simp [show ¬ 1 ≤ l.length from by omega]
  rw [e]
  generalize strOfNums l = S at *
  go_enter Tryz.func121, Tryz.ntmps121
  go_wp2
  go_ret
  exact ⟨rfl, rfl⟩
 by_cases q1 : 31 < l.length
 ·have e : nmd l = false := by unfold nmd; simp [show ¬ l.length ≤ 31 from by omega]
  rw [e]
  generalize strOfNums l = S at *
  go_enter Tryz.func121, Tryz.ntmps121
  go_wp2
  go_ret
  exact ⟨rfl, rfl⟩
 have hz := Pl.isB_getD hb 0
 rw [← List.getD_eq_getElem?_getD] at hz
 have h1 := str_one l (by omega)
 have HC := hid (Contains_any (l.getD 0 0) hz.1 hz.2 w)
 have HX := hid (fun i hi h => str_get l hb i hi h)
 have HB := hid hb
 generalize hS : strOfNums l = S at *
 have HS := hid hS
 clear hS
 by_cases q2 : isLow (l.getD 0 0) = true
 ·rw [q2] at HC
  generalize strOfNums [l.getD 0 0] = T at *
  clear hz hb
  go_enter Tryz.func121, Tryz.ntmps121
  go_wp2_with fail
  refine Calls.mono HC.out ?_
  rintro e w' ⟨rfl, rfl⟩
  clear HC h1
  go_wp2_with fail
  go_loop [20] (fun i => ∃ k : Nat, k ≤ l.length ∧ i = .int .i64 (k : Int) ∧ ∀ j, j < k → isSign (l.getD j 0) = true) (fun i => l.length - (intOf i).toNat)
  case atStart => exact ⟨0, Nat.zero_le _, rfl, fun j hj => by omega⟩
  case round =>
   obtain ⟨k, hk, rfl, hall⟩ := hrel
   by_cases hkn : k < l.length
   ·have hix := HX.out k hkn
    have hzb := Pl.isB_getD HB.out k
    rw [← List.getD_eq_getElem?_getD] at hzb
    have HI := hid (IndexByte_any { data := #[97, 98, 99, 100, 101, 102, 103, 104, 105, 106, 107, 108, 109, 110, 111, 112, 113, 114, 115, 116, 117, 118, 119, 120, 121, 122, 126, 48, 49, 50, 51, 52, 53, 54, 55, 56, 57, 46, 45, 95, 64] } (l.getD k 0) w')
    have hsg := signB (l.getD k 0) hzb.1 hzb.2
    have HA := hid hall
    have HG : Hid (isSign (l.getD k 0) = isSign (l.getD k 0)) := hid rfl
    clear hall hzb
    generalize hr : Lib.indexByte (#[97, 98, 99, 100, 101, 102, 103, 104, 105, 106, 107, 108, 109, 110, 111, 112, 113, 114, 115, 116, 117, 118, 119, 120, 121, 122, 126, 48, 49, 50, 51, 52, 53, 54, 55, 56, 57, 46, 45, 95, 64] : Array UInt8).toList (l.getD k 0).toNat.toUInt8 = r at *
    have HR := hid hsg
    clear hr hsg HG
    generalize hzz : l.getD k 0 = z at *
    have HZ := hid hzz
    clear hzz
    have HIX := hid hix
    clear hix
    go_wp2_with fail
    rw [HIX.out]
    refine Calls.mono HI.out ?_
    rintro e w2 ⟨rfl, rfl⟩
    clear HI HIX
    by_cases hr0 : r < 0
    ·have q3 : isSign z = false := by rw [← HR.out]; simp; omega
     go_wp2
     go_ret
     refine ⟨?_, rfl⟩
     rw [nmd_no hkn (by rw [HZ.out]; exact q3)]
     rfl
    ·go_wp2
     go_round
     case rel => exact ⟨k + 1, by omega, by go_num, fun j hj => by
      by_cases hjk : j < k
      ·exact HA.out j hjk
      ·obtain rfl : j = k := by omega
       rw [HZ.out, ← HR.out]; simp; omega⟩
     case measure => simp [intOf]; omega
   ·go_wp2
    go_ret
    refine ⟨?_, rfl⟩
    have ha : l.all isSign = true := by
     rw [List.all_eq_true]
     intro x hx
     obtain ⟨i, hi, rfl⟩ := List.getElem_of_mem hx
     have := hall i (by omega)
     rw [List.getD_eq_getElem?_getD, List.getElem?_eq_getElem hi] at this
     exact this
    have e : nmd l = true := by
     unfold nmd
     rw [ha, q2]
     simp
     omega
    rw [e]
    rfl
 ·simp only [Bool.not_eq_true] at q2
  rw [q2] at HC
  have e : nmd l = false := by unfold nmd; rw [q2]; simp
  rw [e]
  generalize strOfNums [l.getD 0 0] = T at *
  clear hz hb
  go_enter Tryz.func121, Tryz.ntmps121
  go_wp2_with fail
  refine Calls.mono HC.out ?_
  rintro e w' ⟨rfl, rfl⟩
  go_wp2
  go_ret
  exact ⟨rfl, rfl⟩
end Go.Proofs.YtddddfankeepkaaGreatDoor
