import Derived.Test.YthkkdmblkalknaaGreatDoorA05
import Derived.Test.YthkkdmblkalknaaGreatDoorA03
/-
  op: digitsOf, shown.
-/
namespace Go.Proofs.YthkkdmblkalknaaGreatDoor
open Go.RowKit

def hxs : List UInt8 := [48, 49, 50, 51, 52, 53, 54, 55, 56, 57, 97, 98, 99, 100, 101, 102]
def hex1 (z : Int) : List UInt8 := [hxs.getD (z.toNat / 16) 0, hxs.getD (z.toNat % 16) 0]
def hexL (da : List Int) : List UInt8 := da.flatMap hex1
theorem len_hexL (da : List Int) : (hexL da).length = 2 * da.length := by
  induction da with
  | nil => rfl
  | cons z r ih =>
    have e : hexL (z :: r) = hex1 z ++ hexL r := by simp [hexL]
    rw [e, List.length_append, ih]
    simp [hex1]
    omega

theorem and15 {z : Int} (h0 : 0 ≤ z) (h1 : z < 256) : bits BinOp.and IntKind.u8 z 15 = z % 16 := by
  obtain ⟨n, rfl⟩ := Int.eq_ofNat_of_zero_le h0
  have := u8_and_nat n 15 (by omega) (by decide)
  rw [show ((15 : Nat) : Int) = 15 from rfl] at this
  rw [this]
  have e : n &&& 15 = n % 16 := Nat.and_two_pow_sub_one_eq_mod n 4
  rw [e]
  omega
theorem hex_lit (z : Int) (h0 : 0 ≤ z) (h1 : z < 256) (h2 : (z / 16).toNat < (⟨#[48, 49, 50, 51, 52, 53, 54, 55, 56, 57, 97, 98, 99, 100, 101, 102]⟩ : ByteArray).size) (h3 : (z % 16).toNat < (⟨#[48, 49, 50, 51, 52, 53, 54, 55, 56, 57, 97, 98, 99, 100, 101, 102]⟩ : ByteArray).size) : hex1 z = [(⟨#[48, 49, 50, 51, 52, 53, 54, 55, 56, 57, 97, 98, 99, 100, 101, 102]⟩ : ByteArray)[(z / 16).toNat]'h2] ++ [(⟨#[48, 49, 50, 51, 52, 53, 54, 55, 56, 57, 97, 98, 99, 100, 101, 102]⟩ : ByteArray)[(z % 16).toNat]'h3] := by
  have e1 : (z / 16).toNat = z.toNat / 16 := by omega
  have e2 : (z % 16).toNat = z.toNat % 16 := by omega
  have key : ∀ (i : Nat) (h : i < (⟨#[48, 49, 50, 51, 52, 53, 54, 55, 56, 57, 97, 98, 99, 100, 101, 102]⟩ : ByteArray).size), hxs.getD i 0 = (⟨#[48, 49, 50, 51, 52, 53, 54, 55, 56, 57, 97, 98, 99, 100, 101, 102]⟩ : ByteArray)[i]'h := by
    intro i h
    show hxs.getD i 0 = (#[48, 49, 50, 51, 52, 53, 54, 55, 56, 57, 97, 98, 99, 100, 101, 102] : Array UInt8)[i]'h
    have h' : i < 16 := h
    unfold hxs
    simp [h']
  unfold hex1
  rw [key _ (by rw [← e1]; exact h2), key _ (by rw [← e2]; exact h3)]
  simp only [e1, e2]
  rfl

set_option maxRecDepth 100000 in
set_option maxHeartbeats 4000000 in
theorem digits_any (a : Option Addr) (n c : Nat) (da : List Int) (w : World) (hn : n ≤ 16777216) (hR : Rd w.heap.size w a n da) :
    Calls Tryz.prog 103 #[.slice a n c] w fun e w' => e = .returned (.string ⟨(hexL da).toArray⟩) ∧ Below w.heap.size w w' := by
  have HB := hid (Bd.fresh w)
  have HR := hid hR
  obtain ⟨W, hW⟩ : ∃ W, W = w.alloc (.cells #[.pointer none, .slice none 0 0] 84) := ⟨_, rfl⟩
  have b1 : Below w.heap.size w W := by rw [hW]; exact below1 _ _
  rw [← hW] at HB
  have HW := hid hW
  have HB1 := hid b1
  have hnl := hR.1
  clear hR hW b1
  obtain ⟨b, hb⟩ : ∃ b, b = w.heap.size := ⟨_, rfl⟩
  have HBB := hid hb
  clear hb
  go_enter Tryz.func103, Tryz.ntmps103
  go_wp2_with fail
  rw [← HW.out]
  rw [← HBB.out]
  rw [← HBB.out] at HB
  go_loopw [8] (fun i wr => ∃ r : Nat, r ≤ n ∧ i = .int .i64 (r : Int) ∧ Below w.heap.size w wr ∧ Bd b b (hexL (da.take r)) wr) (fun i _ => n - (intOf i).toNat)
  case atStart => exact ⟨0, Nat.zero_le _, rfl, HB1.out, HB.out⟩
  case round =>
    obtain ⟨r, hr, rfl, hb, hB⟩ := hrel
    by_cases hlt : r < n
    · have hR2 := HR.out.below hb
      obtain ⟨g, off, rfl, hgl, hc⟩ := hR2.2.2.resolve_left (by omega)
      have hc0 := hc r hlt
      have hz := Pl.isB_getD HR.out.2.1 r
      generalize hz0 : da.getD r 0 = z at *
      have HZ0 := hid hz0
      clear hc hR2 hz0
      have hz := hz
      rw [show da[r]?.getD 0 = z from by rw [← HZ0.out, List.getD_eq_getElem?_getD]] at hz
      have z1 : 0 ≤ z / 16 := by omega
      have z2 : z / 16 < 16 := by omega
      have HWB := hid (fun (l : List UInt8) (ch : UInt8) (W0 : World) (h0 : Bd b b l W0) (hl : l.length ≤ 134217728) (hw : Below w.heap.size w W0) => WByte_any b b l ch W0 h0 (by omega) (by rw [HBB.out]; exact hw.size))
      have HL := hid (show (hexL (da.take r)).length ≤ 33554432 by rw [len_hexL, List.length_take]; omega)
      have HBw := hid hb
      have HBd := hid hB
      clear hb hB
      go_wp2_with fail
      refine (HWB.out _ _ _ HBd.out (Nat.le_trans HL.out (by decide)) HBw.out).mono ?_
      rintro e w4 ⟨rfl, h4, b4⟩
      have HBw4 := hid (HBw.out.trans (b4.mono (Nat.le_of_eq HBB.out.symm)))
      have HBd4 := hid h4
      clear h4 b4 HBw HBd hc0
      have hand : bits BinOp.and IntKind.u8 z 15 = z % 16 := and15 hz.1 hz.2
      have z3 : 0 ≤ z % 16 := by omega
      have z4 : z % 16 < 16 := by omega
      go_wp2_with fail
      refine (HWB.out _ _ _ HBd4.out (by have := HL.out; simp; omega) HBw4.out).mono ?_
      rintro e w5 ⟨rfl, h5, b5⟩
      have HF := hid (And.intro (HBw4.out.trans (b5.mono (Nat.le_of_eq HBB.out.symm))) h5)
      clear h5 b5 HBw4 HBd4 HWB
      go_wp2
      go_roundw
      case rel =>
        refine ⟨r + 1, by omega, by go_num, HF.out.1, ?_⟩
        have e : hexL (da.take (r + 1)) = hexL (da.take r) ++ hex1 z := by
          unfold hexL
          rw [List.take_add_one, List.flatMap_append, List.getElem?_eq_getElem (by omega)]
          have : da[r]'(by omega) = z := by have := HZ0.out; simpa [show r < da.length by omega] using this
          simp [this]
        rw [e, hex_lit z hz.1 hz.2 (by show _ < 16; omega) (by show _ < 16; omega)]
        have := HF.out.2
        rw [List.append_assoc] at this
        exact this
      case measure => simp [intOf]; omega
    · obtain rfl : r = n := by omega
      have HF := hid (And.intro hb hB)
      clear hb hB
      have H42 := hid (BStr_any b b _ wr HF.out.2 (by rw [HBB.out]; exact HF.out.1.size))
      go_wp2_with fail
      refine H42.out.mono ?_
      rintro e w5 ⟨rfl, h5⟩
      have HE := hid (HF.out.1.trans (h5.mono (Nat.le_of_eq HBB.out.symm)))
      clear h5 H42
      go_wp2
      go_ret
      refine ⟨?_, HE.out⟩
      rw [List.take_of_length_le (by omega)]
      rfl

/-- what stands in a line in the place of a word -/
def shownB (o : PO) (x : ByteArray) : ByteArray := if x = cNM then o.nm else if x = cOT then o.ot else if x = cFR then itoaB o.fr else if x = cTO then itoaB o.to else if x = cDA then ⟨(hexL o.da).toArray⟩ else x

set_option maxRecDepth 100000 in
set_option maxHeartbeats 4000000 in
theorem shown_any (o : PO) (x : ByteArray) (a : Option Addr) (c : Nat) (w : World) (hG : GT w) (hn : o.da.length ≤ 16777216) (hR : Rd w.heap.size w a o.da.length o.da) (f0 : -9223372036854775808 ≤ o.fr) (f1 : o.fr ≤ 9223372036854775807) (t0 : -9223372036854775808 ≤ o.to) (t1 : o.to ≤ 9223372036854775807) :
    Calls Tryz.prog 71 #[opV o.k o.nm o.ot o.fr o.to a o.da.length c, .string x] w fun e w' => e = .returned (.string (shownB o x)) ∧ Below w.heap.size w w' := by
  obtain ⟨W, hW⟩ : ∃ W, W = w.alloc (.cells #[.int .i64 o.k, .string o.nm, .string o.ot, .int .i64 o.fr, .int .i64 o.to, .slice a o.da.length c] 29) := ⟨_, rfl⟩
  have b1 : Below w.heap.size w W := by rw [hW]; exact below1 _ _
  have H1 := hid (Itoa_any o.fr f0 f1 W (hG.next b1))
  have H2 := hid (Itoa_any o.to t0 t1 W (hG.next b1))
  have H3 := hid (digits_any a o.da.length c o.da W hn ((hR.below b1).mono b1.size))
  have HB := hid b1
  have HW := hid hW
  clear hG hn hR f0 f1 t0 t1 b1 hW
  by_cases h0 : x = cNM
  · have q0 : (x.toList == ([78, 65, 77, 69] : List UInt8)) = true := by rw [beq_lit]; simp [h0]
    have e : shownB o x = o.nm := by unfold shownB; rw [if_pos h0]
    rw [e]
    clear e h0
    go_enter Tryz.func71, Tryz.ntmps71
    go_wp2
    go_ret
    exact ⟨rfl, below1 _ _⟩
  have q0 : (x.toList == ([78, 65, 77, 69] : List UInt8)) = false := by rw [beq_lit]; simp [h0]
  by_cases h1 : x = cOT
  · have q1 : (x.toList == ([79, 84, 72, 69, 82] : List UInt8)) = true := by rw [beq_lit]; simp [h1]
    have e : shownB o x = o.ot := by unfold shownB; rw [if_neg h0, if_pos h1]
    rw [e]
    clear e h0 h1
    go_enter Tryz.func71, Tryz.ntmps71
    go_wp2
    go_ret
    exact ⟨rfl, below1 _ _⟩
  have q1 : (x.toList == ([79, 84, 72, 69, 82] : List UInt8)) = false := by rw [beq_lit]; simp [h1]
  by_cases h2 : x = cFR
  · have q2 : (x.toList == ([70, 82, 79, 77] : List UInt8)) = true := by rw [beq_lit]; simp [h2]
    have e : shownB o x = itoaB o.fr := by unfold shownB; rw [if_neg h0, if_neg h1, if_pos h2]
    rw [e]
    clear e h0 h1 h2
    go_enter Tryz.func71, Tryz.ntmps71
    go_wp2_with fail
    rw [← HW.out]
    refine H1.out.mono ?_
    rintro e w4 ⟨rfl, b4⟩
    have HE := hid (HB.out.trans (b4.mono HB.out.size))
    clear b4
    go_wp2
    go_ret
    exact ⟨rfl, HE.out⟩
  have q2 : (x.toList == ([70, 82, 79, 77] : List UInt8)) = false := by rw [beq_lit]; simp [h2]
  by_cases h3 : x = cTO
  · have q3 : (x.toList == ([84, 79] : List UInt8)) = true := by rw [beq_lit]; simp [h3]
    have e : shownB o x = itoaB o.to := by unfold shownB; rw [if_neg h0, if_neg h1, if_neg h2, if_pos h3]
    rw [e]
    clear e h0 h1 h2 h3
    go_enter Tryz.func71, Tryz.ntmps71
    go_wp2_with fail
    rw [← HW.out]
    refine H2.out.mono ?_
    rintro e w4 ⟨rfl, b4⟩
    have HE := hid (HB.out.trans (b4.mono HB.out.size))
    clear b4
    go_wp2
    go_ret
    exact ⟨rfl, HE.out⟩
  have q3 : (x.toList == ([84, 79] : List UInt8)) = false := by rw [beq_lit]; simp [h3]
  by_cases h4 : x = cDA
  · have q4 : (x.toList == ([68, 65, 84, 65] : List UInt8)) = true := by rw [beq_lit]; simp [h4]
    have e : shownB o x = ⟨(hexL o.da).toArray⟩ := by unfold shownB; rw [if_neg h0, if_neg h1, if_neg h2, if_neg h3, if_pos h4]
    rw [e]
    clear e h0 h1 h2 h3 h4
    go_enter Tryz.func71, Tryz.ntmps71
    go_wp2_with fail
    rw [← HW.out]
    refine H3.out.mono ?_
    rintro e w4 ⟨rfl, b4⟩
    have HE := hid (HB.out.trans (b4.mono HB.out.size))
    clear b4
    go_wp2
    go_ret
    exact ⟨rfl, HE.out⟩
  have q4 : (x.toList == ([68, 65, 84, 65] : List UInt8)) = false := by rw [beq_lit]; simp [h4]
  have e : shownB o x = x := by unfold shownB; rw [if_neg h0, if_neg h1, if_neg h2, if_neg h3, if_neg h4]
  rw [e]
  clear e h0 h1 h2 h3 h4
  go_enter Tryz.func71, Tryz.ntmps71
  go_wp2
  go_ret
  exact ⟨rfl, below1 _ _⟩

end Go.Proofs.YthkkdmblkalknaaGreatDoor
/-
  op: bytesOf.
-/
namespace Go.Proofs.YthkkdmblkalknaaGreatDoor
open Go.RowKit

/-- a digit's worth; -1: it is none -/
def hv (c : UInt8) : Int := Lib.indexByte hxs c
set_option maxRecDepth 100000 in
theorem hv_bd_fin : ∀ n : Fin 256, -1 ≤ hv (UInt8.ofNat n.val) ∧ hv (UInt8.ofNat n.val) < 16 := by decide +kernel
theorem hv_bd (c : UInt8) : -1 ≤ hv c ∧ hv c < 16 := by
  have := hv_bd_fin ⟨c.toNat, c.toNat_lt⟩
  simpa using this
/-- the bytes behind so many digits -/
def unh (l : List UInt8) (r : Nat) : List Int := (List.range 512).map fun j => if 2 * j + 1 < r then 16 * hv (l.getD (2 * j) 0) + hv (l.getD (2 * j + 1) 0) else if 2 * j < r then hv (l.getD (2 * j) 0) else 0
def okHex (s : ByteArray) : Bool := decide (s.size = 1024) && s.data.toList.all fun c => decide (0 ≤ hv c)
def hexB (s : ByteArray) : List Int := if okHex s = true then unh s.data.toList 1024 else []
theorem len_unh (l : List UInt8) (r : Nat) : (unh l r).length = 512 := by unfold unh; rw [List.length_map, List.length_range]
theorem unh_get (l : List UInt8) (r j : Nat) (hj : j < 512) : (unh l r).getD j 0 = if 2 * j + 1 < r then 16 * hv (l.getD (2 * j) 0) + hv (l.getD (2 * j + 1) 0) else if 2 * j < r then hv (l.getD (2 * j) 0) else 0 := by
  unfold unh
  rw [List.getD_eq_getElem?_getD, List.getElem?_map, List.getElem?_range hj]
  rfl
set_option maxRecDepth 100000 in
theorem unh_zero (l : List UInt8) : unh l 0 = zeros 512 := by
  apply List.ext_getElem
  · rw [len_unh, length_zeros]
  · intro i h1 h2
    have h3 : i < 512 := by rw [len_unh] at h1; exact h1
    have := unh_get l 0 i h3
    rw [List.getD_eq_getElem?_getD, List.getElem?_eq_getElem h1] at this
    simp only [Option.getD_some] at this
    rw [this, if_neg (by omega), if_neg (by omega)]
    show 0 = (List.replicate 512 0)[i]
    rw [List.getElem_replicate]
theorem unh_next (l : List UInt8) (r : Nat) (hr : r < 1024) : unh l (r + 1) = (unh l r).set (r / 2) (16 * (unh l r).getD (r / 2) 0 + hv (l.getD r 0)) := by
  apply List.ext_getElem
  · rw [List.length_set, len_unh, len_unh]
  · intro i h1 h2
    have h3 : i < 512 := by rw [len_unh] at h1; exact h1
    have a1 := unh_get l (r + 1) i h3
    have a2 := unh_get l r i h3
    have a3 := unh_get l r (r / 2) (by omega)
    rw [List.getD_eq_getElem?_getD, List.getElem?_eq_getElem h1] at a1
    rw [List.getD_eq_getElem?_getD, List.getElem?_eq_getElem (by rw [len_unh]; exact h3)] at a2
    simp only [Option.getD_some] at a1 a2
    rw [a1, List.getElem_set]
    by_cases e : r / 2 = i
    · rw [if_pos e]
      subst e
      rw [a3]
      rcases Nat.mod_two_eq_zero_or_one r with h | h
      · have e1 : 2 * (r / 2) = r := by omega
        rw [e1, if_neg (by omega), if_pos (by omega), if_neg (by omega), if_neg (by omega)]
        omega
      · have e1 : 2 * (r / 2) + 1 = r := by omega
        rw [if_pos (by omega), if_neg (by omega), if_pos (by omega), e1]
    · rw [if_neg e, a2]
      by_cases q : 2 * i + 1 < r
      · rw [if_pos q, if_pos (by omega)]
      · rw [if_neg q, if_neg (by omega)]
        by_cases q2 : 2 * i < r
        · rw [if_pos q2, if_pos (by omega)]
        · rw [if_neg q2, if_neg (by omega)]

theorem or16 {z d : Int} (h0 : 0 ≤ z) (h1 : z < 16) (d0 : 0 ≤ d) (d1 : d < 16) : bits BinOp.or IntKind.u8 (z * 16) d = 16 * z + d := by
  obtain ⟨a, rfl⟩ := Int.eq_ofNat_of_zero_le h0
  obtain ⟨b, rfl⟩ := Int.eq_ofNat_of_zero_le d0
  have e : ((a : Int) * 16) = ((a * 16 : Nat) : Int) := by omega
  rw [e, u8_or_nat _ _ (by omega) (by omega)]
  have := Nat.shiftLeft_add_eq_or_of_lt (i := 4) (b := b) (by omega) a
  rw [Nat.shiftLeft_eq] at this
  have e2 : a * 16 ||| b = a * 16 + b := by simpa using this.symm
  rw [e2]
  omega
theorem Ow.of_blk512 {B g : Nat} {w : World} {zs : List Int} (h : Blk .u8 5 w g zs) (hl : zs.length = 512) (hB : B ≤ g) : Ow B w (.slice (some ⟨g, 0, none⟩) 512 512) zs := by
  unfold Ow
  rw [hl]
  refine ⟨by simp [hl], .inr ⟨g, 512, _, rfl, hB, h, Nat.le_refl _, by decide, by simp [hl], ?_⟩⟩
  rw [List.take_of_length_le (by simp [hl])]

set_option maxRecDepth 100000 in
set_option maxHeartbeats 8000000 in
theorem bytesOf_any (s : ByteArray) (w : World) : Calls Tryz.prog 110 #[.string s] w fun e w' => ∃ v, e = .returned (.tuple #[v, .bool (okHex s)]) ∧ Ow w.heap.size w' v (hexB s) ∧ Below w.heap.size w w' := by
  by_cases hsz : s.size = 1024
  case neg =>
    have e1 : okHex s = false := by unfold okHex; simp [hsz]
    have e2 : hexB s = [] := by unfold hexB; rw [e1]; rfl
    rw [e1, e2]
    have q : ((s.size : Int) != 1024) = true := by simp; omega
    clear e1 e2 hsz
    go_enter Tryz.func110, Tryz.ntmps110
    go_wp2
    go_ret2
    exact ⟨_, rfl, Ow.nil _ _, Below.refl _ _⟩
  case pos =>
    have hmk : ∀ u : World, (Instr.makeSlice 23 (.int .i64 512) (.int .i64 512)).run Tryz.prog u = .ok (.slice (some ⟨u.heap.size, 0, none⟩) 512 512) (u.alloc (.cells ((zeros 512).map (Value.int .u8)).toArray 5)) := fun u => make_u8 512 (by decide) u
    obtain ⟨W, hW⟩ : ∃ W, W = w.alloc (.cells ((zeros 512).map (Value.int .u8)).toArray 5) := ⟨_, rfl⟩
    have hB0 : Blk .u8 5 W w.heap.size (unh s.data.toList 0) := by rw [unh_zero, hW]; exact Blk.new w (zeros 512)
    have b0 : Below w.heap.size w W := by rw [hW]; exact below1 _ _
    have HB0 := hid hB0
    have Hb0 := hid b0
    have HW := hid hW
    have hsz' : (s.size : Int) = 1024 := by omega
    obtain ⟨g, hg⟩ : ∃ g, g = w.heap.size := ⟨_, rfl⟩
    have HG := hid hg
    rw [← hg] at HB0
    have HSZ := hid hsz
    clear hW hB0 b0 hg hsz
    go_enter Tryz.func110, Tryz.ntmps110
    go_wp2_with fail
    rw [← HW.out]
    rw [← HG.out]
    go_loopw [13] (fun i wr => ∃ r : Nat, r ≤ 1024 ∧ i = .int .i64 (r : Int) ∧ Below w.heap.size w wr ∧ Blk .u8 5 wr g (unh s.data.toList r) ∧ ∀ j, j < r → 0 ≤ hv (s.data.toList.getD j 0)) (fun i _ => 1024 - (intOf i).toNat)
    case atStart => exact ⟨0, Nat.zero_le _, rfl, Hb0.out, HB0.out, fun j hj => by omega⟩
    case round =>
      clear hmk HB0 Hb0 HW
      obtain ⟨r, hr, rfl, hb, hB, hall⟩ := hrel
      by_cases hlt : r < 1024
      · have hlt' : (r : Int) < 1024 := by omega
        have hix : ∀ h : r < s.data.size, ((s.data[r]'h).toNat : Int) = ((s.data.toList.getD r 0).toNat : Int) := by
          intro h
          rw [List.getD_eq_getElem?_getD, List.getElem?_eq_getElem (by simpa using h)]
          rfl
        have HIY : Hid (∀ h : r < s.size, ((s[r]'h).toNat : Int) = ((s.data.toList.getD r 0).toNat : Int)) := fun h => hix h
        have hrs : r < s.size := by have := HSZ.out; omega
        have hbd := hv_bd (s.data.toList.getD r 0)
        have hIB := IndexByte_any ⟨#[48, 49, 50, 51, 52, 53, 54, 55, 56, 57, 97, 98, 99, 100, 101, 102]⟩ ((s.data.toList.getD r 0).toNat : Int) wr
        rw [show Lib.indexByte (⟨#[48, 49, 50, 51, 52, 53, 54, 55, 56, 57, 97, 98, 99, 100, 101, 102]⟩ : ByteArray).data.toList ((s.data.toList.getD r 0).toNat : Int).toNat.toUInt8 = hv (s.data.toList.getD r 0) from by unfold hv hxs; simp] at hIB
        have hnx := unh_next s.data.toList r hlt
        have hcl := hB.cell (r / 2) (by rw [len_unh]; omega)
        have hfz := hB.frozen (r / 2)
        have HIB := hid hIB
        have HNX := hid hnx
        have HBk := hid hB
        have HAL := hid hall
        have HBl := hid hb
        have HIX := hid hix
        generalize hz : (unh s.data.toList r).getD (r / 2) 0 = z at *
        have hzb : 0 ≤ z ∧ z < 16 := by
          rw [← hz, unh_get _ _ _ (by omega), if_neg (by omega)]
          split
          · have h1 := hv_bd (s.data.toList.getD (2 * (r / 2)) 0)
            exact ⟨HAL.out _ (by omega), h1.2⟩
          · omega
        generalize hd : hv (s.data.toList.getD r 0) = d at *
        have HD := hid hd
        clear hIB hnx hB hall hb hix hz hd
        go_wp2_with fail
        first | rw [HIX.out] | rw [HIY.out]
        refine HIB.out.mono ?_
        rintro e w4 ⟨rfl, rfl⟩
        clear HIB HIX HIY
        by_cases hd0 : d < 0
        · have HK : Hid (okHex s = false) := by
            show okHex s = false
            unfold okHex
            have : (s.data.toList.all fun c => decide (0 ≤ hv c)) = false := by
              rw [List.all_eq_false]
              have hl : r < s.data.toList.length := by rw [Array.length_toList]; exact hrs
              refine ⟨s.data.toList[r], List.getElem_mem hl, ?_⟩
              have := HD.out
              rw [List.getD_eq_getElem?_getD, List.getElem?_eq_getElem hl, Option.getD_some] at this
              rw [this]
              simpa using hd0
            rw [this, Bool.and_false]
          go_wp2
          go_ret2
          refine ⟨.slice none 0 0, ?_, ?_, HBl.out⟩
          · rw [HK.out]; rfl
          · unfold hexB; rw [HK.out]; exact Ow.nil _ _
        · have hd0' : 0 ≤ d := by omega
          go_wp2_with fail
          refine ⟨⟨r + 1, by omega, by go_num, ?_, ?_, ?_⟩, by simp [intOf]; omega⟩
          · exact HBl.out.setCell (p := ⟨g, r / 2, none⟩) (by show w.heap.size ≤ g; have := HG.out; omega) _
          · rw [HNX.out, or16 hzb.1 hzb.2 hd0' hbd.2]
            exact HBk.out.set _ _
          · intro j hj
            by_cases e : j = r
            · subst e; rw [HD.out]; exact hd0'
            · exact HAL.out j (by omega)
      · obtain rfl : r = 1024 := by omega
        have HK : Hid (okHex s = true) := by
          show okHex s = true
          unfold okHex
          rw [decide_eq_true HSZ.out, Bool.true_and, List.all_eq_true]
          intro c hc
          obtain ⟨i, hi, rfl⟩ := List.getElem_of_mem hc
          have h1 : i < 1024 := by rw [Array.length_toList] at hi; have := HSZ.out; exact (show s.data.size = 1024 from this) ▸ hi
          have := hall i h1
          rw [List.getD_eq_getElem?_getD, List.getElem?_eq_getElem hi, Option.getD_some] at this
          simpa using this
        have HBk := hid hB
        have HBl := hid hb
        clear hB hb hall
        go_wp2
        go_ret2
        refine ⟨.slice (some ⟨g, 0, none⟩) 512 512, ?_, ?_, HBl.out⟩
        · rw [HK.out]; rfl
        · unfold hexB
          rw [HK.out, if_pos rfl]
          exact Ow.of_blk512 HBk.out (len_unh _ _) (by have := HG.out; omega)

end Go.Proofs.YthkkdmblkalknaaGreatDoor
/-
  Unpack: what is refused; CopyInts.
-/
namespace Go.Proofs.YthkkdmblkalknaaGreatDoor
open Go.RowKit

/-- what an Unpack that is refused answers -/
def perr (E : Int) : Value := .tuple #[.slice none 0 0, .int .i64 E]

set_option maxRecDepth 100000 in
set_option maxHeartbeats 1000000 in
theorem Unpack_width (a a2 : Option Addr) (n c m c2 : Nat) (ws : List Int) (w : World) (hm : m ≤ 16777216) (hR2 : RdI w.heap.size w a2 m ws) (hbad : ¬ okW ws) :
    Calls Tryz.prog 105 #[.slice a n c, .slice a2 m c2] w fun e w' => e = .returned (perr 10) ∧ w' = w := by
  obtain ⟨hl, h3⟩ := hR2
  go_enter Tryz.func105, Tryz.ntmps105
  go_wp2
  go_loop [6, 16] (fun s i => ∃ k : Nat, k ≤ m ∧ i = .int .i64 (k : Int) ∧ s = .int .i64 (sumW (ws.take k) : Int) ∧ okW (ws.take k)) (fun _ i => m - (intOf i).toNat)
  case atStart => exact ⟨0, Nat.zero_le _, rfl, rfl, by intro x hx; simp at hx⟩
  case round =>
    obtain ⟨k, hk, rfl, rfl, hokk⟩ := hrel
    by_cases hkm : k < m
    · obtain ⟨b, off, rfl, hb, hc⟩ := h3.resolve_left (by omega)
      obtain ⟨x, hx⟩ : ∃ x, x = ws.getD k 0 := ⟨_, rfl⟩
      have hcx := hc k hkm
      have hs := sumW_snoc (ws := ws) (k := k) (by omega)
      have hle := sumW_le hokk
      rw [List.length_take] at hle
      have hts := take_snoc (L := ws) (j := k) (by omega)
      rw [← List.getD_eq_getElem?_getD, ← hx] at hts
      rw [← hx] at hcx hs
      have HS := hid hs
      have HT := hid hts
      have HO := hid hokk
      have hle2 : sumW (ws.take k) ≤ 134217728 := by omega
      clear hs hle hx hc hts hokk
      generalize sumW (ws.take k) = pl at *
      by_cases hck : wfB x = true
      · obtain ⟨x1, x2⟩ := wf_bd hck
        go_wp2_with (go_at_call 128; refine (widthFits_any x _).mono ?_; rintro e w1 ⟨rfl, rfl⟩)
        go_round
        case rel =>
          refine ⟨k + 1, by omega, by go_num, by rw [HS.out]; congr 1; omega, ?_⟩
          rw [HT.out]
          intro y hy
          rcases List.mem_append.1 hy with h | h
          · exact HO.out y h
          · simp at h; rw [h]; exact hck
        case measure => simp [intOf]; omega
      · have hck2 : wfB x = false := by simpa using hck
        clear hck
        go_wp2_with (go_at_call 128; refine (widthFits_any x _).mono ?_; rintro e w1 ⟨rfl, rfl⟩)
        go_ret2
        exact ⟨rfl, rfl⟩
    · exact absurd (by rw [List.take_of_length_le (by omega)] at hokk; exact hokk) hbad

set_option maxRecDepth 100000 in
set_option maxHeartbeats 1000000 in
theorem Unpack_size (a a2 : Option Addr) (n c m c2 : Nat) (ws : List Int) (w : World) (hm : m ≤ 16777216) (hR2 : RdI w.heap.size w a2 m ws) (hok : okW ws) (hbad : n ≠ sumW ws) :
    Calls Tryz.prog 105 #[.slice a n c, .slice a2 m c2] w fun e w' => e = .returned (perr 12) ∧ w' = w := by
  obtain ⟨hl, h3⟩ := hR2
  go_enter Tryz.func105, Tryz.ntmps105
  go_wp2
  go_loop [6, 16] (fun s i => ∃ k : Nat, k ≤ m ∧ i = .int .i64 (k : Int) ∧ s = .int .i64 (sumW (ws.take k) : Int)) (fun _ i => m - (intOf i).toNat)
  case atStart => exact ⟨0, Nat.zero_le _, rfl, rfl⟩
  case round =>
    obtain ⟨k, hk, rfl, rfl⟩ := hrel
    by_cases hkm : k < m
    · obtain ⟨b, off, rfl, hb, hc⟩ := h3.resolve_left (by omega)
      obtain ⟨x, hx⟩ : ∃ x, x = ws.getD k 0 := ⟨_, rfl⟩
      have hmem : ws.getD k 0 ∈ ws := by
        have : k < ws.length := by omega
        simp [this]
      have hck := hok _ hmem
      have hcx := hc k hkm
      have hs := sumW_snoc (ws := ws) (k := k) (by omega)
      have hle := sumW_le (ws := ws.take k) (fun f hf => hok f (List.mem_of_mem_take hf))
      rw [List.length_take] at hle
      rw [← hx] at hcx hck hs
      have HS := hid hs
      obtain ⟨x1, x2⟩ := wf_bd hck
      have hle2 : sumW (ws.take k) ≤ 134217728 := by omega
      clear hs hle hx hmem hc hbad
      generalize sumW (ws.take k) = pl at *
      go_wp2_with (go_at_call 128; refine (widthFits_any x _).mono ?_; rintro e w1 ⟨rfl, rfl⟩)
      go_round
      case rel => exact ⟨k + 1, by omega, by go_num, by rw [HS.out]; congr 1; omega⟩
      case measure => simp [intOf]; omega
    · have e : ws.take k = ws := List.take_of_length_le (by omega)
      rw [e]
      have hne : ((n : Int) != (sumW ws : Int)) = true := by simp; omega
      clear e
      generalize sumW ws = T at *
      go_wp2
      go_ret2
      exact ⟨rfl, rfl⟩

set_option maxRecDepth 100000 in
set_option maxHeartbeats 1000000 in
theorem Unpack_value (a a2 : Option Addr) (n c m c2 : Nat) (zs ws : List Int) (w : World) (hm : m ≤ 16777216) (hcap : n ≤ c) (hR : Rd w.heap.size w a n zs) (hR2 : RdI w.heap.size w a2 m ws) (hok : okW ws) (hn : n = sumW ws) (hbad : ∃ k, k < m ∧ 9223372036854775807 < valK zs ws k) :
    Calls Tryz.prog 105 #[.slice a n c, .slice a2 m c2] w fun e w' => e = .returned (perr 11) ∧ Below w.heap.size w w' := by
  obtain ⟨hl, h3⟩ := hR2
  have HN := hid hn
  have HBAD := hid hbad
  have hle := sumW_le hok
  have hn2 : n ≤ 134217728 := by omega
  clear hle hn hbad
  go_enter Tryz.func105, Tryz.ntmps105
  go_wp2
  go_loop [6, 16] (fun s i => ∃ k : Nat, k ≤ m ∧ i = .int .i64 (k : Int) ∧ s = .int .i64 (sumW (ws.take k) : Int)) (fun _ i => m - (intOf i).toNat)
  case atStart => exact ⟨0, Nat.zero_le _, rfl, rfl⟩
  case round =>
    obtain ⟨k, hk, rfl, rfl⟩ := hrel
    by_cases hkm : k < m
    · obtain ⟨b, off, rfl, hb, hc⟩ := h3.resolve_left (by omega)
      obtain ⟨x, hx⟩ : ∃ x, x = ws.getD k 0 := ⟨_, rfl⟩
      have hmem : ws.getD k 0 ∈ ws := by
        have : k < ws.length := by omega
        simp [this]
      have hck := hok _ hmem
      have hcx := hc k hkm
      have hs := sumW_snoc (ws := ws) (k := k) (by omega)
      have hle := sumW_le (ws := ws.take k) (fun f hf => hok f (List.mem_of_mem_take hf))
      rw [List.length_take] at hle
      rw [← hx] at hcx hck hs
      have HS := hid hs
      obtain ⟨x1, x2⟩ := wf_bd hck
      have hle2 : sumW (ws.take k) ≤ 134217728 := by omega
      clear hs hle hx hmem hc
      generalize sumW (ws.take k) = pl at *
      go_wp2_with (go_at_call 128; refine (widthFits_any x _).mono ?_; rintro e w1 ⟨rfl, rfl⟩)
      go_round
      case rel => exact ⟨k + 1, by omega, by go_num, by rw [HS.out]; congr 1; omega⟩
      case measure => simp [intOf]; omega
    · have e : ws.take k = ws := List.take_of_length_le (by omega)
      rw [e, ← HN.out]
      have hmk := make_i64 m (by omega)
      have hB0 := hid (Blk.new (k := .i64) (e := 3) w (zeros m))
      have hb0 : Below w.heap.size w (w.alloc (.cells ((zeros m).map (Value.int .i64)).toArray 3)) := (Below.refl _ _).alloc (Nat.le_refl _) _
      have Hb0 := hid hb0
      clear e hb0
      go_wp2
      clear hkm hk
      go_loopw [10, 36] (fun s i wt => ∃ (k : Nat) (ys : List Int), k ≤ m ∧ i = .int .i64 (k : Int) ∧ s = .int .i64 (sumW (ws.take k) : Int) ∧ Blk .i64 3 wt w.heap.size ys ∧ ys.length = m ∧ Below w.heap.size w wt ∧ (∀ j, j < k → valK zs ws j ≤ 9223372036854775807)) (fun _ i _ => m - (intOf i).toNat)
      case atStart => exact ⟨0, zeros m, Nat.zero_le _, rfl, rfl, hB0.out, length_zeros m, Hb0.out, fun j h => by omega⟩
      case round =>
        obtain ⟨k, ys, hk, rfl, rfl, hBk, hyl, hbt, hvs⟩ := hrel
        have HB := hid hBk
        have HV := hid hvs
        clear hBk hvs
        by_cases hkm : k < m
        · obtain ⟨b2, off2, rfl, hb2, hc2⟩ := h3.resolve_left (by omega)
          have hmem : ws.getD k 0 ∈ ws := by
            have : k < ws.length := by omega
            simp [this]
          have hck := hok _ hmem
          obtain ⟨x1, x2⟩ := wf_bd hck
          obtain ⟨X, hX⟩ := Int.eq_ofNat_of_zero_le (show 0 ≤ ws.getD k 0 by omega)
          have hcx := (hbt.cell (p := ⟨b2, off2 + k, none⟩) (by exact hb2)).trans (hc2 k hkm)
          have hs := sumW_snoc (ws := ws) (k := k) (by omega)
          have hp := sumW_part (ws := ws) (k := k) (by omega)
          have hv0 : 0 ≤ valK zs ws k := Pl.num_nonneg (Pl.isB_take (Pl.isB_drop hR.2.1 _) _)
          obtain ⟨b, off, rfl, hb, hc⟩ := hR.2.2.resolve_left (by rw [HN.out]; omega)
          rw [hX] at hcx hs hp x1 x2
          rw [← HN.out] at hp
          simp only [Int.toNat_natCast] at hs hp
          have hg := getNumber_any b (off + sumW (ws.take k)) X (c - sumW (ws.take k)) ((zs.drop (sumW (ws.take k))).take X) wr (by omega) (by rw [List.length_take, List.length_drop, hR.1]; omega) (Pl.isB_take (Pl.isB_drop hR.2.1 _) _)
            (fun t ht => (hbt.cell (by exact hb)).trans (part_cells hc _ _ hp t ht))
          have hval : Pl.num ((zs.drop (sumW (ws.take k))).take X) = valK zs ws k := by unfold valK; rw [hX]; rfl
          rw [hval] at hg
          have HG := hid hg
          have HS := hid hs
          have HL := hid hyl
          have hck2 := HB.out.cell k (by omega)
          have hfk := HB.out.frozen k
          generalize ys.getD k 0 = old at *
          clear hval hs hg hck hmem hX hc2 hc hyl
          generalize sumW (ws.take k) = pl at *
          generalize hVV : valK zs ws k = V at *
          have HVK := hid hVV
          clear hVV
          have hne : ¬ c = pl := by omega
          by_cases hgt : 9223372036854775807 < V
          · go_wp2_with fail
            refine Calls.mono HG.out ?_
            rintro e w1 ⟨rfl, rfl⟩
            go_wp2
            go_ret2
            exact ⟨rfl, hbt⟩
          · go_wp2_with fail
            refine Calls.mono HG.out ?_
            rintro e w1 ⟨rfl, rfl⟩
            go_wp2
            go_roundw
            case rel =>
              refine ⟨k + 1, ys.set k V, by omega, by go_num, by rw [HS.out]; rfl, HB.out.set k V, by rw [List.length_set]; exact HL.out, hbt.setCell (Nat.le_refl _) _, fun j hj => ?_⟩
              by_cases e : j = k
              · subst e; rw [HVK.out]; omega
              · exact HV.out j (by omega)
            case measure => simp [intOf]; omega
        · obtain ⟨j, hj, hbig⟩ := HBAD.out
          have := HV.out j (by omega)
          omega

/-- NUMBERS OF ONE's OWN, with spare room: block g -/
def OwnI (w : World) (g n cap : Nat) (zs : List Int) : Prop := w.ownsRow g 3 1 (.slice (some ⟨g, 0, none⟩) n cap) n (zs.map (Value.int .i64))
theorem OwnI.of {w : World} {base g n cap : Nat} {zs : List Int} (h : w.ownsRow base 3 1 (.slice (some ⟨g, 0, none⟩) n cap) n (zs.map (Value.int .i64))) : OwnI w g n cap zs := by
  obtain ⟨h1, h2⟩ := h
  refine ⟨h1, ?_⟩
  rcases h2 with ⟨h2, _⟩ | ⟨g', cap', cur, hv, _, r⟩
  · cases h2
  · simp at hv
    obtain ⟨rfl, rfl⟩ := hv
    exact .inr ⟨g, cap, cur, rfl, Nat.le_refl _, r⟩
theorem OwnI.len {w : World} {g n cap : Nat} {zs : List Int} (h : OwnI w g n cap zs) : zs.length = n := by simpa using h.1
theorem OwnI.lt {w : World} {g n cap : Nat} {zs : List Int} (h : OwnI w g n cap zs) : g < w.heap.size := (World.ownsRow.lt h g rfl).2
theorem OwnI.rdi {w : World} {g n cap : Nat} {zs : List Int} (h : OwnI w g n cap zs) : RdI w.heap.size w (some ⟨g, 0, none⟩) n zs := by
  refine ⟨h.len, .inr ⟨g, 0, rfl, h.lt, fun t ht => ?_⟩⟩
  have h2 := World.ownsRow.cellAt h t (by omega)
  have h3 := h.len
  rw [Nat.zero_add, h2]
  simp [show t < zs.length by omega]

end Go.Proofs.YthkkdmblkalknaaGreatDoor
