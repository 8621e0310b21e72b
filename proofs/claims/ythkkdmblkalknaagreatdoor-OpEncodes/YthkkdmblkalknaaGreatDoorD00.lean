import Derived.Test.YthkkdmblkalknaaGreatDoorB04
import Derived.Test.YthkkdmblkalknaaGreatDoorA12
import Derived.Laws.BitsAllLaws
import Derived.Test.YthkkdmblkalknaaGreatDoorA14
import Derived.Test.YthkkdmblkalknaaGreatDoorA09
import Derived.Test.YthkkdmblkalknaaGreatDoorA10
/-
  The document's bytes of an operation: uses, four.
-/
namespace Go.Proofs.YthkkdmblkalknaaGreatDoor
open Go.RowKit

set_option maxRecDepth 100000 in
set_option maxHeartbeats 4000000 in
theorem uses16_any (k f : Int) (w : World) : Calls Tryz.prog 113 #[.int .i64 k, .int .u8 f] w fun e w' => e = .returned (.bool ((usL k).contains f)) ∧ w' = w := by
  have HU := hid (Uses_any k w)
  have hlen := usL_len k
  have hb := usL_isB k
  generalize usL k = l at *
  have hsz := str_size l
  have HX := hid (fun i hi h => str_get l hb i hi h)
  obtain ⟨Bc, hBc⟩ : ∃ Bc, Bc = l.contains f := ⟨_, rfl⟩
  rw [← hBc]
  have HBc := hid hBc
  clear hBc
  generalize hS : strOfNums l = S at *
  clear hS hb
  go_enter Tryz.func113, Tryz.ntmps113
  go_wp2_with fail
  refine HU.out.mono ?_
  rintro e w1 ⟨rfl, hw1⟩
  rw [hw1]
  clear hw1 HU
  go_wp2_with fail
  go_loop [6] (fun i => ∃ m : Nat, m ≤ l.length ∧ i = .int .i64 (m : Int) ∧ (∀ j, j < m → l.getD j 0 ≠ f)) (fun i => l.length - (intOf i).toNat)
  case atStart => exact ⟨0, Nat.zero_le _, rfl, fun j hj => by omega⟩
  case round =>
    obtain ⟨m, hm, rfl, hall⟩ := hrel
    by_cases hmn : m < l.length
    · have hix := HX.out m hmn (by omega)
      have HA := hid hall
      by_cases hz : l.getD m 0 = f
      · have HR : Hid (l.contains f = true) := by
          show l.contains f = true
          rw [List.contains_iff_mem, ← hz, List.getD_eq_getElem?_getD, List.getElem?_eq_getElem hmn]
          exact List.getElem_mem hmn
        rw [hz] at hix
        clear hall hz
        go_wp2
        go_ret
        exact ⟨by rw [HBc.out, HR.out]; rfl, rfl⟩
      · have HZ := hid hz
        generalize hzz : l.getD m 0 = z at *
        have HZZ := hid hzz
        clear hzz
        have hq : (z == f) = false := by simpa using hz
        clear hall hz
        go_wp2
        go_round
        case rel => exact ⟨m + 1, by omega, by go_num, fun j hj => by
          by_cases e : j < m
          · exact HA.out j e
          · obtain rfl : j = m := by omega
            rw [HZZ.out]
            exact HZ.out⟩
        case measure => simp [intOf]; omega
    · have HR : Hid (l.contains f = false) := by
        show l.contains f = false
        rw [Bool.eq_false_iff, Ne, List.contains_iff_mem]
        intro hmem
        obtain ⟨i, hi, e⟩ := List.getElem_of_mem hmem
        refine hall i (by omega) ?_
        rw [List.getD_eq_getElem?_getD, List.getElem?_eq_getElem hi]
        exact e
      clear hall
      go_wp2
      go_ret
      exact ⟨by rw [HBc.out, HR.out]; rfl, rfl⟩

theorem and255 {v : Int} (h0 : 0 ≤ v) (h1 : v ≤ 2147483647) : bits BinOp.and IntKind.i64 v 255 = v % 256 := by
  obtain ⟨n, rfl⟩ := Int.eq_ofNat_of_zero_le h0
  show IntKind.i64.wrap ((BitVec.ofInt 64 (n : Int) &&& BitVec.ofInt 64 255).toNat : Int) = _
  have e1 : (BitVec.ofInt 64 (n : Int)).toNat = n := by
    rw [BitVec.toNat_ofInt]
    omega
  have e2 : (BitVec.ofInt 64 255).toNat = 255 := by decide
  rw [BitVec.toNat_and, e1, e2, show (255 : Nat) = 2 ^ 8 - 1 from rfl, Nat.and_two_pow_sub_one_eq_mod, IntKind.wrap_i64]
  omega
theorem own_four (w : World) (a b c d : Int) : Ow w.heap.size (w.alloc (.cells #[.int .u8 a, .int .u8 b, .int .u8 c, .int .u8 d] 5)) (.slice (some ⟨w.heap.size, 0, none⟩) 4 4) [a, b, c, d] :=
  ⟨rfl, .inr ⟨w.heap.size, 4, #[.int .u8 a, .int .u8 b, .int .u8 c, .int .u8 d], rfl, Nat.le_refl _, heap_new _ _, Nat.le_refl _, by unfold maxLen; omega, rfl, rfl⟩⟩
theorem own_oneB (w : World) (a : Int) : Ow w.heap.size (w.alloc (.cells #[.int .u8 a] 5)) (.slice (some ⟨w.heap.size, 0, none⟩) 1 1) [a] :=
  ⟨rfl, .inr ⟨w.heap.size, 1, #[.int .u8 a], rfl, Nat.le_refl _, heap_new _ _, Nat.le_refl _, by unfold maxLen; omega, rfl, rfl⟩⟩
theorem dig4 (v : Int) : Pl.dig v 4 = [v % 256, v / 256 % 256, v / 65536 % 256, v / 16777216 % 256] := by
  show [v % 256, v / 256 % 256, v / 256 / 256 % 256, v / 256 / 256 / 256 % 256] = _
  rw [show v / 256 / 256 = v / 65536 by omega, show v / 65536 / 256 = v / 16777216 by omega]
set_option maxRecDepth 100000 in
set_option maxHeartbeats 1000000 in
theorem four_any (v : Int) (w : World) (h0 : 0 ≤ v) (h1 : v ≤ 2147483647) : Calls Tryz.prog 114 #[.int .i64 v] w fun e w' => e = .returned (.slice (some ⟨w.heap.size, 0, none⟩) 4 4) ∧ Ow w.heap.size w' (.slice (some ⟨w.heap.size, 0, none⟩) 4 4) (Pl.dig v 4) ∧ Below w.heap.size w w' := by
  have e1 := and255 h0 h1
  have e2 := and255 (v := v / 256) (by omega) (by omega)
  have e3 := and255 (v := v / 65536) (by omega) (by omega)
  have e4 := and255 (v := v / 16777216) (by omega) (by omega)
  have HF := hid (And.intro (own_four w (v % 256) (v / 256 % 256) (v / 65536 % 256) (v / 16777216 % 256)) (below1 w (.cells #[.int .u8 (v % 256), .int .u8 (v / 256 % 256), .int .u8 (v / 65536 % 256), .int .u8 (v / 16777216 % 256)] 5)))
  rw [dig4]
  have m1 : v % 256 % 256 = v % 256 := by omega
  have m2 : v / 256 % 256 % 256 = v / 256 % 256 := by omega
  have m3 : v / 65536 % 256 % 256 = v / 65536 % 256 := by omega
  have m4 : v / 16777216 % 256 % 256 = v / 16777216 % 256 := by omega
  go_enter Tryz.func114, Tryz.ntmps114
  go_wp2
  go_ret
  exact ⟨rfl, HF.out⟩

end Go.Proofs.YthkkdmblkalknaaGreatDoor
/-
  The document's bytes of an operation.
-/
namespace Go.Proofs.YthkkdmblkalknaaGreatDoor
open Go.RowKit

/-- within bytes: the operation in its own block, the bytes so far -/
structure By (w : World) (o : PO) (a : Option Addr) (c : Nat) (W : World) (v : Value) (zs : List Int) : Prop where
  ob : OpB W w.heap.size o (.slice a o.da.length c)
  ow : Ow (w.heap.size + 1) W v zs
  bel : Below w.heap.size w W
  sz : w.heap.size + 1 ≤ W.heap.size
theorem By.next {w : World} {o : PO} {a : Option Addr} {c : Nat} {W W' : World} {v : Value} {zs : List Int} (h : By w o a c W v zs) (hb : Below W.heap.size W W') : By w o a c W' v zs :=
  ⟨h.ob.keep (hb.block _ h.ob.lt), h.ow.next hb, h.bel.trans (hb.mono h.bel.size), Nat.le_trans h.sz hb.size⟩
theorem By.grow {w : World} {o : PO} {a : Option Addr} {c : Nat} {W W' : World} {v v' : Value} {zs zs' : List Int} (h : By w o a c W v zs) (ho : Ow (w.heap.size + 1) W' v' zs') (hg : Gr W W' v v') : By w o a c W' v' zs' := by
  have hb : ∀ g, v.ownBlock = some g → w.heap.size + 1 ≤ g := fun g hg => h.ow.base g hg
  exact ⟨h.ob.keep (hg.block _ h.ob.lt (fun e => by have := hb _ e.symm; omega)), ho, h.bel.trans (hg.below h.bel.size (fun g e => by have := hb g e; omega)), Nat.le_trans h.sz hg.size⟩
theorem By.app {w : World} {o : PO} {a : Option Addr} {c : Nat} {W : World} {v : Value} {zs ys : List Int} (h : By w o a c W v zs) {x : Option Addr} {m cp : Nat} (hR : Rd W.heap.size W x m ys) (hn : x = none → cp = 0) (hm : m ≤ 16777216) (hz : zs.length ≤ 16777216) :
    ∃ va n vc w', (Builtin.append_ #[23, 23] 23 #[v, .slice x m cp]).run Tryz.prog W = .ok (.slice va n vc) w' ∧ By w o a c w' (.slice va n vc) (zs ++ ys) := by
  obtain ⟨v', w', hr, ho, hg⟩ := app_rd 23 h.ow hR hn (by omega) (by omega) h.sz
  obtain ⟨va, vc, rfl⟩ := ho.form
  exact ⟨va, _, vc, w', hr, h.grow ho hg⟩
theorem By.one {w : World} {o : PO} {a : Option Addr} {c : Nat} {W : World} {v : Value} {zs : List Int} (h : By w o a c W v zs) (z : Int) (hz : 0 ≤ z ∧ z < 256) (hl : zs.length ≤ 16777216) :
    ∃ va n vc w', (Builtin.append_ #[23, 23] 23 #[v, .slice (some ⟨W.heap.size, 0, none⟩) 1 1]).run Tryz.prog (W.alloc (.cells #[.int .u8 z] 5)) = .ok (.slice va n vc) w' ∧ By w o a c w' (.slice va n vc) (zs ++ [z]) := by
  have hR : Rd (W.alloc (.cells #[.int .u8 z] 5)).heap.size (W.alloc (.cells #[.int .u8 z] 5)) (some ⟨W.heap.size, 0, none⟩) 1 [z] := by
    have e := heap_new W (.cells #[.int .u8 z] 5)
    have l : W.heap.size < (W.alloc (.cells #[.int .u8 z] 5)).heap.size := by simp
    generalize W.alloc (.cells #[.int .u8 z] 5) = W1 at e l
    refine ⟨rfl, fun y hy => by simp at hy; subst hy; exact hz, .inr ⟨W.heap.size, 0, rfl, l, fun t ht => ?_⟩⟩
    obtain rfl : t = 0 := by omega
    simp [World.cell?, e]
  exact (h.next (below1 _ _)).app hR (fun e => by cases e) (by omega) hl
theorem By.str {w : World} {o : PO} {a : Option Addr} {c : Nat} {W : World} {v : Value} {zs : List Int} (h : By w o a c W v zs) (s : ByteArray) (hs : s.size ≤ 16777216) (hl : zs.length ≤ 16777216) :
    ∃ va n vc w', (Builtin.append_ #[23, 9] 23 #[v, .string s]).run Tryz.prog W = .ok (.slice va n vc) w' ∧ By w o a c w' (.slice va n vc) (zs ++ nums s) := by
  obtain ⟨v', w', hr, ho, hg⟩ := app_str 23 h.ow s (by omega) (by omega) h.sz
  obtain ⟨va, vc, rfl⟩ := ho.form
  exact ⟨va, _, vc, w', hr, h.grow ho hg⟩
/-- four, and the append behind it -/
theorem By.four {w : World} {o : PO} {a : Option Addr} {c : Nat} {W : World} {v : Value} {zs : List Int} (h : By w o a c W v zs) (z : Int) (h0 : 0 ≤ z) (h1 : z ≤ 2147483647) (hl : zs.length ≤ 16777216) :
    Calls Tryz.prog 114 #[.int .i64 z] W fun e w1 => ∃ fa fc, e = .returned (.slice fa 4 fc) ∧ ∃ va n vc w', (Builtin.append_ #[23, 23] 23 #[v, .slice fa 4 fc]).run Tryz.prog w1 = .ok (.slice va n vc) w' ∧ By w o a c w' (.slice va n vc) (zs ++ Pl.dig z 4) := by
  refine (four_any z W h0 h1).mono ?_
  rintro e w1 ⟨rfl, ho, hb⟩
  have hB : Pl.isB (Pl.dig z 4) := by rw [dig4]; intro y hy; simp at hy; omega
  obtain ⟨a', c', hv, _, hR, hn⟩ := ho.rd hB
  have hl4 : (Pl.dig z 4).length = 4 := by rw [dig4]; rfl
  rw [hl4] at hv hR
  simp only [Value.slice.injEq] at hv
  obtain ⟨rfl, _, rfl⟩ := hv
  exact ⟨_, _, rfl, (h.next hb).app hR (fun e => by cases e) (by omega) hl⟩
theorem By.cells {w : World} {o : PO} {a : Option Addr} {c : Nat} {W : World} {v : Value} {zs : List Int} (h : By w o a c W v zs) : W.cell? ⟨w.heap.size, 0, none⟩ = some (.int .i64 o.k) ∧ W.cell? ⟨w.heap.size, 1, none⟩ = some (.string o.nm) ∧ W.cell? ⟨w.heap.size, 2, none⟩ = some (.string o.ot) ∧ W.cell? ⟨w.heap.size, 3, none⟩ = some (.int .i64 o.fr) ∧ W.cell? ⟨w.heap.size, 4, none⟩ = some (.int .i64 o.to) ∧ W.cell? ⟨w.heap.size, 5, none⟩ = some (.slice a o.da.length c) :=
  ⟨h.ob.cell 0 _ rfl, h.ob.cell 1 _ rfl, h.ob.cell 2 _ rfl, h.ob.cell 3 _ rfl, h.ob.cell 4 _ rfl, h.ob.cell 5 _ rfl⟩
theorem nums_len (s : ByteArray) : (nums s).length = s.size := by unfold nums; rw [List.length_map, Array.length_toList]; rfl
theorem uses_lit (k f : Int) (b : Bool) (h : (usL k).contains f = b) (W : World) : Calls Tryz.prog 113 #[.int .i64 k, .int .u8 f] W fun e w' => e = .returned (.bool b) ∧ w' = W := by
  have := uses16_any k f W
  rw [h] at this
  exact this
set_option linter.unusedSimpArgs false in
set_option maxRecDepth 100000 in
theorem enc_1 {o : PO} (h : o.k = 1) (hd : o.da = []) (hn : o.nm.size ≤ 31) (ho : o.ot.size ≤ 31) : (([1] ++ [(o.nm.size : Int)] ++ nums o.nm) ++ Pl.dig o.to 4) ++ o.da = encO o := by
  have e1 : (o.nm.size : Int) % 256 = (o.nm.size : Int) := by omega
  have e2 : (o.ot.size : Int) % 256 = (o.ot.size : Int) := by omega
  unfold encO
  rw [h]
  simp [wordsOf, frm, nw, tl, kw, wordB, txtB, Pl.dig, cNM, cTO, cOT, cFR, cDA, wof, wto, wfrom, e1, e2, hd]
set_option linter.unusedSimpArgs false in
set_option maxRecDepth 100000 in
theorem enc_2 {o : PO} (h : o.k = 2) (hd : o.da = []) (hn : o.nm.size ≤ 31) (ho : o.ot.size ≤ 31) : (([2] ++ [(o.nm.size : Int)] ++ nums o.nm) ++ [(o.ot.size : Int)] ++ nums o.ot) ++ o.da = encO o := by
  have e1 : (o.nm.size : Int) % 256 = (o.nm.size : Int) := by omega
  have e2 : (o.ot.size : Int) % 256 = (o.ot.size : Int) := by omega
  unfold encO
  rw [h]
  simp [wordsOf, frm, nw, tl, kw, wordB, txtB, Pl.dig, cNM, cTO, cOT, cFR, cDA, wof, wto, wfrom, e1, e2, hd]
set_option linter.unusedSimpArgs false in
set_option maxRecDepth 100000 in
theorem enc_3 {o : PO} (h : o.k = 3) (hd : o.da = []) (hn : o.nm.size ≤ 31) (ho : o.ot.size ≤ 31) : (([3] ++ [(o.nm.size : Int)] ++ nums o.nm) ++ [(o.ot.size : Int)] ++ nums o.ot) ++ o.da = encO o := by
  have e1 : (o.nm.size : Int) % 256 = (o.nm.size : Int) := by omega
  have e2 : (o.ot.size : Int) % 256 = (o.ot.size : Int) := by omega
  unfold encO
  rw [h]
  simp [wordsOf, frm, nw, tl, kw, wordB, txtB, Pl.dig, cNM, cTO, cOT, cFR, cDA, wof, wto, wfrom, e1, e2, hd]
set_option linter.unusedSimpArgs false in
set_option maxRecDepth 100000 in
theorem enc_4 {o : PO} (h : o.k = 4) (hd : o.da = []) (hn : o.nm.size ≤ 31) (ho : o.ot.size ≤ 31) : (([4] ++ [(o.nm.size : Int)] ++ nums o.nm) ++ Pl.dig o.to 4) ++ o.da = encO o := by
  have e1 : (o.nm.size : Int) % 256 = (o.nm.size : Int) := by omega
  have e2 : (o.ot.size : Int) % 256 = (o.ot.size : Int) := by omega
  unfold encO
  rw [h]
  simp [wordsOf, frm, nw, tl, kw, wordB, txtB, Pl.dig, cNM, cTO, cOT, cFR, cDA, wof, wto, wfrom, e1, e2, hd]
set_option linter.unusedSimpArgs false in
set_option maxRecDepth 100000 in
theorem enc_5 {o : PO} (h : o.k = 5) (hd : o.da = []) (hn : o.nm.size ≤ 31) (ho : o.ot.size ≤ 31) : (([5] ++ [(o.nm.size : Int)] ++ nums o.nm) ++ [(o.ot.size : Int)] ++ nums o.ot) ++ o.da = encO o := by
  have e1 : (o.nm.size : Int) % 256 = (o.nm.size : Int) := by omega
  have e2 : (o.ot.size : Int) % 256 = (o.ot.size : Int) := by omega
  unfold encO
  rw [h]
  simp [wordsOf, frm, nw, tl, kw, wordB, txtB, Pl.dig, cNM, cTO, cOT, cFR, cDA, wof, wto, wfrom, e1, e2, hd]
set_option linter.unusedSimpArgs false in
set_option maxRecDepth 100000 in
theorem enc_6 {o : PO} (h : o.k = 6) (hd : o.da = []) (hn : o.nm.size ≤ 31) (ho : o.ot.size ≤ 31) : ([6] ++ [(o.nm.size : Int)] ++ nums o.nm) ++ o.da = encO o := by
  have e1 : (o.nm.size : Int) % 256 = (o.nm.size : Int) := by omega
  have e2 : (o.ot.size : Int) % 256 = (o.ot.size : Int) := by omega
  unfold encO
  rw [h]
  simp [wordsOf, frm, nw, tl, kw, wordB, txtB, Pl.dig, cNM, cTO, cOT, cFR, cDA, wof, wto, wfrom, e1, e2, hd]
set_option linter.unusedSimpArgs false in
set_option maxRecDepth 100000 in
theorem enc_7 {o : PO} (h : o.k = 7) (hd : o.da = []) (hn : o.nm.size ≤ 31) (ho : o.ot.size ≤ 31) : (([7] ++ [(o.nm.size : Int)] ++ nums o.nm) ++ [(o.ot.size : Int)] ++ nums o.ot) ++ o.da = encO o := by
  have e1 : (o.nm.size : Int) % 256 = (o.nm.size : Int) := by omega
  have e2 : (o.ot.size : Int) % 256 = (o.ot.size : Int) := by omega
  unfold encO
  rw [h]
  simp [wordsOf, frm, nw, tl, kw, wordB, txtB, Pl.dig, cNM, cTO, cOT, cFR, cDA, wof, wto, wfrom, e1, e2, hd]
set_option linter.unusedSimpArgs false in
set_option maxRecDepth 100000 in
theorem enc_8 {o : PO} (h : o.k = 8) (hn : o.nm.size ≤ 31) (ho : o.ot.size ≤ 31) : (([8] ++ [(o.nm.size : Int)] ++ nums o.nm) ++ Pl.dig o.fr 4) ++ o.da = encO o := by
  have e1 : (o.nm.size : Int) % 256 = (o.nm.size : Int) := by omega
  have e2 : (o.ot.size : Int) % 256 = (o.ot.size : Int) := by omega
  unfold encO
  rw [h]
  simp [wordsOf, frm, nw, tl, kw, wordB, txtB, Pl.dig, cNM, cTO, cOT, cFR, cDA, wof, wto, wfrom, e1, e2]
set_option linter.unusedSimpArgs false in
set_option maxRecDepth 100000 in
theorem enc_9 {o : PO} (h : o.k = 9) (hd : o.da = []) (hn : o.nm.size ≤ 31) (ho : o.ot.size ≤ 31) : ((([9] ++ [(o.nm.size : Int)] ++ nums o.nm) ++ Pl.dig o.fr 4) ++ Pl.dig o.to 4) ++ o.da = encO o := by
  have e1 : (o.nm.size : Int) % 256 = (o.nm.size : Int) := by omega
  have e2 : (o.ot.size : Int) % 256 = (o.ot.size : Int) := by omega
  unfold encO
  rw [h]
  simp [wordsOf, frm, nw, tl, kw, wordB, txtB, Pl.dig, cNM, cTO, cOT, cFR, cDA, wof, wto, wfrom, e1, e2, hd]
set_option linter.unusedSimpArgs false in
set_option maxRecDepth 100000 in
theorem enc_10 {o : PO} (h : o.k = 10) (hd : o.da = []) (hn : o.nm.size ≤ 31) (ho : o.ot.size ≤ 31) : ((([10] ++ [(o.nm.size : Int)] ++ nums o.nm) ++ Pl.dig o.fr 4) ++ Pl.dig o.to 4) ++ o.da = encO o := by
  have e1 : (o.nm.size : Int) % 256 = (o.nm.size : Int) := by omega
  have e2 : (o.ot.size : Int) % 256 = (o.ot.size : Int) := by omega
  unfold encO
  rw [h]
  simp [wordsOf, frm, nw, tl, kw, wordB, txtB, Pl.dig, cNM, cTO, cOT, cFR, cDA, wof, wto, wfrom, e1, e2, hd]
set_option linter.unusedSimpArgs false in
set_option maxRecDepth 100000 in
theorem enc_11 {o : PO} (h : o.k = 11) (hd : o.da = []) (hn : o.nm.size ≤ 31) (ho : o.ot.size ≤ 31) : ([11] ++ Pl.dig o.to 4) ++ o.da = encO o := by
  have e1 : (o.nm.size : Int) % 256 = (o.nm.size : Int) := by omega
  have e2 : (o.ot.size : Int) % 256 = (o.ot.size : Int) := by omega
  unfold encO
  rw [h]
  simp [wordsOf, frm, nw, tl, kw, wordB, txtB, Pl.dig, cNM, cTO, cOT, cFR, cDA, wof, wto, wfrom, e1, e2, hd]

/-- the answer -/
def ByP (w : World) (o : PO) (e : Ending) (w' : World) : Prop := ∃ v, e = .returned v ∧ Ow w.heap.size w' v (encO o) ∧ Below w.heap.size w w'
theorem By.fin {w : World} {o : PO} {a : Option Addr} {c : Nat} {W : World} {va : Option Addr} {n vc : Nat} {zs : List Int} (h : By w o a c W (.slice va n vc) zs) (he : zs = encO o) : ByP w o (.returned (.slice va n vc)) W := by
  subst he
  exact ⟨_, rfl, h.ow.mono (by omega), h.bel⟩

end Go.Proofs.YthkkdmblkalknaaGreatDoor
/-
  The document's bytes of an operation.
-/
namespace Go.Proofs.YthkkdmblkalknaaGreatDoor
open Go.RowKit

set_option maxRecDepth 100000 in
set_option maxHeartbeats 4000000 in
theorem bytes_1 (o : PO) (a : Option Addr) (c : Nat) (w : World) (hk : o.k = 1) (hF : CkF 1 o) (hR : Rd w.heap.size w a o.da.length o.da) (ha : a = none → c = 0) :
    Calls Tryz.prog 84 #[opV o.k o.nm o.ot o.fr o.to a o.da.length c] w (ByP w o) := by
  have hck := hF.ok
  have HD := hid (hF.e5 rfl)
  have n1 : (o.nm.size : Int) % 256 = (o.nm.size : Int) := by have := hck.nm; omega
  have n2 : (o.ot.size : Int) % 256 = (o.ot.size : Int) := by have := hck.ot; omega
  have hnm := hck.nm
  have hot := hck.ot
  have l1 := nums_len o.nm
  have l2 := nums_len o.ot
  have l3 : (Pl.dig o.fr 4).length = 4 := rfl
  have l4 : (Pl.dig o.to 4).length = 4 := rfl
  have hdn := hck.n
  rw [hk]
  obtain ⟨W0, hW0⟩ : ∃ W0, W0 = (w.alloc (.cells #[.int .i64 1, .string o.nm, .string o.ot, .int .i64 o.fr, .int .i64 o.to, .slice a o.da.length c] 29)).alloc (.cells #[.int .u8 1] 5) := ⟨_, rfl⟩
  have b0 : Below w.heap.size w W0 := by rw [hW0]; exact ((Below.refl _ _).alloc (Nat.le_refl _) _).alloc (by simp) _
  have z0 : W0.heap.size = w.heap.size + 2 := by rw [hW0]; simp
  have q0 : By w o a c W0 (.slice (some ⟨w.heap.size + 1, 0, none⟩) 1 1) [1] := by
    refine ⟨?_, ?_, b0, by omega⟩
    · unfold OpB
      rw [hW0, Below.heap_alloc _ _ _ (by simp), hk]
      exact heap_new _ _
    · have := own_oneB (w.alloc (.cells #[.int .i64 1, .string o.nm, .string o.ot, .int .i64 o.fr, .int .i64 o.to, .slice a o.da.length c] 29)) 1
      rw [World.size_alloc, ← hW0] at this
      exact this
  have U78 := hid (uses_lit 1 78 true (by decide))
  have U79 := hid (uses_lit 1 79 false (by decide))
  have U70 := hid (uses_lit 1 70 false (by decide))
  have U84 := hid (uses_lit 1 84 true (by decide))
  have HR := hid hR
  have HA := hid ha
  have HK := hid hk
  have HW0 := hid hW0
  have hf0 := hck.f0
  have hf1 := hck.f1
  have ht0 := hck.t0
  have ht1 := hck.t1
  clear hF hR ha hck hW0 b0 z0 hk
  generalize hPO : ByP w o = PO
  have HPO := hid hPO
  clear hPO
  go_enter Tryz.func84, Tryz.ntmps84
  go_wp2_with fail
  rw [← HW0.out]
  clear HW0
  refine (U78.out _).mono ?_
  rintro e wu ⟨rfl, hwu⟩
  rw [hwu]
  clear hwu wu
  obtain ⟨c0_0, c0_1, c0_2, c0_3, c0_4, c0_5⟩ := q0.cells
  rw [HK.out] at c0_0
  obtain ⟨va1, vn1, vc1, w1, r1, q1⟩ := q0.one (o.nm.size : Int) (by omega) (by simp; try omega)
  obtain ⟨c1_0, c1_1, c1_2, c1_3, c1_4, c1_5⟩ := q1.cells
  rw [HK.out] at c1_0
  obtain ⟨va2, vn2, vc2, w2, r2, q2⟩ := q1.str o.nm (by omega) (by simp; try omega)
  obtain ⟨c2_0, c2_1, c2_2, c2_3, c2_4, c2_5⟩ := q2.cells
  rw [HK.out] at c2_0
  have Hq0 := hid q0
  clear q0
  have Hq1 := hid q1
  clear q1
  have Hq2 := hid q2
  clear q2
  go_wp2_with (first | (at_builtin; refine Lib.wpList_append_run _ rfl _ _ _ _ rfl _ _ rfl rfl _ _ r1 ?_) | (at_builtin; refine Lib.wpList_append_run _ rfl _ _ _ _ rfl _ _ rfl rfl _ _ r2 ?_) | fail)
  have q2 := Hq2.out
  clear Hq0 Hq1 Hq2
  refine (U79.out _).mono ?_
  rintro e wu ⟨rfl, hwu⟩
  rw [hwu]
  clear hwu wu
  have Hq2 := hid q2
  clear q2
  go_wp2_with fail
  have q2 := Hq2.out
  clear Hq2
  refine (U70.out _).mono ?_
  rintro e wu ⟨rfl, hwu⟩
  rw [hwu]
  clear hwu wu
  have Hq2 := hid q2
  clear q2
  go_wp2_with fail
  have q2 := Hq2.out
  clear Hq2
  refine (U84.out _).mono ?_
  rintro e wu ⟨rfl, hwu⟩
  rw [hwu]
  clear hwu wu
  have H4 := hid (q2.four o.to ht0 (by omega) (by simp; try omega))
  have Hq2 := hid q2
  clear q2
  go_wp2_with fail
  have q2 := Hq2.out
  clear Hq2
  refine H4.out.mono ?_
  rintro e wf3 ⟨fa3, fc3, rfl, va3, vn3, vc3, w3, r3, q3⟩
  clear H4
  obtain ⟨c3_0, c3_1, c3_2, c3_3, c3_4, c3_5⟩ := q3.cells
  rw [HK.out] at c3_0
  obtain ⟨va4, vn4, vc4, w4, r4, q4⟩ := q3.app ((HR.out.below q3.bel).mono q3.bel.size) HA.out (by omega) (by simp; try omega)
  have HF : Hid (PO (.returned (.slice va4 vn4 vc4)) w4) := by
    show PO _ _
    rw [← HPO.out]
    exact q4.fin (enc_1 HK.out HD.out hnm hot)
  have Hq2 := hid q2
  clear q2
  have Hq3 := hid q3
  clear q3
  have Hq4 := hid q4
  clear q4
  go_wp2_with (first | (at_builtin; refine Lib.wpList_append_run _ rfl _ _ _ _ rfl _ _ rfl rfl _ _ r3 ?_) | (at_builtin; refine Lib.wpList_append_run _ rfl _ _ _ _ rfl _ _ rfl rfl _ _ r4 ?_) | fail)
  have q4 := Hq4.out
  clear Hq2 Hq3 Hq4
  exact HF.out
set_option maxRecDepth 100000 in
set_option maxHeartbeats 4000000 in
theorem bytes_2 (o : PO) (a : Option Addr) (c : Nat) (w : World) (hk : o.k = 2) (hF : CkF 2 o) (hR : Rd w.heap.size w a o.da.length o.da) (ha : a = none → c = 0) :
    Calls Tryz.prog 84 #[opV o.k o.nm o.ot o.fr o.to a o.da.length c] w (ByP w o) := by
  have hck := hF.ok
  have HD := hid (hF.e5 rfl)
  have n1 : (o.nm.size : Int) % 256 = (o.nm.size : Int) := by have := hck.nm; omega
  have n2 : (o.ot.size : Int) % 256 = (o.ot.size : Int) := by have := hck.ot; omega
  have hnm := hck.nm
  have hot := hck.ot
  have l1 := nums_len o.nm
  have l2 := nums_len o.ot
  have l3 : (Pl.dig o.fr 4).length = 4 := rfl
  have l4 : (Pl.dig o.to 4).length = 4 := rfl
  have hdn := hck.n
  rw [hk]
  obtain ⟨W0, hW0⟩ : ∃ W0, W0 = (w.alloc (.cells #[.int .i64 2, .string o.nm, .string o.ot, .int .i64 o.fr, .int .i64 o.to, .slice a o.da.length c] 29)).alloc (.cells #[.int .u8 2] 5) := ⟨_, rfl⟩
  have b0 : Below w.heap.size w W0 := by rw [hW0]; exact ((Below.refl _ _).alloc (Nat.le_refl _) _).alloc (by simp) _
  have z0 : W0.heap.size = w.heap.size + 2 := by rw [hW0]; simp
  have q0 : By w o a c W0 (.slice (some ⟨w.heap.size + 1, 0, none⟩) 1 1) [2] := by
    refine ⟨?_, ?_, b0, by omega⟩
    · unfold OpB
      rw [hW0, Below.heap_alloc _ _ _ (by simp), hk]
      exact heap_new _ _
    · have := own_oneB (w.alloc (.cells #[.int .i64 2, .string o.nm, .string o.ot, .int .i64 o.fr, .int .i64 o.to, .slice a o.da.length c] 29)) 2
      rw [World.size_alloc, ← hW0] at this
      exact this
  have U78 := hid (uses_lit 2 78 true (by decide))
  have U79 := hid (uses_lit 2 79 true (by decide))
  have U70 := hid (uses_lit 2 70 false (by decide))
  have U84 := hid (uses_lit 2 84 false (by decide))
  have HR := hid hR
  have HA := hid ha
  have HK := hid hk
  have HW0 := hid hW0
  have hf0 := hck.f0
  have hf1 := hck.f1
  have ht0 := hck.t0
  have ht1 := hck.t1
  clear hF hR ha hck hW0 b0 z0 hk
  generalize hPO : ByP w o = PO
  have HPO := hid hPO
  clear hPO
  go_enter Tryz.func84, Tryz.ntmps84
  go_wp2_with fail
  rw [← HW0.out]
  clear HW0
  refine (U78.out _).mono ?_
  rintro e wu ⟨rfl, hwu⟩
  rw [hwu]
  clear hwu wu
  obtain ⟨c0_0, c0_1, c0_2, c0_3, c0_4, c0_5⟩ := q0.cells
  rw [HK.out] at c0_0
  obtain ⟨va1, vn1, vc1, w1, r1, q1⟩ := q0.one (o.nm.size : Int) (by omega) (by simp; try omega)
  obtain ⟨c1_0, c1_1, c1_2, c1_3, c1_4, c1_5⟩ := q1.cells
  rw [HK.out] at c1_0
  obtain ⟨va2, vn2, vc2, w2, r2, q2⟩ := q1.str o.nm (by omega) (by simp; try omega)
  obtain ⟨c2_0, c2_1, c2_2, c2_3, c2_4, c2_5⟩ := q2.cells
  rw [HK.out] at c2_0
  have Hq0 := hid q0
  clear q0
  have Hq1 := hid q1
  clear q1
  have Hq2 := hid q2
  clear q2
  go_wp2_with (first | (at_builtin; refine Lib.wpList_append_run _ rfl _ _ _ _ rfl _ _ rfl rfl _ _ r1 ?_) | (at_builtin; refine Lib.wpList_append_run _ rfl _ _ _ _ rfl _ _ rfl rfl _ _ r2 ?_) | fail)
  have q2 := Hq2.out
  clear Hq0 Hq1 Hq2
  refine (U79.out _).mono ?_
  rintro e wu ⟨rfl, hwu⟩
  rw [hwu]
  clear hwu wu
  obtain ⟨va3, vn3, vc3, w3, r3, q3⟩ := q2.one (o.ot.size : Int) (by omega) (by simp; try omega)
  obtain ⟨c3_0, c3_1, c3_2, c3_3, c3_4, c3_5⟩ := q3.cells
  rw [HK.out] at c3_0
  obtain ⟨va4, vn4, vc4, w4, r4, q4⟩ := q3.str o.ot (by omega) (by simp; try omega)
  obtain ⟨c4_0, c4_1, c4_2, c4_3, c4_4, c4_5⟩ := q4.cells
  rw [HK.out] at c4_0
  have Hq2 := hid q2
  clear q2
  have Hq3 := hid q3
  clear q3
  have Hq4 := hid q4
  clear q4
  go_wp2_with (first | (at_builtin; refine Lib.wpList_append_run _ rfl _ _ _ _ rfl _ _ rfl rfl _ _ r3 ?_) | (at_builtin; refine Lib.wpList_append_run _ rfl _ _ _ _ rfl _ _ rfl rfl _ _ r4 ?_) | fail)
  have q4 := Hq4.out
  clear Hq2 Hq3 Hq4
  refine (U70.out _).mono ?_
  rintro e wu ⟨rfl, hwu⟩
  rw [hwu]
  clear hwu wu
  have Hq4 := hid q4
  clear q4
  go_wp2_with fail
  have q4 := Hq4.out
  clear Hq4
  refine (U84.out _).mono ?_
  rintro e wu ⟨rfl, hwu⟩
  rw [hwu]
  clear hwu wu
  obtain ⟨va5, vn5, vc5, w5, r5, q5⟩ := q4.app ((HR.out.below q4.bel).mono q4.bel.size) HA.out (by omega) (by simp; try omega)
  have HF : Hid (PO (.returned (.slice va5 vn5 vc5)) w5) := by
    show PO _ _
    rw [← HPO.out]
    exact q5.fin (enc_2 HK.out HD.out hnm hot)
  have Hq4 := hid q4
  clear q4
  have Hq5 := hid q5
  clear q5
  go_wp2_with (first | (at_builtin; refine Lib.wpList_append_run _ rfl _ _ _ _ rfl _ _ rfl rfl _ _ r5 ?_) | fail)
  have q5 := Hq5.out
  clear Hq4 Hq5
  exact HF.out
set_option maxRecDepth 100000 in
set_option maxHeartbeats 4000000 in
theorem bytes_3 (o : PO) (a : Option Addr) (c : Nat) (w : World) (hk : o.k = 3) (hF : CkF 3 o) (hR : Rd w.heap.size w a o.da.length o.da) (ha : a = none → c = 0) :
    Calls Tryz.prog 84 #[opV o.k o.nm o.ot o.fr o.to a o.da.length c] w (ByP w o) := by
  have hck := hF.ok
  have HD := hid (hF.e5 rfl)
  have n1 : (o.nm.size : Int) % 256 = (o.nm.size : Int) := by have := hck.nm; omega
  have n2 : (o.ot.size : Int) % 256 = (o.ot.size : Int) := by have := hck.ot; omega
  have hnm := hck.nm
  have hot := hck.ot
  have l1 := nums_len o.nm
  have l2 := nums_len o.ot
  have l3 : (Pl.dig o.fr 4).length = 4 := rfl
  have l4 : (Pl.dig o.to 4).length = 4 := rfl
  have hdn := hck.n
  rw [hk]
  obtain ⟨W0, hW0⟩ : ∃ W0, W0 = (w.alloc (.cells #[.int .i64 3, .string o.nm, .string o.ot, .int .i64 o.fr, .int .i64 o.to, .slice a o.da.length c] 29)).alloc (.cells #[.int .u8 3] 5) := ⟨_, rfl⟩
  have b0 : Below w.heap.size w W0 := by rw [hW0]; exact ((Below.refl _ _).alloc (Nat.le_refl _) _).alloc (by simp) _
  have z0 : W0.heap.size = w.heap.size + 2 := by rw [hW0]; simp
  have q0 : By w o a c W0 (.slice (some ⟨w.heap.size + 1, 0, none⟩) 1 1) [3] := by
    refine ⟨?_, ?_, b0, by omega⟩
    · unfold OpB
      rw [hW0, Below.heap_alloc _ _ _ (by simp), hk]
      exact heap_new _ _
    · have := own_oneB (w.alloc (.cells #[.int .i64 3, .string o.nm, .string o.ot, .int .i64 o.fr, .int .i64 o.to, .slice a o.da.length c] 29)) 3
      rw [World.size_alloc, ← hW0] at this
      exact this
  have U78 := hid (uses_lit 3 78 true (by decide))
  have U79 := hid (uses_lit 3 79 true (by decide))
  have U70 := hid (uses_lit 3 70 false (by decide))
  have U84 := hid (uses_lit 3 84 false (by decide))
  have HR := hid hR
  have HA := hid ha
  have HK := hid hk
  have HW0 := hid hW0
  have hf0 := hck.f0
  have hf1 := hck.f1
  have ht0 := hck.t0
  have ht1 := hck.t1
  clear hF hR ha hck hW0 b0 z0 hk
  generalize hPO : ByP w o = PO
  have HPO := hid hPO
  clear hPO
  go_enter Tryz.func84, Tryz.ntmps84
  go_wp2_with fail
  rw [← HW0.out]
  clear HW0
  refine (U78.out _).mono ?_
  rintro e wu ⟨rfl, hwu⟩
  rw [hwu]
  clear hwu wu
  obtain ⟨c0_0, c0_1, c0_2, c0_3, c0_4, c0_5⟩ := q0.cells
  rw [HK.out] at c0_0
  obtain ⟨va1, vn1, vc1, w1, r1, q1⟩ := q0.one (o.nm.size : Int) (by omega) (by simp; try omega)
  obtain ⟨c1_0, c1_1, c1_2, c1_3, c1_4, c1_5⟩ := q1.cells
  rw [HK.out] at c1_0
  obtain ⟨va2, vn2, vc2, w2, r2, q2⟩ := q1.str o.nm (by omega) (by simp; try omega)
  obtain ⟨c2_0, c2_1, c2_2, c2_3, c2_4, c2_5⟩ := q2.cells
  rw [HK.out] at c2_0
  have Hq0 := hid q0
  clear q0
  have Hq1 := hid q1
  clear q1
  have Hq2 := hid q2
  clear q2
  go_wp2_with (first | (at_builtin; refine Lib.wpList_append_run _ rfl _ _ _ _ rfl _ _ rfl rfl _ _ r1 ?_) | (at_builtin; refine Lib.wpList_append_run _ rfl _ _ _ _ rfl _ _ rfl rfl _ _ r2 ?_) | fail)
  have q2 := Hq2.out
  clear Hq0 Hq1 Hq2
  refine (U79.out _).mono ?_
  rintro e wu ⟨rfl, hwu⟩
  rw [hwu]
  clear hwu wu
  obtain ⟨va3, vn3, vc3, w3, r3, q3⟩ := q2.one (o.ot.size : Int) (by omega) (by simp; try omega)
  obtain ⟨c3_0, c3_1, c3_2, c3_3, c3_4, c3_5⟩ := q3.cells
  rw [HK.out] at c3_0
  obtain ⟨va4, vn4, vc4, w4, r4, q4⟩ := q3.str o.ot (by omega) (by simp; try omega)
  obtain ⟨c4_0, c4_1, c4_2, c4_3, c4_4, c4_5⟩ := q4.cells
  rw [HK.out] at c4_0
  have Hq2 := hid q2
  clear q2
  have Hq3 := hid q3
  clear q3
  have Hq4 := hid q4
  clear q4
  go_wp2_with (first | (at_builtin; refine Lib.wpList_append_run _ rfl _ _ _ _ rfl _ _ rfl rfl _ _ r3 ?_) | (at_builtin; refine Lib.wpList_append_run _ rfl _ _ _ _ rfl _ _ rfl rfl _ _ r4 ?_) | fail)
  have q4 := Hq4.out
  clear Hq2 Hq3 Hq4
  refine (U70.out _).mono ?_
  rintro e wu ⟨rfl, hwu⟩
  rw [hwu]
  clear hwu wu
  have Hq4 := hid q4
  clear q4
  go_wp2_with fail
  have q4 := Hq4.out
  clear Hq4
  refine (U84.out _).mono ?_
  rintro e wu ⟨rfl, hwu⟩
  rw [hwu]
  clear hwu wu
  obtain ⟨va5, vn5, vc5, w5, r5, q5⟩ := q4.app ((HR.out.below q4.bel).mono q4.bel.size) HA.out (by omega) (by simp; try omega)
  have HF : Hid (PO (.returned (.slice va5 vn5 vc5)) w5) := by
    show PO _ _
    rw [← HPO.out]
    exact q5.fin (enc_3 HK.out HD.out hnm hot)
  have Hq4 := hid q4
  clear q4
  have Hq5 := hid q5
  clear q5
  go_wp2_with (first | (at_builtin; refine Lib.wpList_append_run _ rfl _ _ _ _ rfl _ _ rfl rfl _ _ r5 ?_) | fail)
  have q5 := Hq5.out
  clear Hq4 Hq5
  exact HF.out

end Go.Proofs.YthkkdmblkalknaaGreatDoor
