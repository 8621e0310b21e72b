/-
  The document's answer: bytes taken from the front; numbers.
-/
import Derived.Test.YtahaehjmnafhbaaSt1
import Derived.Test.YtahaehjmnafhbaaRSum
namespace Go.Proofs.Ytahaehjmnafhbaa
open Go.RowKit

set_option maxRecDepth 100000 in
set_option maxHeartbeats 1000000 in
theorem take_any {w : World} {k : Nat} {s : St} (m : Int) (h0 : 0 ≤ m) (h1 : m ≤ 4398046511104) (hs : s.1.length ≤ 16777216) (h : TkS 63 w k s) :
    Calls Try.prog 21 #[.pointer (some ⟨k, 0, none⟩), .int .i64 m] w fun e w' => ∃ v, e = .returned v ∧ RdC k w' v (tp s m).1 ∧ TkS 63 w' k (tp s m).2 ∧ But (fun x => x = k) w w' ∧ w'.heap.size = w.heap.size := by
  obtain ⟨v, hT, hR⟩ := h
  have c0 := hT.c0
  have c1 := hT.c1
  have f0 := hT.fz 0
  have f1 := hT.fz 1
  have hkl := hT.lt
  have hb1 : But (fun x => x = k) w (w.setCell ⟨k, 1, none⟩ (.bool true)) := (But.refl (fun x => x = k) w).setCell (p := ⟨k, 1, none⟩) rfl _
  have HBAD : Hid (s.2 = true ∨ (s.1.length : Int) < m → RdC k (w.setCell ⟨k, 1, none⟩ (.bool true)) (.slice none 0 0) (tp s m).1 ∧ TkS 63 (w.setCell ⟨k, 1, none⟩ (.bool true)) k (tp s m).2 ∧ But (fun x => x = k) w (w.setCell ⟨k, 1, none⟩ (.bool true)) ∧ (w.setCell ⟨k, 1, none⟩ (.bool true)).heap.size = w.heap.size) := by
    intro q
    have e : tp s m = ([], (s.1, true)) := by
      unfold tp
      rw [if_pos]
      rcases q with q | q <;> simp [q]
    rw [e]
    exact ⟨⟨Pl.isB_nil, .inl ⟨rfl, rfl⟩⟩, ⟨v, hT.set1 true, hR.but hb1 (Nat.le_of_lt hkl) (fun x hx => by omega)⟩, hb1, by simp [World.setCell]⟩
  cases hs2 : s.2
  · by_cases hm : (s.1.length : Int) < m
    · obtain ⟨a, c, rfl, _, _⟩ := hR.rd
      have HE := hid (HBAD.out (.inr hm))
      rw [hs2] at c1
      generalize tp s m = R at *
      clear hT hR HBAD hb1 hkl
      go_enter Try.func21, Try.ntmps21
      go_wp2
      go_ret
      exact ⟨_, rfl, HE.out⟩
    · have e : tp s m = (s.1.take m.toNat, (s.1.drop m.toNat, s.2)) := by unfold tp; rw [if_neg (by simp [hs2]; omega)]
      rw [e]
      obtain ⟨q, rfl⟩ := Int.eq_ofNat_of_zero_le h0
      obtain ⟨hB, ⟨rfl, hz⟩ | ⟨b, off, c, rfl, h3, h4, h5⟩⟩ := hR
      · have hq : q = 0 := by rw [hz] at hm; simp at hm; omega
        subst hq
        have HE : Hid (RdC k (w.setCell ⟨k, 0, none⟩ (.slice none 0 0)) (.slice none 0 0) [] ∧ TkS 63 (w.setCell ⟨k, 0, none⟩ (.slice none 0 0)) k ([], s.2) ∧ But (fun x => x = k) w (w.setCell ⟨k, 0, none⟩ (.slice none 0 0)) ∧ (w.setCell ⟨k, 0, none⟩ (.slice none 0 0)).heap.size = w.heap.size) := by
          refine ⟨⟨Pl.isB_nil, .inl ⟨rfl, rfl⟩⟩, ⟨_, hT.set0 _, ⟨Pl.isB_nil, .inl ⟨rfl, rfl⟩⟩⟩, (But.refl (fun x => x = k) w).setCell (p := ⟨k, 0, none⟩) rfl _, by simp [World.setCell]⟩
        rw [hs2] at c1
        generalize s.2 = s2 at *
        clear hT e hkl hB HBAD hb1 hs2
        go_enter Try.func21, Try.ntmps21
        go_wp2
        go_ret
        exact ⟨_, rfl, HE.out⟩
      · have hq : q ≤ s.1.length := by omega
        have hb2 : But (fun x => x = k) w (w.setCell ⟨k, 0, none⟩ (.slice (some ⟨b, off + q, none⟩) (s.1.length - q) (c - q))) := (But.refl (fun x => x = k) w).setCell (p := ⟨k, 0, none⟩) rfl _
        have hcut := RdC.cut hB hq h3 h4 h5
        have HE : Hid (RdC k (w.setCell ⟨k, 0, none⟩ (.slice (some ⟨b, off + q, none⟩) (s.1.length - q) (c - q))) (.slice (some ⟨b, off, none⟩) q c) (s.1.take (Int.ofNat q).toNat) ∧ TkS 63 (w.setCell ⟨k, 0, none⟩ (.slice (some ⟨b, off + q, none⟩) (s.1.length - q) (c - q))) k (s.1.drop (Int.ofNat q).toNat, s.2) ∧ But (fun x => x = k) w (w.setCell ⟨k, 0, none⟩ (.slice (some ⟨b, off + q, none⟩) (s.1.length - q) (c - q))) ∧ (w.setCell ⟨k, 0, none⟩ (.slice (some ⟨b, off + q, none⟩) (s.1.length - q) (c - q))).heap.size = w.heap.size) := by
          refine ⟨hcut.1.but hb2 (Nat.le_of_lt hkl) (fun x hx => by omega), ⟨_, hT.set0 _, hcut.2.but hb2 (Nat.le_of_lt hkl) (fun x hx => by omega)⟩, hb2, by simp [World.setCell]⟩
        have hqc : (q : Int) ≤ (c : Int) := by omega
        have hne : ¬ c = q := by omega
        rw [hs2] at c1
        generalize s.2 = s2 at *
        clear hT e hkl hB h5 hcut hb1 hb2 HBAD hs2
        generalize s.1.length = n at *
        go_enter Try.func21, Try.ntmps21
        go_wp2
        go_ret
        exact ⟨_, rfl, HE.out⟩
  · obtain ⟨a, c, rfl, _, _⟩ := hR.rd
    have HE := hid (HBAD.out (.inl hs2))
    rw [hs2] at c1
    generalize tp s m = R at *
    clear hT hR HBAD hb1 hkl
    go_enter Try.func21, Try.ntmps21
    go_wp2
    go_ret
    exact ⟨_, rfl, HE.out⟩

set_option maxRecDepth 100000 in
set_option maxHeartbeats 1000000 in
theorem tnumber_any {w : World} {k : Nat} {s : St} (m : Int) (h0 : 0 ≤ m) (h4 : m ≤ 4) (hs : s.1.length ≤ 16777216) (h : TkS 63 w k s) :
    Calls Try.prog 22 #[.pointer (some ⟨k, 0, none⟩), .int .i64 m] w fun e w' => e = .returned (.int .i64 (nbG tp s m).1) ∧ TkS 63 w' k (nbG tp s m).2 ∧ But (fun x => x = k) w w' := by
  have hlen : (tp s m).1.length ≤ 4 := by unfold tp; split <;> simp; omega
  have HN : Hid (Calls Try.prog 21 #[.pointer (some ⟨k, 0, none⟩), .int .i64 m] w fun e w1 => ∃ a c, e = .returned (.slice a (tp s m).1.length c) ∧ Rd k w1 a (tp s m).1.length (tp s m).1 ∧ TkS 63 w1 k (nbG tp s m).2 ∧ But (fun x => x = k) w w1) := by
    refine Calls.mono (take_any m h0 (by omega) hs h) ?_
    rintro e w1 ⟨v, rfl, hv, hT, hb, _⟩
    obtain ⟨a, c, rfl, _, hR⟩ := hv.rd
    exact ⟨a, c, rfl, hR, hT, hb⟩
  have hn : (nbG tp s m).1 = Pl.num (tp s m).1 := rfl
  rw [hn]
  clear hn h hs h0 h4
  generalize (nbG tp s m).2 = S at *
  generalize (tp s m).1 = l at *
  go_enter Try.func22, Try.ntmps22
  go_wp2_with fail
  refine Calls.mono HN.out ?_
  rintro e w1 ⟨a, c, rfl, ⟨_, hB, h3⟩, hT, hb⟩
  have HE := hid (And.intro hT hb)
  clear hT hb HN
  go_wp2_with fail
  go_loop [6, 7] (fun v i => ∃ j : Nat, j ≤ l.length ∧ i = .int .i64 ((j : Int) - 1) ∧ v = .int .i64 (Pl.num (l.drop j))) (fun _ i => (intOf i + 1).toNat)
  case atStart => exact ⟨l.length, Nat.le_refl _, rfl, by rw [List.drop_of_length_le (by omega)]; rfl⟩
  case round =>
    obtain ⟨j, hj, rfl, rfl⟩ := hrel
    by_cases hj0 : j = 0
    · subst hj0
      go_wp2
      go_ret
      exact ⟨by simp, HE.out⟩
    · obtain ⟨i, rfl⟩ : ∃ i, j = i + 1 := ⟨j - 1, by omega⟩
      obtain ⟨b, off, rfl, hlt, hc⟩ := h3.resolve_left (by omega)
      have hci := hc i (by omega)
      have hz := Pl.isB_getD hB i
      rw [← List.getD_eq_getElem?_getD] at hz
      have hst : Pl.num (l.drop i) = l.getD i 0 + 256 * Pl.num (l.drop (i + 1)) := by rw [List.getD_eq_getElem?_getD]; exact Pl.num_step (by omega)
      have hbd := num_lt4 (Pl.isB_drop hB (i + 1)) (by simp; omega)
      have hbd0 := Pl.num_nonneg (Pl.isB_drop hB (i + 1))
      have HST := hid hst
      clear hst hc hB h3
      generalize Pl.num (l.drop (i + 1)) = V at *
      generalize l.getD i 0 = z at *
      obtain ⟨z0, z1⟩ := hz
      go_wp2
      go_round
      case rel => exact ⟨i, by omega, rfl, by rw [HST.out]; congr 1; omega⟩
      case measure => simp [intOf]

theorem and255 (x : Int) : bits .and .i64 x 255 = x % 256 := by
  show IntKind.i64.wrap ((BitVec.ofInt 64 x &&& BitVec.ofInt 64 255).toNat : Int) = _
  rw [BitVec.toNat_and, show (BitVec.ofInt 64 255).toNat = 2 ^ 8 - 1 from by decide, Nat.and_two_pow_sub_one_eq_mod, BitVec.toNat_ofInt, IntKind.wrap_i64]
  omega
set_option maxRecDepth 100000 in
set_option maxHeartbeats 1000000 in
theorem rnumber_any (v : Int) (w : World) : Calls Try.prog 19 #[.int .i64 v] w fun e w' => ∃ g, e = .returned (.slice (some ⟨g, 0, none⟩) 4 4) ∧ g = w.heap.size ∧ Blk .u8 5 w' g (Pl.dig v 4) ∧ Below w.heap.size w w' := by
  have a0 := and255 v
  have a1 := and255 (v / 256)
  have a2 := and255 (v / 65536)
  have a3 := and255 (v / 16777216)
  have hB := Blk.new (k := .u8) (e := 5) w (Pl.dig v 4)
  have hd : Pl.dig v 4 = [v % 256, v / 256 % 256, v / 65536 % 256, v / 16777216 % 256] := by
    simp only [Pl.dig]
    rw [show v / 256 / 256 / 256 = v / 16777216 by omega, show v / 256 / 256 = v / 65536 by omega]
  rw [hd] at hB ⊢
  have HB := hid (show Blk .u8 5 (w.alloc (.cells #[.int .u8 (v % 256), .int .u8 (v / 256 % 256), .int .u8 (v / 65536 % 256), .int .u8 (v / 16777216 % 256)] 5)) w.heap.size [v % 256, v / 256 % 256, v / 65536 % 256, v / 16777216 % 256] from hB)
  have hb := hid ((Below.refl w.heap.size w).alloc (Nat.le_refl _) (.cells #[.int .u8 (v % 256), .int .u8 (v / 256 % 256), .int .u8 (v / 65536 % 256), .int .u8 (v / 16777216 % 256)] 5))
  clear hB hd
  go_enter Try.func19, Try.ntmps19
  go_wp2
  go_ret
  exact ⟨_, rfl, rfl, HB.out, hb.out⟩

set_option maxHeartbeats 1000000 in
theorem rsum_any (B : Nat) (a : Option Addr) (n c : Nat) (zs : List Int) (w : World) (hn : n ≤ 16777216) (hR : Rd B w a n zs) : Calls Try.prog 20 #[.slice a n c] w fun e w' => e = .returned (.int .i64 (crc zs)) ∧ w' = w := by
  have hC : 0 ≤ crc zs ∧ crc zs < 4294967296 := by
    unfold crc
    have h1 := reg_lt hR.2.1
    have h2 : 4294967295 ^^^ reg zs < 4294967296 := Nat.xor_lt_two_pow (n := 32) (by decide) h1
    omega
  have HS := hid (refSum_any B a n c zs w hn hR)
  obtain ⟨c0, c1⟩ := hC
  generalize crc zs = C at *
  clear hR
  go_enter Try.func20, Try.ntmps20
  go_wp2_with fail
  refine Calls.mono HS.out ?_
  rintro e w1 ⟨rfl, rfl⟩
  go_wp2
  go_ret
  exact ⟨rfl, rfl⟩

end Go.Proofs.Ytahaehjmnafhbaa
