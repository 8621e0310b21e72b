/-
  Unstamp.
-/
import Derived.Test.YteaebdonnicbkaaStamp
namespace Go.Proofs.Yteaebdonnicbkaa
open Go.RowKit

/-- part of bytes that are read, told by the numbers -/
theorem part_cells {w : World} {b off m : Nat} {zs : List Int} (hc : ∀ t, t < m → w.cell? ⟨b, off + t, none⟩ = some (.int .u8 (zs.getD t 0))) (i n : Nat) (h : i + n ≤ m) :
    ∀ t, t < n → w.cell? ⟨b, off + i + t, none⟩ = some (.int .u8 (((zs.drop i).take n).getD t 0)) := by
  intro t ht
  rw [show off + i + t = off + (i + t) by omega, hc (i + t) (by omega)]
  simp [List.getElem?_take_of_lt ht]

set_option maxRecDepth 100000 in
set_option maxHeartbeats 400000 in
theorem Unstamp_size (a : Option Addr) (n c : Nat) (w : World) (h : n ≠ 512) :
    Calls Try.prog 13 #[.slice a n c] w fun e w' => e = .returned (.tuple #[.int .i64 0, .int .i64 0, .slice none 0 0, .int .i64 12]) ∧ w' = w := by
  have h' : ((n : Int) != 512) = true := by simp; omega
  go_enter Try.func13, Try.ntmps13
  go_wp2
  exact bodyPost_ret (v := .tuple #[.int .i64 0, .int .i64 0, .slice none 0 0, .int .i64 12]) (by simp [results, Try.results13, go_sem]) rfl ⟨rfl, rfl⟩

theorem splice_all (Z cs : List Int) (h : Z.length ≤ cs.length) : splice Z 0 cs = cs := by
  unfold splice
  rw [List.take_zero, List.nil_append, Nat.zero_add, List.drop_eq_nil_of_le h, List.append_nil]
theorem unst_copy (b off c L : Nat) (zs : List Int) (w w2 : World) (hz : zs.length = 512) (hzb : Pl.isB zs) (hb : b < w.heap.size) (hL1 : L ≤ 497)
    (hc : ∀ t, t < 512 → w.cell? ⟨b, off + t, none⟩ = some (.int .u8 (zs.getD t 0))) (hb2 : Below w.heap.size w w2) :
    ∃ w3, Sem.run Try.prog (Builtin.copy_ #[22, 22] 3 #[.slice (some ⟨w2.heap.size, 0, none⟩) L L, .slice (some ⟨b, off + 15, none⟩) L c]) (w2.alloc (.cells ((zeros L).map (Value.int .u8)).toArray 5)) = .ok (.int .i64 (L : Int)) w3 ∧
      Blk .u8 5 w3 w2.heap.size ((zs.drop 15).take L) ∧ Below w.heap.size w w3 := by
  have hb3 : Below w.heap.size w (w2.alloc (.cells ((zeros L).map (Value.int .u8)).toArray 5)) := hb2.alloc hb2.size _
  have hl : ((zs.drop 15).take L).length = L := by simp; omega
  have hR : Rd w.heap.size (w2.alloc (.cells ((zeros L).map (Value.int .u8)).toArray 5)) (some ⟨b, off + 15, none⟩) L ((zs.drop 15).take L) :=
    ⟨hl, Pl.isB_take (Pl.isB_drop hzb _) _, .inr ⟨b, off + 15, rfl, hb, fun t ht => (hb3.cell (by exact hb)).trans (part_cells hc 15 L (by omega) t ht)⟩⟩
  obtain ⟨w3, h1, h2, h3, h4⟩ := copy_u8 w2.heap.size 0 L L (some ⟨b, off + 15, none⟩) L c (zeros L) ((zs.drop 15).take L) _ w.heap.size (Blk.new w2 (zeros L)) hR (Nat.le_refl _) (by rw [length_zeros]; omega)
  refine ⟨w3, h1, ?_, hb3.grown h4 hb3.size (fun k h => by cases h; exact hb2.size)⟩
  have e : splice (zeros L) 0 ((zs.drop 15).take L) = (zs.drop 15).take L := splice_all _ _ (by rw [length_zeros, hl]; exact Nat.le_refl _)
  rw [← e]
  exact h2

set_option maxRecDepth 100000 in
set_option maxHeartbeats 1000000 in
theorem Unstamp_ok (b off cap : Nat) (zs : List Int) (K S : Int) (L : Nat) (w : World) (hz : zs.length = 512) (hzb : Pl.isB zs) (hb : b < w.heap.size) (hcap : 512 ≤ cap)
    (hc : ∀ t, t < 512 → w.cell? ⟨b, off + t, none⟩ = some (.int .u8 (zs.getD t 0)))
    (hK : zs.getD 0 0 = K) (hK1 : 1 ≤ K) (hL : Pl.num ((zs.drop 1).take 2) = (L : Int)) (hL1 : L ≤ 497) (hS : Pl.num ((zs.drop 3).take 8) = S) (hS1 : S ≤ 1099511627776)
    (h0 : zeroB (zs.drop (15 + L)) = true) (hsum : Pl.num ((zs.drop 11).take 4) = crc (splice zs 11 [0, 0, 0, 0])) :
    Calls Try.prog 13 #[.slice (some ⟨b, off, none⟩) 512 cap] w fun e w' => ∃ g, e = .returned (.tuple #[.int .i64 K, .int .i64 S, .slice (some ⟨g, 0, none⟩) L L, .int .i64 0]) ∧ w.heap.size ≤ g ∧ Blk .u8 5 w' g ((zs.drop 15).take L) ∧ Below w.heap.size w w' := by
  have hS0 : 0 ≤ S := by rw [← hS]; exact Pl.num_nonneg (Pl.isB_take (Pl.isB_drop hzb _) _)
  have hK2 : K < 256 := by rw [← hK, List.getD_eq_getElem?_getD]; exact (Pl.isB_getD hzb 0).2
  have c0 : w.cell? ⟨b, off, none⟩ = some (.int .u8 K) := by rw [← hK]; exact hc 0 (by decide)
  have g1 := getNumber_any b (off + 1) 2 (cap - 1) ((zs.drop 1).take 2) w (by decide) (by simp; omega) (Pl.isB_take (Pl.isB_drop hzb _) _) (part_cells hc 1 2 (by decide))
  have g3 := getNumber_any b (off + 3) 8 (cap - 3) ((zs.drop 3).take 8) w (by decide) (by simp; omega) (Pl.isB_take (Pl.isB_drop hzb _) _) (part_cells hc 3 8 (by decide))
  have g11 := getNumber_any b (off + 11) 4 (cap - 11) ((zs.drop 11).take 4) w (by decide) (by simp; omega) (Pl.isB_take (Pl.isB_drop hzb _) _) (part_cells hc 11 4 (by decide))
  rw [hL] at g1
  rw [hS] at g3
  rw [hsum] at g11
  have hst := stampSum_any b off cap zs w hz hzb hb hcap hc
  obtain ⟨q1, q2⟩ := crc_bd (isB_splice hzb isB_four 11)
  generalize crc (splice zs 11 [0, 0, 0, 0]) = C at *
  have G1 : Hid _ := g1
  have G3 : Hid _ := g3
  have G11 : Hid _ := g11
  have HST : Hid _ := hst
  have HC : Hid (∀ t, t < 512 → w.cell? ⟨b, off + t, none⟩ = some (.int .u8 (zs.getD t 0))) := hc
  have HA1 : cap = 15 + L → Calls Try.prog 36 #[.slice (some ⟨b, off, none⟩) (512 - (15 + L)) 0] w fun e w' => e = .returned (.bool (zeroB (zs.drop (15 + L)))) ∧ w' = w := fun h => by
    have hL2 : L = 497 := by omega
    subst hL2
    exact allZero_any w.heap.size _ 0 0 _ w (by decide) ⟨by simp; omega, Pl.isB_drop hzb _, .inl rfl⟩
  have HA2 : Calls Try.prog 36 #[.slice (some ⟨b, off + (15 + L), none⟩) (512 - (15 + L)) (cap - (15 + L))] w fun e w' => e = .returned (.bool (zeroB (zs.drop (15 + L)))) ∧ w' = w :=
    allZero_any w.heap.size _ _ _ _ w (by omega) ⟨by simp; omega, Pl.isB_drop hzb _, .inr ⟨b, off + (15 + L), rfl, hb, fun t ht => by rw [show off + (15 + L) + t = off + (15 + L + t) by omega, hc _ (by omega)]; simp⟩⟩
  rw [h0] at HA1 HA2
  have A1 : Hid _ := HA1
  have A2 : Hid _ := HA2
  clear HA1 HA2
  have hK3 : (K == 0) = false := by simp; omega
  have e64 : IntKind.u64.wrap C = C := by rw [IntKind.wrap_u64]; omega
  clear g1 g3 g11 hst hc h0 hsum hL hS hK
  have hmk := make_u8 L (by omega)
  go_enter Try.func13, Try.ntmps13
  go_wp2_with fail
  refine Calls.mono G1.out ?_
  rintro e w1 ⟨rfl, rfl⟩
  go_wp2_with fail
  refine Calls.mono G3.out ?_
  rintro e w1 ⟨rfl, rfl⟩
  go_wp2_with fail
  · have hcl : cap = 15 + L := by assumption
    subst hcl
    refine Calls.mono (A1.out rfl) ?_
    rintro e w1 ⟨rfl, rfl⟩
    go_wp2_with fail
    refine Calls.mono G11.out ?_
    rintro e w1 ⟨rfl, rfl⟩
    go_wp2_with fail
    refine Calls.mono HST.out ?_
    rintro e w2 ⟨rfl, hb2⟩
    obtain ⟨w3, hcp, hB3, hb3⟩ := unst_copy b off L L zs w1 w2 hz hzb hb hL1 HC.out hb2
    have HB3 : Hid (Blk .u8 5 w3 w2.heap.size ((zs.drop 15).take L)) := hB3
    have hs := hb2.size
    have Hs : Hid (w1.heap.size ≤ w2.heap.size) := hs
    clear hB3 hs
    go_wp2_with fail
    exact bodyPost_ret (v := .tuple #[.int .i64 K, .int .i64 S, .slice (some ⟨w2.heap.size, 0, none⟩) L L, .int .i64 0]) (by simp [results, Try.results13, go_sem]) rfl ⟨w2.heap.size, rfl, Hs.out, HB3.out, hb3⟩
  · refine Calls.mono A2.out ?_
    rintro e w1 ⟨rfl, rfl⟩
    go_wp2_with fail
    refine Calls.mono G11.out ?_
    rintro e w1 ⟨rfl, rfl⟩
    go_wp2_with fail
    refine Calls.mono HST.out ?_
    rintro e w2 ⟨rfl, hb2⟩
    obtain ⟨w3, hcp, hB3, hb3⟩ := unst_copy b off (cap - 15) L zs w1 w2 hz hzb hb hL1 HC.out hb2
    have HB3 : Hid (Blk .u8 5 w3 w2.heap.size ((zs.drop 15).take L)) := hB3
    have hs := hb2.size
    have Hs : Hid (w1.heap.size ≤ w2.heap.size) := hs
    clear hB3 hs
    go_wp2_with fail
    exact bodyPost_ret (v := .tuple #[.int .i64 K, .int .i64 S, .slice (some ⟨w2.heap.size, 0, none⟩) L L, .int .i64 0]) (by simp [results, Try.results13, go_sem]) rfl ⟨w2.heap.size, rfl, Hs.out, HB3.out, hb3⟩

end Go.Proofs.Yteaebdonnicbkaa
