/-
  The document's answer: Parse, whole.
-/
import Derived.Test.YtahaehjmnafhbaaPs4
namespace Go.Proofs.Ytahaehjmnafhbaa
open Go.RowKit

set_option maxRecDepth 100000 in
set_option maxHeartbeats 4000000 in
theorem parse_any {w : World} {b off c : Nat} {zs : List Int} (hB : Pl.isB zs) (hc : zs.length ≤ c) (hb : b < w.heap.size) (hcell : ∀ t, t < zs.length → w.cell? ⟨b, off + t, none⟩ = some (.int .u8 (zs.getD t 0))) (hz : zs.length ≤ 16777216) :
    Calls Try.prog 13 #[.slice (some ⟨b, off, none⟩) zs.length c] w (PsP zs w) := by
  have hR : Rd w.heap.size w (some ⟨b, off, none⟩) zs.length zs := ⟨rfl, hB, .inr ⟨b, off, rfl, hb, hcell⟩⟩
  have hCb := crc_bd (Pl.isB_take hB (zs.length - 4))
  obtain ⟨s, hs⟩ : ∃ s : St, s = ((zs.take (zs.length - 4)).drop 4, false) := ⟨_, rfl⟩
  have hsB : Pl.isB s.1 := by rw [hs]; exact Pl.isB_drop (Pl.isB_take hB _) _
  have hsl : s.1.length ≤ zs.length := by rw [hs]; simp; omega
  have hcount : (hdG tp s).count.toNat < 4294967296 := by
    have e1 : Pl.isB (h1 tp s).1 := by unfold h1; exact (txT_bd hsB).2.1
    have e2 : Pl.isB (h2 tp s).1 := by unfold h2; exact (nbT_bd (m := 4) e1 (by decide)).2.2.2
    have e3 : Pl.isB (h3 tp s).1 := by unfold h3; exact (txT_bd e2).2.1
    have e4 : Pl.isB (h4 tp s).1 := by unfold h4; exact (nbT_bd (m := 4) e3 (by decide)).2.2.2
    have d5 := nbT_bd (m := 4) e4 (by decide)
    have ec : (hdG tp s).count = (nbG tp (h4 tp s) 4).1 := by unfold hdG; with_reducible rfl
    rw [ec]
    have := d5.1
    have := d5.2.1
    omega
  refine parse_walk b off zs.length c (crc (zs.take (zs.length - 4))) (strOfNums (zs.take 4)) (strOfNums (zs.drop (zs.length - 4))) (!decide (zs.take 4 = [67, 83, 84, 49])) (!decide (Pl.dig (crc (zs.take (zs.length - 4))) 4 = zs.drop (zs.length - 4))) (strOfNums (hdG tp s).name) (strOfNums (hdG tp s).since) (hdG tp s).size (hdG tp s).sum (hdG tp s).count.toNat w (PsP zs w) hc hz hcount ?_
  obtain ⟨wA, hwA⟩ : ∃ wA, wA = w.alloc (.cells #[.string ⟨#[]⟩, .int .i64 0, .string ⟨#[]⟩, .int .i64 0, .slice none 0 0] 47) := ⟨_, rfl⟩
  have bA : Below w.heap.size w wA := by rw [hwA]; exact (Below.refl _ _).alloc (Nat.le_refl _) _
  have zA : wA.heap.size = w.heap.size + 1 := by rw [hwA]; simp
  have hz0 : wA.heap[w.heap.size]? = some (.cells #[.string ⟨#[]⟩, .int .i64 0, .string ⟨#[]⟩, .int .i64 0, .slice none 0 0] 47 (0, 0)) := by rw [hwA]; exact Array.getElem?_push_size
  have S5 : ∀ u A B C D E, Below w.heap.size w u → Below w.heap.size w (set5 u w.heap.size A B C D E) := fun u A B C D E hu => hu.trans ((set5_but u w.heap.size A B C D E).below hu.size (fun x hx => by omega))
  have FAIL : ∀ E, takP zs = (E, none) → E ≠ 0 → ∀ u, Below w.heap.size w u → PsP zs w (.returned (.tuple #[.agg #[.string ⟨#[]⟩, .int .i64 0, .string ⟨#[]⟩, .int .i64 0, .slice none 0 0], .int .i64 E])) u := fun E q q0 u hu => ⟨hu, .inl ⟨E, q, q0, rfl⟩⟩
  refine ⟨wA, w.heap.size, hwA, rfl, hz0, fun q => FAIL 150 (takP_150 (fun z => by have := congrArg List.length z; simp at this; omega)) (by decide) _ bA, fun q4 => ⟨conv_str (rd_take (hR.below bA) 4 q4) c, ?_, fun q => FAIL 150 (takP_150 (by simpa using q)) (by decide) _ bA, fun q => ?_⟩⟩
  · rw [magic_list, str_beq (Pl.isB_take hB 4) (by intro z hz; simp at hz; omega)]
  have q : zs.take 4 = [67, 83, 84, 49] := by simpa using q
  refine ⟨zs.length - 4, by omega, fun q2 => FAIL 151 (takP_151 q (.inl q2)) (by decide) _ (S5 _ _ _ _ _ _ bA).drew, fun q2 => ?_⟩
  have CV : ∀ {u : World}, Below w.heap.size w u → Sem.run Try.prog (convert 22 9 (.slice (some ⟨b, off + (zs.length - 4), none⟩) 4 (c - (zs.length - 4)))) u = .ok (.string (strOfNums (zs.drop (zs.length - 4)))) u := fun {u} hu => by
    have hd := rd_drop (hR.below hu) (zs.length - 4) (by omega)
    rw [show zs.length - (zs.length - 4) = 4 by omega] at hd
    exact conv_str hd _
  refine ⟨CV bA.drew, Calls.mono (rsum_any w.heap.size (some ⟨b, off, none⟩) (zs.length - 4) c (zs.take (zs.length - 4)) wA.drew (by omega) (rd_take (hR.below bA.drew) (zs.length - 4) (by omega))) ?_⟩
  rintro e w1 ⟨rfl, rfl⟩
  refine ⟨rfl, CV bA.drew, Calls.mono (rnumber_any (crc (zs.take (zs.length - 4))) wA.drew) ?_⟩
  rintro e w2 ⟨g, rfl, hg, hBg, b2⟩
  have b2 : Below wA.heap.size wA.drew w2 := b2
  have hB2 : Below w.heap.size w w2 := bA.drew.trans (b2.mono (by omega))
  have hz2 : wA.heap.size ≤ w2.heap.size := b2.size
  have hzz : w2.heap[w.heap.size]? = some (.cells #[.string ⟨#[]⟩, .int .i64 0, .string ⟨#[]⟩, .int .i64 0, .slice none 0 0] 47 (0, 0)) := (b2.block w.heap.size (by omega)).trans hz0
  have hRg : Rd w2.heap.size w2 (some ⟨g, 0, none⟩) 4 (Pl.dig (crc (zs.take (zs.length - 4))) 4) := ⟨Pl.length_dig _ _, Pl.isB_dig _ _, .inr ⟨g, 0, rfl, hBg.lt, fun t ht => by rw [Nat.zero_add]; exact hBg.cell t (by rw [Pl.length_dig]; exact ht)⟩⟩
  refine ⟨g, strOfNums (Pl.dig (crc (zs.take (zs.length - 4))) 4), rfl, CV hB2, conv_str hRg 4, by rw [str_beq (Pl.isB_dig _ _) (Pl.isB_drop hB _)], hzz, fun q3 => FAIL 151 (takP_151 q (.inr (fun z => by simp at q3; exact q3 z.symm))) (by decide) _ (S5 _ _ _ _ _ _ hB2), fun q3 => ?_⟩
  have q3 : Pl.dig (crc (zs.take (zs.length - 4))) 4 = zs.drop (zs.length - 4) := by simpa using q3
  have htk := takP_in q (by omega) q3.symm
  obtain ⟨w3, hw3⟩ : ∃ w3, w3 = w2.alloc (.cells #[.slice (some ⟨b, off + 4, none⟩) (zs.length - 4 - 4) (c - 4), .bool false] 63) := ⟨_, rfl⟩
  obtain ⟨w4, hw4⟩ : ∃ w4, w4 = w3.alloc (.cells #[.string ⟨#[]⟩, .int .i64 0, .string ⟨#[]⟩, .int .i64 0, .slice none 0 0] 47) := ⟨_, rfl⟩
  have b3 : Below w2.heap.size w2 w3 := by rw [hw3]; exact (Below.refl _ _).alloc (Nat.le_refl _) _
  have z3 : w3.heap.size = w2.heap.size + 1 := by rw [hw3]; simp
  have b4 : Below w3.heap.size w3 w4 := by rw [hw4]; exact (Below.refl _ _).alloc (Nat.le_refl _) _
  have hB4 : Below w.heap.size w w4 := (hB2.trans (b3.mono (by omega))).trans (b4.mono (by omega))
  have hS4 : Snb w4 (w2.heap.size + 1) ⟨#[]⟩ ⟨#[]⟩ 0 0 (.slice none 0 0) := by unfold Snb; rw [hw4, ← z3]; exact Array.getElem?_push_size
  have hzz4 := (b4.block w.heap.size (by omega)).trans ((b3.block w.heap.size (by omega)).trans hzz)
  have hlm : (zs.take (zs.length - 4)).length = zs.length - 4 := by simp
  have hT4 : TkS 63 w4 w2.heap.size s := by
    refine ⟨.slice (some ⟨b, off + 4, none⟩) (zs.length - 4 - 4) (c - 4), ?_, ?_⟩
    · unfold Tkr
      rw [b4.block w2.heap.size (by omega), hw3, hs]
      exact Array.getElem?_push_size
    · have hct : ∀ t, t < (zs.take (zs.length - 4)).length → w4.cell? ⟨b, off + t, none⟩ = some (.int .u8 ((zs.take (zs.length - 4)).getD t 0)) := fun t ht => by
        rw [(hB4.cell (p := ⟨b, off + t, none⟩) hb).trans (hcell t (by omega))]
        simp only [List.getD_eq_getElem?_getD]
        rw [List.getElem?_take_of_lt (by omega)]
      have := (RdC.cut (B := w2.heap.size) (m := 4) (c := c) (Pl.isB_take hB (zs.length - 4)) (by omega) (by omega) (by have := hB2.size; omega) hct).2
      rw [hlm] at this
      rw [hs]
      exact this
  have hcon : conP ((zs.take (zs.length - 4)).drop 4) = conR ((zs.take (zs.length - 4)).drop 4) := conP_conR (Pl.isB_drop (Pl.isB_take hB _) _)
  rw [hcon] at htk
  refine ⟨w3, w4, w2.heap.size, w2.heap.size + 1, hw3, hw4, rfl, rfl, tail_any (w := w) (B := w.heap.size) (PsP zs w) (by omega) hT4 hS4 hzz4 hB4 (Nat.le_refl _) (Nat.le_refl _) (by omega) (by omega) ?_ ?_⟩
  · intro l s' hr hbad u hu
    refine FAIL 150 ?_ (by decide) u hu
    rw [htk]
    unfold conR
    rw [← hs, hr, if_pos]
    rcases hbad with z | z | z
    · simp [z]
    · simp [z]
    · simp [z]
  · intro l s' hr g1 g2 g3 u ra rc hu hRR
    refine ⟨hu, .inr ⟨hdG tp s, l, ra, rc, ?_, rfl, hRR⟩⟩
    rw [htk]
    unfold conR
    rw [← hs, hr, if_neg (by simp [g1, g2, g3])]

end Go.Proofs.Ytahaehjmnafhbaa
