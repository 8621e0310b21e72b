/-
  stream: a stream that is taken, by its contract.
-/
import Derived.Test.YtahaehjmnafhbaaTa0
import Derived.Test.YtahaehjmnafhbaaCt2
namespace Go.Proofs.Ytahaehjmnafhbaa
open Go.RowKit

/-- what is taken of bytes: the error, and what they say -/
def takP (zs : List Int) : Int × Option (Hd × List Rn) :=
  if zs.take 4 = [67, 83, 84, 49] then
    (if zs.length - 4 < 4 ∨ zs.drop (zs.length - 4) ≠ Pl.dig (crc (zs.take (zs.length - 4))) 4 then (151, none)
     else match conP ((zs.take (zs.length - 4)).drop 4) with
       | none => (150, none)
       | some x => (0, some x))
  else (150, none)
theorem takP_150 {zs : List Int} (h : ¬ zs.take 4 = [67, 83, 84, 49]) : takP zs = (150, none) := by unfold takP; rw [if_neg h]
theorem takP_151 {zs : List Int} (h : zs.take 4 = [67, 83, 84, 49]) (h2 : zs.length - 4 < 4 ∨ zs.drop (zs.length - 4) ≠ Pl.dig (crc (zs.take (zs.length - 4))) 4) : takP zs = (151, none) := by unfold takP; rw [if_pos h, if_pos h2]
theorem takP_in {zs : List Int} (h : zs.take 4 = [67, 83, 84, 49]) (h1 : ¬ zs.length - 4 < 4) (h2 : zs.drop (zs.length - 4) = Pl.dig (crc (zs.take (zs.length - 4))) 4) : takP zs = match conP ((zs.take (zs.length - 4)).drop 4) with | none => (150, none) | some x => (0, some x) := by
  unfold takP
  rw [if_pos h, if_neg (by rintro (q | q); exact h1 q; exact q h2)]
theorem crc_bd {zs : List Int} (h : Pl.isB zs) : 0 ≤ crc zs ∧ crc zs < 4294967296 := by
  unfold crc
  have h1 := reg_lt h
  have h2 : 4294967295 ^^^ reg zs < 4294967296 := Nat.xor_lt_two_pow (n := 32) (by decide) h1
  omega
theorem row_base {w : World} {B B' e size n : Nat} {v : Value} {xs : List Value} (h : w.ownsRow B e size v n xs) (hB : B' ≤ B) : w.ownsRow B' e size v n xs := by
  obtain ⟨h1, h2⟩ := h
  refine ⟨h1, ?_⟩
  rcases h2 with h2 | ⟨g, cap, cur, hv, hg, r⟩
  · exact .inl h2
  · exact .inr ⟨g, cap, cur, hv, by omega, r⟩
theorem cell_fr {w w1 : World} {cs : Array Value} {e : TypeId} {fr : Nat × Nat} (hw : w1 = w.alloc (.cells cs e fr)) (t : Nat) (v : Value) (hv : cs[t]? = some v) : w1.cell? ⟨w.heap.size, t, none⟩ = some v := by
  have q : w1.heap[w.heap.size]? = some (.cells cs e fr) := by rw [hw]; exact Array.getElem?_push_size
  generalize w.heap.size = S at *
  simp [World.cell?, q, hv]

def TakP (zs : List Int) (w : World) (e : Ending) (w' : World) : Prop :=
  Below w.heap.size w w' ∧ ((∃ E, takP zs = (E, none) ∧ E ≠ 0 ∧ e = .returned (.tuple #[.agg #[.string ⟨#[]⟩, .int .i64 0, .string ⟨#[]⟩, .int .u32 0, .slice none 0 0], .int .i64 E])) ∨
    ∃ h l ra rc vals, takP zs = (0, some (h, l)) ∧ e = .returned (.tuple #[cnt h (.slice ra l.length rc), .int .i64 0]) ∧ w'.ownsRow w.heap.size 58 1 (.slice ra l.length rc) l.length vals ∧ RunsV vals l)

set_option maxRecDepth 100000 in
set_option maxHeartbeats 2000000 in
theorem taken_any {w : World} {b off c : Nat} {zs : List Int} (hB : Pl.isB zs) (hc : zs.length < c) (hb : b < w.heap.size) (hcell : ∀ t, t < zs.length → w.cell? ⟨b, off + t, none⟩ = some (.int .u8 (zs.getD t 0))) (hz : zs.length ≤ 16777216) :
    Calls Try.prog 10 #[.slice (some ⟨b, off, none⟩) zs.length c] w (TakP zs w) := by
  have hR : Rd w.heap.size w (some ⟨b, off, none⟩) zs.length zs := ⟨rfl, hB, .inr ⟨b, off, rfl, hb, hcell⟩⟩
  have hCb := crc_bd (Pl.isB_take hB (zs.length - 4))
  refine taken_walk b off zs.length c (crc (zs.take (zs.length - 4))) (decide (zs.take 4 = [67, 83, 84, 49])) (decide (zs.drop (zs.length - 4) = Pl.dig (crc (zs.take (zs.length - 4))) 4)) w (TakP zs w) hc hz (by rw [IntKind.wrap_i64]; omega) ?_
  obtain ⟨wA, hwA⟩ : ∃ wA, wA = w.alloc (.cells #[.string ⟨#[]⟩, .int .i64 0, .string ⟨#[]⟩, .int .u32 0, .slice none 0 0] 39) := ⟨_, rfl⟩
  obtain ⟨wM, hwM⟩ : ∃ wM, wM = wA.alloc (.cells #[.int .u8 67, .int .u8 83, .int .u8 84, .int .u8 49] 5 (4, 5)) := ⟨_, rfl⟩
  have bA : Below w.heap.size w wA := by rw [hwA]; exact (Below.refl _ _).alloc (Nat.le_refl _) _
  have zA : wA.heap.size = w.heap.size + 1 := by rw [hwA]; simp
  have bM : Below wA.heap.size wA wM := by rw [hwM]; exact (Below.refl _ _).alloc (Nat.le_refl _) _
  have zM : wM.heap.size = w.heap.size + 2 := by rw [hwM]; simp [zA]
  have hAM : Below w.heap.size w wM := bA.trans (bM.mono (by omega))
  have hz0 : wM.heap[w.heap.size]? = some (.cells #[.string ⟨#[]⟩, .int .i64 0, .string ⟨#[]⟩, .int .u32 0, .slice none 0 0] 39 (0, 0)) := by
    rw [bM.block w.heap.size (by omega), hwA]
    exact Array.getElem?_push_size
  have hmg : Rd wM.heap.size wM (some ⟨w.heap.size + 1, 0, none⟩) 4 [67, 83, 84, 49] := by
    refine ⟨rfl, by intro z hz; simp at hz; omega, .inr ⟨_, 0, rfl, by omega, fun t ht => ?_⟩⟩
    rw [← zA, Nat.zero_add]
    rcases (show t = 0 ∨ t = 1 ∨ t = 2 ∨ t = 3 by omega) with rfl | rfl | rfl | rfl
    · exact cell_fr hwM 0 _ rfl
    · exact cell_fr hwM 1 _ rfl
    · exact cell_fr hwM 2 _ rfl
    · exact cell_fr hwM 3 _ rfl
  have S5 : ∀ u A B C D E, Below w.heap.size w u → Below w.heap.size w (set5 u w.heap.size A B C D E) := fun u A B C D E hu => hu.trans ((set5_but u w.heap.size A B C D E).below hu.size (fun x hx => by omega))
  have FAIL : ∀ E, takP zs = (E, none) → E ≠ 0 → ∀ u, Below w.heap.size w u → TakP zs w (.returned (.tuple #[.agg #[.string ⟨#[]⟩, .int .i64 0, .string ⟨#[]⟩, .int .u32 0, .slice none 0 0], .int .i64 E])) u := fun E q q0 u hu => ⟨hu, .inl ⟨E, q, q0, rfl⟩⟩
  refine ⟨wA, wM, w.heap.size, hwA, hwM, rfl, Calls.mono (HasPrefix_any (hR.below hAM) (Nat.le_of_lt hc) hmg) ?_⟩
  rintro e w1 ⟨rfl, rfl⟩
  refine ⟨rfl, hz0, fun q => FAIL 150 (takP_150 (of_decide_eq_false q)) (by decide) _ (S5 _ _ _ _ _ _ hAM), fun q => ?_⟩
  have q := of_decide_eq_true q
  have h4 : 4 ≤ zs.length := by
    have := congrArg List.length q
    rw [List.length_take] at this
    simp at this
    omega
  refine ⟨zs.length - 4, by omega, fun q2 => FAIL 151 (takP_151 q (.inl q2)) (by decide) _ (S5 _ _ _ _ _ _ hAM).drew, fun q2 => ?_⟩
  have hRM : Rd w1.heap.size w1.drew (some ⟨b, off, none⟩) zs.length zs := (hR.below hAM).mono hAM.size
  refine Calls.mono (Sum_any (some ⟨b, off, none⟩) (zs.length - 4) c (zs.take (zs.length - 4)) w1.drew (by omega) (rd_take hRM (zs.length - 4) (by omega))) ?_
  rintro e w2 ⟨rfl, b2⟩
  have b2 : Below w1.heap.size w1.drew w2 := b2
  refine ⟨rfl, Calls.mono (packed_any (crc (zs.take (zs.length - 4))) hCb.1 hCb.2 w2) ?_⟩
  rintro e w3 ⟨g, rfl, hg, hBg, b3⟩
  have hB2 : Below w.heap.size w w2 := hAM.drew.trans (b2.mono (by omega))
  have hB3 : Below w.heap.size w w3 := hB2.trans (b3.mono hB2.size)
  have hR3 : Rd w.heap.size w3 (some ⟨b, off, none⟩) zs.length zs := hR.below hB3
  have hRg : Rd w3.heap.size w3 (some ⟨g, 0, none⟩) 4 (Pl.dig (crc (zs.take (zs.length - 4))) 4) := ⟨Pl.length_dig _ _, Pl.isB_dig _ _, .inr ⟨g, 0, rfl, hBg.lt, fun t ht => by rw [Nat.zero_add]; exact hBg.cell t (by rw [Pl.length_dig]; exact ht)⟩⟩
  have hd := rd_drop hR3 (zs.length - 4) (by omega)
  rw [show zs.length - (zs.length - 4) = 4 by omega] at hd
  refine ⟨g, rfl, Calls.mono (Equal_any (c - (zs.length - 4)) 4 hd hRg) ?_⟩
  rintro e w4 ⟨rfl, rfl⟩
  have hz2 : w1.heap.size ≤ w2.heap.size := b2.size
  have hz3 := b3.size
  have hzz : w4.heap[w.heap.size]? = some (.cells #[.string ⟨#[]⟩, .int .i64 0, .string ⟨#[]⟩, .int .u32 0, .slice none 0 0] 39 (0, 0)) := ((b3.block w.heap.size (by omega)).trans (b2.block w.heap.size (by omega))).trans hz0
  refine ⟨rfl, hzz, fun q3 => FAIL 151 (takP_151 q (.inr (of_decide_eq_false q3))) (by decide) _ (S5 _ _ _ _ _ _ hB3), fun q3 => ?_⟩
  have htk := takP_in q (by omega) (of_decide_eq_true q3)
  have hc4 : ∀ t, t < zs.length → w4.cell? ⟨b, off + t, none⟩ = some (.int .u8 (zs.getD t 0)) := fun t ht => (hB3.cell (p := ⟨b, off + t, none⟩) hb).trans (hcell t ht)
  have hcut := (RdC.cut (B := w.heap.size) hB (show zs.length - 4 ≤ zs.length by omega) hc hb hc4).1
  have hlm : (zs.take (zs.length - 4)).length = zs.length - 4 := by simp
  have hcb : RdC w4.heap.size w4 (.slice (some ⟨b, off + 4, none⟩) (zs.length - 4 - 4) (c - 4)) ((zs.take (zs.length - 4)).drop 4) := by
    have hct : ∀ t, t < (zs.take (zs.length - 4)).length → w4.cell? ⟨b, off + t, none⟩ = some (.int .u8 ((zs.take (zs.length - 4)).getD t 0)) := fun t ht => by
      rw [hc4 t (by omega)]
      simp only [List.getD_eq_getElem?_getD]
      rw [List.getElem?_take_of_lt (by omega)]
    have := (RdC.cut (B := w4.heap.size) (m := 4) (c := c) (Pl.isB_take hB (zs.length - 4)) (by omega) (by omega) (by have := hB3.size; omega) hct).2
    rw [hlm] at this
    exact this
  refine Calls.mono (content_any hcb (by simp; omega)) ?_
  rintro e w5 ⟨b5, hres⟩
  have hz4 := hB3.size
  have hB5 : Below w.heap.size w w5 := hB3.trans (b5.mono hz4)
  have hz5 := hB5.size
  have hzz5 := (b5.block w.heap.size (by omega)).trans hzz
  have hmk : ∀ S1 sz S2 sm ra q rc, ∃ w6, w6 = w5.alloc (.cells #[.string S1, .int .i64 sz, .string S2, .int .u32 sm, .slice ra q rc] 39) ∧ Below w5.heap.size w5 w6 ∧ Below w.heap.size w w6 ∧ w6.heap[w.heap.size]? = some (.cells #[.string ⟨#[]⟩, .int .i64 0, .string ⟨#[]⟩, .int .u32 0, .slice none 0 0] 39 (0, 0)) := fun S1 sz S2 sm ra q rc => by
    have bb : Below w5.heap.size w5 (w5.alloc (.cells #[.string S1, .int .i64 sz, .string S2, .int .u32 sm, .slice ra q rc] 39)) := (Below.refl _ _).alloc (Nat.le_refl _) _
    refine ⟨_, rfl, bb, hB5.trans (bb.mono hz5), (bb.block w.heap.size ?_).trans hzz5⟩
    exact (Array.getElem?_eq_some_iff.1 hzz5).1
  rcases hres with ⟨hn, S1, sz, S2, sm, ra, q9, rc, rfl⟩ | ⟨h, l, ra, rc, vals, hs, rfl, hrow, hV⟩
  · obtain ⟨w6, hw6, _, hB6, hz6⟩ := hmk S1 sz S2 sm ra q9 rc
    exact ⟨S1, sz, S2, sm, ra, q9, rc, false, rfl, w6, w5.heap.size, hw6, rfl, hz6, fun _ => FAIL 150 (by rw [htk, hn]) (by decide) _ (S5 _ _ _ _ _ _ hB6), (fun q => by cases q)⟩
  · obtain ⟨w6, hw6, b6, hB6, hz6⟩ := hmk (strOfNums h.name) h.size (strOfNums h.since) h.sum ra l.length rc
    have hC6 : Cnb w6 w5.heap.size (strOfNums h.name) (strOfNums h.since) h.size h.sum (.slice ra l.length rc) := by
      unfold Cnb
      rw [hw6]
      exact Array.getElem?_push_size
    have hrow6 : ∀ A B C D E, (set5 w6 w.heap.size A B C D E).ownsRow w.heap.size 58 1 (.slice ra l.length rc) l.length vals := fun A B C D E => by
      refine row_keep (row_base hrow (by omega)) (fun g hg => ?_)
      have hgl := row_lt hrow hg
      have hs6 := b6.size
      rw [(set5_but w6 w.heap.size A B C D E).block g (by omega) (by have := hB2.size; omega), b6.block g hgl.2]
    exact ⟨strOfNums h.name, h.size, strOfNums h.since, h.sum, ra, l.length, rc, true, rfl, w6, w5.heap.size, hw6, rfl, hz6, (fun q => by cases q), fun _ => ⟨hC6.cells, S5 _ _ _ _ _ _ hB6, .inr ⟨h, l, ra, rc, vals, by rw [htk, hs], rfl, hrow6 _ _ _ _ _, hV⟩⟩⟩

end Go.Proofs.Ytahaehjmnafhbaa
