/-
  stream: Look, by its contract.
-/
import Derived.Test.YtahaehjmnafhbaaLk0
namespace Go.Proofs.Ytahaehjmnafhbaa
open Go.RowKit

/-- a head as a value -/
def hdV (x : Option (Hd × List Rn)) : Value := match x with
  | none => .agg #[.string ⟨#[]⟩, .int .i64 0, .string ⟨#[]⟩, .int .i64 0, .int .i64 0]
  | some (h, l) => .agg #[.string (strOfNums h.name), .int .i64 h.size, .string (strOfNums h.since), .int .i64 (l.length : Int), .int .i64 (blkN l)]

theorem runsR_len (n : Nat) : ∀ s : St, (runsR n s).1.length ≤ n := by
  induction n with
  | zero => intro s; simp [runsR]
  | succ n ih =>
    intro s
    simp only [runsR]
    split
    · simp
    · have := ih (oneR s).2
      simp only [List.length_cons]
      omega
theorem isB_hdP {s : St} (h : Pl.isB s.1) : Pl.isB (hdS pt s).1 ∧ 0 ≤ (hdG pt s).count ∧ (hdG pt s).count < 4294967296 := by
  have e1 : Pl.isB (h1 pt s).1 := by unfold h1; exact (txG_bd h).2.1
  have e2 : Pl.isB (h2 pt s).1 := by unfold h2; exact (nbG_bd (m := 4) e1 (by decide)).2.2.2
  have e3 : Pl.isB (h3 pt s).1 := by unfold h3; exact (txG_bd e2).2.1
  have e4 : Pl.isB (h4 pt s).1 := by unfold h4; exact (nbG_bd (m := 4) e3 (by decide)).2.2.2
  have d5 := nbG_bd (m := 4) e4 (by decide)
  have ec : (hdG pt s).count = (nbG pt (h4 pt s) 4).1 := by unfold hdG; with_reducible rfl
  refine ⟨?_, ?_, ?_⟩
  · unfold hdS; exact d5.2.2.2
  · rw [ec]; exact d5.1
  · rw [ec]; exact d5.2.1
theorem conP_ok {b : List Int} (hb : Pl.isB b) {h : Hd} {l : List Rn} (hc : conP b = some (h, l)) : (∀ r ∈ l, 0 ≤ r.2.1 ∧ r.2.1 ≤ r.2.2 ∧ r.2.2 ≤ 262144) ∧ l.length < 4294967296 := by
  have hB := isB_hdP (s := (b, false)) hb
  unfold conP at hc
  split at hc
  · cases hc
  rename_i hn
  simp only [Bool.or_eq_true, Bool.not_eq_true', not_or, Bool.not_eq_true, Bool.not_eq_false] at hn
  rw [Option.bind_eq_some_iff] at hc
  obtain ⟨⟨l', s'⟩, h1, h2⟩ := hc
  dsimp only at h2
  split at h2
  · simp only [Option.some.injEq, Prod.mk.injEq] at h2
    obtain ⟨rfl, rfl⟩ := h2
    obtain ⟨a1, a2, a3⟩ := runsP_some hn.1 h1
    have hsz : (hdG pt (b, false)).size ≤ 262144 := by
      have := hn.2
      unfold hmy at this
      simp only [Bool.and_eq_true, decide_eq_true_eq] at this
      exact this.1.2
    have hfr := runsR_from (hdG pt (b, false)).count.toNat hB.1
    have hln := runsR_len (hdG pt (b, false)).count.toNat (hdS pt (b, false))
    rw [a2] at hfr hln
    rw [mayR_from] at a3
    refine ⟨fun r hr => ?_, by have q1 := hB.2.1; have q2 := hB.2.2; have q3 : l'.length ≤ (hdG pt (b, false)).count.toNat := hln; omega⟩
    obtain ⟨i, hi, rfl⟩ := List.getElem_of_mem hr
    have h0 := hfr _ hr
    have ho := a3.1 i hi
    rw [List.getD_eq_getElem?_getD, List.getElem?_eq_getElem hi, Option.getD_some] at ho
    unfold okR at ho
    simp only [Bool.and_eq_true, decide_eq_true_eq] at ho
    exact ⟨h0, by omega, by omega⟩
  · cases h2
theorem takP_ok {zs : List Int} (hB : Pl.isB zs) {h : Hd} {l : List Rn} (ht : takP zs = (0, some (h, l))) : (∀ r ∈ l, 0 ≤ r.2.1 ∧ r.2.1 ≤ r.2.2 ∧ r.2.2 ≤ 262144) ∧ l.length < 4294967296 := by
  unfold takP at ht
  split at ht
  · split at ht
    · cases ht
    · revert ht
      cases hc : conP ((zs.take (zs.length - 4)).drop 4) with
      | none => intro ht; cases ht
      | some x =>
        intro ht
        simp only [Prod.mk.injEq, Option.some.injEq, true_and] at ht
        rw [ht] at hc
        exact conP_ok (Pl.isB_drop (Pl.isB_take hB _) _) hc
  · cases ht

set_option maxRecDepth 100000 in
set_option maxHeartbeats 2000000 in
theorem Look_any {w : World} {b off c : Nat} {zs : List Int} (hB : Pl.isB zs) (hc : zs.length < c) (hb : b < w.heap.size) (hcell : ∀ t, t < zs.length → w.cell? ⟨b, off + t, none⟩ = some (.int .u8 (zs.getD t 0))) (hz : zs.length ≤ 16777216) :
    Calls Try.prog 5 #[.slice (some ⟨b, off, none⟩) zs.length c] w fun e w' => e = .returned (.tuple #[hdV (takP zs).2, .int .i64 (takP zs).1]) ∧ Below w.heap.size w w' := by
  refine look_walk (some ⟨b, off, none⟩) zs.length c w _ ?_
  obtain ⟨wA, hwA⟩ : ∃ wA, wA = w.alloc (.cells #[.string ⟨#[]⟩, .int .i64 0, .string ⟨#[]⟩, .int .i64 0, .int .i64 0] 27) := ⟨_, rfl⟩
  have bA : Below w.heap.size w wA := by rw [hwA]; exact (Below.refl _ _).alloc (Nat.le_refl _) _
  have zA : wA.heap.size = w.heap.size + 1 := by rw [hwA]; simp
  have hz0 : wA.heap[w.heap.size]? = some (.cells #[.string ⟨#[]⟩, .int .i64 0, .string ⟨#[]⟩, .int .i64 0, .int .i64 0] 27 (0, 0)) := by rw [hwA]; exact Array.getElem?_push_size
  have S5 : ∀ u A B C D E, Below w.heap.size w u → Below w.heap.size w (set5 u w.heap.size A B C D E) := fun u A B C D E hu => hu.trans ((set5_but u w.heap.size A B C D E).below hu.size (fun x hx => by omega))
  refine ⟨wA, w.heap.size, hwA, rfl, Calls.mono (taken_any hB hc (by omega) (fun t ht => (bA.cell (p := ⟨b, off + t, none⟩) hb).trans (hcell t ht)) hz) ?_⟩
  rintro e w1 ⟨b1, hres⟩
  have hB1 : Below w.heap.size w w1 := bA.trans (b1.mono (by omega))
  have hz1 := b1.size
  have hzz1 := (b1.block w.heap.size (by omega)).trans hz0
  rcases hres with ⟨E, ht, hE, rfl⟩ | ⟨h, l, ra, rc, vals, ht, rfl, hrow, hV⟩
  · refine ⟨⟨#[]⟩, 0, ⟨#[]⟩, 0, none, 0, 0, E, rfl, by omega, ?_⟩
    have bb : Below w1.heap.size w1 (w1.alloc (.cells #[.string ⟨#[]⟩, .int .i64 0, .string ⟨#[]⟩, .int .u32 0, .slice none 0 0] 39)) := (Below.refl _ _).alloc (Nat.le_refl _) _
    exact ⟨_, w1.heap.size, rfl, rfl, (bb.block w.heap.size (by omega)).trans hzz1, fun _ => ⟨by rw [ht]; rfl, S5 _ _ _ _ _ _ (hB1.trans (bb.mono (by omega)))⟩, fun q => absurd q hE⟩
  · obtain ⟨hok, hlen⟩ := takP_ok hB ht
    refine ⟨strOfNums h.name, h.size, strOfNums h.since, h.sum, ra, l.length, rc, 0, rfl, by omega, ?_⟩
    obtain ⟨w2, hw2⟩ : ∃ w2, w2 = w1.alloc (.cells #[.string (strOfNums h.name), .int .i64 h.size, .string (strOfNums h.since), .int .u32 h.sum, .slice ra l.length rc] 39) := ⟨_, rfl⟩
    have bb : Below w1.heap.size w1 w2 := by rw [hw2]; exact (Below.refl _ _).alloc (Nat.le_refl _) _
    have z2 : w2.heap.size = w1.heap.size + 1 := by rw [hw2]; simp
    have hB2 : Below w.heap.size w w2 := hB1.trans (bb.mono (by omega))
    have hC2 : Cnb w2 w1.heap.size (strOfNums h.name) (strOfNums h.since) h.size h.sum (.slice ra l.length rc) := by
      unfold Cnb
      rw [hw2]
      exact Array.getElem?_push_size
    have hzz2 := (bb.block w.heap.size (by omega)).trans hzz1
    refine ⟨w2, w1.heap.size, hw2, rfl, hzz2, fun q => absurd rfl q, fun _ => ⟨hC2.cells, ?_⟩⟩
    have hrow2 : w2.drew.ownsRow wA.heap.size 58 1 (.slice ra l.length rc) l.length vals := row_keep hrow (fun g hg => bb.block g (row_lt hrow hg).2)
    refine Calls.mono (blocks_any (strOfNums h.name) (strOfNums h.since) h.size h.sum hrow2 hV hok hlen) ?_
    rintro e w3 ⟨rfl, b3⟩
    have b3 : Below w2.heap.size w2.drew w3 := b3
    have hC3 : Cnb w3 w1.heap.size (strOfNums h.name) (strOfNums h.since) h.size h.sum (.slice ra l.length rc) := hC2.keep (b3.block _ hC2.lt)
    refine ⟨blkN l, rfl, hC3.cells, (b3.block w.heap.size (by omega)).trans hzz2, fun u hu => (hC3.keep (hu.block _ hC3.lt (by omega))).cells, by rw [ht]; rfl, S5 _ _ _ _ _ _ (hB2.drew.trans (b3.mono (by omega)))⟩

end Go.Proofs.Ytahaehjmnafhbaa
