/-
  The document's answer: Look.
-/
import Derived.Test.YtahaehjmnafhbaaRl0
namespace Go.Proofs.Ytahaehjmnafhbaa
open Go.RowKit

/-- a head's block -/
def Hnb (w : World) (hb : Nat) (S1 S2 : ByteArray) (sz n K : Int) : Prop := w.heap[hb]? = some (.cells #[.string S1, .int .i64 sz, .string S2, .int .i64 n, .int .i64 K] 27 (0, 0))
theorem Hnb.lt {w : World} {hb : Nat} {S1 S2 : ByteArray} {sz n K : Int} (h : Hnb w hb S1 S2 sz n K) : hb < w.heap.size := (Array.getElem?_eq_some_iff.1 h).1
theorem Hnb.cells {w : World} {hb : Nat} {S1 S2 : ByteArray} {sz n K : Int} (h : Hnb w hb S1 S2 sz n K) : w.cell? ⟨hb, 0, none⟩ = some (.string S1) ∧ w.cell? ⟨hb, 1, none⟩ = some (.int .i64 sz) ∧ w.cell? ⟨hb, 2, none⟩ = some (.string S2) ∧ w.cell? ⟨hb, 3, none⟩ = some (.int .i64 n) ∧ w.cell? ⟨hb, 4, none⟩ = some (.int .i64 K) := by
  unfold Hnb at h
  exact ⟨by simp [World.cell?, h], by simp [World.cell?, h], by simp [World.cell?, h], by simp [World.cell?, h], by simp [World.cell?, h]⟩
theorem Hnb.fz {w : World} {hb : Nat} {S1 S2 : ByteArray} {sz n K : Int} (h : Hnb w hb S1 S2 sz n K) (t : Nat) : w.frozen? ⟨hb, t, none⟩ = false := by unfold Hnb at h; simp [World.frozen?, h]
theorem Hnb.set {w : World} {hb : Nat} {S1 S2 : ByteArray} {sz n K : Int} (h : Hnb w hb S1 S2 sz n K) (u : Int) : Hnb (w.setCell ⟨hb, 4, none⟩ (.int .i64 u)) hb S1 S2 sz n u := by
  unfold Hnb at *; simp only [World.setCell, Array.getElem?_modify]; rw [h]; simp
theorem RRd.keep {w w' : World} {a : Option Addr} {l : List Rn} (h : RRd w a l) {B : Nat} (hb : Below B w w') (hg : ∀ g, a = some ⟨g, 0, none⟩ → g < B) : RRd w' a l := by
  rcases h with h | ⟨g, e, hl, hc⟩
  · exact .inl h
  · refine .inr ⟨g, e, Nat.lt_of_lt_of_le hl hb.size, fun j r hj => ?_⟩
    obtain ⟨a0, a1, a2, x, y, z, a3⟩ := hc j r hj
    have := hg g e
    exact ⟨(hb.cell (p := ⟨g, j * 4, none⟩) this).trans a0, (hb.cell (p := ⟨g, j * 4 + 1, none⟩) this).trans a1, (hb.cell (p := ⟨g, j * 4 + 2, none⟩) this).trans a2, x, y, z, (hb.cell (p := ⟨g, j * 4 + 3, none⟩) this).trans a3⟩
structure Lil (w2 : World) (sb r0 : Nat) (h : Hd) (l : List Rn) (i : Nat) (K : Int) (wt : World) : Prop where
  k : K = blkN (l.take i)
  hb : Hnb wt (sb + 1) (strOfNums h.name) (strOfNums h.since) h.size (l.length : Int) K
  bl : Below (sb + 1) w2 wt

set_option maxRecDepth 100000 in
set_option maxHeartbeats 4000000 in
theorem rlook_gen {w : World} {a : Option Addr} {n c : Nat} {zs : List Int} (hB : Pl.isB zs) (hP : ∀ W, Below w.heap.size w W → Calls Try.prog 13 #[.slice a n c] W (PsP zs W)) :
    Calls Try.prog 7 #[.slice a n c] w fun e w' => e = .returned (.tuple #[hdV (takP zs).2, .int .i64 (takP zs).1]) ∧ Below w.heap.size w w' := by
  refine rlook_walk a n c w _ ?_
  obtain ⟨wA, hwA⟩ : ∃ wA, wA = w.alloc (.cells #[.string ⟨#[]⟩, .int .i64 0, .string ⟨#[]⟩, .int .i64 0, .int .i64 0] 27) := ⟨_, rfl⟩
  have bA : Below w.heap.size w wA := by rw [hwA]; exact (Below.refl _ _).alloc (Nat.le_refl _) _
  have zA : wA.heap.size = w.heap.size + 1 := by rw [hwA]; simp
  have hz0 : wA.heap[w.heap.size]? = some (.cells #[.string ⟨#[]⟩, .int .i64 0, .string ⟨#[]⟩, .int .i64 0, .int .i64 0] 27 (0, 0)) := by rw [hwA]; exact Array.getElem?_push_size
  have S5 : ∀ u A B C D E, Below w.heap.size w u → Below w.heap.size w (set5 u w.heap.size A B C D E) := fun u A B C D E hu => hu.trans ((set5_but u w.heap.size A B C D E).below hu.size (fun x hx => by omega))
  refine ⟨wA, w.heap.size, hwA, rfl, Calls.mono (hP wA bA) ?_⟩
  rintro e w1 ⟨b1, hres⟩
  have hB1 : Below w.heap.size w w1 := bA.trans (b1.mono (by omega))
  have hz1 := b1.size
  have hzz1 := (b1.block w.heap.size (by omega)).trans hz0
  rcases hres with ⟨E, ht, hE, rfl⟩ | ⟨h, l, ra, rc, ht, rfl, hRR⟩
  · refine ⟨⟨#[]⟩, 0, ⟨#[]⟩, 0, none, 0, 0, E, rfl, by omega, ?_⟩
    have bb : Below w1.heap.size w1 (w1.alloc (.cells #[.string ⟨#[]⟩, .int .i64 0, .string ⟨#[]⟩, .int .i64 0, .slice none 0 0] 47)) := (Below.refl _ _).alloc (Nat.le_refl _) _
    exact ⟨_, w1.heap.size, rfl, rfl, (bb.block w.heap.size (by omega)).trans hzz1, fun _ => ⟨by rw [ht]; rfl, S5 _ _ _ _ _ _ (hB1.trans (bb.mono (by omega)))⟩, fun q => absurd q hE⟩
  · obtain ⟨hok, hlen⟩ := takP_ok hB ht
    refine ⟨strOfNums h.name, h.size, strOfNums h.since, h.sum, ra, l.length, rc, 0, rfl, by omega, ?_⟩
    obtain ⟨w2, hw2⟩ : ∃ w2, w2 = w1.alloc (.cells #[.string (strOfNums h.name), .int .i64 h.size, .string (strOfNums h.since), .int .i64 h.sum, .slice ra l.length rc] 47) := ⟨_, rfl⟩
    have bb : Below w1.heap.size w1 w2 := by rw [hw2]; exact (Below.refl _ _).alloc (Nat.le_refl _) _
    have z2 : w2.heap.size = w1.heap.size + 1 := by rw [hw2]; simp
    have hB2 : Below w.heap.size w w2 := hB1.trans (bb.mono (by omega))
    have hS2 : Snb w2 w1.heap.size (strOfNums h.name) (strOfNums h.since) h.size h.sum (.slice ra l.length rc) := by unfold Snb; rw [hw2]; exact Array.getElem?_push_size
    have hzz2 := (bb.block w.heap.size (by omega)).trans hzz1
    have hga : ∀ g, l ≠ [] → ra = some ⟨g, 0, none⟩ → g < w1.heap.size := fun g hl e => by
      rcases hRR with z | ⟨g', e', hg, _⟩
      · exact absurd z hl
      · rw [e] at e'; simp at e'; omega
    refine ⟨w2, w1.heap.size, hw2, rfl, hzz2, fun q => absurd rfl q, fun _ => ⟨hS2.cells, ?_⟩⟩
    obtain ⟨w3, hw3⟩ : ∃ w3, w3 = w2.alloc (.cells #[.string (strOfNums h.name), .int .i64 h.size, .string (strOfNums h.since), .int .i64 (l.length : Int), .int .i64 0] 27) := ⟨_, rfl⟩
    have b3 : Below w2.heap.size w2 w3 := by rw [hw3]; exact (Below.refl _ _).alloc (Nat.le_refl _) _
    refine ⟨w3, w1.heap.size + 1, hw3, rfl, Lil w2 w1.heap.size w.heap.size h l, ⟨rfl, ?_, by rw [← z2]; exact b3⟩, ?_⟩
    · unfold Hnb; rw [hw3, ← z2]; exact Array.getElem?_push_size
    intro i K wt hL
    have hSt : Snb wt w1.heap.size (strOfNums h.name) (strOfNums h.since) h.size h.sum (.slice ra l.length rc) := hS2.keep (hL.bl.block _ (by omega))
    refine ⟨hSt.cells.2.2.2.2, fun hi => ?_, fun hi => ?_⟩
    · have hlne : l ≠ [] := fun e => by rw [e] at hi; simp at hi
      rcases hRR with z | ⟨g, e, hg, hc⟩
      · exact absurd z hlne
      obtain ⟨r, hr⟩ : ∃ r, l[i]? = some r := ⟨l[i], List.getElem?_eq_getElem hi⟩
      have hrm : r ∈ l := List.mem_of_getElem? hr
      have hbd := hok r hrm
      have hK := blkN_bd (l := l.take i) (fun r' h' => hok r' (List.mem_of_mem_take h'))
      have hkl : (l.take i).length ≤ l.length := by simp; omega
      rw [← hL.k] at hK
      have htk : l.take (i + 1) = l.take i ++ [r] := by
        rw [List.take_succ_eq_append_getElem hi]
        rw [List.getElem?_eq_getElem hi] at hr
        simp at hr
        rw [hr]
      have cellAt : ∀ {u : World}, Below (w1.heap.size + 1) w2 u → u.cell? ⟨g, i * 4, none⟩ = some (.int .i64 r.1) ∧ u.cell? ⟨g, i * 4 + 1, none⟩ = some (.int .i64 r.2.1) ∧ u.cell? ⟨g, i * 4 + 2, none⟩ = some (.int .i64 r.2.2) := fun {u} hu => by
        obtain ⟨a0, a1, a2, _⟩ := hc i r hr
        have hb2 : Below w1.heap.size w1 u := bb.trans (hu.mono (by omega))
        exact ⟨(hb2.cell (p := ⟨g, i * 4, none⟩) hg).trans a0, (hb2.cell (p := ⟨g, i * 4 + 1, none⟩) hg).trans a1, (hb2.cell (p := ⟨g, i * 4 + 2, none⟩) hg).trans a2⟩
      have hct := cellAt hL.bl
      refine ⟨g, r.1, r.2.1, r.2.2, e, hct.1, hct.2.1, hct.2.2, hL.hb.cells.2.2.2.2, hL.hb.fz 4, ⟨hK.1, by omega, hbd.1, hbd.2.1, hbd.2.2⟩, fun k1 => ?_, fun k1 => ?_⟩
      · have hnb : Below (w1.heap.size + 1) w2 (wt.setCell ⟨w1.heap.size + 1, 4, none⟩ (.int .i64 (K + r.2.2 - r.2.1))).drew := (hL.bl.trans (((But.refl (fun x => x = w1.heap.size + 1) wt).setCell (p := ⟨w1.heap.size + 1, 4, none⟩) rfl (.int .i64 (K + r.2.2 - r.2.1))).below (by have := hL.bl.size; omega) (fun x hx => by omega))).drew
        have hcn := cellAt hnb
        have hSn : Snb (wt.setCell ⟨w1.heap.size + 1, 4, none⟩ (.int .i64 (K + r.2.2 - r.2.1))).drew w1.heap.size (strOfNums h.name) (strOfNums h.since) h.size h.sum (.slice ra l.length rc) := hS2.keep (hnb.block _ (by omega))
        refine ⟨⟨by rw [← e]; exact hSn.cells.2.2.2.2, hcn.2.2, hcn.2.1⟩, ⟨?_, hL.hb.set _, hnb⟩⟩
        rw [htk, blkN_snoc, ← hL.k]
        unfold blk1
        rw [if_pos k1]
        omega
      · refine ⟨?_, hL.hb, hL.bl⟩
        rw [htk, blkN_snoc, ← hL.k]
        unfold blk1
        rw [if_neg k1, Int.add_zero]
    · have hB3 : Below w.heap.size w wt := hB2.trans (hL.bl.mono (by omega))
      refine ⟨hL.hb.cells, (hL.bl.block w.heap.size (by omega)).trans hzz2, ?_, S5 _ _ _ _ _ _ hB3⟩
      rw [ht, hL.k, hi, List.take_length]
      rfl

theorem rLook_any {w : World} {b off c : Nat} {zs : List Int} (hB : Pl.isB zs) (hc : zs.length ≤ c) (hb : b < w.heap.size) (hcell : ∀ t, t < zs.length → w.cell? ⟨b, off + t, none⟩ = some (.int .u8 (zs.getD t 0))) (hz : zs.length ≤ 16777216) :
    Calls Try.prog 7 #[.slice (some ⟨b, off, none⟩) zs.length c] w fun e w' => e = .returned (.tuple #[hdV (takP zs).2, .int .i64 (takP zs).1]) ∧ Below w.heap.size w w' :=
  rlook_gen hB (fun _ hW => parse_any hB hc (Nat.lt_of_lt_of_le hb hW.size) (fun t ht => (hW.cell (p := ⟨b, off + t, none⟩) hb).trans (hcell t ht)) hz)
theorem rLook_nil (w : World) : Calls Try.prog 7 #[.slice none 0 0] w fun e w' => e = .returned (.tuple #[hdV (takP []).2, .int .i64 (takP []).1]) ∧ Below w.heap.size w w' :=
  rlook_gen Pl.isB_nil (fun W _ => Calls.mono (parse_nil W) (fun e w' q => ⟨q.2, .inl ⟨150, takP_150 (by simp), by decide, q.1⟩⟩))

end Go.Proofs.Ytahaehjmnafhbaa
