/-
  Jobs on a disk with a fuse.
-/
import Derived.Test.YtilpjgonkmkhmaaCr1
namespace Go.Proofs.Ytilpjgonkmkhmaa
open Go.RowKit

def fuS (F k : Nat) : Int := ((F - k : Nat) : Int)
def offS (F k : Nat) : Bool := decide (F < k)
def stS (nb : Nat) (L : List JobD) (F k : Nat) : List Int × List (Nat × List Int) := jobsZ nb (L.take (min k F))
def codS (F k : Nat) : Int := if k < F then 0 else 24
theorem stS_lt {nb : Nat} {L : List JobD} {F k : Nat} {d : JobD} (hd : L[k]? = some d) (h : k < F) : stS nb L F (k + 1) = jstep nb (stS nb L F k) d := by
  unfold stS
  rw [Nat.min_eq_left (by omega), Nat.min_eq_left (by omega), jobsZ_snoc nb L k d hd]
theorem stS_ge {nb : Nat} {L : List JobD} {F k : Nat} (h : F ≤ k) : stS nb L F (k + 1) = stS nb L F k := by
  unfold stS
  rw [Nat.min_eq_right (by omega), Nat.min_eq_right (by omega)]
theorem stS_len {nb : Nat} {L : List JobD} {F k : Nat} : (stS nb L F k).2.length ≤ L.length := by
  have := jobsZ_len nb (L.take (min k F))
  rw [List.length_take] at this
  unfold stS
  omega
theorem burn_step (F k : Nat) : flushC (offS F k) (fuS F k) = codS F k ∧ afterF (offS F k) (fuS F k) = fuS F (k + 1) ∧ afterO (offS F k) (fuS F k) = offS F (k + 1) := by
  unfold flushC afterF afterO offS fuS codS burnC burnF burnO
  by_cases h1 : k < F
  · have a1 : ¬ F < k := by omega
    have a2 : ¬ ((F - k : Nat) : Int) = 0 := by omega
    have a3 : ¬ ((F - k : Nat) : Int) = -1 := by omega
    have a4 : ¬ F < k + 1 := by omega
    simp only [a1, a2, a3, a4, h1, decide_false, if_true, if_false, Bool.false_eq_true]
    refine ⟨trivial, ?_, trivial⟩
    omega
  · by_cases h2 : F < k
    · have a4 : F < k + 1 := by omega
      simp only [h1, h2, a4, decide_true, if_true, if_false]
      refine ⟨trivial, ?_, trivial⟩
      omega
    · obtain rfl : k = F := by omega
      have a1 : k < k + 1 := by omega
      have a2 : ((k - k : Nat) : Int) = 0 := by omega
      simp only [h1, a1, a2, decide_true, decide_false, if_true, if_false, Bool.false_eq_true]
      refine ⟨trivial, ?_, trivial⟩
      rw [if_neg (by omega)]
      omega
theorem write_step (F k nb : Nat) {x : Int} (h0 : 0 ≤ x) (h1 : x < nb) : writeC (offS F k) (fuS F k) nb x 512 = codS F k ∧ writeF (offS F k) (fuS F k) nb x 512 = fuS F (k + 1) ∧ writeO (offS F k) (fuS F k) nb x 512 = offS F (k + 1) := by
  obtain ⟨b1, b2, b3⟩ := burn_step F k
  have c0 : ¬ (x < 0 ∨ (nb : Int) ≤ x) := by omega
  rw [← b1, ← b2, ← b3]
  unfold writeC writeF writeO flushC afterF afterO
  cases h : offS F k
  · have c1 : (false = false ∧ ¬ (x < 0 ∨ (nb : Int) ≤ x) ∧ 512 = 512) := ⟨rfl, c0, rfl⟩
    rw [if_neg c0, if_pos c1, if_pos c1]
    simp
  · simp
theorem job_flushF {X : Nat → Prop} {w : World} {p nb F k : Nat} {L : List JobD} (h : Dk X w p (stS nb L F k).1 (stS nb L F k).2 (fuS F k) (offS F k) nb) (hl : L.length ≤ 1073741823) {d : JobD} (hk : L[k]? = some d) (hd : d.fl = true) (hX : ∀ x, w.heap.size ≤ x → X x) :
    Calls Try.prog 8 #[.pointer (some ⟨p, 0, none⟩)] w fun e w' => e = .returned (.int .i64 (codS F k)) ∧ Dk X w' p (stS nb L F (k + 1)).1 (stS nb L F (k + 1)).2 (fuS F (k + 1)) (offS F (k + 1)) nb ∧ But X w w' := by
  have hlen := stS_len (nb := nb) (L := L) (F := F) (k := k)
  obtain ⟨b1, b2, b3⟩ := burn_step F k
  refine (Flush_any h (by omega)).mono ?_
  rintro e w' ⟨rfl, h1, h2⟩
  rw [b1, b2, b3] at h1
  rw [b1]
  refine ⟨rfl, ?_, h2⟩
  have h3 := h1.mono (X' := X) (fun x hx => hx.elim id (hX x))
  by_cases hF : k < F
  · have c1 : codS F k = 0 := if_pos hF
    rw [c1, if_pos rfl, if_pos rfl] at h3
    have e1 : jstep nb (stS nb L F k) d = (flushZ (stS nb L F k).1 (stS nb L F k).2, []) := if_pos hd
    rw [stS_lt hk hF, e1]
    exact h3
  · have c1 : codS F k = 24 := if_neg hF
    rw [c1, if_neg (by omega), if_neg (by omega)] at h3
    rw [stS_ge (by omega)]
    exact h3
theorem job_writeF {X : Nat → Prop} {w w1 : World} {p nb F k : Nat} {L : List JobD} (h : Dk X w p (stS nb L F k).1 (stS nb L F k).2 (fuS F k) (offS F k) nb) (hl : L.length ≤ 1073741823) {d : JobD} (hk : L[k]? = some d) (hd : d.fl = false) (hX : ∀ x, w.heap.size ≤ x → X x) (h0 : 0 < nb) {g : Nat} (hg : w.heap.size ≤ g) (hB : Blk .u8 5 w1 g (blkZ d.fi)) (hb : Below w.heap.size w w1) :
    Calls Try.prog 9 #[.pointer (some ⟨p, 0, none⟩), .int .i64 (into nb d.at_ : Int), .slice (some ⟨g, 0, none⟩) 512 512] w1 fun e w' => e = .returned (.int .i64 (codS F k)) ∧ Dk X w' p (stS nb L F (k + 1)).1 (stS nb L F (k + 1)).2 (fuS F (k + 1)) (offS F (k + 1)) nb ∧ But X w w' := by
  have hi := into_lt d.at_ h0
  have hR : RdN (fun x => X x ∧ x < w.heap.size) w1 (some ⟨g, 0, none⟩) 512 (blkZ d.fi) := by
    have := RdN.of_blk (X := fun x => X x ∧ x < w.heap.size) hB (isB_blkZ _) (fun q => by omega)
    rw [length_blkZ] at this
    exact this
  have hlen := stS_len (nb := nb) (L := L) (F := F) (k := k)
  refine (Write_any (h.cut.below hb) (by omega) (into nb d.at_ : Int) (some ⟨g, 0, none⟩) 512 512 _ hR).mono ?_
  obtain ⟨b1, b2, b3⟩ := write_step F k nb (x := (into nb d.at_ : Int)) (by omega) (by omega)
  rintro e w' ⟨rfl, h1, h2⟩
  rw [b1, b2, b3] at h1
  rw [b1]
  refine ⟨rfl, ?_, (But.of_below hb).trans (h2.mono (fun k _ q => q.1))⟩
  have h3 := h1.mono (X' := X) (fun x hx => hx.elim (fun q => q.1) (fun q => hX x (Nat.le_trans hb.size q)))
  by_cases hF : k < F
  · have c1 : codS F k = 0 := if_pos hF
    rw [c1, if_pos rfl] at h3
    have e1 : jstep nb (stS nb L F k) d = ((stS nb L F k).1, (stS nb L F k).2 ++ [(into nb d.at_, blkZ d.fi)]) := by unfold jstep; rw [hd]; rfl
    rw [stS_lt hk hF, e1]
    exact h3
  · have c1 : codS F k = 24 := if_neg hF
    rw [c1, if_neg (by omega)] at h3
    rw [stS_ge (by omega)]
    exact h3

end Go.Proofs.Ytilpjgonkmkhmaa
