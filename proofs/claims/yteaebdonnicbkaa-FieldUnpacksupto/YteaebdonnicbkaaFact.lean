/-
  What a stamped block's bytes say. Plain.
-/
import Derived.Test.YteaebdonnicbkaaStamp
namespace Go.Proofs.Yteaebdonnicbkaa
open Go.RowKit

theorem stampZ_eq (kind seq : Int) (body : List Int) :
    stampZ kind seq body = kind :: (Pl.dig (body.length : Int) 2 ++ (Pl.dig seq 8 ++ (Pl.dig (crc (bareZ kind seq body)) 4 ++ (body ++ zeros (497 - body.length))))) := by
  unfold stampZ
  generalize crc (bareZ kind seq body) = C
  simp [bareZ, splice, Pl.dig]
theorem stamp_bare (kind seq : Int) (body : List Int) : splice (stampZ kind seq body) 11 [0, 0, 0, 0] = bareZ kind seq body := by
  rw [stampZ_eq]
  generalize crc (bareZ kind seq body) = C
  simp [bareZ, splice, Pl.dig]
theorem isB_bare (kind seq : Int) (body : List Int) (k1 : 1 ≤ kind) (k2 : kind ≤ 255) (hb : Pl.isB body) : Pl.isB (bareZ kind seq body) := by
  unfold bareZ
  exact Pl.isB_cons.2 ⟨by omega, Pl.isB_append.2 ⟨Pl.isB_dig _ _, Pl.isB_append.2 ⟨Pl.isB_dig _ _, Pl.isB_append.2 ⟨isB_four, Pl.isB_append.2 ⟨hb, isB_zeros _⟩⟩⟩⟩⟩
theorem isB_stamp (kind seq : Int) (body : List Int) (k1 : 1 ≤ kind) (k2 : kind ≤ 255) (hb : Pl.isB body) : Pl.isB (stampZ kind seq body) :=
  isB_splice (isB_bare kind seq body k1 k2 hb) (Pl.isB_dig _ _) _
theorem zeroB_zeros (n : Nat) : zeroB (zeros n) = true := by
  unfold zeroB zeros
  simp

theorem stamp_facts (kind seq : Int) (body : List Int) (k1 : 1 ≤ kind) (k2 : kind ≤ 255) (s1 : 0 ≤ seq) (s2 : seq ≤ 1099511627776) (hl : body.length ≤ 497) (hb : Pl.isB body) :
    (stampZ kind seq body).length = 512 ∧ (stampZ kind seq body).getD 0 0 = kind ∧ Pl.num (((stampZ kind seq body).drop 1).take 2) = (body.length : Int) ∧ Pl.num (((stampZ kind seq body).drop 3).take 8) = seq ∧
    zeroB ((stampZ kind seq body).drop (15 + body.length)) = true ∧ Pl.num (((stampZ kind seq body).drop 11).take 4) = crc (splice (stampZ kind seq body) 11 [0, 0, 0, 0]) ∧ ((stampZ kind seq body).drop 15).take body.length = body := by
  rw [stamp_bare]
  obtain ⟨c1, c2⟩ := crc_bd (isB_bare kind seq body k1 k2 hb)
  rw [stampZ_eq]
  generalize crc (bareZ kind seq body) = C at *
  have n2 := Pl.num_dig (body.length : Int) 2 (by omega) (by omega)
  have n8 := Pl.num_dig seq 8 s1 (by omega)
  have n4 := Pl.num_dig C 4 c1 (by omega)
  have l2 := Pl.length_dig (body.length : Int) 2
  have l8 := Pl.length_dig seq 8
  have l4 := Pl.length_dig C 4
  generalize Pl.dig (body.length : Int) 2 = D2 at *
  generalize Pl.dig seq 8 = D8 at *
  generalize Pl.dig C 4 = D4 at *
  have hz := zeroB_zeros (497 - body.length)
  have hzl := length_zeros (497 - body.length)
  generalize zeros (497 - body.length) = Z at *
  match D2, l2 with
  | [a1, a2], _ =>
  match D4, l4 with
  | [d1, d2, d3, d4], _ =>
  match D8, l8 with
  | [b1, b2, b3, b4, b5, b6, b7, b8], _ =>
  have e : (15 + body.length) = body.length + 15 := by omega
  refine ⟨?_, rfl, ?_, ?_, ?_, ?_, ?_⟩
  · simp [hzl]; omega
  · simpa using n2
  · simpa using n8
  · rw [e]
    simpa using hz
  · simpa using n4
  · simp

end Go.Proofs.Yteaebdonnicbkaa
