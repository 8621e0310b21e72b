/-
  FieldStamps: the record and the lender side by side; one Stamp held against the document's (function 32).
-/
import Derived.Test.YteaebdonnicbkabBkZ
import Derived.Test.YteaebdonnicbkabRSt
import Derived.Test.YteaebdonnicbkabSums
namespace Go.Proofs.Yteaebdonnicbkab
open Go.RowKit

theorem Bok.cut {B : Nat} {X : Nat → Prop} {w : World} {b cnt tot nK : Nat} (h : Bok B X w b cnt tot nK) : Bok B (fun x => X x ∧ x < w.heap.size) w b cnt tot nK := by
  obtain ⟨R, fr, he, ma, ke, wa, n, fv, hv, ms, kv, wv, K, Z, h⟩ := h
  refine ⟨R, fr, he, ma, ke, wa, n, fv, hv, ms, kv, wv, K, Z, ⟨h.hn, h.hml, h.hms, h.hZ, h.bk, h.fs, h.hd, fun x hx => ⟨h.xx x hx, ?_⟩⟩⟩
  rcases hx with q | q | q | q | q | q | q | ⟨j, hj, q⟩
  · rw [q]; exact h.bk.blk.lt
  · exact (World.ownsRow.lt h.bk.oF x q).2
  · exact (World.ownsRow.lt h.bk.oH x q).2
  · exact (World.ownsRow.lt h.bk.oM x q).2
  · exact (World.ownsRow.lt h.bk.rK.own x q).2
  · exact (World.ownsRow.lt h.bk.rW.own x q).2
  · exact (h.bk.rT x q).lt
  · exact (h.fs.own hj q).1.lt

/-- the record in block b, the lender in block L; Y: blocks among which theirs are -/
def Sta (B : Nat) (Y : Nat → Prop) (w : World) (L b cnt tot nK : Nat) : Prop :=
  ∃ bv X, LS w L bv ∧ Bok B X w b cnt tot nK ∧ (∀ x, XL L bv x → ¬ X x) ∧ (∀ x, X x → Y x ∧ B ≤ x ∧ x < w.heap.size) ∧ (∀ x, XL L bv x → Y x ∧ B ≤ x)
theorem Sta.mono {B : Nat} {Y Y' : Nat → Prop} {w : World} {L b cnt tot nK : Nat} (h : Sta B Y w L b cnt tot nK) (hy : ∀ x, Y x → Y' x) : Sta B Y' w L b cnt tot nK := by
  obtain ⟨bv, X, h1, h2, h3, h4, h5⟩ := h
  exact ⟨bv, X, h1, h2, h3, fun x hx => ⟨hy x (h4 x hx).1, (h4 x hx).2⟩, fun x hx => ⟨hy x (h5 x hx).1, (h5 x hx).2⟩⟩
theorem Sta.but {B : Nat} {Y Z : Nat → Prop} {w w' : World} {L b cnt tot nK : Nat} (h : Sta B Y w L b cnt tot nK) (hb : But Z w w') (hz : ∀ x, Y x → ¬ Z x) : Sta B Y w' L b cnt tot nK := by
  obtain ⟨bv, X, h1, h2, h3, h4, h5⟩ := h
  exact ⟨bv, X, h1.but hb (fun x hx => hz x (h5 x hx).1), h2.but hb (fun x _ hx => hz x (h4 x hx).1), h3, fun x hx => ⟨(h4 x hx).1, (h4 x hx).2.1, Nat.lt_of_lt_of_le (h4 x hx).2.2 hb.size⟩, h5⟩

/-- what a Stamp answers: the number of its error, and the block -/
def stampR (K S : Int) (body : List Int) : Int × List Int :=
  if K < 1 ∨ 255 < K then (13, []) else if S < 0 ∨ 1099511627776 < S then (14, []) else if 497 < body.length then (15, []) else (0, stampZ K S body)

theorem Stamp_any (K S : Int) (a : Option Addr) (n c : Nat) (body : List Int) (w : World) (hR : Rd w.heap.size w a n body) :
    Calls Try.prog 13 #[.int .i64 K, .int .i64 S, .slice a n c] w fun e w' => ∃ al, e = .returned (.tuple #[.slice al (stampR K S body).2.length (stampR K S body).2.length, .int .i64 (stampR K S body).1]) ∧
      ((al = none ∧ (stampR K S body).2 = []) ∨ (al = some ⟨w.heap.size, 0, none⟩ ∧ Blk .u8 5 w' w.heap.size (stampR K S body).2)) ∧ Pl.isB (stampR K S body).2 ∧ (stampR K S body).2.length ≤ 512 ∧ Below w.heap.size w w' := by
  unfold stampR
  by_cases h1 : K < 1 ∨ 255 < K
  · simp only [if_pos h1]
    refine (Stamp_kind K S a n c w h1).mono ?_
    rintro e w' ⟨rfl, rfl⟩
    exact ⟨none, rfl, .inl ⟨rfl, trivial⟩, Pl.isB_nil, by simp, Below.refl _ _⟩
  · simp only [if_neg h1]
    by_cases h2 : S < 0 ∨ 1099511627776 < S
    · simp only [if_pos h2]
      refine (Stamp_seq K S a n c w (by omega) (by omega) h2).mono ?_
      rintro e w' ⟨rfl, rfl⟩
      exact ⟨none, rfl, .inl ⟨rfl, trivial⟩, Pl.isB_nil, by simp, Below.refl _ _⟩
    · simp only [if_neg h2]
      have hl := hR.1
      by_cases h3 : 497 < body.length
      · simp only [if_pos h3]
        refine (Stamp_long K S a n c w (by omega) (by omega) (by omega) (by omega) (by omega)).mono ?_
        rintro e w' ⟨rfl, rfl⟩
        exact ⟨none, rfl, .inl ⟨rfl, trivial⟩, Pl.isB_nil, by simp, Below.refl _ _⟩
      · simp only [if_neg h3]
        have hl5 := (stamp_facts K S body (by omega) (by omega) (by omega) (by omega) (by omega) hR.2.1).1
        refine (Stamp_ok K S a n c body w (by omega) (by omega) (by omega) (by omega) (by omega) hR).mono ?_
        rintro e w' ⟨rfl, hB, hb⟩
        exact ⟨_, by rw [hl5], .inr ⟨rfl, hB⟩, isB_stamp K S body (by omega) (by omega) hR.2.1, by omega, hb⟩
theorem refStamp_any (K S : Int) (a : Option Addr) (n c : Nat) (body : List Int) (w : World) (hnil : a = none → c = 0) (hR : Rd w.heap.size w a n body) :
    Calls Try.prog 31 #[.int .i64 K, .int .i64 S, .slice a n c] w fun e w' => ∃ a2 n2 c2, e = .returned (.tuple #[.slice a2 n2 c2, .int .i64 (stampR K S body).1]) ∧ Rd w'.heap.size w' a2 n2 (stampR K S body).2 ∧ Below w.heap.size w w' := by
  unfold stampR
  by_cases h1 : K < 1 ∨ 255 < K
  · simp only [if_pos h1]
    refine (refStamp_kind K S a n c w h1).mono ?_
    rintro e w' ⟨rfl, rfl⟩
    exact ⟨none, 0, 0, rfl, ⟨rfl, Pl.isB_nil, .inl rfl⟩, Below.refl _ _⟩
  · simp only [if_neg h1]
    by_cases h2 : S < 0 ∨ 1099511627776 < S
    · simp only [if_pos h2]
      refine (refStamp_seq K S a n c w (by omega) (by omega) h2).mono ?_
      rintro e w' ⟨rfl, rfl⟩
      exact ⟨none, 0, 0, rfl, ⟨rfl, Pl.isB_nil, .inl rfl⟩, Below.refl _ _⟩
    · simp only [if_neg h2]
      have hl := hR.1
      by_cases h3 : 497 < body.length
      · simp only [if_pos h3]
        refine (refStamp_long K S a n c w (by omega) (by omega) (by omega) (by omega) (by omega)).mono ?_
        rintro e w' ⟨rfl, rfl⟩
        exact ⟨none, 0, 0, rfl, ⟨rfl, Pl.isB_nil, .inl rfl⟩, Below.refl _ _⟩
      · simp only [if_neg h3]
        refine (refStamp_ok K S a n c body w (by omega) (by omega) (by omega) (by omega) (by omega) hnil hR).mono ?_
        rintro e w' ⟨g, cap, rfl, _, hO, hb⟩
        exact ⟨_, _, _, rfl, hO.rd (isB_stamp K S body (by omega) (by omega) hR.2.1), hb⟩

end Go.Proofs.Yteaebdonnicbkab
