/-
  FieldStamped: what its calls answer, in its own words.
-/
import Derived.Test.YteaebdonnicbkaaUAny
namespace Go.Proofs.Yteaebdonnicbkaa
open Go.RowKit

theorem Rd.of_blk' {w : World} {g n : Nat} {zs : List Int} (h : Blk .u8 5 w g zs) (hb : Pl.isB zs) (hl : zs.length = n) : Rd w.heap.size w (some ⟨g, 0, none⟩) n zs := by
  subst hl
  exact Rd.of_blk h hb h.lt
theorem Own.rd {w : World} {g n cap : Nat} {zs : List Int} (h : Own w g n cap zs) (hb : Pl.isB zs) : Rd w.heap.size w (some ⟨g, 0, none⟩) n zs := (h.rdn (X := fun _ => False) hb (fun h => h)).rd
theorem Own.cap {w : World} {g n cap : Nat} {zs : List Int} (h : Own w g n cap zs) : n ≤ cap := by
  obtain ⟨_, _, e, _, hc⟩ := owns_form h (by intro h; cases h)
  simp at e
  omega

/-- Unstamp of a copy of a stamped block -/
theorem unst_stamp (K S : Int) (body : List Int) (g cap n : Nat) (w : World) (k1 : 1 ≤ K) (k2 : K ≤ 255) (s1 : 0 ≤ S) (s2 : S ≤ 1099511627776) (hl : body.length = n) (hn : n ≤ 497) (hb : Pl.isB body) (hO : Own w g 512 cap (stampZ K S body)) :
    Calls Try.prog 13 #[.slice (some ⟨g, 0, none⟩) 512 cap] w fun e w' => ∃ g, e = .returned (.tuple #[.int .i64 K, .int .i64 S, .slice (some ⟨g, 0, none⟩) n n, .int .i64 0]) ∧ Blk .u8 5 w' g body ∧ Below w.heap.size w w' := by
  subst hl
  obtain ⟨f1, f2, f3, f4, f5, f6, f7⟩ := stamp_facts K S body k1 k2 s1 s2 hn hb
  have hi := isB_stamp K S body k1 k2 hb
  refine (Unstamp_ok g 0 cap _ K S body.length w f1 hi hO.lt hO.cap (fun t ht => by rw [Nat.zero_add]; exact hO.cell t ht) f2 k1 f3 hn f4 s2 f5 f6).mono ?_
  rintro e w' ⟨g, he, _, hB, hb⟩
  rw [f7] at hB
  exact ⟨g, he, hB, hb⟩

/-- counted: none, just if each that counts is nought -/
def Cnt (I : Nat → Prop) (ch k q : Nat) : Prop := q ≤ k ∧ (q = 0 ↔ ∀ i, i < k → I i → chg ch i = 0)
theorem cnt_zero (I : Nat → Prop) (ch : Nat) : Cnt I ch 0 0 := ⟨Nat.le_refl _, ⟨fun _ i h => by omega, fun _ => rfl⟩⟩
theorem cnt_hit {I : Nat → Prop} {ch k q : Nat} (h : Cnt I ch k q) (hi : I k) (hc : chg ch k ≠ 0) : Cnt I ch (k + 1) (q + 1) :=
  ⟨by have := h.1; omega, ⟨fun h => by omega, fun h => absurd (h k (by omega) hi) hc⟩⟩
theorem cnt_miss {I : Nat → Prop} {ch k q : Nat} (h : Cnt I ch k q) (hc : I k → chg ch k = 0) : Cnt I ch (k + 1) q :=
  ⟨by have := h.1; omega, ⟨fun hq i hi hI => by
    by_cases e : i = k
    · subst e; exact hc hI
    · exact h.2.1 hq i (by omega) hI, fun hall => h.2.2 fun i hi hI => hall i (by omega) hI⟩⟩
def inS (A i : Nat) : Prop := 11 ≤ A + i ∧ A + i < 15
theorem all_chg {ch : Nat} (hch : ch < 4294967296) (h : ∀ i, i < 4 → chg ch i = 0) : ch = 0 := by
  have h0 := h 0 (by decide)
  have h1 := h 1 (by decide)
  have h2 := h 2 (by decide)
  have h3 := h 3 (by decide)
  simp only [chg] at h0 h1 h2 h3
  omega
theorem some_chg {ch : Nat} (hch : ch < 4294967296) (h : ch ≠ 0) : ∃ i, i < 4 ∧ chg ch i ≠ 0 :=
  Classical.byContradiction fun hno => h (all_chg hch fun i hi => Classical.byContradiction fun hc => hno ⟨i, hi, hc⟩)
theorem mix_at {X : List Int} {A ch k : Nat} (h : A + k < X.length) : (mix X A ch k).getD (A + k) 0 = X.getD (A + k) 0 := by
  rw [mix_getD h, if_neg (by omega)]

end Go.Proofs.Yteaebdonnicbkaa
