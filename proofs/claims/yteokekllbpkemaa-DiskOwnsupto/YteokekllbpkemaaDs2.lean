/-
  A desk: crash (function 42): what it needs.
-/
import Derived.Test.YteokekllbpkemaaBlo
namespace Go.Proofs.Yteokekllbpkemaa
open Go.RowKit

theorem size3 : (Try.prog.info? 3).map (·.size) = some 1 := by kernel_rfl
theorem i64_one (zs : List Int) : ∀ v ∈ zs.map (Value.int .i64), v.oneCell' = true := ints_oneCell _ _
theorem RdI.src {B : Nat} {w : World} {a : Option Addr} {n : Nat} {zs : List Int} (h : RdI B w a n zs) (h0 : 0 < n) : ∃ ad, a = some ad ∧ ∀ j v, (zs.map (Value.int .i64))[j]? = some v → w.cell? (ad.add j) = some v := by
  obtain ⟨h1, h3⟩ := h
  rcases h3 with h3 | ⟨b, off, rfl, _, hc⟩
  · omega
  · refine ⟨_, rfl, fun j v hv => ?_⟩
    rw [List.getElem?_map] at hv
    cases hz : zs[j]? with
    | none => rw [hz] at hv; cases hv
    | some z =>
      rw [hz] at hv
      simp at hv
      subst hv
      have hj : j < n := by have := (List.getElem?_eq_some_iff.1 hz).1; omega
      have := hc j hj
      rw [List.getD_eq_getElem?_getD, hz] at this
      rw [show (⟨b, off, none⟩ : Addr).add j = ⟨b, off + j, none⟩ from by unfold Addr.add; split <;> simp_all]
      exact this
/-- copy into a block of numbers that is known whole -/
theorem copy_i64 (g off dLen dCap : Nat) (a : Option Addr) (n c : Nat) (Y body : List Int) (w : World) (Bn : Nat) (hB : Blk .i64 3 w g Y) (hR : RdI Bn w a n body) (hn : n ≤ dLen) (hfit : off + n ≤ Y.length) :
    ∃ w', Sem.run Try.prog (Builtin.copy_ #[34, 34] 3 #[.slice (some ⟨g, off, none⟩) dLen dCap, .slice a n c]) w = .ok (.int .i64 (n : Int)) w' ∧ Blk .i64 3 w' g (splice Y off body) ∧ w'.heap.size = w.heap.size ∧ w.grownBy w' (some g) := by
  have hl := hR.1
  by_cases h0 : n = 0
  · subst h0
    obtain rfl : body = [] := List.length_eq_zero_iff.1 hl
    exact ⟨w, run_copy_none (P := Try.prog) w 34 34 3 3 _ _ dLen dCap 0 c Try.underlying34 size3 (Nat.zero_min _), by rw [splice_nil]; exact hB, rfl, World.grownBy.refl _ _⟩
  · obtain ⟨ad, rfl, hsrc⟩ := hR.src (by omega)
    have h := run_copy_row (P := Try.prog) w 34 34 3 3 g off dLen dCap ad n c (Y.map (Value.int .i64)).toArray 3 (body.map (Value.int .i64)) Try.underlying34 size3 hB (by rw [List.length_map, hl]; exact (Nat.min_eq_left hn).symm) hsrc (by simp; omega) (i64_one _)
    refine ⟨w.setRow g ((splice Y off body).map (Value.int .i64)).toArray, h.trans ?_, ?_, by simp, ⟨rfl, rfl, rfl, by simp, fun k _ hk => setRow_other w g k _ (fun e => hk (by rw [e]))⟩⟩
    · rw [← splice_map, List.length_map, hl]
      simp [splice, hl, goInt]
    · unfold Blk
      exact setRow_heap w g _ _ 3 _ hB
theorem Lnd.setK {D : DV} {w : World} {L : Nat} {bv : Value} {N : Int} (h : Lnd D w L bv N) (u : Value) : Lnd (D.1, D.2.1, u) (w.setCell ⟨L, 4, none⟩ u) L bv N := by
  unfold Lnd at *
  simp only [World.setCell, Array.getElem?_modify]
  rw [h]
  simp
/-- numbers that are read, in a block outside of X -/
def RiN (X : Nat → Prop) (w : World) (a : Option Addr) (m : Nat) (ks : List Int) : Prop := ks.length = m ∧ (m = 0 ∨ ∃ b off, a = some ⟨b, off, none⟩ ∧ b < w.heap.size ∧ ¬ X b ∧ ∀ t, t < m → w.cell? ⟨b, off + t, none⟩ = some (.int .i64 (ks.getD t 0)))
theorem RiN.rdi {X : Nat → Prop} {w : World} {a : Option Addr} {m : Nat} {ks : List Int} (h : RiN X w a m ks) : RdI w.heap.size w a m ks := ⟨h.1, h.2.imp id (fun ⟨b, o, e, l, _, c⟩ => ⟨b, o, e, l, c⟩)⟩
theorem RiN.but {X : Nat → Prop} {w w' : World} {a : Option Addr} {m : Nat} {ks : List Int} (h : RiN X w a m ks) (hb : But X w w') : RiN X w' a m ks :=
  ⟨h.1, h.2.imp id (fun ⟨b, o, e, l, x, c⟩ => ⟨b, o, e, Nat.lt_of_lt_of_le l hb.size, x, fun t ht => (hb.cell (p := ⟨b, o + t, none⟩) l x).trans (c t ht)⟩)⟩
theorem RiN.mono {X Y : Nat → Prop} {w : World} {a : Option Addr} {m : Nat} {ks : List Int} (h : RiN X w a m ks) (hx : ∀ y, y < w.heap.size → Y y → X y) : RiN Y w a m ks :=
  ⟨h.1, h.2.imp id (fun ⟨b, o, e, l, x, c⟩ => ⟨b, o, e, l, fun q => x (hx b l q), c⟩)⟩
/-- the marks of the places -/
def mkI (M : Nat) : List Int := (List.range M).map fun (i : Nat) => -201 - (i : Int)
theorem length_mkI (M : Nat) : (mkI M).length = M := by simp [mkI]
theorem mkI_get {M k : Nat} (h : k < M) : (mkI M).getD k 0 = -201 - (k : Int) := by simp [mkI, h]
theorem splice_hi {Y ks : List Int} {k : Nat} (h : ks.length ≤ k) : (splice Y 0 ks).getD k 0 = Y.getD k 0 := by
  simp [splice, List.getElem?_append_right h, List.getElem?_drop, show ks.length + (k - ks.length) = k by omega]
theorem splice_lo {Y ks : List Int} {k : Nat} (h : k < ks.length) : (splice Y 0 ks).getD k 0 = ks.getD k 0 := by
  simp [splice, List.getElem?_append_left h]
/-- bytes that are handed out -/
def Hands (κ : Nat → Nat) (B : Nat) (w : World) (lv : Value) : Prop := ∃ al zs c, lv = .slice al (List.length zs) c ∧ ((al = none ∧ c = 0 ∧ zs = []) ∨ ∃ g, al = some ⟨g, 0, none⟩ ∧ B ≤ g ∧ κ g = 0 ∧ Own w g zs.length c zs ∧ Pl.isB zs ∧ zs.length ≤ 268435456)
theorem hands_none (κ : Nat → Nat) (B : Nat) (w : World) : Hands κ B w (.slice none 0 0) := ⟨none, [], 0, rfl, .inl ⟨rfl, rfl, rfl⟩⟩

end Go.Proofs.Yteokekllbpkemaa
