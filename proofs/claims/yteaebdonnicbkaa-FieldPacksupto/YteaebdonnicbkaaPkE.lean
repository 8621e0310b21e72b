/-
  Pack, whatever the fields: the bytes, or the first error.
-/
import Derived.Test.YteaebdonnicbkaaRBt
namespace Go.Proofs.Yteaebdonnicbkaa
open Go.RowKit

/-- the first field that may not be -/
def badF (fs : List (Int × Int)) : Option (Int × Int) := fs.find? (fun f => decide (chk f.1 f.2 ≠ 0))
/-- what a Pack answers: the number of its error, and the bytes -/
def packR (fs : List (Int × Int)) : Int × List Int :=
  match badF fs with
  | some f => (chk f.1 f.2, [])
  | none => (0, packZ fs)
theorem bad_none {fs : List (Int × Int)} (h : badF fs = none) : okF fs := by
  intro f hf
  have := List.find?_eq_none.1 h f hf
  simpa using this
theorem bad_some {fs : List (Int × Int)} {f : Int × Int} (h : badF fs = some f) : ∃ k, k < fs.length ∧ fs.getD k (0, 0) = f ∧ chk f.1 f.2 ≠ 0 ∧ okF (fs.take k) := by
  induction fs with
  | nil => cases h
  | cons g r ih =>
    unfold badF at h
    rw [List.find?_cons] at h
    by_cases hg : chk g.1 g.2 = 0
    · simp [hg] at h
      obtain ⟨k, h1, h2, h3, h4⟩ := ih (by unfold badF; simpa using h)
      refine ⟨k + 1, by simpa using h1, by simpa using h2, h3, ?_⟩
      rw [List.take_succ_cons]
      exact okF_cons.2 ⟨hg, h4⟩
    · simp [hg] at h
      subst h
      exact ⟨0, by simp, rfl, hg, by intro f hf; simp at hf⟩

set_option maxRecDepth 100000 in
set_option maxHeartbeats 1000000 in
theorem Pack_err (a : Option Addr) (m c : Nat) (fs : List (Int × Int)) (w : World) (k0 : Nat) (hm : m ≤ 16777216) (hR : RdF w.heap.size w a m fs) (hk0 : k0 < m) (hok : okF (fs.take k0)) (hbad : chk (fs.getD k0 (0, 0)).1 (fs.getD k0 (0, 0)).2 ≠ 0) :
    Calls Try.prog 17 #[.slice a m c] w fun e w' => e = .returned (.tuple #[.slice none 0 0, .int .i64 (chk (fs.getD k0 (0, 0)).1 (fs.getD k0 (0, 0)).2)]) ∧ Below w.heap.size w w' := by
  obtain ⟨hl, hv, h3⟩ := hR
  generalize hC0 : chk (fs.getD k0 (0, 0)).1 (fs.getD k0 (0, 0)).2 = C at *
  have HC0 := hid hC0
  clear hC0
  go_enter Try.func17, Try.ntmps17
  go_wp2
  go_loopw [4, 14] (fun s i wr => ∃ k : Nat, k ≤ k0 ∧ i = .int .i64 (k : Int) ∧ s = .int .i64 ((packZ (fs.take k)).length : Int) ∧ Below w.heap.size w wr) (fun _ i _ => m - (intOf i).toNat)
  case atStart => exact ⟨0, Nat.zero_le _, rfl, rfl, Below.refl _ _⟩
  case round =>
    obtain ⟨k, hk, rfl, rfl, hbr⟩ := hrel
    obtain ⟨b, off, rfl, hb, hc⟩ := h3.resolve_left (by omega)
    obtain ⟨x, hx⟩ : ∃ x, x = (fs.getD k (0, 0)).1 := ⟨_, rfl⟩
    obtain ⟨v, hv'⟩ : ∃ v, v = (fs.getD k (0, 0)).2 := ⟨_, rfl⟩
    have hmem : fs.getD k (0, 0) ∈ fs := by
      have : k < fs.length := by omega
      simp [this]
    have hvb := hv _ hmem
    obtain ⟨hcx, hcv⟩ := hc k (by omega)
    rw [← hx] at hcx
    rw [← hv'] at hcv hvb
    have hcx' := (hbr.cell (p := ⟨b, off + k * 2, none⟩) (by exact hb)).trans hcx
    have hcv' := (hbr.cell (p := ⟨b, off + k * 2 + 1, none⟩) (by exact hb)).trans hcv
    have hle := okF_le (fs := fs.take k) (fun f hf => hok f (by
      have : fs.take k = (fs.take k0).take k := by rw [List.take_take, Nat.min_eq_left hk]
      rw [this] at hf
      exact List.mem_of_mem_take hf))
    rw [List.length_take] at hle
    have hkm : (k : Int) < (m : Int) := by omega
    by_cases hkk : k < k0
    · have hck : chk x v = 0 := by
        rw [hx, hv']
        refine hok _ ?_
        have : k < (fs.take k0).length := by rw [List.length_take]; omega
        have h2 : fs.getD k (0, 0) = (fs.take k0)[k] := by simp [show k < fs.length by omega]
        rw [h2]
        exact List.getElem_mem this
      have hnx : (packZ (fs.take (k + 1))).length = (packZ (fs.take k)).length + x.toNat := by
        rw [takeF (by omega), show fs.getD k (0, 0) = (x, v) from by rw [hx, hv'], packZ_snoc, List.length_append, Pl.length_dig]
      obtain ⟨x1, x2, _, _⟩ := chk_zero hck
      have HN := hid hnx
      have hle2 : (packZ (fs.take k)).length ≤ 134217728 := by omega
      clear hle hnx hx hv' hmem hcx hcv hbad hok
      generalize (packZ (fs.take k)).length = pl at *
      go_wp2_with fail
      refine (checkField_any x v _ hvb.1 hvb.2).mono ?_
      rintro e w1 ⟨rfl, rfl⟩
      rw [hck]
      go_wp2
      go_roundw
      case rel => exact ⟨k + 1, by omega, by go_num, by rw [HN.out]; congr 1; omega, (hbr.alloc hbr.size _).alloc (by have := hbr.size; simp; omega) _⟩
      case measure => simp [intOf]; omega
    · obtain rfl : k = k0 := by omega
      have hck : chk x v = C := by rw [hx, hv']; exact HC0.out
      clear hle hx hv' hmem hcx hcv hok HC0
      generalize (packZ (fs.take k)).length = pl at *
      go_wp2_with fail
      refine (checkField_any x v _ hvb.1 hvb.2).mono ?_
      rintro e w1 ⟨rfl, rfl⟩
      rw [hck]
      clear hck
      have hC : (C == 0) = false := by simpa using hbad
      go_wp2
      go_ret2
      exact ⟨rfl, (hbr.alloc hbr.size _).alloc (by have := hbr.size; simp; omega) _⟩

theorem Pack_any (a : Option Addr) (m c : Nat) (fs : List (Int × Int)) (w : World) (hm : m ≤ 16777216) (hR : RdF w.heap.size w a m fs) :
    Calls Try.prog 17 #[.slice a m c] w fun e w' => ∃ al, e = .returned (.tuple #[.slice al (packR fs).2.length (packR fs).2.length, .int .i64 (packR fs).1]) ∧
      ((al = none ∧ (packR fs).2 = []) ∨ ∃ g, al = some ⟨g, 0, none⟩ ∧ w.heap.size ≤ g ∧ Blk .u8 5 w' g (packR fs).2) ∧ Pl.isB (packR fs).2 ∧ (packR fs).2.length ≤ 8 * m ∧ Below w.heap.size w w' := by
  have hl := hR.1
  cases hb : badF fs with
  | none =>
    have e : packR fs = (0, packZ fs) := by unfold packR; rw [hb]
    rw [e]
    have hok := bad_none hb
    have hle := okF_le hok
    refine (Pack_ok a m c fs w hm hR hok).mono ?_
    rintro e w' ⟨g, rfl, h1, h2, h3⟩
    exact ⟨_, rfl, .inr ⟨g, rfl, h1, h2⟩, isB_packZ fs, by show (packZ fs).length ≤ _; omega, h3⟩
  | some f =>
    have e : packR fs = (chk f.1 f.2, []) := by unfold packR; rw [hb]
    rw [e]
    obtain ⟨k, h1, h2, h3, h4⟩ := bad_some hb
    subst h2
    refine (Pack_err a m c fs w k hm hR (by omega) h4 h3).mono ?_
    rintro e w' ⟨rfl, h5⟩
    exact ⟨none, rfl, .inl ⟨rfl, rfl⟩, Pl.isB_nil, by simp, h5⟩

end Go.Proofs.Yteaebdonnicbkaa
