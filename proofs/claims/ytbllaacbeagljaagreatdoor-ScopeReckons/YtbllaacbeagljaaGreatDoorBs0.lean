/-
  BASE: bytes that are read; make, copy, string of bytes; Num.
-/
import Derived.Test.YtbllaacbeagljaaGreatDoorRows
import Derived.Test.YtbllaacbeagljaaGreatDoorPlain
import Derived.Test.YtbllaacbeagljaaGreatDoorBlk
import Derived.WalkKit
import Derived.WalkSpells
import Derived.WalkLawsBesides
import Derived.Laws.BitsAllLaws
import Derived.Laws.BytesArg
import Derived.Lib.SlBytesConst
namespace Go.Proofs.YtbllaacbeagljaaGreatDoor
open Go.RowKit

theorem take_snoc {L : List Int} {j : Nat} (h : j < L.length) : L.take (j + 1) = L.take j ++ [L[j]?.getD 0] := by
  rw [List.take_succ_eq_append_getElem h]; simp [h]
theorem hid {p : Prop} (h : p) : Hid p := h
set_option maxHeartbeats 400000 in
theorem num_any (x : Int) (w : World) :
    Calls Tryz.prog 26 #[.int .i64 x] w fun e w' => e = .returned (.int .i64 x) ∧ w' = w := by
  go_enter Tryz.func26, Tryz.ntmps26
  go_wp2
  go_ret
  exact ⟨rfl, rfl⟩
/-- BYTES THAT ARE READ: n of them, at an address below block B (of none of them nothing is known) -/
def Rd (B : Nat) (w : World) (a : Option Addr) (n : Nat) (zs : List Int) : Prop :=
  zs.length = n ∧ Pl.isB zs ∧ (n = 0 ∨ ∃ b off, a = some ⟨b, off, none⟩ ∧ b < B ∧ ∀ t, t < n → w.cell? ⟨b, off + t, none⟩ = some (.int .u8 (zs.getD t 0)))
theorem Rd.below {B : Nat} {w w' : World} {a : Option Addr} {n : Nat} {zs : List Int} (h : Rd B w a n zs) (hb : Below B w w') : Rd B w' a n zs := by
  obtain ⟨h1, h2, h3⟩ := h
  refine ⟨h1, h2, ?_⟩
  rcases h3 with h3 | ⟨b, off, rfl, hlt, hc⟩
  · exact .inl h3
  · exact .inr ⟨b, off, rfl, hlt, fun t ht => (hb.cell (by exact hlt)).trans (hc t ht)⟩
theorem Rd.mono {B B' : Nat} {w : World} {a : Option Addr} {n : Nat} {zs : List Int} (h : Rd B w a n zs) (hb : B ≤ B') : Rd B' w a n zs := by
  obtain ⟨h1, h2, h3⟩ := h
  refine ⟨h1, h2, ?_⟩
  rcases h3 with h3 | ⟨b, off, rfl, hlt, hc⟩
  · exact .inl h3
  · exact .inr ⟨b, off, rfl, by omega, hc⟩
theorem info5 : (Tryz.prog.info? 5).map (fun i => (i.zero, i.size, i.bytes)) = some (some (.int .u8 0), 1, 1) := by kernel_rfl
/-- so many noughts -/
def zeros (n : Nat) : List Int := List.replicate n 0
theorem length_zeros (n : Nat) : (zeros n).length = n := by simp [zeros]
theorem isB_zeros (n : Nat) : Pl.isB (zeros n) := Pl.isB_zeros n
theorem made_zeros (k : IntKind) (n : Nat) : madeCells #[.int k 0] n = ((zeros n).map (Value.int k)).toArray := by
  rw [← Array.toList_inj, toList_madeCells_one]
  simp [zeros]
theorem make_u8 (n : Nat) (hn : n ≤ 1073741824) (u : World) : (Instr.makeSlice 216 (.int .i64 (n : Int)) (.int .i64 (n : Int))).run Tryz.prog u =
    .ok (.slice (some ⟨u.heap.size, 0, none⟩) n n) (u.alloc (.cells ((zeros n).map (Value.int .u8)).toArray 5)) := by
  obtain ⟨i0, hi, hz0, hz1, hz2⟩ := info_parts info5
  have h := run_make (P := Tryz.prog) u 216 5 i0 (.int .u8 0) Tryz.underlying216 hi hz0 .i64 .i64 (n : Int) (n : Int) (by omega) (Int.le_refl _) (by rw [hz2]; omega) (by omega)
  have e : ((n : Int)).toNat = n := by omega
  rw [e] at h
  rw [← made_zeros]
  simpa [hz1, Value.cells] using h
theorem size5 : (Tryz.prog.info? 5).map (·.size) = some 1 := by kernel_rfl
theorem Rd.src {B : Nat} {w : World} {a : Option Addr} {n : Nat} {zs : List Int} (h : Rd B w a n zs) (h0 : 0 < n) : ∃ ad, a = some ad ∧ ∀ j v, (zs.map (Value.int .u8))[j]? = some v → w.cell? (ad.add j) = some v := by
  obtain ⟨h1, h2, h3⟩ := h
  rcases h3 with h3 | ⟨b, off, rfl, hlt, hc⟩
  · omega
  · refine ⟨_, rfl, fun j v hv => ?_⟩
    rw [List.getElem?_map] at hv
    cases hz : zs[j]? with
    | none => rw [hz] at hv; cases hv
    | some z =>
      rw [hz] at hv
      simp at hv
      subst hv
      have hj : j < zs.length := (List.getElem?_eq_some_iff.1 hz).1
      have := hc j (by omega)
      rw [List.getD_eq_getElem?_getD, hz] at this
      rw [show (⟨b, off, none⟩ : Addr).add j = ⟨b, off + j, none⟩ from by unfold Addr.add; split <;> simp_all]
      exact this
theorem u8_one (zs : List Int) : ∀ v ∈ zs.map (Value.int .u8), v.oneCell' = true := ints_oneCell _ _
theorem splice_map (zs cs : List Int) (off : Nat) (k : IntKind) : splice (zs.map (Value.int k)) off (cs.map (Value.int k)) = (splice zs off cs).map (Value.int k) := by simp [splice]
/-- copy into a block of bytes that is known whole -/
theorem copy_u8 (g off dLen dCap : Nat) (a : Option Addr) (n c : Nat) (Y body : List Int) (w : World) (Bn : Nat) (hB : Blk .u8 5 w g Y) (hR : Rd Bn w a n body) (hn : n ≤ dLen) (hfit : off + n ≤ Y.length) :
    ∃ w', Sem.run Tryz.prog (Builtin.copy_ #[216, 216] 3 #[.slice (some ⟨g, off, none⟩) dLen dCap, .slice a n c]) w = .ok (.int .i64 (n : Int)) w' ∧ Blk .u8 5 w' g (splice Y off body) ∧ w'.heap.size = w.heap.size ∧ w.grownBy w' (some g) := by
  have hl := hR.1
  by_cases h0 : n = 0
  · subst h0
    obtain rfl : body = [] := List.length_eq_zero_iff.1 hl
    exact ⟨w, run_copy_none (P := Tryz.prog) w 216 216 3 5 _ _ dLen dCap 0 c Tryz.underlying216 size5 (Nat.zero_min _), by rw [splice_nil]; exact hB, rfl, World.grownBy.refl _ _⟩
  · obtain ⟨ad, rfl, hsrc⟩ := hR.src (by omega)
    have h := run_copy_row (P := Tryz.prog) w 216 216 3 5 g off dLen dCap ad n c (Y.map (Value.int .u8)).toArray 5 (body.map (Value.int .u8)) Tryz.underlying216 size5 hB (by rw [List.length_map, hl]; exact (Nat.min_eq_left hn).symm) hsrc (by simp; omega) (u8_one _)
    refine ⟨w.setRow g ((splice Y off body).map (Value.int .u8)).toArray, h.trans ?_, ?_, by simp, ⟨rfl, rfl, rfl, by simp, fun k _ hk => setRow_other w g k _ (fun e => hk (by rw [e]))⟩⟩
    · rw [← splice_map, List.length_map, hl]
      simp [splice, hl, goInt]
    · unfold Blk
      exact setRow_heap w g _ _ 5 _ hB

theorem conv_str {B : Nat} {w : World} {a : Option Addr} {n : Nat} {zs : List Int} (h : Rd B w a n zs) (c : Nat) : (convert 216 9 (.slice a n c)).run Tryz.prog w = .ok (.string (strOfNums zs)) w := by
  obtain ⟨h1, h2, h3⟩ := h
  rcases h3 with rfl | ⟨b, off, rfl, hlt, hc⟩
  · obtain rfl : zs = [] := List.length_eq_zero_iff.1 h1
    cases a with
    | none => exact run_convert_bytes_nil w 216 5 Tryz.underlying216 Tryz.underlying5 0 c 9 Tryz.underlying9
    | some ad =>
      have hl : (loadCells ad 0).run Tryz.prog w = .ok ([].map (Value.int .u8)).toArray w := by simpa using run_loadCells_list (P := Tryz.prog) w ad [] (by simp)
      rw [run_convert_bytes_string w 216 9 5 _ 0 c Tryz.underlying216 Tryz.underlying5 Tryz.underlying9, run_bytesToString w ad 0 c [] hl]
      rfl
  · exact run_convert_bytes_arg w 216 5 Tryz.underlying216 Tryz.underlying5 b off n c zs h1 hc 9 Tryz.underlying9


end Go.Proofs.YtbllaacbeagljaaGreatDoor
