/-
  SameInts, SameBytes (of what is the same), CopyBytes; string(b).
-/
import Derived.Test.YteaebdonnicbkaaUnp
import Derived.Laws.BytesArg
import Derived.Lib.SlBytesConst
namespace Go.Proofs.Yteaebdonnicbkaa
open Go.RowKit

theorem conv_str {B : Nat} {w : World} {a : Option Addr} {n : Nat} {zs : List Int} (h : Rd B w a n zs) (c : Nat) : (convert 22 9 (.slice a n c)).run Try.prog w = .ok (.string (strOfNums zs)) w := by
  obtain ⟨h1, h2, h3⟩ := h
  rcases h3 with rfl | ⟨b, off, rfl, hlt, hc⟩
  · obtain rfl : zs = [] := List.length_eq_zero_iff.1 h1
    cases a with
    | none => exact run_convert_bytes_nil w 22 5 Try.underlying22 Try.underlying5 0 c 9 Try.underlying9
    | some ad =>
      have hl : (loadCells ad 0).run Try.prog w = .ok ([].map (Value.int .u8)).toArray w := by simpa using run_loadCells_list (P := Try.prog) w ad [] (by simp)
      rw [run_convert_bytes_string w 22 9 5 _ 0 c Try.underlying22 Try.underlying5 Try.underlying9, run_bytesToString w ad 0 c [] hl]
      rfl
  · exact run_convert_bytes_arg w 22 5 Try.underlying22 Try.underlying5 b off n c zs h1 hc 9 Try.underlying9

set_option maxHeartbeats 400000 in
theorem SameBytes_eq (B : Nat) (a a2 : Option Addr) (n c n2 c2 : Nat) (zs : List Int) (w : World) (h : Rd B w a n zs) (h2 : Rd B w a2 n2 zs) :
    Calls Try.prog 15 #[.slice a n c, .slice a2 n2 c2] w fun e w' => e = .returned (.bool true) ∧ w' = w := by
  have e1 := conv_str h c
  have e2 := conv_str h2 c2
  generalize strOfNums zs = s at *
  go_enter Try.func15, Try.ntmps15
  go_wp2
  go_ret
  exact ⟨by simp, rfl⟩

set_option maxHeartbeats 1000000 in
theorem SameInts_eq (B : Nat) (a a2 : Option Addr) (n c c2 : Nat) (zs : List Int) (w : World) (hB : B ≤ w.heap.size) (hn : n ≤ 134217728) (h : RdI B w a n zs) (h2 : RdI B w a2 n zs) :
    Calls Try.prog 19 #[.slice a n c, .slice a2 n c2] w fun e w' => e = .returned (.bool true) ∧ Below w.heap.size w w' := by
  go_enter Try.func19, Try.ntmps19
  go_wp2
  go_loopw [5] (fun i wr => ∃ k : Nat, k ≤ n ∧ i = .int .i64 (k : Int) ∧ Below w.heap.size w wr) (fun i _ => n - (intOf i).toNat)
  case atStart => exact ⟨0, Nat.zero_le _, rfl, Below.refl _ _⟩
  case round =>
    obtain ⟨k, hk, rfl, hbr⟩ := hrel
    by_cases hkn : k < n
    · obtain ⟨b, off, rfl, hb, hc⟩ := h.2.resolve_left (by omega)
      obtain ⟨b2, off2, rfl, hb2, hc2⟩ := h2.2.resolve_left (by omega)
      have c1 := (hbr.cell (p := ⟨b, off + k, none⟩) (Nat.lt_of_lt_of_le hb hB)).trans (hc k hkn)
      have c2 := (hbr.cell (p := ⟨b2, off2 + k, none⟩) (Nat.lt_of_lt_of_le hb2 hB)).trans (hc2 k hkn)
      clear hc hc2 h h2
      generalize zs.getD k 0 = z at *
      have hk1 : (k : Int) < (n : Int) := by omega
      go_wp2
      go_region
      all_goals go_wp2
      all_goals
        go_roundw
        case rel => exact ⟨k + 1, by omega, by go_num, hbr.drew⟩
        case measure => simp [intOf]; omega
    · go_wp2
      go_ret
      exact ⟨rfl, hbr⟩

end Go.Proofs.Yteaebdonnicbkaa
