import Derived.Test.YtddddfankeepkaaGreatDoorF24
import Derived.Laws.BytesArg
import Derived.Lib.SlBytesConst
import Derived.Deep.RegionWith
namespace Go.Proofs.YtddddfankeepkaaGreatDoor
open Go.RowKit
theorem conv_strS {B : Nat} {w : World} {a : Option Addr} {n : Nat} {zs : List Int} (h : Rd B w a n zs) (c : Nat) : (convert 40 9 (.slice a n c)).run Tryz.prog w = .ok (.string (strOfNums zs)) w := by
 obtain ⟨h1, h2, h3⟩ := h
 rcases h3 with rfl | ⟨b, off, rfl, hlt, hc⟩
 ·obtain rfl : zs = [] := List.length_eq_zero_iff.1 h1
  cases a with
  | none => exact run_convert_bytes_nil w 40 5 Tryz.underlying40 Tryz.underlying5 0 c 9 Tryz.underlying9
  | some ad =>
   have hl : (loadCells ad 0).run Tryz.prog w = .ok ([].map (Value.int .u8)).toArray w := by simpa using run_loadCells_list (P := Tryz.prog) w ad [] (by simp)
   rw [run_convert_bytes_string w 40 9 5 _ 0 c Tryz.underlying40 Tryz.underlying5 Tryz.underlying9, run_bytesToString w ad 0 c [] hl]
   rfl
 ·exact run_convert_bytes_arg w 40 5 Tryz.underlying40 Tryz.underlying5 b off n c zs h1 hc 9 Tryz.underlying9
end Go.Proofs.YtddddfankeepkaaGreatDoor
