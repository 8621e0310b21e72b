/-
  Two tokens, told apart.
-/
import Derived.Test.YtbllaacbeagljaaGreatDoorJn0
namespace Go.Proofs.YtbllaacbeagljaaGreatDoor
open Go.RowKit

set_option maxRecDepth 100000 in
set_option maxHeartbeats 4000000 in
theorem eq29_any (k n a k' n' a' : Int) (s s' : ByteArray) (w : World) : (binOp .eql 227 (.agg #[.int .i64 k, .string s, .int .i64 n, .int .i64 a]) (.agg #[.int .i64 k', .string s', .int .i64 n', .int .i64 a'])).run Tryz.prog w = .ok (.bool (k == k' && (s.toList == s'.toList && (n == n' && a == a')))) w := by
  have hp : Tryz.prog.stoodInHeld 227 = false := by kernel_rfl
  by_cases h1 : k = k' <;> by_cases h2 : s.toList = s'.toList <;> by_cases h3 : n = n' <;> by_cases h4 : a = a' <;>
  simp [go_sem, Tryz.underlying227, Tryz.underlying3, Tryz.underlying9, hp, h1, h2, h3, h4]

end Go.Proofs.YtbllaacbeagljaaGreatDoor
