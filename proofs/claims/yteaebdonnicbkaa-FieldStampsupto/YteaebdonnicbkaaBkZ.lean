/-
  THE BOOK: a new one.
-/
import Derived.Test.YteaebdonnicbkaaBkS
namespace Go.Proofs.Yteaebdonnicbkaa
open Go.RowKit

theorem Bok.new {w : World} {b B : Nat} (h : w.heap[b]? = some (.cells #[.int .i64 0, .int .i64 0, .bool false, .slice none 0 0, .slice none 0 0, .slice none 0 0, .slice none 0 0, .slice none 0 0] 55 (0, 0))) (hB : B ≤ b) : Bok B (fun x => x = b) w b 0 0 0 := by
  refine ⟨fun _ => False, .slice none 0 0, .slice none 0 0, .slice none 0 0, .slice none 0 0, .slice none 0 0, 0, [], [], [], [], [], fun _ => [], fun _ => [], ⟨by omega, rfl, (fun i h => by omega), (fun i h => by omega), ⟨h, hB, World.ownsRow_nil _ _ _ _, World.ownsRow_nil _ _ _ _, World.ownsRow_nil _ _ _ _, ⟨World.ownsRow_nil _ _ _ _, fun i h => by omega⟩, ⟨World.ownsRow_nil _ _ _ _, fun i h => by omega⟩, dj_nil _, dj_nil _, dj_nil _, dj_nil _, dj_nil _, dj_nil _, fun g h => h.elim⟩,
    ⟨fun i h => by omega, fun i j g h => by omega⟩, (fun i h => by omega), fun x q => ?_⟩⟩
  rcases q with q | q | q | q | q | q | q | q
  · exact q
  · cases q
  · cases q
  · cases q
  · cases q
  · cases q
  · exact q.elim
  · obtain ⟨j, hj, _⟩ := q
    omega

end Go.Proofs.Yteaebdonnicbkaa
