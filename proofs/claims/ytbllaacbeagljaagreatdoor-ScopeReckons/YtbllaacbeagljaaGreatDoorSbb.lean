/-
  scope: caught; the closure that catches.
-/
import Derived.Test.YtbllaacbeagljaaGreatDoorSba
import Derived.Defers
import Derived.Recover
namespace Go.Proofs.YtbllaacbeagljaaGreatDoor
open Go.RowKit Go.Maps

set_option maxRecDepth 100000 in
theorem taF (u : Value) (w : World) : Sem.run Tryz.prog (Instr.typeAssert (.iface 100 u) 20 100 true) w = .ok (.tuple #[u, .bool true]) w := by kernel_rfl
set_option maxRecDepth 100000 in
theorem eqN (w : World) : Sem.run Tryz.prog (binOp .eql 20 .nilIface .nilIface) w = .ok (.bool true) w := by kernel_rfl
set_option maxRecDepth 100000 in
theorem eqF (u : Value) (w : World) : Sem.run Tryz.prog (binOp .eql 20 (.iface 100 u) .nilIface) w = .ok (.bool false) w := by kernel_rfl
set_option maxRecDepth 100000 in
set_option maxHeartbeats 1000000 in
theorem caught_nil (w : World) : Calls Tryz.prog 32 #[.nilIface] w fun e w' => e = .returned (.tuple #[.int .i64 0, .int .i64 0]) ∧ w' = w := by
  have h := eqN
  go_enter Tryz.func32, Tryz.ntmps32
  go_wp2_with fail
  go_ret2
  exact ⟨rfl, rfl⟩
set_option maxRecDepth 100000 in
set_option maxHeartbeats 1000000 in
theorem caught_flt (at_ e0 : Int) (w : World) : Calls Tryz.prog 32 #[flt at_ e0] w fun e w' => e = .returned (.tuple #[.int .i64 at_, .int .i64 e0]) ∧ Below w.heap.size w w' := by
  have h := eqF
  have h2 := taF
  have HB := hid (below1 w (.cells #[.int .i64 at_, .int .i64 e0] 100))
  unfold flt
  go_enter Tryz.func32, Tryz.ntmps32
  go_wp2_with fail
  go_region
  all_goals
    go_wp2_with fail
    go_ret2
    exact ⟨rfl, bl_drew HB.out⟩

set_option maxRecDepth 100000 in
set_option maxHeartbeats 2000000 in
theorem catch_idle (p q : Nat) (x y : Int) (w : World) (hp : Cs w p 3 #[.int .i64 x]) (hq : Cs w q 27 #[.int .i64 y]) (hne : ¬ q = p) :
    CallsD Tryz.prog 31 #[.pointer (some ⟨p, 0, none⟩), .pointer (some ⟨q, 0, none⟩)] .returning w fun e u' w' => e = .returned (.tuple #[]) ∧ u' = .returning ∧ w' = (w.setCell ⟨p, 0, none⟩ (.int .i64 0)).setCell ⟨q, 0, none⟩ (.int .i64 0) := by
  have c0 := hp.cell 0 _ rfl
  have f0 := hp.fz 0
  have c1 := hq.cell 0 _ rfl
  have f1 := hq.fz 0
  refine callsD_of_wpS Tryz.func31 rfl fun c₀ cs hu => ?_
  apply wpS_region
  simp [wpOpsS, go_sem, recoverD, hu, Tryz.ntmps31]
  refine (caught_nil w).mono ?_
  rintro e w' ⟨rfl, rfl⟩
  simp [go_sem, c0, f0, c1, f1, bodyPostS, results, Tryz.results31]
  cases c₀
  simp_all
set_option maxRecDepth 100000 in
set_option maxHeartbeats 2000000 in
theorem catch_flt (p q : Nat) (x y at_ e0 : Int) (w : World) (hp : Cs w p 3 #[.int .i64 x]) (hq : Cs w q 27 #[.int .i64 y]) (hne : ¬ q = p) :
    CallsD Tryz.prog 31 #[.pointer (some ⟨p, 0, none⟩), .pointer (some ⟨q, 0, none⟩)] (.panicking [{ v := flt at_ e0, recovered := false }]) w fun e u' w' => e = .returned (.tuple #[]) ∧ u' = .panicking [{ v := flt at_ e0, recovered := true }] ∧ ∃ w2, Below w.heap.size w w2 ∧ w' = (w2.setCell ⟨p, 0, none⟩ (.int .i64 at_)).setCell ⟨q, 0, none⟩ (.int .i64 e0) := by
  refine callsD_of_wpS Tryz.func31 rfl fun c₀ cs hu => ?_
  apply wpS_region
  simp [wpOpsS, go_sem, recoverD, hu, Tryz.ntmps31]
  refine (caught_flt at_ e0 w).mono ?_
  rintro e w' ⟨rfl, hb⟩
  have c0 := (hp.next hb).cell 0 _ rfl
  have f0 := (hp.next hb).fz 0
  have c1 := (hq.next hb).cell 0 _ rfl
  have f1 := (hq.next hb).fz 0
  simp [go_sem, c0, f0, c1, f1, bodyPostS, results, Tryz.results31]
  exact ⟨w', hb, rfl⟩

end Go.Proofs.YtbllaacbeagljaaGreatDoor
