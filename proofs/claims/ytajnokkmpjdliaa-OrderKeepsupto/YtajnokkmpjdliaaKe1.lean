/-
  within.
-/
import Derived.Test.YtajnokkmpjdliaaKe0
namespace Go.Proofs.Ytajnokkmpjdliaa
open Go.RowKit

theorem and62 (x : Int) : ∃ j : Nat, bits BinOp.and .i64 x 4611686018427387903 = (j : Int) ∧ j < 4611686018427387904 := by
  have hlt : ((BitVec.ofInt 64 x) &&& (BitVec.ofInt 64 4611686018427387903)).toNat < 4611686018427387904 := by
    rw [BitVec.toNat_and]
    exact Nat.and_lt_two_pow _ (n := 62) (by decide)
  refine ⟨((BitVec.ofInt 64 x) &&& (BitVec.ofInt 64 4611686018427387903)).toNat, ?_, hlt⟩
  have h := iw64 (((BitVec.ofInt 64 x) &&& (BitVec.ofInt 64 4611686018427387903)).toNat : Int) (by omega)
  exact h

set_option maxRecDepth 100000 in
set_option maxHeartbeats 1000000 in
theorem within_any (x : Int) (lo hi : Nat) (h1 : lo ≤ hi) (h2 : hi ≤ 4000) (w : World) :
    Calls Try.prog 13 #[.int .i64 x, .int .i64 (lo : Int), .int .i64 (hi : Int)] w fun e w' => ∃ k : Nat, e = .returned (.int .i64 (k : Int)) ∧ lo ≤ k ∧ k ≤ hi ∧ w' = w := by
  obtain ⟨d, hd⟩ : ∃ d, d + lo = hi := ⟨hi - lo, by omega⟩
  have HD : Hid (d + lo = hi ∧ hi ≤ 4000) := ⟨hd, h2⟩
  obtain ⟨j, hj, hjl⟩ := and62 x
  obtain ⟨r, hr⟩ : ∃ r, r = j % (d + 1) := ⟨_, rfl⟩
  have hrd : r < d + 1 := by rw [hr]; exact Nat.mod_lt _ (by omega)
  have e8 : Int.tmod (j : Int) ((d : Int) + 1) = (r : Int) := by
    have := remL j (d + 1)
    rw [show ((d + 1 : Nat) : Int) = (d : Int) + 1 by omega] at this
    rw [this, hr]
  obtain ⟨k, hk⟩ : ∃ k, k = lo + r := ⟨_, rfl⟩
  have hkk : (lo : Int) + (r : Int) = (k : Int) := by omega
  have HK : Hid (lo ≤ k ∧ k ≤ hi) := ⟨by omega, by omega⟩
  have hkb : k ≤ 2097152 := by omega
  have hdb : d ≤ 2097152 := by omega
  have e3 : (hi : Int) - (lo : Int) = (d : Int) := by omega
  have q1 : ¬ (d : Int) + 1 = 0 := by omega
  have e9 := wr64 k hkb
  have e10 := wrM k hkb
  have e1 : wrap64 ((hi : Int) - (lo : Int)) = (d : Int) := by rw [e3]; exact wr64 d hdb
  have e2 : IntKind.i64.wrap ((hi : Int) - (lo : Int)) = (d : Int) := by rw [e3]; exact wrM d hdb
  have e4 := wr64 d hdb
  have e5 := wrM d hdb
  obtain ⟨e6, e7⟩ := inc_w d hdb
  clear hd h1 h2 hjl hr hrd hk hkb hdb
  go_enter Try.func13, Try.ntmps13
  go_wp2_with fail
  go_ret
  exact ⟨k, rfl, HK.out.1, HK.out.2, rfl⟩
end Go.Proofs.Ytajnokkmpjdliaa
