/-
  slices.Repeat of one number.
-/
import Derived.Test.YtajnokkmpjdliaaHe5
import Derived.Laws.Bits64b
namespace Go.Proofs.Ytajnokkmpjdliaa
open Go.RowKit

theorem uw (n : Int) (h : 0 ≤ n ∧ n ≤ 18446744073709551615) : IntKind.u64.wrap n = n := by
  simp [IntKind.wrap, IntKind.bits, IntKind.signed]
  omega
theorem and_low (n : Nat) (hn : n ≤ 1048576) : bits BinOp.and .u64 (n : Int) 4294967295 = n := by
  have h := bits_and_u64_nat n 4294967295 (by omega) (by omega)
  have e : n &&& 4294967295 = n % 4294967296 := Nat.and_two_pow_sub_one_eq_mod n 32
  have e2 : n % 4294967296 = n := by omega
  rw [e, e2] at h
  exact h
set_option maxRecDepth 100000 in
set_option maxHeartbeats 1000000 in
theorem Mul64_any (n : Nat) (hn : n ≤ 1048576) (w : World) : Calls Try.prog 38 #[.int .u64 1, .int .u64 (n : Int)] w fun e w' => e = .returned (.tuple #[.int .u64 0, .int .u64 (n : Int)]) ∧ w' = w := by
  have b1 : bits BinOp.and .u64 1 4294967295 = 1 := and_low 1 (by omega)
  have b0 : bits BinOp.and .u64 0 4294967295 = 0 := and_low 0 (by omega)
  have b2 : bits BinOp.and .u64 (n : Int) 4294967295 = n := and_low n hn
  have q1 : (n : Int) / 4294967296 = 0 := by omega
  have u1 : IntKind.u64.wrap (n : Int) = n := uw _ (by omega)
  have u0 : IntKind.u64.wrap 0 = 0 := rfl
  go_enter Try.func38, Try.ntmps38
  go_wp2_with fail
  go_ret2
  exact ⟨rfl, rfl⟩
set_option maxRecDepth 100000 in
set_option maxHeartbeats 1000000 in
theorem Mul_any (n : Nat) (hn : n ≤ 1048576) (w : World) : Calls Try.prog 32 #[.int .u64 1, .int .u64 (n : Int)] w fun e w' => e = .returned (.tuple #[.int .u64 0, .int .u64 (n : Int)]) ∧ w' = w := by
  have HM := hid (Mul64_any n hn w)
  go_enter Try.func32, Try.ntmps32
  go_wp2_with (go_at_call 38; refine Calls.mono HM.out ?_; rintro e w0 ⟨rfl, hw0⟩; subst hw0)
  go_ret2
  exact ⟨rfl, rfl⟩

theorem step_copy_run {ops : Array Oper} {o : Oper} {a : Act} {w : World} {K : Act → World → Prop} {Q : Exit → Act → World → Prop} {E : Prop} (hgd : o.guard = none) (d s : Operand) (dT sT : TypeId)
    (ho : o.op = .call { callee := .builtin .copy, args := #[d, s], argTypes := #[dT, sT] }) (vd vs : Value) (hd : a.eval d = vd) (hs : a.eval s = vs)
    (v' : Value) (w' : World) (hr : (Builtin.copy_ #[dT, sT] o.type #[vd, vs]).run Try.prog w = .ok v' w') (h : K (a.put o.dst v') w') :
    if Region.wanted o (yielded ops a.tmps) = true then Oper.wp Try.prog o a w K Q else E := by
  have hw : Region.wanted o (yielded ops a.tmps) = true := by simp [Region.wanted, hgd]
  rw [if_pos hw]
  unfold Oper.wp execOp
  simp only [ho, resolve, invoke, builtin, Sem.run_bind, Sem.run_pure, Result.andThen_ok, List.map_toArray, List.map_cons, List.map_nil, hd, hs, hr]
  exact h

/-- a block of n numbers, all one -/
def rep (n : Nat) (x : Int) : List Int := List.replicate n x
theorem blk_setRow {w : World} {g : Nat} {zs : List Int} (h : Blk w g zs) (ys : List Int) : Blk (w.setRow g (ys.map (Value.int .i64)).toArray) g ys := by
  unfold Blk at *
  exact setRow_heap w g _ _ 3 _ h
theorem but_setRow (w : World) (g : Nat) (cs : Array Value) : But (fun k => k = g) w (w.setRow g cs) := ⟨rfl, rfl, rfl, by simp [World.setRow], fun k _ hk => setRow_other w g k cs (by omega)⟩
theorem copy_ints (w : World) (g off dLen dCap s so sLen sCap : Nat) (zs : List Int) (hg : Blk w g zs) (cs : List Int) (hn : cs.length = Nat.min sLen dLen) (hsrc : ∀ j, j < cs.length → w.cell? ⟨s, so + j, none⟩ = some (.int .i64 (cs.getD j 0))) (hfit : off + cs.length ≤ zs.length) :
    (Builtin.copy_ #[23, 23] 3 #[.slice (some ⟨g, off, none⟩) dLen dCap, .slice (some ⟨s, so, none⟩) sLen sCap]).run Try.prog w = .ok (.int .i64 (cs.length : Int)) (w.setRow g ((zs.take off ++ (cs ++ zs.drop (off + cs.length))).map (Value.int .i64)).toArray) := by
  have h := run_copy_row (P := Try.prog) w 23 23 3 3 g off dLen dCap ⟨s, so, none⟩ sLen sCap _ 3 (cs.map (Value.int .i64)) Try.underlying23 size3 hg (by rw [List.length_map]; exact hn) (fun j v hj => by
    rw [List.getElem?_map] at hj
    cases e : cs[j]? with
    | none => rw [e] at hj; cases hj
    | some x =>
      rw [e] at hj
      have hjl : j < cs.length := (List.getElem?_eq_some_iff.1 e).1
      have := hsrc j hjl
      rw [List.getD_eq_getElem?_getD, e] at this
      rw [Addr.add_lit]
      rw [this]
      exact hj) (by simpa using hfit) (ints_oneCell .i64 cs)
  rw [h]
  simp [goInt]
end Go.Proofs.Ytajnokkmpjdliaa
