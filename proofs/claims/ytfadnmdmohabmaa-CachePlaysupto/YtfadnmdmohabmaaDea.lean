/-
  The document's side of the desk: one disk and two caches on it.
-/
import Derived.Test.YtfadnmdmohabmaaSda
import Derived.Test.YtfadnmdmohabmaaRf7
import Derived.Test.YtfadnmdmohabmaaDta
import Derived.ProofKit
import Derived.OpenShut
import Derived.SizedLaws
import Derived.Deep.SlicePairs
namespace Go.Proofs.Ytfadnmdmohabmaa
open Go.RowKit

def RCa (Y : Nat → Prop) (w : World) (r : Nat) (xv : Value) : Option CS → Prop
  | none => xv = .pointer none
  | some s => ∃ x uv, xv = .pointer (some ⟨x, 0, none⟩) ∧ Rcs Y w x r s.room s.us s.hi s.mi uv
theorem RCa.keep {Y : Nat → Prop} {w w' : World} {r : Nat} {xv : Value} {s : Option CS} (h : RCa Y w r xv s) (hk : ∀ k, Y k → k < w.heap.size → w'.heap[k]? = w.heap[k]?) : RCa Y w' r xv s := by
  cases s with
  | none => exact h
  | some s =>
    obtain ⟨x, uv, e, h⟩ := h
    exact ⟨x, uv, e, h.keep hk⟩
def Rs (R : Nat → Prop) (w : World) (r : Nat) (x0 x1 : Value) (D : Ds) (nb : Nat) (s0 s1 : Option CS) : Prop :=
  ∃ X Y0 Y1 : Nat → Prop, (∀ k, X k → R k ∧ k < w.heap.size ∧ ¬ Y0 k ∧ ¬ Y1 k) ∧ (∀ k, Y0 k → R k ∧ k < w.heap.size ∧ ¬ Y1 k) ∧ (∀ k, Y1 k → R k ∧ k < w.heap.size) ∧ Rk X w r D.img D.puts D.fu D.off nb ∧ RCa Y0 w r x0 s0 ∧ RCa Y1 w r x1 s1
theorem Rs.swap {R : Nat → Prop} {w : World} {r : Nat} {x0 x1 : Value} {D : Ds} {nb : Nat} {s0 s1 : Option CS} (h : Rs R w r x0 x1 D nb s0 s1) : Rs R w r x1 x0 D nb s1 s0 := by
  obtain ⟨X, Y0, Y1, hX, h0, h1, hd, hc0, hc1⟩ := h
  exact ⟨X, Y1, Y0, fun k q => ⟨(hX k q).1, (hX k q).2.1, (hX k q).2.2.2, (hX k q).2.2.1⟩, fun k q => ⟨(h1 k q).1, (h1 k q).2, fun q0 => (h0 k q0).2.2 q⟩, fun k q => ⟨(h0 k q).1, (h0 k q).2.1⟩, hd, hc1, hc0⟩
theorem Rs.mono {R R' : Nat → Prop} {w : World} {r : Nat} {x0 x1 : Value} {D : Ds} {nb : Nat} {s0 s1 : Option CS} (h : Rs R w r x0 x1 D nb s0 s1) (hP : ∀ k, k < w.heap.size → R k → R' k) : Rs R' w r x0 x1 D nb s0 s1 := by
  obtain ⟨X, Y0, Y1, hX, h0, h1, hd, hc0, hc1⟩ := h
  exact ⟨X, Y0, Y1, fun k q => ⟨hP k (hX k q).2.1 (hX k q).1, (hX k q).2⟩, fun k q => ⟨hP k (h0 k q).2.1 (h0 k q).1, (h0 k q).2⟩, fun k q => ⟨hP k (h1 k q).2 (h1 k q).1, (h1 k q).2⟩, hd, hc0, hc1⟩
theorem Rs.but {R U : Nat → Prop} {w w' : World} {r : Nat} {x0 x1 : Value} {D : Ds} {nb : Nat} {s0 s1 : Option CS} (h : Rs R w r x0 x1 D nb s0 s1) (hb : But U w w') (hu : ∀ k, k < w.heap.size → R k → ¬ U k) : Rs R w' r x0 x1 D nb s0 s1 := by
  obtain ⟨X, Y0, Y1, hX, h0, h1, hd, hc0, hc1⟩ := h
  have hs := hb.size
  refine ⟨X, Y0, Y1, fun k q => ⟨(hX k q).1, by have := (hX k q).2.1; omega, (hX k q).2.2⟩, fun k q => ⟨(h0 k q).1, by have := (h0 k q).2.1; omega, (h0 k q).2.2⟩, fun k q => ⟨(h1 k q).1, by have := (h1 k q).2; omega⟩, hd.keep (fun k q hk => hb.block k hk (hu k hk (hX k q).1)), hc0.keep (fun k q hk => hb.block k hk (hu k hk (h0 k q).1)), hc1.keep (fun k q hk => hb.block k hk (hu k hk (h1 k q).1))⟩
theorem Rs.below {R : Nat → Prop} {w w' : World} {r : Nat} {x0 x1 : Value} {D : Ds} {nb : Nat} {s0 s1 : Option CS} (h : Rs R w r x0 x1 D nb s0 s1) (hb : Below w.heap.size w w') : Rs R w' r x0 x1 D nb s0 s1 := h.but (But.of_below (X := fun _ => False) hb) (fun _ _ _ q => q)
/-- behind a call of the first cache -/
theorem Rs.of_rp {R X Y0 Y1 : Nat → Prop} {w w' : World} {r x : Nat} {x1 : Value} {D : Ds} {nb : Nat} {s0 : CS} {s1 : Option CS} (hX : ∀ k, X k → R k ∧ k < w.heap.size ∧ ¬ Y0 k ∧ ¬ Y1 k) (h0 : ∀ k, Y0 k → R k ∧ k < w.heap.size ∧ ¬ Y1 k) (h1 : ∀ k, Y1 k → R k ∧ k < w.heap.size) (hc1 : RCa Y1 w r x1 s1)
    (h : Rp (fun k => (X k ∨ Y0 k) ∨ w.heap.size ≤ k) w' x r s0.room s0.us s0.hi s0.mi D.img D.puts D.fu D.off nb) (hb : But (fun k => X k ∨ Y0 k) w w') :
    Rs (fun y => R y ∨ w.heap.size ≤ y) w' r (.pointer (some ⟨x, 0, none⟩)) x1 D nb (some s0) s1 ∧ But R w w' := by
  have hs := hb.size
  obtain ⟨X', Y', uv, hd, hX', hY', hk, hc⟩ := h
  have a : ∀ k, ((X k ∨ Y0 k) ∨ w.heap.size ≤ k) → R k ∨ w.heap.size ≤ k := fun k q => q.imp (fun q => q.elim (fun q => (hX k q).1) (fun q => (h0 k q).1)) id
  have b : ∀ k, ((X k ∨ Y0 k) ∨ w.heap.size ≤ k) → ¬ Y1 k := fun k q q1 => by
    have := (h1 k q1).2
    rcases q with (q | q) | q
    · exact (hX k q).2.2.2 q1
    · exact (h0 k q).2.2 q1
    · omega
  exact ⟨⟨X', Y', Y1, fun k q => ⟨a k (hX' k q).1, (hX' k q).2, fun q' => hd k q q', b k (hX' k q).1⟩, fun k q => ⟨a k (hY' k q).1, (hY' k q).2, b k (hY' k q).1⟩, fun k q => ⟨.inl (h1 k q).1, by have := (h1 k q).2; omega⟩, hk, ⟨x, uv, rfl, hc⟩, hc1.keep (fun k q hk => hb.block k hk (fun q' => b k (.inl q') q))⟩, hb.mono (fun k _ q => q.elim (fun q => (hX k q).1) (fun q => (h0 k q).1))⟩
theorem Rs.to_rp {R X Y0 Y1 : Nat → Prop} {w : World} {r x : Nat} {D : Ds} {nb : Nat} {s0 : CS} {uv : Value} (hX : ∀ k, X k → R k ∧ k < w.heap.size ∧ ¬ Y0 k ∧ ¬ Y1 k) (h0 : ∀ k, Y0 k → R k ∧ k < w.heap.size ∧ ¬ Y1 k) (hk : Rk X w r D.img D.puts D.fu D.off nb) (hc : Rcs Y0 w x r s0.room s0.us s0.hi s0.mi uv) :
    Rp (fun k => X k ∨ Y0 k) w x r s0.room s0.us s0.hi s0.mi D.img D.puts D.fu D.off nb :=
  ⟨X, Y0, uv, fun k q q' => (hX k q).2.2.1 q', fun k q => ⟨.inl q, (hX k q).2.1⟩, fun k q => ⟨.inr q, (h0 k q).2.1⟩, hk, hc⟩
theorem Rs.idle {R X Y0 Y1 : Nat → Prop} {w : World} {r : Nat} {x0 x1 : Value} {D : Ds} {nb : Nat} {s0 s1 : Option CS} (hX : ∀ k, X k → R k ∧ k < w.heap.size ∧ ¬ Y0 k ∧ ¬ Y1 k) (h0 : ∀ k, Y0 k → R k ∧ k < w.heap.size ∧ ¬ Y1 k) (h1 : ∀ k, Y1 k → R k ∧ k < w.heap.size) (hk : Rk X w r D.img D.puts D.fu D.off nb) (hc0 : RCa Y0 w r x0 s0) (hc1 : RCa Y1 w r x1 s1) : Rs (fun y => R y ∨ w.heap.size ≤ y) w r x0 x1 D nb s0 s1 :=
  ⟨X, Y0, Y1, fun k q => ⟨.inl (hX k q).1, (hX k q).2⟩, fun k q => ⟨.inl (h0 k q).1, (h0 k q).2⟩, fun k q => ⟨.inl (h1 k q).1, (h1 k q).2⟩, hk, hc0, hc1⟩
theorem Rs.read {R : Nat → Prop} {w : World} {r : Nat} {x0 x1 : Value} {D : Ds} {nb K : Nat} {s0 s1 : Option CS} (h : Rs R w r x0 x1 D nb s0 s1) (hK : K ≤ 16777215) (ok : OkC K nb s0) (hp : D.puts.length ≤ K) (k : Int) :
    Calls Try.prog 39 #[x0, .int .i64 k] w fun e w' => e = .returned (.tuple #[.string (strOfNums (rdA s0 D nb k).2), .int .i64 (rdA s0 D nb k).1]) ∧ Rs (fun y => R y ∨ w.heap.size ≤ y) w' r x0 x1 D nb (rdS s0 D nb k) s1 ∧ But R w w' := by
  obtain ⟨X, Y0, Y1, hX, h0, h1, hd, hc0, hc1⟩ := h
  cases s0 with
  | none =>
    obtain rfl : x0 = .pointer none := hc0
    refine Calls.mono (refCRead_nil w k) ?_
    rintro e w' ⟨rfl, rfl⟩
    exact ⟨rfl, Rs.idle (s0 := none) hX h0 h1 hd rfl hc1, But.refl _ _⟩
  | some s =>
    obtain ⟨x, uv, rfl, hc0⟩ := hc0
    obtain ⟨o1, o2, o3, o4, o5, o6, o7, o8⟩ := ok
    refine Calls.mono (refCRead_any (Rs.to_rp hX h0 hd hc0) (by omega) (by omega) o2 ⟨o4, by omega⟩ ⟨o6, by omega⟩ o8 k) ?_
    rintro e w' ⟨rfl, hr, hb⟩
    exact ⟨rfl, Rs.of_rp (s0 := ⟨s.room, _, _, _⟩) hX h0 h1 hc1 hr hb⟩
theorem Rs.write {R : Nat → Prop} {w : World} {r : Nat} {x0 x1 : Value} {D : Ds} {nb K : Nat} {s0 s1 : Option CS} (h : Rs R w r x0 x1 D nb s0 s1) (hK : K ≤ 16777215) (ok : OkC K nb s0) (hp : D.puts.length ≤ K) (k : Int) (ad : Option Addr) (n c : Nat) (zs : List Int) (hR : RdN R w ad n zs) :
    Calls Try.prog 43 #[x0, .int .i64 k, .slice ad n c] w fun e w' => e = .returned (.int .i64 (wrC s0 D nb k n)) ∧ Rs (fun y => R y ∨ w.heap.size ≤ y) w' r x0 x1 (wrD s0 D nb k n zs) nb (wrS s0 D nb k n zs) s1 ∧ But R w w' := by
  obtain ⟨X, Y0, Y1, hX, h0, h1, hd, hc0, hc1⟩ := h
  cases s0 with
  | none =>
    obtain rfl : x0 = .pointer none := hc0
    refine Calls.mono (refCWrite_nil w k _) ?_
    rintro e w' ⟨rfl, rfl⟩
    exact ⟨rfl, Rs.idle (s0 := none) hX h0 h1 hd rfl hc1, But.refl _ _⟩
  | some s =>
    obtain ⟨x, uv, rfl, hc0⟩ := hc0
    obtain ⟨o1, o2, o3, o4, o5, o6, o7, o8⟩ := ok
    refine Calls.mono (refCWrite_any (Rs.to_rp hX h0 hd hc0) (by omega) (by omega) k ad n c zs (hR.mono (fun y _ q => q.elim (fun q => (hX y q).1) (fun q => (h0 y q).1)))) ?_
    rintro e w' ⟨rfl, hr, hb⟩
    exact ⟨rfl, Rs.of_rp (D := ⟨_, _, _, _⟩) (s0 := ⟨s.room, _, s.hi, s.mi⟩) hX h0 h1 hc1 hr hb⟩
theorem Rs.flush {R : Nat → Prop} {w : World} {r : Nat} {x0 x1 : Value} {D : Ds} {nb K : Nat} {s0 s1 : Option CS} (h : Rs R w r x0 x1 D nb s0 s1) (hK : K ≤ 16777215) (hp : D.puts.length ≤ K) :
    Calls Try.prog 50 #[x0] w fun e w' => e = .returned (.int .i64 (flC s0 D)) ∧ Rs (fun y => R y ∨ w.heap.size ≤ y) w' r x0 x1 (flD s0 D) nb s0 s1 ∧ But R w w' := by
  obtain ⟨X, Y0, Y1, hX, h0, h1, hd, hc0, hc1⟩ := h
  cases s0 with
  | none =>
    obtain rfl : x0 = .pointer none := hc0
    refine Calls.mono (refCFlush_nil w) ?_
    rintro e w' ⟨rfl, rfl⟩
    exact ⟨rfl, Rs.idle (s0 := none) hX h0 h1 hd rfl hc1, But.refl _ _⟩
  | some s =>
    obtain ⟨x, uv, rfl, hc0⟩ := hc0
    refine Calls.mono (refCFlush_p (Rs.to_rp hX h0 hd hc0) (by omega)) ?_
    rintro e w' ⟨rfl, hr, hb⟩
    exact ⟨rfl, Rs.of_rp (D := ⟨_, _, _, _⟩) hX h0 h1 hc1 hr hb⟩
theorem Rs.forget {R : Nat → Prop} {w : World} {r : Nat} {x0 x1 : Value} {D : Ds} {nb : Nat} {s0 s1 : Option CS} (h : Rs R w r x0 x1 D nb s0 s1) :
    Calls Try.prog 49 #[x0] w fun e w' => e = .returned (.int .i64 (fgC s0)) ∧ Rs (fun y => R y ∨ w.heap.size ≤ y) w' r x0 x1 D nb (fgS s0) s1 ∧ But R w w' := by
  obtain ⟨X, Y0, Y1, hX, h0, h1, hd, hc0, hc1⟩ := h
  cases s0 with
  | none =>
    obtain rfl : x0 = .pointer none := hc0
    refine Calls.mono (refForget_nil w) ?_
    rintro e w' ⟨rfl, rfl⟩
    exact ⟨rfl, Rs.idle (s0 := none) hX h0 h1 hd rfl hc1, But.refl _ _⟩
  | some s =>
    obtain ⟨x, uv, rfl, hc0⟩ := hc0
    refine Calls.mono (refForget_p (Rs.to_rp hX h0 hd hc0)) ?_
    rintro e w' ⟨rfl, hr, hb⟩
    exact ⟨rfl, Rs.of_rp (s0 := ⟨s.room, [], s.hi, s.mi⟩) hX h0 h1 hc1 (hr.mono (fun _ q => .inl q)) hb⟩
theorem Rs.held {R : Nat → Prop} {w : World} {r : Nat} {x0 x1 : Value} {D : Ds} {nb K : Nat} {s0 s1 : Option CS} (h : Rs R w r x0 x1 D nb s0 s1) (hK : K ≤ 16777215) (ok : OkC K nb s0) :
    Calls Try.prog 45 #[x0] w fun e w' => ∃ al cp, e = .returned (.tuple #[.slice al (hdA s0).2.length cp, .int .i64 (hdA s0).1]) ∧ RdI w'.heap.size w' al (hdA s0).2.length (hdA s0).2 ∧ Below w.heap.size w w' := by
  obtain ⟨X, Y0, Y1, hX, h0, h1, hd, hc0, hc1⟩ := h
  cases s0 with
  | none =>
    obtain rfl : x0 = .pointer none := hc0
    refine Calls.mono (refCHeld_nil w) ?_
    rintro e w' ⟨rfl, rfl⟩
    exact ⟨none, 0, rfl, ⟨rfl, .inl rfl⟩, Below.refl _ _⟩
  | some s =>
    obtain ⟨x, uv, rfl, hc0⟩ := hc0
    obtain ⟨o1, o2, o3, o4, o5, o6, o7, o8⟩ := ok
    refine Calls.mono (refCHeld_p (Rs.to_rp hX h0 hd hc0) (by omega) o2) ?_
    rintro e w' ⟨al, cp, rfl, h2, h3⟩
    have e : (hdA (some s)).2.length = (heldU s.room s.us).length := by simp [hdA]
    rw [e]
    exact ⟨al, cp, rfl, h2, h3⟩
theorem Rs.counts {R : Nat → Prop} {w : World} {r : Nat} {x0 x1 : Value} {D : Ds} {nb : Nat} {s0 s1 : Option CS} (h : Rs R w r x0 x1 D nb s0 s1) :
    Calls Try.prog 48 #[x0] w fun e w' => e = .returned (.tuple #[.int .i64 (cntA s0).1, .int .i64 (cntA s0).2.1, .int .i64 (cntA s0).2.2]) ∧ Below w.heap.size w w' := by
  obtain ⟨X, Y0, Y1, hX, h0, h1, hd, hc0, hc1⟩ := h
  cases s0 with
  | none =>
    obtain rfl : x0 = .pointer none := hc0
    refine Calls.mono (refCounts_nil w) ?_
    rintro e w' ⟨rfl, rfl⟩
    exact ⟨rfl, Below.refl _ _⟩
  | some s =>
    obtain ⟨x, uv, rfl, hc0⟩ := hc0
    refine Calls.mono (refCounts_any hc0) ?_
    rintro e w' ⟨rfl, rfl⟩
    exact ⟨rfl, (Below.refl _ _).drew⟩
/-- the power, as the document's disk tells it -/
theorem Rs.offc {R : Nat → Prop} {w : World} {r : Nat} {x0 x1 : Value} {D : Ds} {nb : Nat} {s0 s1 : Option CS} (h : Rs R w r x0 x1 D nb s0 s1) : w.cell? ⟨r, 2, none⟩ = some (.bool D.off) ∧ r < w.heap.size ∧ R r := by
  obtain ⟨X, Y0, Y1, hX, h0, h1, ⟨lv, pv, hd⟩, hc0, hc1⟩ := h
  exact ⟨hd.blk.cell 2, (hX r hd.xr).2.1, (hX r hd.xr).1⟩
theorem Rs.of_rk {R X Y0 Y1 : Nat → Prop} {w w' : World} {r : Nat} {x0 x1 : Value} {D : Ds} {nb : Nat} {s0 s1 : Option CS} (hX : ∀ k, X k → R k ∧ k < w.heap.size ∧ ¬ Y0 k ∧ ¬ Y1 k) (h0 : ∀ k, Y0 k → R k ∧ k < w.heap.size ∧ ¬ Y1 k) (h1 : ∀ k, Y1 k → R k ∧ k < w.heap.size) (hc0 : RCa Y0 w r x0 s0) (hc1 : RCa Y1 w r x1 s1)
    (hd : Rk (fun y => X y ∨ w.heap.size ≤ y) w' r D.img D.puts D.fu D.off nb) (hb : But X w w') : Rs (fun y => R y ∨ w.heap.size ≤ y) w' r x0 x1 D nb s0 s1 ∧ But R w w' := by
  have hs := hb.size
  refine ⟨⟨fun k => (X k ∨ w.heap.size ≤ k) ∧ k < w'.heap.size, Y0, Y1, fun k q => ⟨q.1.imp (fun q => (hX k q).1) id, q.2, ?_, ?_⟩, fun k q => ⟨.inl (h0 k q).1, by have := (h0 k q).2.1; omega, (h0 k q).2.2⟩, fun k q => ⟨.inl (h1 k q).1, by have := (h1 k q).2; omega⟩, hd.lt, hc0.keep (fun k q hk => hb.block k hk (fun q' => (hX k q').2.2.1 q)), hc1.keep (fun k q hk => hb.block k hk (fun q' => (hX k q').2.2.2 q))⟩, hb.mono (fun k _ q => (hX k q).1)⟩
  · intro q'
    rcases q.1 with q1 | q1
    · exact (hX k q1).2.2.1 q'
    · have := (h0 k q').2.1; omega
  · intro q'
    rcases q.1 with q1 | q1
    · exact (hX k q1).2.2.2 q'
    · have := (h1 k q').2; omega
theorem Rs.fuse {R : Nat → Prop} {w : World} {r : Nat} {x0 x1 : Value} {D : Ds} {nb : Nat} {s0 s1 : Option CS} (h : Rs R w r x0 x1 D nb s0 s1) (k : Int) (hk : k ≤ 9223372036854775807) :
    Calls Try.prog 52 #[.pointer (some ⟨r, 0, none⟩), .int .i64 k] w fun e w' => e = .returned (.int .i64 (fuseR D.off k)) ∧ Rs (fun y => R y ∨ w.heap.size ≤ y) w' r x0 x1 (fuD D k) nb s0 s1 ∧ But R w w' := by
  obtain ⟨X, Y0, Y1, hX, h0, h1, hd, hc0, hc1⟩ := h
  refine Calls.mono (SetFuse_any hd k hk) ?_
  rintro e w' ⟨rfl, hd', hb⟩
  exact ⟨rfl, Rs.of_rk (D := fuD D k) hX h0 h1 hc0 hc1 (hd'.mono (fun _ q => .inl q)) hb⟩
theorem Rs.dwrite {R : Nat → Prop} {w : World} {r : Nat} {x0 x1 : Value} {D : Ds} {nb K : Nat} {s0 s1 : Option CS} (h : Rs R w r x0 x1 D nb s0 s1) (hK : K ≤ 16777215) (hp : D.puts.length ≤ K) (k : Int) (ad : Option Addr) (n c : Nat) (zs : List Int) (hR : RdN R w ad n zs) :
    Calls Try.prog 61 #[.pointer (some ⟨r, 0, none⟩), .int .i64 k, .slice ad n c] w fun e w' => e = .returned (.int .i64 (writeC D.off D.fu nb k n)) ∧ Rs (fun y => R y ∨ w.heap.size ≤ y) w' r x0 x1 (dwD D nb k n zs) nb s0 s1 ∧ But R w w' := by
  obtain ⟨X, Y0, Y1, hX, h0, h1, hd, hc0, hc1⟩ := h
  refine Calls.mono (refWrite_any hd (by omega) k ad n c zs (hR.mono (fun y _ q => (hX y q).1))) ?_
  rintro e w' ⟨rfl, hd', hb⟩
  exact ⟨rfl, Rs.of_rk (D := dwD D nb k n zs) hX h0 h1 hc0 hc1 hd' hb⟩
theorem Rs.pending {R : Nat → Prop} {w : World} {r : Nat} {x0 x1 : Value} {D : Ds} {nb K : Nat} {s0 s1 : Option CS} (h : Rs R w r x0 x1 D nb s0 s1) (hK : K ≤ 16777215) (hp : D.puts.length ≤ K) :
    Calls Try.prog 56 #[.pointer (some ⟨r, 0, none⟩)] w fun e w' => ∃ a c, e = .returned (.slice a D.puts.length c) ∧ RdI w'.heap.size w' a D.puts.length (atsQ D.puts) ∧ Below w.heap.size w w' := by
  obtain ⟨X, Y0, Y1, hX, h0, h1, hd, hc0, hc1⟩ := h
  exact refPending_any hd (by omega)
theorem Rs.image {R : Nat → Prop} {w : World} {r : Nat} {x0 x1 : Value} {D : Ds} {nb : Nat} {s0 s1 : Option CS} (h : Rs R w r x0 x1 D nb s0 s1) (hb : Pl.isB D.img) :
    Calls Try.prog 58 #[.pointer (some ⟨r, 0, none⟩)] w fun e w' => ∃ a c, e = .returned (.slice a (512 * nb) c) ∧ Rd w'.heap.size w' a (512 * nb) D.img ∧ Below w.heap.size w w' := by
  obtain ⟨X, Y0, Y1, hX, h0, h1, hd, hc0, hc1⟩ := h
  exact refImage_any hd hb
theorem Rs.crash {R : Nat → Prop} {w : World} {r : Nat} {x0 x1 : Value} {D : Ds} {nb K : Nat} {s0 s1 : Option CS} (h : Rs R w r x0 x1 D nb s0 s1) (hK : K ≤ 16777215) (hp : D.puts.length ≤ K) (hib : Pl.isB D.img) (hpb : ∀ q ∈ D.puts, Pl.isB q.2) (a : Option Addr) (m c : Nat) (ks : List Int) (hm : m ≤ 1073741824) (hR : RdI w.heap.size w a m ks) :
    Calls Try.prog 60 #[.pointer (some ⟨r, 0, none⟩), .slice a m c] w fun e w' => Below w.heap.size w w' ∧
      ((placesC D.puts.length ks ≠ 0 ∧ e = .returned (.tuple #[.slice none 0 0, .int .i64 26])) ∨
       (placesC D.puts.length ks = 0 ∧ ∃ a2 c2, e = .returned (.tuple #[.slice a2 (512 * nb) c2, .int .i64 0]) ∧ Rd w'.heap.size w' a2 (512 * nb) (crashZ D.img D.puts ks))) := by
  obtain ⟨X, Y0, Y1, hX, h0, h1, hd, hc0, hc1⟩ := h
  exact refCrash_any hd (by omega) hib hpb a m c ks hm hR

end Go.Proofs.Ytfadnmdmohabmaa

/-
  The desk whole: its state; what an act writes.
-/
namespace Go.Proofs.Ytfadnmdmohabmaa
open Go.RowKit

/-- what is held is whole blocks -/
def OkL : Option CS → Prop
  | none => True
  | some s => ∀ q ∈ s.us, q.2.length = 512
/-- the desk, with the act's cache (i) first -/
structure Dsi (B : Nat) (τ : Nat → Nat) (w : World) (x p r nb m nK : Nat) (v : Vs) (i : Nat) (cI cJ xI xJ : Value) (D : Ds) (sI sJ : Option CS) : Prop where
  dt : Dt τ w x v nK
  ps : Ps (fun y => τ y = 1) w p cI cJ D nb sI sJ
  rs : Rs (fun y => τ y = 2) w r xI xJ D nb sI sJ
  ed : v.d = .pointer (some ⟨p, 0, none⟩)
  er : v.r = .pointer (some ⟨r, 0, none⟩)
  sel : (i = 0 ∧ v.c0 = cI ∧ v.c1 = cJ ∧ v.x0 = xI ∧ v.x1 = xJ) ∨ (i = 1 ∧ v.c1 = cI ∧ v.c0 = cJ ∧ v.x1 = xI ∧ v.x0 = xJ)
  low : ∀ y, y < B → τ y = 9
  hB : B ≤ w.heap.size
  okI : OkC m nb sI
  okJ : OkC m nb sJ
  lI : OkL sI
  lJ : OkL sJ
  hp : D.puts.length ≤ m
  b1 : v.bcnt ≤ m
  b2 : v.btot ≤ 512 * m
  b3 : nK ≤ 15 * m
  l1 : v.lcnt ≤ 2 * m
  l2 : v.ltot ≤ 8192 * m
  n0 : 0 ≤ v.n
  n1 : v.n ≤ m
def Dsk (B : Nat) (w : World) (x m : Nat) : Prop := ∃ τ p r nb nK v cI cJ xI xJ D sI sJ, Dsi B τ w x p r nb m nK v 0 cI cJ xI xJ D sI sJ
theorem Dsi.turn {B : Nat} {τ : Nat → Nat} {w : World} {x p r nb m nK : Nat} {v : Vs} {i : Nat} {cI cJ xI xJ : Value} {D : Ds} {sI sJ : Option CS} (h : Dsi B τ w x p r nb m nK v i cI cJ xI xJ D sI sJ) : Dsi B τ w x p r nb m nK v (1 - i) cJ cI xJ xI D sJ sI :=
  ⟨h.dt, h.ps.swap, h.rs.swap, h.ed, h.er, h.sel.elim (fun ⟨e, a, b, c, d⟩ => .inr ⟨by omega, b, a, d, c⟩) (fun ⟨e, a, b, c, d⟩ => .inl ⟨by omega, b, a, d, c⟩), h.low, h.hB, h.okJ, h.okI, h.lJ, h.lI, h.hp, h.b1, h.b2, h.b3, h.l1, h.l2, h.n0, h.n1⟩
theorem Dsi.dsk {B : Nat} {τ : Nat → Nat} {w : World} {x p r nb m nK : Nat} {v : Vs} {i : Nat} {cI cJ xI xJ : Value} {D : Ds} {sI sJ : Option CS} (h : Dsi B τ w x p r nb m nK v i cI cJ xI xJ D sI sJ) : Dsk B w x m := by
  have hi : i = 0 ∨ i = 1 := h.sel.imp (fun q => q.1) (fun q => q.1)
  rcases hi with rfl | rfl
  · exact ⟨_, _, _, _, _, _, _, _, _, _, _, _, _, h⟩
  · exact ⟨_, _, _, _, _, _, _, _, _, _, _, _, _, h.turn⟩
theorem Dsk.at {B : Nat} {w : World} {x m : Nat} (h : Dsk B w x m) {i : Nat} (hi : i < 2) : ∃ τ p r nb nK v cI cJ xI xJ D sI sJ, Dsi B τ w x p r nb m nK v i cI cJ xI xJ D sI sJ := by
  obtain ⟨τ, p, r, nb, nK, v, cI, cJ, xI, xJ, D, sI, sJ, h⟩ := h
  rcases (show i = 0 ∨ i = 1 by omega) with rfl | rfl
  · exact ⟨_, _, _, _, _, _, _, _, _, _, _, _, _, h⟩
  · exact ⟨_, _, _, _, _, _, _, _, _, _, _, _, _, h.turn⟩
theorem Dsi.cC {B : Nat} {τ : Nat → Nat} {w : World} {x p r nb m nK : Nat} {v : Vs} {i : Nat} {cI cJ xI xJ : Value} {D : Ds} {sI sJ : Option CS} (h : Dsi B τ w x p r nb m nK v i cI cJ xI xJ D sI sJ) : w.cell? ⟨x, 1 + i, none⟩ = some cI ∧ w.cell? ⟨x, 4 + i, none⟩ = some xI := by
  rcases h.sel with ⟨rfl, a, _, b, _⟩ | ⟨rfl, a, _, b, _⟩
  · rw [← a, ← b]
    exact ⟨h.dt.tbl.cell 1, h.dt.tbl.cell 4⟩
  · rw [← a, ← b]
    exact ⟨h.dt.tbl.cell 2, h.dt.tbl.cell 5⟩
def cactV (wh kd at_ fi : Int) (ra : Value) : Value := .agg #[.int .i64 wh, .int .i64 kd, .int .i64 at_, .int .i64 fi, ra]

theorem Dsi.fresh {B : Nat} {τ : Nat → Nat} {w w' : World} {x p r nb m nK : Nat} {v : Vs} {i : Nat} {cI cJ xI xJ : Value} {D : Ds} {sI sJ : Option CS} (h : Dsi B τ w x p r nb m nK v i cI cJ xI xJ D sI sJ) (hb : Below w.heap.size w w') : Dsi B (tgN τ w.heap.size none 9) w' x p r nb m nK v i cI cJ xI xJ D sI sJ := by
  have hs := hb.size
  have e : ∀ y, y < w.heap.size → tgN τ w.heap.size none 9 y = τ y := fun y hy => tgN_lo hy (by simp)
  exact ⟨h.dt.below hb e, (h.ps.mono (P' := fun y => tgN τ w.heap.size none 9 y = 1) (fun k hk q => (e k hk).trans q)).below hb, (h.rs.mono (R' := fun y => tgN τ w.heap.size none 9 y = 2) (fun k hk q => (e k hk).trans q)).below hb, h.ed, h.er, h.sel, fun y hy => (e y (Nat.lt_of_lt_of_le hy h.hB)).trans (h.low y hy), by have := h.hB; omega, h.okI, h.okJ, h.lI, h.lJ, h.hp, h.b1, h.b2, h.b3, h.l1, h.l2, h.n0, h.n1⟩
theorem Dsi.rs1 {B : Nat} {τ : Nat → Nat} {w w1 w2 : World} {x p r nb m nK : Nat} {v : Vs} {i : Nat} {cI cJ xI xJ : Value} {D : Ds} {sI sJ : Option CS} (h : Dsi B τ w x p r nb m nK v i cI cJ xI xJ D sI sJ) (b1 : But (fun y => τ y = 1) w w1) (hb : Below w1.heap.size w1 w2) : Rs (fun y => τ y = 2 ∧ y < w.heap.size) w2 r xI xJ D nb sI sJ :=
  ((h.rs.mono (R' := fun y => τ y = 2 ∧ y < w.heap.size) (fun k hk q => ⟨q, hk⟩)).but b1 (fun k _ q q' => by omega)).below hb
theorem heap_bb {τ : Nat → Nat} {w w1 w2 : World} {t : Nat} (b1 : But (fun y => τ y = t) w w1) (hb : Below w1.heap.size w1 w2) {y : Nat} (hy : y < w.heap.size) (h1 : τ y ≠ t) : w2.heap[y]? = w.heap[y]? :=
  (hb.block y (Nat.lt_of_lt_of_le hy b1.size)).trans (b1.block y hy h1)
/-- behind a call on either side -/
def tgB (τ : Nat → Nat) (S S2 : Nat) (al : Option Addr) (y : Nat) : Nat := if y < S then τ y else if al = some ⟨y, 0, none⟩ then 9 else if y < S2 then 1 else 2
theorem Dsi.both {B : Nat} {τ : Nat → Nat} {w w1 w2 w3 : World} {x p r nb m m' nK : Nat} {v : Vs} {i : Nat} {cI cJ xI xJ : Value} {D D' : Ds} {sI sJ sI' sJ' : Option CS} {al : Option Addr} (h : Dsi B τ w x p r nb m nK v i cI cJ xI xJ D sI sJ)
    (ps1 : Ps (fun y => (τ y = 1 ∨ w.heap.size ≤ y) ∧ al ≠ some ⟨y, 0, none⟩) w1 p cI cJ D' nb sI' sJ') (b1 : But (fun y => τ y = 1) w w1) (hal : ∀ y, al = some ⟨y, 0, none⟩ → w.heap.size ≤ y ∧ y < w1.heap.size) (hb : Below w1.heap.size w1 w2)
    (rs1 : Rs (fun y => (τ y = 2 ∧ y < w.heap.size) ∨ w2.heap.size ≤ y) w3 r xI xJ D' nb sI' sJ') (b2 : But (fun y => τ y = 2 ∧ y < w.heap.size) w2 w3) (hm : m ≤ m') (o1 : OkC m' nb sI') (o2 : OkC m' nb sJ') (o3 : OkL sI') (o4 : OkL sJ') (op : D'.puts.length ≤ m') :
    Dsi B (tgB τ w.heap.size w2.heap.size al) w3 x p r nb m' nK v i cI cJ xI xJ D' sI' sJ' ∧ But (fun y => τ y = 1 ∨ τ y = 2) w w3 := by
  have s1 := b1.size
  have s2 := hb.size
  have s3 := b2.size
  have e : ∀ y, y < w.heap.size → tgB τ w.heap.size w2.heap.size al y = τ y := fun y hy => if_pos hy
  have hbb : But (fun y => τ y = 1 ∨ τ y = 2) w w3 := ((b1.mono (Y := fun y => τ y = 1 ∨ τ y = 2) (fun _ _ q => .inl q)).step (But.of_below (X := fun _ => False) hb) (fun _ _ q => q.elim)).step b2 (fun _ _ q => .inr q.1)
  refine ⟨⟨h.dt.but hbb (fun y hy q => by omega) e, ((ps1.mono (P' := fun y => tgB τ w.heap.size w2.heap.size al y = 1) (fun k hk q => ?_)).below hb).but b2 (fun k hk q q' => by rw [e k q'.2] at q; omega), rs1.mono (fun k hk q => ?_), h.ed, h.er, h.sel, fun y hy => (e y (Nat.lt_of_lt_of_le hy h.hB)).trans (h.low y hy), by have := h.hB; omega, o1, o2, o3, o4, op, ?_, ?_, ?_, ?_, ?_, h.n0, ?_⟩, hbb⟩
  · unfold tgB
    by_cases hy : k < w.heap.size
    · rw [if_pos hy]
      exact q.1.resolve_right (by omega)
    · rw [if_neg hy, if_neg q.2, if_pos (by omega)]
  · unfold tgB
    rcases q with q | q
    · rw [if_pos q.2]; exact q.1
    · rw [if_neg (by omega), if_neg (fun e => by have := hal k e; omega), if_neg (by omega)]
  · have := h.b1; omega
  · have := h.b2; omega
  · have := h.b3; omega
  · have := h.l1; omega
  · have := h.l2; omega
  · have := h.n1; omega
theorem and1 (n : Int) : bits .and .i64 n 1 = n % 2 := by
  have h1 : (BitVec.ofInt 64 1).toNat = 2 ^ 1 - 1 := by decide
  have key : (BitVec.ofInt 64 n &&& BitVec.ofInt 64 1).toNat = (n % ((2 ^ 64 : Nat) : Int)).toNat % 2 ^ 1 := by
    rw [BitVec.toNat_and, BitVec.toNat_ofInt, h1, Nat.and_two_pow_sub_one_eq_mod]
  show IntKind.i64.wrap ((BitVec.ofInt 64 n &&& BitVec.ofInt 64 1).toNat : Nat) = n % 2
  rw [key, IntKind.wrap_i64]
  omega
theorem and1_nat (n : Int) : ∃ i : Nat, i < 2 ∧ bits .and .i64 n 1 = (i : Int) := ⟨(n % 2).toNat, by omega, by rw [and1]; omega⟩
theorem Num_any (e : Int) (w : World) : Calls Try.prog 5 #[.int .i64 e] w fun q w' => q = .returned (.int .i64 e) ∧ w' = w := by
  go_enter Try.func5, Try.ntmps5
  go_wp2
  go_ret
  exact ⟨rfl, rfl⟩

end Go.Proofs.Ytfadnmdmohabmaa

/-
  A script of acts, read; the arguments, opened.
-/
namespace Go.Proofs.Ytfadnmdmohabmaa
open Go.ChangeShapes Go.WideShapes Go.ChangeAt Go.RowKit Go.Deep

/-- an act -/
structure CAct where
  wh : Int
  kd : Int
  at_ : Int
  fi : Int
  aR : Option Addr
  nR : Nat
  cR : Nat
  zs : List Int
def CAct.val (d : CAct) : Value := cactV d.wh d.kd d.at_ d.fi (.slice d.aR d.nR d.cR)
structure CAct.Ok (B : Nat) (w : World) (d : CAct) : Prop where
  wf : (Lit.int .i64 d.at_).wf = true
  at_ : d.at_ ≤ 9223372036854775807
  rd : Rd B w d.aR d.nR d.zs
  n : d.nR ≤ 1048576
/-- a script -/
structure CScr (B : Nat) (w : World) (a : Option Addr) (n : Nat) (L : List CAct) : Prop where
  len : L.length = n
  ok : ∀ d ∈ L, d.Ok B w
  cel : n = 0 ∨ ∃ b o, a = some ⟨b, o, none⟩ ∧ b < B ∧ ∀ i d, L[i]? = some d → w.cell? ⟨b, o + i * 5, none⟩ = some (.int .i64 d.wh) ∧ w.cell? ⟨b, o + i * 5 + 1, none⟩ = some (.int .i64 d.kd) ∧ w.cell? ⟨b, o + i * 5 + 2, none⟩ = some (.int .i64 d.at_) ∧ w.cell? ⟨b, o + i * 5 + 3, none⟩ = some (.int .i64 d.fi) ∧
    w.cell? ⟨b, o + i * 5 + 4, none⟩ = some (.slice d.aR d.nR d.cR)
theorem CScr.below {B : Nat} {w w' : World} {a : Option Addr} {n : Nat} {L : List CAct} (h : CScr B w a n L) (hb : Below B w w') : CScr B w' a n L := by
  refine ⟨h.len, fun d hd => ⟨(h.ok d hd).wf, (h.ok d hd).at_, (h.ok d hd).rd.below hb, (h.ok d hd).n⟩, h.cel.imp id (fun ⟨b, o, e, l, q⟩ => ⟨b, o, e, l, fun i d hi => ?_⟩)⟩
  obtain ⟨q0, q1, q2, q3, q4⟩ := q i d hi
  exact ⟨(hb.cell (p := ⟨b, _, none⟩) l).trans q0, (hb.cell (p := ⟨b, _, none⟩) l).trans q1, (hb.cell (p := ⟨b, _, none⟩) l).trans q2, (hb.cell (p := ⟨b, _, none⟩) l).trans q3, (hb.cell (p := ⟨b, _, none⟩) l).trans q4⟩

theorem rd_of_open {W : World} {x : Addr} {len cap : Nat} {zs : List Int} (hl : len ≤ cap) (hz : zs.length = cap) (hcell : ∀ i, i < zs.length → W.cell? (x.add i) = some (.int .u8 (zs.getD i 0))) (hwz : ∀ n ∈ zs, (Lit.int .u8 n).wf = true) :
    Rd W.heap.size W (some x) len (zs.take len) := by
  refine ⟨by simp; omega, fun z hzm => ?_, ?_⟩
  · have := bounds_u8 (hwz z (List.mem_of_mem_take hzm))
    omega
  · by_cases h0 : len = 0
    · exact .inl h0
    · obtain ⟨b, off, spot⟩ := x
      have hc := hcell 0 (by omega)
      have hspot : spot = none := by simpa [Addr.add] using World.cell?_spot hc
      subst hspot
      have hadd : ∀ t, (⟨b, off, none⟩ : Addr).add t = ⟨b, off + t, none⟩ := fun t => by unfold Addr.add; split <;> simp_all
      refine .inr ⟨b, off, rfl, World.block_lt_of_cell? W ⟨b, off, none⟩ (by rw [hadd] at hc; exact hc), fun t ht => ?_⟩
      rw [← hadd, hcell t (by omega), List.getD_eq_getElem?_getD, List.getD_eq_getElem?_getD, List.getElem?_take_of_lt ht]
theorem bulk_one {H : Type} (d : DataW H) : 1 ≤ Rows.uptoBulk d := by
  cases d with
  | lit l => cases l <;> simp [Rows.uptoBulk]
  | nil => simp [Rows.uptoBulk]
  | ptr d => simp [Rows.uptoBulk]
  | slice elems spare => simp [Rows.uptoBulk]
  | agg parts => simp [Rows.uptoBulk]
  | iface t d => simp [Rows.uptoBulk]
  | map entries => simp [Rows.uptoBulk]
  | held h => simp [Rows.uptoBulk]
theorem bulk_len {H : Type} (l : List (DataW H)) : l.length ≤ Rows.uptoBulkAll l := by
  induction l with
  | nil => simp [Rows.uptoBulkAll]
  | cons x r ih => have := bulk_one x; simp only [Rows.uptoBulkAll, List.length_cons]; omega
theorem bulk_mem {H : Type} {d : DataW H} {l : List (DataW H)} (h : d ∈ l) : Rows.uptoBulk d ≤ Rows.uptoBulkAll l := by
  induction l with
  | nil => cases h
  | cons x r ih =>
    simp only [Rows.uptoBulkAll]
    cases List.mem_cons.1 h with
    | inl e => subst e; omega
    | inr e => have := ih e; omega
theorem bulk_slice {H : Type} (elems spare : List (DataW H)) : elems.length ≤ Rows.uptoBulk (.slice elems spare) := by
  have h1 := bulk_len elems
  simp only [Rows.uptoBulk]
  omega
set_option maxRecDepth 100000 in
theorem bulk_bound {H : Type} {l : List (DataW H)} (hk : Rows.uptoSmall H l = true) : Rows.uptoBulkAll l ≤ 1048576 := of_decide_eq_true hk
theorem spot_none {W : World} {x : Addr} {v : Value} (h : W.cell? (x.add 0) = some v) : ∃ b off, x = ⟨b, off, none⟩ := by
  obtain ⟨b, off, spot⟩ := x
  have hspot : spot = none := by simpa [Addr.add] using World.cell?_spot h
  subst hspot
  exact ⟨b, off, rfl⟩
theorem add_plain (b off t : Nat) : (⟨b, off, none⟩ : Addr).add t = ⟨b, off + t, none⟩ := by unfold Addr.add; split <;> simp_all
/-- bytes that came in, by their cell -/
theorem open_bc {H : Type} {enc : TypeId × Value → H} {W : World} {v : Value} {fuel : Nat} {x : DataW H × List MemPlace} (hf : DataW.trod enc Try.prog W 0 (fun _ => true) true fuel 34 [v] = some x) :
    ∃ a n c zs, v = .slice a n c ∧ Rd W.heap.size W a n zs ∧ n ≤ Rows.uptoBulk x.1 := by
  rcases open_ints Try.underlying34 Try.underlying5 (by kernel_rfl) hf with ⟨hcs, hx⟩ | ⟨x', l, c, zs, hcs, hp, hl, hm, hz, hx, hcell, hwz⟩
  · simp at hcs
    subst hcs
    exact ⟨none, 0, 0, [], rfl, ⟨rfl, Pl.isB_nil, .inl rfl⟩, by omega⟩
  · simp at hcs
    subst hcs
    have hz' : zs.length = c := by simpa using hz
    refine ⟨some x', l, c, zs.take l, rfl, rd_of_open hl hz' hcell hwz, ?_⟩
    rw [hx]
    have := bulk_slice (H := H) (lits .u8 (zs.take l)) (lits .u8 (zs.drop l))
    simp only [lits, List.length_map, List.length_take] at this
    simp only [lits]
    omega
theorem wf_i64 {n : Int} (h : (Lit.int .i64 n).wf = true) : n ≤ 9223372036854775807 := by
  simp [Lit.wf] at h
  omega
theorem bulk_by {H : Type} {l : List (DataW H)} {k : Nat} (h : ∀ d ∈ l, k ≤ Rows.uptoBulk d) : k * l.length ≤ Rows.uptoBulkAll l := by
  induction l with
  | nil => simp [Rows.uptoBulkAll]
  | cons x r ih =>
    have h1 := h x (by simp)
    have h2 := ih (fun d hd => h d (by simp [hd]))
    simp only [Rows.uptoBulkAll, List.length_cons, Nat.mul_succ]
    omega
/-- a slice of structs of five fields of one cell each -/
theorem open_five {H : Type} {enc : TypeId × Value → H} {P : Program} {w : World} {base : Nat} {spare : Nat → Bool} {held : Bool} {t e : TypeId} {f0 f1 f2 f3 f4 : Field} {fuel : Nat} {cs : List Value} {x : DataW H × List MemPlace}
    (ht : P.underlying t = some (.slice e)) (he : P.underlying e = some (.struct #[f0, f1, f2, f3, f4])) (ce : P.cellsOf e = 5) (o0 : f0.offset = 0) (o1 : f1.offset = 1) (o2 : f2.offset = 2) (o3 : f3.offset = 3) (o4 : f4.offset = 4) (c0 : P.cellsOf f0.type = 1) (c1 : P.cellsOf f1.type = 1) (c2 : P.cellsOf f2.type = 1) (c3 : P.cellsOf f3.type = 1) (c4 : P.cellsOf f4.type = 1)
    (h : DataW.trod enc P w base spare held fuel t cs = some x) :
    (cs = [.slice none 0 0] ∧ x = (.nil, [])) ∨
    ∃ (a : Addr) (len cap m n : Nat) (D : Nat → DataW H), cs = [.slice (some a) len cap] ∧ len ≤ cap ∧ m = (if spare a.block then cap else len) ∧ x.1 = .slice ((List.range len).map D) ((List.range (m - len)).map fun j => D (len + j)) ∧
      ∀ i, i < m → ∃ (v0 v1 v2 v3 v4 : Value) (y0 y1 y2 y3 y4 : DataW H × List MemPlace), w.cell? (a.add (i * 5)) = some v0 ∧ w.cell? (a.add (i * 5 + 1)) = some v1 ∧ w.cell? (a.add (i * 5 + 2)) = some v2 ∧ w.cell? (a.add (i * 5 + 3)) = some v3 ∧ w.cell? (a.add (i * 5 + 4)) = some v4 ∧
        DataW.trod enc P w base spare held (n - 1) f0.type [v0] = some y0 ∧ DataW.trod enc P w base spare held (n - 1) f1.type [v1] = some y1 ∧ DataW.trod enc P w base spare held (n - 1) f2.type [v2] = some y2 ∧ DataW.trod enc P w base spare held (n - 1) f3.type [v3] = some y3 ∧ DataW.trod enc P w base spare held (n - 1) f4.type [v4] = some y4 ∧ D i = .agg [y0.1, y1.1, y2.1, y3.1, y4.1] := by
  rcases open_slice ht h with h0 | ⟨a, len, cap, m, n, D, Pl, rfl, hb, hl, hm, hmm, rfl, hx⟩
  · exact Or.inl h0
  refine .inr ⟨a, len, cap, m, n, D, rfl, hl, hmm, rfl, ?_⟩
  intro i hi
  obtain ⟨cs', h1, h2⟩ := hx i hi
  rw [ce] at h1
  obtain ⟨_, hlen, hcell⟩ := World.cells?_some h1
  obtain ⟨xs, k, hk, hxy, _, hxl, hf⟩ := DataW.trod_struct he h2
  have hk' : k = n - 1 := by omega
  subst hk'
  match xs, hxl, cs', hlen with
  | [y0, y1, y2, y3, y4], _, [v0, v1, v2, v3, v4], _ =>
    have g0 := hf 0 f0 rfl
    have g1 := hf 1 f1 rfl
    have g2 := hf 2 f2 rfl
    have g3 := hf 3 f3 rfl
    have g4 := hf 4 f4 rfl
    simp [o0, o1, o2, o3, o4, c0, c1, c2, c3, c4] at g0 g1 g2 g3 g4
    have e0 := hcell 0 (by omega)
    have e1 := hcell 1 (by omega)
    have e2 := hcell 2 (by omega)
    have e3 := hcell 3 (by omega)
    have e4 := hcell 4 (by omega)
    rw [add_add] at e0 e1 e2 e3 e4
    simp only [Prod.mk.injEq] at hxy
    exact ⟨v0, v1, v2, v3, v4, y0, y1, y2, y3, y4, by simpa using e0, by simpa using e1, by simpa using e2, by simpa using e3, by simpa using e4, g0, g1, g2, g3, g4, by simpa using hxy.1⟩
theorem open_script {H : Type} {enc : TypeId × Value → H} {W : World} {a : Option Addr} {len cap : Nat} {d : DataW H} {p : List MemPlace} (h : DataW.Trod enc Try.prog W 0 (fun _ => true) true 23 (.slice a len cap) d p) (hbk : Rows.uptoBulk d ≤ 1048576) :
    len ≤ 262144 ∧ ∃ L, CScr W.heap.size W a len L := by
  obtain ⟨fuel, hf⟩ := h
  rcases open_five Try.underlying23 Try.underlying36 (by kernel_rfl) rfl rfl rfl rfl rfl (by kernel_rfl) (by kernel_rfl) (by kernel_rfl) (by kernel_rfl) (by kernel_rfl) hf with ⟨hcs, hx⟩ | ⟨x, l, c, m, n, D, hcs, hl, hmm, hx, hall⟩
  · simp [Value.cells] at hcs
    obtain ⟨rfl, rfl, rfl⟩ := hcs
    exact ⟨by omega, [], rfl, fun d hd => (by cases hd), .inl rfl⟩
  · simp [Value.cells] at hcs
    obtain ⟨rfl, rfl, rfl⟩ := hcs
    have hm' : m = cap := by simpa using hmm
    subst hm'
    have hone : ∀ i, i < len → 6 ≤ Rows.uptoBulk (D i) := by
      intro i hi
      obtain ⟨v0, v1, v2, v3, v4, y0, y1, y2, y3, y4, e0, e1, e2, e3, e4, t0, t1, t2, t3, t4, hD⟩ := hall i (by omega)
      rw [hD]
      have h0 := bulk_one y0.1
      have h1 := bulk_one y1.1
      have h2 := bulk_one y2.1
      have h3 := bulk_one y3.1
      have h4 := bulk_one y4.1
      simp only [Rows.uptoBulk, Rows.uptoBulkAll]
      omega
    have hsum : 6 * len ≤ Rows.uptoBulk d ∧ ∀ i, i < len → Rows.uptoBulk (D i) ≤ Rows.uptoBulk d := by
      rw [show d = .slice ((List.range len).map D) ((List.range (m - len)).map fun j => D (len + j)) from hx]
      have h1 := bulk_by (k := 6) (l := (List.range len).map D) (fun d hd => by
        obtain ⟨i, hi, rfl⟩ := List.mem_map.1 hd
        exact hone i (List.mem_range.1 hi))
      simp only [List.length_map, List.length_range] at h1
      simp only [Rows.uptoBulk]
      refine ⟨by omega, fun i hi => ?_⟩
      have := bulk_mem (d := D i) (l := (List.range len).map D) (List.mem_map.2 ⟨i, List.mem_range.2 hi, rfl⟩)
      omega
    have each : ∀ i, i < len → ∃ q : CAct, (W.cell? (x.add (i * 5)) = some (.int .i64 q.wh) ∧ W.cell? (x.add (i * 5 + 1)) = some (.int .i64 q.kd) ∧ W.cell? (x.add (i * 5 + 2)) = some (.int .i64 q.at_) ∧ W.cell? (x.add (i * 5 + 3)) = some (.int .i64 q.fi) ∧ W.cell? (x.add (i * 5 + 4)) = some (.slice q.aR q.nR q.cR)) ∧ q.Ok W.heap.size W := by
      intro i hi
      obtain ⟨v0, v1, v2, v3, v4, y0, y1, y2, y3, y4, e0, e1, e2, e3, e4, t0, t1, t2, t3, t4, hD⟩ := hall i (by omega)
      obtain ⟨q0, eq0, _, _⟩ := DataW.trod_int Try.underlying3 t0
      obtain ⟨q1, eq1, _, _⟩ := DataW.trod_int Try.underlying3 t1
      obtain ⟨q2, eq2, _, hw2⟩ := DataW.trod_int Try.underlying3 t2
      obtain ⟨q3, eq3, _, _⟩ := DataW.trod_int Try.underlying3 t3
      simp at eq0 eq1 eq2 eq3
      subst eq0 eq1 eq2 eq3
      obtain ⟨aa, nn, cc, zs, rfl, hR, hn⟩ := open_bc t4
      have hb := hsum.2 i hi
      rw [hD] at hb
      simp only [Rows.uptoBulk, Rows.uptoBulkAll] at hb
      exact ⟨⟨q0, q1, q2, q3, aa, nn, cc, zs⟩, ⟨e0, e1, e2, e3, e4⟩, hw2, wf_i64 hw2, hR, by show nn ≤ _; omega⟩
    have : Inhabited CAct := ⟨⟨0, 0, 0, 0, none, 0, 0, []⟩⟩
    obtain ⟨q, hq⟩ := choose_lt each
    refine ⟨by omega, (List.range len).map q, by simp, fun d hd => ?_, ?_⟩
    · obtain ⟨i, hi, rfl⟩ := List.mem_map.1 hd
      exact (hq i (List.mem_range.1 hi)).2
    · by_cases h0 : len = 0
      · exact .inl h0
      · obtain ⟨b, off, rfl⟩ := spot_none (by have := (hq 0 (by omega)).1.1; simpa using this)
        refine .inr ⟨b, off, rfl, ?_, fun i d hi => ?_⟩
        · have := (hq 0 (by omega)).1.1
          rw [add_plain] at this
          exact World.block_lt_of_cell? W ⟨b, off, none⟩ (by simpa using this)
        · have hil : i < len := by have := (List.getElem?_eq_some_iff.1 hi).1; simpa using this
          have hd : d = q i := by
            rw [List.getElem?_map, List.getElem?_range hil] at hi
            simpa using hi.symm
          subst hd
          have hh := (hq i hil).1
          simp only [add_plain, ← Nat.add_assoc] at hh
          exact hh

end Go.Proofs.Ytfadnmdmohabmaa
