/-
  syntax: mayBe, of any tree.
-/
import Derived.Test.YtbllaacbeagljaaGreatDoorSy7
import Derived.Deep.RegionHeld3
namespace Go.Proofs.YtbllaacbeagljaaGreatDoor
open Go.RowKit

/-- the boxes of a call of mayBe: the node, its place, its kids -/
structure Bx (w : World) (b b7 : Nat) (nc pc kc : Array Value) : Prop where
  nd : Cs w b 25 nc
  pl : Cs w (b + 1) 144 pc
  kd : Cs w b7 189 kc
theorem Bx.next {w w' : World} {b b7 : Nat} {nc pc kc : Array Value} (h : Bx w b b7 nc pc kc) (hb : Below w.heap.size w w') : Bx w' b b7 nc pc kc := ⟨h.nd.next hb, h.pl.next hb, h.kd.next hb⟩
theorem Bx.but {X : Nat → Prop} {w w' : World} {b b7 : Nat} {nc pc kc : Array Value} (h : Bx w b b7 nc pc kc) (hb : But X w w') (h1 : ¬ X b) (h2 : ¬ X (b + 1)) (h3 : ¬ X b7) : Bx w' b b7 nc pc kc := ⟨h.nd.but hb h1, h.pl.but hb h2, h.kd.but hb h3⟩
theorem Cs.five {w : World} {b : Nat} {t : TypeId} {v0 v1 v2 v3 v4 : Value} (h : Cs w b t #[v0, v1, v2, v3, v4]) : w.cell? ⟨b, 0, none⟩ = some v0 ∧ w.cell? ⟨b, 1, none⟩ = some v1 ∧ w.cell? ⟨b, 2, none⟩ = some v2 ∧ w.cell? ⟨b, 3, none⟩ = some v3 ∧ w.cell? ⟨b, 4, none⟩ = some v4 :=
  ⟨h.cell 0 _ rfl, h.cell 1 _ rfl, h.cell 2 _ rfl, h.cell 3 _ rfl, h.cell 4 _ rfl⟩
theorem Cs.three {w : World} {b : Nat} {t : TypeId} {v0 v1 v2 : Value} (h : Cs w b t #[v0, v1, v2]) : w.cell? ⟨b, 0, none⟩ = some v0 ∧ w.cell? ⟨b, 1, none⟩ = some v1 ∧ w.cell? ⟨b, 2, none⟩ = some v2 :=
  ⟨h.cell 0 _ rfl, h.cell 1 _ rfl, h.cell 2 _ rfl⟩
/-- what mayBe does -/
def MbQ (lb : Nat) (d : Bool) (R : Bool × Bool) (w : World) (e : Ending) (w' : World) : Prop :=
  e = .returned (.bool R.1) ∧ (∃ d', Cs w' lb 140 #[.bool d'] ∧ (R.1 = true → d' = (d || R.2))) ∧ But (fun x => x = lb) w w'

set_option maxRecDepth 100000 in
set_option maxHeartbeats 4000000 in
theorem mayBe_deep (lb : Nat) (d : Bool) (r dp : Int) (wi : Bool) (t : Nd) (a : Option Addr) (l c : Nat) (w : World) (hL : Cs w lb 140 #[.bool d]) (hd : dp = 65) :
    Calls Tryz.prog 71 #[.pointer (some ⟨lb, 0, none⟩), .agg (ncs t.k (strOfNums t.tx) t.n t.at_ a l c), .agg #[.int .i64 r, .int .i64 dp, .bool wi]] w (MbQ lb d (true, true) w) := by
  obtain ⟨PO, hPO⟩ : ∃ PO, PO = MbQ lb d (true, true) w := ⟨_, rfl⟩
  rw [← hPO]
  have HPO := hid hPO
  have c0 := hL.cell 0 _ rfl
  have f0 := hL.fz 0
  have hlt := hL.lt
  have HL := hid hL
  subst hd
  clear hPO hL
  go_enter Tryz.func71, Tryz.ntmps71
  go_wp2_with fail
  show PO (.returned (.bool true)) _
  rw [HPO.out]
  exact ⟨rfl, ⟨true, Cs.next (HL.out.set 0 (.bool true) rfl) (below2 _ _ _), fun _ => by simp⟩, (((But.refl (fun x => x = lb) w).setCell (p := ⟨lb, 0, none⟩) rfl _).alloc _).alloc _⟩

/-- mayBe at depth 65 - f -/
def MbS (f : Nat) : Prop := ∀ (lb : Nat) (d : Bool) (r : Int) (wi : Bool) (t : Nd) (D : Nat) (a : Option Addr) (l c : Nat) (w : World), Cs w lb 140 #[.bool d] → 0 < lb → GA w → KR (fun x => x = lb) w D a l t.kids → Pl.isB t.tx → t.tx.length ≤ 16777216 →
  Calls Tryz.prog 71 #[.pointer (some ⟨lb, 0, none⟩), .agg (ncs t.k (strOfNums t.tx) t.n t.at_ a l c), .agg #[.int .i64 r, .int .i64 (65 - (f : Int)), .bool wi]] w (MbQ lb d (mbN f r wi t) w)
theorem mb_fail {lb : Nat} {d : Bool} {f : Nat} {r : Int} {wi : Bool} {t : Nd} {w w' : World} (h : oneB f r wi t = false) (hL : Cs w lb 140 #[.bool d]) (hb : Below w.heap.size w w') : MbQ lb d (mbN (f + 1) r wi t) w (.returned (.bool false)) w' := by
  have e : mbN (f + 1) r wi t = (false, false) := by unfold mbN; rw [h]; rfl
  rw [e]
  exact ⟨rfl, ⟨d, hL.next hb, fun q => by cases q⟩, But.of_below hb⟩
/-- the loop over the kids: how far it is -/
def MbI (lb : Nat) (d : Bool) (R : Bool × Bool) (g : Nat → Nd → Bool × Bool) (ks : List Nd) (w0 : World) (i : Nat) (w : World) : Prop :=
  ∃ d', Cs w lb 140 #[.bool d'] ∧ R.1 = (mbAll g i (ks.drop i)).1 ∧ (R.1 = true → (d || R.2) = (d' || (mbAll g i (ks.drop i)).2)) ∧ But (fun x => x = lb) w0 w
theorem mbAll_step {g : Nat → Nd → Bool × Bool} {ks : List Nd} {i : Nat} (h : i < ks.length) : mbAll g i (ks.drop i) = if (g i ks[i]).1 = true then ((mbAll g (i + 1) (ks.drop (i + 1))).1, (g i ks[i]).2 || (mbAll g (i + 1) (ks.drop (i + 1))).2) else (false, false) := by
  rw [List.drop_eq_getElem_cons h]
  rfl

end Go.Proofs.YtbllaacbeagljaaGreatDoor
