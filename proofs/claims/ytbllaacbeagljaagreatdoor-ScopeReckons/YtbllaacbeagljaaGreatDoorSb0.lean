/-
  scope: maps of numbers by name; has.
-/
import Derived.Test.YtbllaacbeagljaaGreatDoorSya
import Derived.Maps.OwnSet
import Derived.Maps.Views
import Derived.StringKeys
namespace Go.Proofs.YtbllaacbeagljaaGreatDoor
open Go.RowKit Go.Maps

theorem law9 : Keyed Tryz.prog 9 := string_keyed Tryz.underlying9
theorem zero3 (w : World) : (zeroValue 3).run Tryz.prog w = .ok (.int .i64 0) w := by kernel_rfl
theorem under69 : Tryz.prog.underlying 69 = some (.map 9 3) := by kernel_rfl
theorem under68 : Tryz.prog.underlying 68 = some (.map 9 3) := by kernel_rfl
/-- a name as a key -/
def kyL (s : ByteArray) : Lit := .string s.data.toList
theorem ky_key (s : ByteArray) : WideAt.IsKeyLit (kyL s) := by unfold kyL; trivial
theorem ky_ne {s s' : ByteArray} (h : s ≠ s') : kyL s ≠ kyL s' := by
  intro e
  apply h
  unfold kyL at e
  injection e with e
  apply ByteArray.ext
  exact Array.toList_inj.1 e
/-- BLOCK b IS A MAP OF NUMBERS BY NAME -/
def MpB (w : World) (b n : Nat) (F : ByteArray → Option Int) : Prop :=
  ∃ D : DataW Unit, w.ownsMap Tryz.prog 9 (plainElem Tryz.prog 3) b n D ∧ ∀ s, D.atKey (kyL s) (.lit (.int .i64 0)) = .lit (.int .i64 ((F s).getD 0)) ∧ Maps.has D (kyL s) = (F s).isSome
theorem MpB.new (w : World) : MpB (w.alloc (.map #[] 0)) w.heap.size 0 (fun _ => none) := ⟨.map [], World.ownsMap_made _ _ _ _, fun _ => ⟨rfl, rfl⟩⟩
theorem MpB.lt {w : World} {b n : Nat} {F : ByteArray → Option Int} (h : MpB w b n F) : b < w.heap.size := by obtain ⟨D, h, _⟩ := h; exact h.lt
theorem MpB.keep {w w' : World} {b n : Nat} {F : ByteArray → Option Int} (h : MpB w b n F) (hb : w'.heap[b]? = w.heap[b]?) : MpB w' b n F := by
  obtain ⟨D, ⟨es, clock, h1, h2⟩, h3⟩ := h
  exact ⟨D, ⟨es, clock, hb.trans h1, h2⟩, h3⟩
theorem MpB.next {w w' : World} {b n : Nat} {F : ByteArray → Option Int} (h : MpB w b n F) (hb : Below w.heap.size w w') : MpB w' b n F := h.keep (hb.block b h.lt)
theorem MpB.but {X : Nat → Prop} {w w' : World} {b n : Nat} {F : ByteArray → Option Int} (h : MpB w b n F) (hb : But X w w') (hx : ¬ X b) : MpB w' b n F := h.keep (hb.block b h.lt hx)
theorem turned_but {w w' : World} {b : Nat} (h : w.mapTurned w' b) : But (fun x => x = b) w w' := by
  have g := h.grown
  exact ⟨g.os, g.tape, g.output, g.size, fun k hk hx => g.block k hk (fun e => hx (by simpa using e))⟩
theorem key9 {s : ByteArray} (hs : s.size ≤ maxLen) : keyOf Tryz.prog 9 (.string s) = some (kyL s) := Go.WideMaps.keyOf_string_mk Tryz.underlying9 hs
theorem plain0 (v : Int) (h : (Lit.int .i64 v).wf = true) : plainElem (H := Unit) Tryz.prog 3 (.int .i64 v) = some (.lit (.int .i64 v), []) := plainElem_int Tryz.underlying3 h
/-- v, ok := m[k] -/
theorem MpB.look {w : World} {b n : Nat} {F : ByteArray → Option Int} (h : MpB w b n F) {t : TypeId} (ht : Tryz.prog.underlying t = some (.map 9 3)) (s : ByteArray) (hs : s.size ≤ maxLen) :
    (Instr.lookup t (.map (some b)) (.string s) true).run Tryz.prog w = .ok (.tuple #[.int .i64 ((F s).getD 0), .bool (F s).isSome]) w := by
  obtain ⟨D, h1, h2⟩ := h
  obtain ⟨v, ps, hrun, hv⟩ := h1.look_ok law9 ht (zero3 w) (plain0 0 rfl) (key9 hs)
  obtain ⟨c, rfl, hc, _⟩ := plainElem_int_inv Tryz.underlying3 hv
  have e := congrArg Prod.fst hc
  simp only at e
  rw [(h2 s).1] at e
  rw [hrun, (h2 s).2]
  have e3 : (F s).getD 0 = c := by simpa using e
  rw [e3]
def upF (F : ByteArray → Option Int) (s : ByteArray) (v : Option Int) : ByteArray → Option Int := fun x => if x = s then v else F x
/-- m[k] = v -/
theorem MpB.put {w : World} {b n : Nat} {F : ByteArray → Option Int} (h : MpB w b n F) {t : TypeId} (ht : Tryz.prog.underlying t = some (.map 9 3)) (s : ByteArray) (hs : s.size ≤ maxLen) (v : Int) (hv : (Lit.int .i64 v).wf = true) (hn : n < 1073741824) :
    ∃ w', (Instr.mapUpdate t (.map (some b)) (.string s) (.int .i64 v)).run Tryz.prog w = .ok () w' ∧ MpB w' b (n + 1) (upF F s (some v)) ∧ But (fun x => x = b) w w' := by
  obtain ⟨D, h1, h2⟩ := h
  obtain ⟨w', hrun, h3, h4⟩ := h1.store law9 ht (by unfold maxLen; omega) (key9 hs) (plain0 v hv)
  refine ⟨w', hrun, ⟨_, h3, fun x => ?_⟩, turned_but h4⟩
  unfold upF
  by_cases e : x = s
  · subst e
    rw [if_pos rfl]
    exact ⟨atKey_put_same h1.isMap (ky_key _) _ _, has_put_same h1.isMap (ky_key _) _⟩
  · rw [if_neg e, atKey_put_other (ky_ne e), has_put_other (ky_ne e)]
    exact h2 x
/-- delete(m, k) -/
theorem MpB.del {w : World} {b n : Nat} {F : ByteArray → Option Int} (h : MpB w b n F) {t : TypeId} (ht : Tryz.prog.underlying t = some (.map 9 3)) (s : ByteArray) (hs : s.size ≤ maxLen) (ty : TypeId) :
    ∃ w', (Builtin.delete_ #[t, 9] ty #[.map (some b), .string s]).run Tryz.prog w = .ok (.tuple #[]) w' ∧ MpB w' b n (upF F s none) ∧ But (fun x => x = b) w w' := by
  obtain ⟨D, h1, h2⟩ := h
  obtain ⟨w', hrun, h3, h4⟩ := h1.drop law9 ht (key9 hs) ty
  refine ⟨w', hrun, ⟨_, h3, fun x => ?_⟩, turned_but h4⟩
  unfold upF
  by_cases e : x = s
  · subst e
    rw [if_pos rfl]
    exact ⟨atKey_del_same _, has_del_same⟩
  · rw [if_neg e, atKey_del_other (ky_ne e), has_del_other (ky_ne e)]
    exact h2 x

set_option maxRecDepth 100000 in
set_option maxHeartbeats 1000000 in
theorem has_any {w : World} {b n : Nat} {F : ByteArray → Option Int} (h : MpB w b n F) (s : ByteArray) (hs : s.size ≤ maxLen) : Calls Tryz.prog 76 #[.map (some b), .string s] w fun e w' => e = .returned (.bool (F s).isSome) ∧ w' = w := by
  have hr := h.look under69 s hs
  generalize (F s).getD 0 = v at *
  generalize (F s).isSome = q at *
  go_enter Tryz.func76, Tryz.ntmps76
  go_wp2_with fail
  go_ret
  exact ⟨rfl, rfl⟩

end Go.Proofs.YtbllaacbeagljaaGreatDoor
