import Derived.Test.YtoifmiloaefanaaDoorZShi
import Derived.Test.YtoifmiloaefanaaDoorZJn0
import Derived.Lib.AppendIntMem
/-
  Itoa; written of any token.
-/
namespace Go.Proofs.YtoifmiloaefanaaDoor
open Go.RowKit Go.Shelf

/-- the table of the powers of ten stands in the world -/
def GT (w : World) : Prop := ∃ t fz, w.heap[0]? = some (.cells (Lib.pow10Tab.map fun z => Value.int .u64 z).toArray t fz)
theorem GT.next {w w' : World} (h : GT w) (hb : Below w.heap.size w w') : GT w' := by
  obtain ⟨t, fz, h⟩ := h
  exact ⟨t, fz, by rw [hb.block 0 (Array.getElem?_eq_some_iff.1 h).1]; exact h⟩
def itoL (n : Int) : List Int := (Lib.itoa n).map fun b => (b.toNat : Int)
theorem itoL_str (n : Int) : (⟨(Lib.itoa n).toArray⟩ : ByteArray) = strOfNums (itoL n) := by
  apply ByteArray.ext
  simp [strOfNums, itoL]
  have e : ((fun n : Int => UInt8.ofNat n.toNat) ∘ fun b : UInt8 => (b.toNat : Int)) = id := by funext b; simp
  rw [e, List.map_id]
theorem Itoa_any (n : Int) (h0 : -9223372036854775808 ≤ n) (h1 : n ≤ 9223372036854775807) (w : World) (hG : GT w) : Calls Tryd.prog 42 #[.int .i64 n] w fun e w' => e = .returned (.string (strOfNums (itoL n))) ∧ Below w.heap.size w w' := by
  have htab : w.var? Tryd.prog ((Tryd.prog.globals[0]?.map (·.name)).getD (Tryd.prog.godebug)) = some (Lib.pow10Tab.map fun z => Value.int .u64 z).toArray := by
    obtain ⟨t, fz, h⟩ := hG
    unfold World.var?
    rw [show Tryd.prog.globalNamed ((Tryd.prog.globals[0]?.map (·.name)).getD (Tryd.prog.godebug)) = some 0 from by kernel_rfl]
    simp only [Option.bind_some, h]
  refine (Any.strconv_Itoa Tryd.laysM171 n h0 h1 w htab).mono ?_
  rintro e w' ⟨rfl, k, os, rfl⟩
  exact ⟨by rw [itoL_str], Lib.below_grow _ w (Nat.le_refl _) k os⟩
set_option maxRecDepth 100000 in
set_option maxHeartbeats 2000000 in
theorem written_num (l : List Int) (n a : Int) (w : World) (hG : GT w) (h0 : -9223372036854775808 ≤ n) (h1 : n ≤ 9223372036854775807) : Calls Tryd.prog 28 #[.agg (tcs 3 (strOfNums l) n a)] w fun e w' => e = .returned (.string (strOfNums (itoL n))) ∧ Below w.heap.size w w' := by
  have b1 := below1 w (.cells (tcs 3 (strOfNums l) n a) 29)
  have HI : Hid (Calls Tryd.prog 42 #[.int .i64 n] (w.alloc (.cells (tcs 3 (strOfNums l) n a) 29)) fun e w' => e = .returned (.string (strOfNums (itoL n))) ∧ Below w.heap.size w w') := by
    refine (Itoa_any n h0 h1 _ (hG.next b1)).mono ?_
    rintro e w' ⟨rfl, h⟩
    exact ⟨rfl, b1.trans (h.mono (by simp))⟩
  clear b1 hG
  generalize strOfNums (itoL n) = V at *
  generalize strOfNums l = S at *
  go_enter Tryd.func28, Tryd.ntmps28
  go_wp2_with fail
  refine Calls.mono HI.out ?_
  rintro e w' ⟨rfl, h⟩
  have H := hid h
  clear h HI
  go_wp2_with fail
  go_ret
  exact ⟨rfl, H.out⟩
/-- what is written of a token, numbers too -/
def wrT (t : Tk) : List Int := if t.k = 3 then itoL t.n else wrL t.k t.tx
theorem written_all (t : Tk) (w : World) (hG : GT w) (h0 : -9223372036854775808 ≤ t.n) (h1 : t.n ≤ 9223372036854775807) (hl : t.tx.length ≤ 140737488355328) : Wr28 w (tokV t) (wrT t) := by
  obtain ⟨k, l, n, a⟩ := t
  unfold wrT
  by_cases hk : k = 3
  · subst hk
    rw [if_pos rfl]
    exact written_num l n a w hG h0 h1
  · rw [if_neg hk]
    exact written_any k l n a w hk hl

end Go.Proofs.YtoifmiloaefanaaDoor
