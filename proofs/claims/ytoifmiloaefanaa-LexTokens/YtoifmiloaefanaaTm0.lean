/-
  Tokens: a block of them that is known whole; make, copy.
-/
import Derived.Test.YtoifmiloaefanaaSh1
import Derived.Test.YtoifmiloaefanaaPw0
namespace Go.Proofs.Ytoifmiloaefanaa
open Go.RowKit

theorem run_copy_wide {P : Program} (w : World) (dT sT ty elem : TypeId) (g o dLen dCap : Nat) (a : Addr) (sLen sCap size : Nat) (cur : Array Value) (t : TypeId) (cs : List Value)
    (hu : P.underlying dT = some (.slice elem)) (hs : (P.info? elem).map (·.size) = some size)
    (hg : w.heap[g]? = some (.cells cur t (0, 0))) (hn : cs.length = Nat.min sLen dLen * size)
    (hsrc : ∀ j v, cs[j]? = some v → w.cell? (a.add j) = some v) (hfit : o + cs.length ≤ cur.size) (h1 : ∀ v ∈ cs, v.oneCell' = true) :
    (Builtin.copy_ #[dT, sT] ty #[.slice (some ⟨g, o, none⟩) dLen dCap, .slice (some a) sLen sCap]).run P w =
      .ok (goInt (Nat.min sLen dLen)) (w.setRow g (cur.toList.take o ++ cs ++ cur.toList.drop (o + cs.length)).toArray) := by
  have hl := run_loadCells_list (P := P) w a cs hsrc
  have hst := run_storeCells_at P g o t cs 0 cur w hg (by simpa using hfit) h1
  rw [hn] at hl
  cases hq : P.info? elem with
  | none => simp [hq] at hs
  | some i =>
    have hi : i.size = size := by simpa [hq] using hs
    simp [Builtin.copy_, run_underlying hu, Builtin.lenOf, Builtin.firstCells, sizeOf, typeInfo, hq, hi, hl, hst]
/-- block g holds just these tokens -/
def BlT (w : World) (g : Nat) (ts : List Tk) : Prop := w.heap[g]? = some (.cells (flatT ts).toArray 29 (0, 0))
theorem BlT.lt {w : World} {g : Nat} {ts : List Tk} (h : BlT w g ts) : g < w.heap.size := (Array.getElem?_eq_some_iff.1 h).1
theorem BlT.cell {w : World} {g : Nat} {ts : List Tk} (h : BlT w g ts) (j : Nat) (hj : j < ts.length) : w.cell? ⟨g, j * 4, none⟩ = some (.int .i64 ts[j].k) ∧ w.cell? ⟨g, j * 4 + 1, none⟩ = some (.string (strOfNums ts[j].tx)) ∧ w.cell? ⟨g, j * 4 + 2, none⟩ = some (.int .i64 ts[j].n) ∧ w.cell? ⟨g, j * 4 + 3, none⟩ = some (.int .i64 ts[j].a) := by
  have k : ∀ i, i < 4 → ∀ v, (cellsT ts[j])[i]? = some v → w.cell? ⟨g, j * 4 + i, none⟩ = some v := fun i hi v hv => by
    unfold BlT at h
    simp only [World.cell?, h]
    rw [List.getElem?_toArray, flatT_at ts j hj i hi]
    exact hv
  exact ⟨k 0 (by decide) _ rfl, k 1 (by decide) _ rfl, k 2 (by decide) _ rfl, k 3 (by decide) _ rfl⟩
theorem BlT.rd {w : World} {g : Nat} {ts : List Tk} (h : BlT w g ts) : TkR w (some ⟨g, 0, none⟩) ts := .inr ⟨g, rfl, h.lt, fun j hj => h.cell j hj⟩
theorem BlT.new (w : World) (ts : List Tk) : BlT (w.alloc (.cells (flatT ts).toArray 29)) w.heap.size ts := heap_new _ _
theorem flatT_drop : ∀ (ys : List Tk) (k : Nat), flatT (ys.drop k) = (flatT ys).drop (k * 4)
  | [], k => by simp [flatT]
  | f :: r, 0 => by simp
  | f :: r, k + 1 => by
    have := flatT_drop r k
    rw [List.drop_succ_cons, this, show (k + 1) * 4 = (cellsT f).length + k * 4 by simp [cellsT]; omega, flatT, ← List.drop_drop, List.drop_left]
theorem flatT_over (ys cs : List Tk) : splice (flatT ys) 0 (flatT cs) = flatT (cs ++ ys.drop cs.length) := by
  unfold splice
  rw [flatT_app, flatT_drop, List.take_zero, List.nil_append, Nat.zero_add, flatT_len]
def tkZ : Tk := ⟨0, [], 0, 0⟩
theorem made_tok (n : Nat) : madeCells #[.int .i64 0, .string ByteArray.empty, .int .i64 0, .int .i64 0] (n * 4) = (flatT (List.replicate n tkZ)).toArray := by
  rw [← Array.toList_inj]
  apply List.ext_getElem?
  intro j
  by_cases hj : j < n * 4
  · have h1 := flatT_at (List.replicate n tkZ) (j / 4) (by rw [List.length_replicate]; omega) (j % 4) (by omega)
    rw [show j / 4 * 4 + j % 4 = j by omega] at h1
    rw [h1, List.getElem_replicate]
    simp only [madeCells, Array.toList_map, Array.toList_range, List.getElem?_map, List.getElem?_range hj, Option.map_some]
    rcases (show j % 4 = 0 ∨ j % 4 = 1 ∨ j % 4 = 2 ∨ j % 4 = 3 by omega) with h | h | h | h <;> simp [h, cellsT, tkZ] <;> rfl
  · rw [List.getElem?_eq_none (by simp [madeCells]; omega), List.getElem?_eq_none (by simp [flatT_len]; omega)]
theorem make_tok (n : Nat) (hn : n ≤ 16777216) (u : World) : (Instr.makeSlice 23 (.int .i64 (n : Int)) (.int .i64 (n : Int))).run Try.prog u =
    .ok (.slice (some ⟨u.heap.size, 0, none⟩) n n) (u.alloc (.cells (flatT (List.replicate n tkZ)).toArray 29)) := by
  obtain ⟨i0, hi, hz0, hz1, hz2⟩ := info_parts info29
  have h := run_make (P := Try.prog) u 23 29 i0 _ Try.underlying23 hi hz0 .i64 .i64 (n : Int) (n : Int) (by omega) (Int.le_refl _) (by rw [hz2]; omega) (by omega)
  have e : ((n : Int)).toNat = n := by omega
  rw [e] at h
  rw [← made_tok]
  simpa [hz1, Value.cells] using h
theorem info29z : (Try.prog.info? 29).map (·.size) = some 4 := by kernel_rfl
theorem copy_tok {ty : TypeId} {w : World} {G M dCap n sCap : Nat} {ad : Addr} {ys cs : List Tk} (hg : BlT w G ys) (hn : (flatT cs).length = Nat.min n M * 4) (hsrc : ∀ j v, (flatT cs)[j]? = some v → w.cell? (ad.add j) = some v) (hfit : cs.length ≤ ys.length) :
    ∃ w', (Builtin.copy_ #[23, 23] ty #[.slice (some ⟨G, 0, none⟩) M dCap, .slice (some ad) n sCap]).run Try.prog w = .ok (goInt (Nat.min n M)) w' ∧ BlT w' G (cs ++ ys.drop cs.length) ∧ But (fun x => x = G) w w' := by
  refine ⟨_, run_copy_wide (P := Try.prog) w 23 23 ty 29 G 0 M dCap ad n sCap 4 (flatT ys).toArray 29 (flatT cs) Try.underlying23 info29z hg hn hsrc (by simp [flatT_len]; omega) (cellsT_one _), ?_, ?_⟩
  · have := setRow_heap w G (flatT ys).toArray ((flatT ys).toArray.toList.take 0 ++ flatT cs ++ (flatT ys).toArray.toList.drop (0 + (flatT cs).length)).toArray 29 (0, 0) hg
    unfold BlT
    rw [this, ← flatT_over]
    simp [splice]
  · exact ⟨rfl, rfl, rfl, by simp [World.setRow], fun k _ hx => setRow_other w G k _ (by intro e; exact hx e)⟩

theorem flatT_set : ∀ (ts : List Tk) (i : Nat) (t : Tk), i < ts.length → flatT (ts.set i t) = ((((flatT ts).set (i * 4) (.int .i64 t.k)).set (i * 4 + 1) (.string (strOfNums t.tx))).set (i * 4 + 2) (.int .i64 t.n)).set (i * 4 + 3) (.int .i64 t.a)
  | [], i, t, h => by simp at h
  | x :: ts, 0, t, h => by simp [flatT, cellsT]
  | x :: ts, i + 1, t, h => by
    have ih := flatT_set ts i t (by simpa using h)
    rw [List.set_cons_succ, flatT, ih, flatT, show (i + 1) * 4 = i * 4 + 4 by omega]
    simp [cellsT]
theorem BlT.set4 {w : World} {g : Nat} {ts : List Tk} (h : BlT w g ts) (i : Nat) (t : Tk) (hi : i < ts.length) : BlT ((((w.setCell ⟨g, i * 4, none⟩ (.int .i64 t.k)).setCell ⟨g, i * 4 + 1, none⟩ (.string (strOfNums t.tx))).setCell ⟨g, i * 4 + 2, none⟩ (.int .i64 t.n)).setCell ⟨g, i * 4 + 3, none⟩ (.int .i64 t.a)) g (ts.set i t) := by
  unfold BlT at *
  rw [flatT_set ts i t hi]
  simp only [World.setCell, Array.getElem?_modify, if_true]
  rw [h]
  simp

end Go.Proofs.Ytoifmiloaefanaa
