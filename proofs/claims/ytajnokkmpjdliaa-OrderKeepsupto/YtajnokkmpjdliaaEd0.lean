/-
  Edges in blocks: known whole, made, copied, of one's own.
-/
import Derived.Test.YtajnokkmpjdliaaRf7
namespace Go.Proofs.Ytajnokkmpjdliaa
open Go.RowKit

theorem run_copy_wide {P : Program} (w : World) (dT sT ty elem : TypeId) (g o dLen dCap : Nat) (a : Addr) (sLen sCap size : Nat) (cur : Array Value) (t : TypeId) (cs : List Value)
    (hu : P.underlying dT = some (.slice elem)) (hs : (P.info? elem).map (·.size) = some size)
    (hg : w.heap[g]? = some (.cells cur t (0, 0))) (hn : cs.length = Nat.min sLen dLen * size)
    (hsrc : ∀ j v, cs[j]? = some v → w.cell? (a.add j) = some v) (hfit : o + cs.length ≤ cur.size) (h1 : ∀ v ∈ cs, v.oneCell' = true) :
    (Builtin.copy_ #[dT, sT] ty #[.slice (some ⟨g, o, none⟩) dLen dCap, .slice (some a) sLen sCap]).run P w =
      .ok (goInt (Nat.min sLen dLen)) (w.setRow g (cur.toList.take o ++ cs ++ cur.toList.drop (o + cs.length)).toArray) := by
  have hl := run_loadCells_list (P := P) w a cs hsrc
  have hst := run_storeCells_at P g o t cs 0 cur w hg (by simpa using hfit) h1
  rw [hn] at hl
  cases hq : P.info? elem with
  | none => simp [hq] at hs
  | some i =>
    have hi : i.size = size := by simpa [hq] using hs
    simp [Builtin.copy_, run_underlying hu, Builtin.lenOf, Builtin.firstCells, sizeOf, typeInfo, hq, hi, hl, hst]

def flatE : List (Int × Int) → List Value
  | [] => []
  | r :: l => .int .i64 r.1 :: .int .i64 r.2 :: flatE l
theorem flatE_len : ∀ rs : List (Int × Int), (flatE rs).length = rs.length * 2
  | [] => rfl
  | r :: l => by simp [flatE, flatE_len l]; omega
theorem flatE_at : ∀ (rs : List (Int × Int)) (j : Nat), j < rs.length → (flatE rs)[j * 2]? = some (.int .i64 (zg rs j).1) ∧ (flatE rs)[j * 2 + 1]? = some (.int .i64 (zg rs j).2)
  | [], j, h => by simp at h
  | r :: l, 0, _ => by simp [flatE, zg]
  | r :: l, j + 1, h => by
    have ih := flatE_at l j (by simpa using h)
    rw [show (j + 1) * 2 = j * 2 + 2 by omega]
    simpa [flatE, zg] using ih
theorem flatE_app : ∀ (a b : List (Int × Int)), flatE (a ++ b) = flatE a ++ flatE b
  | [], b => rfl
  | r :: l, b => by simp [flatE, flatE_app l b]
theorem flatE_one : ∀ (rs : List (Int × Int)), ∀ v ∈ flatE rs, v.oneCell' = true
  | [], v, h => by simp [flatE] at h
  | r :: l, v, h => by
    simp only [flatE, List.mem_cons] at h
    rcases h with rfl | rfl | h
    · rfl
    · rfl
    · exact flatE_one l v h
theorem flatE_set : ∀ (rs : List (Int × Int)) (i : Nat) (t : Int × Int), i < rs.length → flatE (rs.set i t) = ((flatE rs).set (i * 2) (.int .i64 t.1)).set (i * 2 + 1) (.int .i64 t.2)
  | [], i, t, h => by simp at h
  | x :: ts, 0, t, h => by simp [flatE]
  | x :: ts, i + 1, t, h => by
    have ih := flatE_set ts i t (by simpa using h)
    rw [List.set_cons_succ, flatE, ih, flatE, show (i + 1) * 2 = i * 2 + 2 by omega]
    simp
theorem flatE_drop : ∀ (ys : List (Int × Int)) (k : Nat), flatE (ys.drop k) = (flatE ys).drop (k * 2)
  | [], k => by simp [flatE]
  | f :: r, 0 => by simp
  | f :: r, k + 1 => by
    have := flatE_drop r k
    rw [List.drop_succ_cons, this, show (k + 1) * 2 = k * 2 + 2 by omega, flatE]
    simp
theorem zg_set (l : List (Int × Int)) (k j : Nat) (x : Int × Int) (hk : k < l.length) : zg (l.set k x) j = if j = k then x else zg l j := by
  unfold zg
  simp only [List.getD_eq_getElem?_getD, List.getElem?_set]
  by_cases e : j = k
  · subst e; simp [hk]
  · have e' : ¬ k = j := fun q => e q.symm
    simp [e, e']

/-- block g holds just these edges -/
def BlE (w : World) (g : Nat) (rs : List (Int × Int)) : Prop := w.heap[g]? = some (.cells (flatE rs).toArray 28 (0, 0))
theorem BlE.lt {w : World} {g : Nat} {rs : List (Int × Int)} (h : BlE w g rs) : g < w.heap.size := (Array.getElem?_eq_some_iff.1 h).1
theorem BlE.keep {w w' : World} {g : Nat} {rs : List (Int × Int)} (h : BlE w g rs) (hw : w'.heap[g]? = w.heap[g]?) : BlE w' g rs := by unfold BlE at *; rw [hw]; exact h
theorem BlE.next {w w' : World} {g : Nat} {rs : List (Int × Int)} (h : BlE w g rs) (hb : Below w.heap.size w w') : BlE w' g rs := h.keep (hb.block _ h.lt)
theorem BlE.cell {w : World} {g : Nat} {rs : List (Int × Int)} (h : BlE w g rs) (j : Nat) (hj : j < rs.length) : w.cell? ⟨g, j * 2, none⟩ = some (.int .i64 (zg rs j).1) ∧ w.cell? ⟨g, j * 2 + 1, none⟩ = some (.int .i64 (zg rs j).2) := by
  unfold BlE at h
  simp only [World.cell?, h]
  rw [List.getElem?_toArray, List.getElem?_toArray]
  exact flatE_at rs j hj
theorem BlE.frozen {w : World} {g : Nat} {rs : List (Int × Int)} (h : BlE w g rs) (i : Nat) : w.frozen? ⟨g, i, none⟩ = false := by
  unfold BlE at h
  simp [World.frozen?, h]
theorem BlE.set2 {w : World} {g : Nat} {rs : List (Int × Int)} (h : BlE w g rs) (i : Nat) (x y : Int) (hi : i < rs.length) : BlE ((w.setCell ⟨g, i * 2, none⟩ (.int .i64 x)).setCell ⟨g, i * 2 + 1, none⟩ (.int .i64 y)) g (rs.set i (x, y)) := by
  unfold BlE at *
  rw [flatE_set rs i (x, y) hi]
  simp only [World.setCell, Array.getElem?_modify, if_true]
  rw [h]
  simp
/-- a row of one's own of edges -/
def OwE (B : Nat) (w : World) (v : Value) (rs : List (Int × Int)) : Prop := w.ownsRow B 28 2 v rs.length (flatE rs)
theorem OwE.rd {B : Nat} {w : World} {g m c : Nat} {rs : List (Int × Int)} (h : OwE B w (.slice (some ⟨g, 0, none⟩) m c) rs) (hm : rs.length = m) : RdZ w (some ⟨g, 0, none⟩) m rs := by
  refine ⟨hm, fun i hi => ⟨g, 0, rfl, ?_, ?_⟩⟩
  · have := World.ownsRow.cells h (g := g) rfl (i * 2) _ (flatE_at rs i (by omega)).1
    rwa [Addr.add_lit] at this
  · have := World.ownsRow.cells h (g := g) rfl (i * 2 + 1) _ (flatE_at rs i (by omega)).2
    rw [Addr.add_lit] at this
    rw [← this]
    congr 2
theorem BlE.rd {w : World} {g m : Nat} {rs Y : List (Int × Int)} (h : BlE w g rs) (hm : m ≤ rs.length) (hY : Y.length = m) (he : ∀ i, i < m → zg rs i = zg Y i) : RdZ w (some ⟨g, 0, none⟩) m Y := by
  refine ⟨hY, fun i hi => ⟨g, 0, rfl, ?_, ?_⟩⟩
  · rw [← he i hi, Nat.zero_add]; exact (h.cell i (by omega)).1
  · rw [← he i hi, Nat.zero_add]; exact (h.cell i (by omega)).2
theorem rdz_src {w : World} {a : Addr} {m : Nat} {Z : List (Int × Int)} (h : RdZ w (some a) m Z) : ∀ j v, (flatE Z)[j]? = some v → w.cell? (a.add j) = some v := by
  intro j v hv
  have hj : j < (flatE Z).length := (List.getElem?_eq_some_iff.1 hv).1
  rw [flatE_len] at hj
  have hl := h.1
  obtain ⟨g, off, ha, h1, h2⟩ := h.2 (j / 2) (by omega)
  have h3 := flatE_at Z (j / 2) (by omega)
  cases ha
  rw [Addr.add_lit]
  rcases (show j % 2 = 0 ∨ j % 2 = 1 by omega) with e | e
  · have e1 : j / 2 * 2 = j := by omega
    rw [e1] at h3 h1
    rw [hv] at h3
    rw [h1, ← h3.1]
  · have e1 : j / 2 * 2 + 1 = j := by omega
    rw [e1] at h3
    rw [show off + j / 2 * 2 + 1 = off + j by omega] at h2
    rw [hv] at h3
    rw [h2, ← h3.2]
theorem size28 : (Try.prog.info? 28).map (·.size) = some 2 := by kernel_rfl
theorem made_e (n : Nat) : madeCells #[.int .i64 0, .int .i64 0] (n * 2) = (flatE (List.replicate n (0, 0))).toArray := by
  rw [← Array.toList_inj]
  apply List.ext_getElem?
  intro j
  by_cases hj : j < n * 2
  · have h1 := flatE_at (List.replicate n (0, 0)) (j / 2) (by rw [List.length_replicate]; omega)
    simp only [madeCells, Array.toList_map, Array.toList_range, List.getElem?_map, List.getElem?_range hj, Option.map_some]
    have hz : zg (List.replicate n ((0 : Int), (0 : Int))) (j / 2) = (0, 0) := by simp [zg, List.getD_eq_getElem?_getD, show j / 2 < n by omega]
    rw [hz] at h1
    rcases (show j % 2 = 0 ∨ j % 2 = 1 by omega) with h | h
    · have e : j / 2 * 2 = j := by omega
      rw [e] at h1
      rw [h1.1]
      simp [h]
    · have e : j / 2 * 2 + 1 = j := by omega
      rw [e] at h1
      rw [h1.2]
      simp [h]
  · rw [List.getElem?_eq_none (by simp [madeCells]; omega), List.getElem?_eq_none (by simp [flatE_len]; omega)]
theorem make_e (n : Nat) (hn : n ≤ 67108864) (u : World) : (Instr.makeSlice 22 (.int .i64 (n : Int)) (.int .i64 (n : Int))).run Try.prog u =
    .ok (.slice (some ⟨u.heap.size, 0, none⟩) n n) (u.alloc (.cells (flatE (List.replicate n (0, 0))).toArray 28)) := by
  obtain ⟨i0, hi, hz0, hz1, hz2⟩ := info_parts info28
  have h := run_make (P := Try.prog) u 22 28 i0 _ Try.underlying22 hi hz0 .i64 .i64 (n : Int) (n : Int) (by omega) (Int.le_refl _) (by rw [hz2]; omega) (by omega)
  have e : ((n : Int)).toNat = n := by omega
  rw [e] at h
  rw [← made_e]
  simpa [hz1, Value.cells] using h
theorem run_copy_none28 (w : World) (ty : TypeId) (d a : Option Addr) (M dCap sCap : Nat) : (Builtin.copy_ #[22, 22] ty #[.slice d M dCap, .slice a 0 sCap]).run Try.prog w = .ok (.int .i64 0) w := by
  obtain ⟨i0, hi, _, _, _⟩ := info_parts info28
  have hl : ∀ ad, (loadCells ad 0).run Try.prog w = .ok #[] w := fun ad => by simpa using run_loadCells_list (P := Try.prog) w ad [] (by simp)
  cases a <;> cases d <;> simp [Builtin.copy_, run_underlying Try.underlying22, Builtin.lenOf, Builtin.firstCells, sizeOf, typeInfo, hi, goInt, hl, storeCells]
theorem rdz_some {w : World} {a : Option Addr} {m : Nat} {Z : List (Int × Int)} (h : RdZ w a m Z) (h0 : 0 < m) : ∃ g off, a = some ⟨g, off, none⟩ := by
  obtain ⟨g, off, ha, _⟩ := h.2 0 h0
  exact ⟨g, off, ha⟩
theorem copy_e {w : World} {G M dCap m sCap : Nat} {a : Option Addr} {Y Z : List (Int × Int)} (hg : BlE w G Y) (hR : RdZ w a m Z) (hM : m ≤ M) (hfit : m ≤ Y.length) :
    ∃ w' Y', (Builtin.copy_ #[22, 22] 3 #[.slice (some ⟨G, 0, none⟩) M dCap, .slice a m sCap]).run Try.prog w = .ok (.int .i64 (m : Int)) w' ∧ BlE w' G Y' ∧ Y'.length = Y.length ∧ (∀ i, i < m → zg Y' i = zg Z i) ∧ (∀ i, m ≤ i → zg Y' i = zg Y i) ∧ But (fun x => x = G) w w' := by
  by_cases h0 : m = 0
  · subst h0
    exact ⟨w, Y, run_copy_none28 w 3 _ _ M dCap sCap, hg, rfl, fun i hi => by omega, fun i _ => rfl, But.refl _ _⟩
  · obtain ⟨b, off, rfl⟩ := rdz_some hR (by omega)
    have hmin : Nat.min m M = m := Nat.min_eq_left hM
    have hl := hR.1
    have h := run_copy_wide (P := Try.prog) w 22 22 3 28 G 0 M dCap ⟨b, off, none⟩ m sCap 2 (flatE Y).toArray 28 (flatE Z) Try.underlying22 size28 hg (by rw [hmin, flatE_len, hl]) (rdz_src hR) (by simp [flatE_len]; omega) (flatE_one _)
    refine ⟨_, Z ++ Y.drop m, h.trans (by rw [hmin]; rfl), ?_, ?_, ?_, ?_, ?_⟩
    · have := setRow_heap w G (flatE Y).toArray ((flatE Y).toArray.toList.take 0 ++ flatE Z ++ (flatE Y).toArray.toList.drop (0 + (flatE Z).length)).toArray 28 (0, 0) hg
      unfold BlE
      rw [this, flatE_app, flatE_drop]
      simp [flatE_len, hl]
    · simp [hl]; omega
    · intro i hi
      simp only [zg, List.getD_eq_getElem?_getD]
      rw [List.getElem?_append_left (by omega)]
    · intro i hi
      simp only [zg, List.getD_eq_getElem?_getD]
      rw [List.getElem?_append_right (by omega), List.getElem?_drop, hl, show m + (i - m) = i by omega]
    · exact ⟨rfl, rfl, rfl, by simp [World.setRow], fun k _ hx => setRow_other w G k _ (by intro e; exact hx e)⟩
end Go.Proofs.Ytajnokkmpjdliaa
