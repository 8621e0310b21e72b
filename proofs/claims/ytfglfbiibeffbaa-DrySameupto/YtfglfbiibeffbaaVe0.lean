/-
  Blocks of ranges and of volumes that are known whole; make, copy, one store.
-/
import Derived.Test.YtfglfbiibeffbaaVc2
namespace Go.Proofs.Ytfglfbiibeffbaa
open Go.RowKit

theorem run_copy_wide {P : Program} (w : World) (dT sT ty elem : TypeId) (g o dLen dCap : Nat) (a : Addr) (sLen sCap size : Nat) (cur : Array Value) (t : TypeId) (cs : List Value)
    (hu : P.underlying dT = some (.slice elem)) (hs : (P.info? elem).map (·.size) = some size)
    (hg : w.heap[g]? = some (.cells cur t (0, 0))) (hn : cs.length = Nat.min sLen dLen * size)
    (hsrc : ∀ j v, cs[j]? = some v → w.cell? (a.add j) = some v) (hfit : o + cs.length ≤ cur.size) (h1 : ∀ v ∈ cs, v.oneCell' = true) :
    (Builtin.copy_ #[dT, sT] ty #[.slice (some ⟨g, o, none⟩) dLen dCap, .slice (some a) sLen sCap]).run P w =
      .ok (goInt (Nat.min sLen dLen)) (w.setRow g (cur.toList.take o ++ cs ++ cur.toList.drop (o + cs.length)).toArray) := by
  have hl := run_loadCells_list (P := P) w a cs hsrc
  have hst := run_storeCells_at P g o t cs 0 cur w hg (by simpa using hfit) h1
  rw [hn] at hl
  cases hq : P.info? elem with
  | none => simp [hq] at hs
  | some i =>
    have hi : i.size = size := by simpa [hq] using hs
    simp [Builtin.copy_, run_underlying hu, Builtin.lenOf, Builtin.firstCells, sizeOf, typeInfo, hq, hi, hl, hst]

/-! ### ranges -/
/-- block g holds just these ranges -/
def BlR (w : World) (g : Nat) (rs : List Rg) : Prop := w.heap[g]? = some (.cells (flatR rs).toArray 32 (0, 0))
theorem BlR.lt {w : World} {g : Nat} {rs : List Rg} (h : BlR w g rs) : g < w.heap.size := (Array.getElem?_eq_some_iff.1 h).1
theorem BlR.keep {w w' : World} {g : Nat} {rs : List Rg} (h : BlR w g rs) (hw : w'.heap[g]? = w.heap[g]?) : BlR w' g rs := by unfold BlR at *; rw [hw]; exact h
theorem BlR.cell {w : World} {g : Nat} {rs : List Rg} (h : BlR w g rs) (j : Nat) (hj : j < rs.length) : w.cell? ⟨g, j * 2, none⟩ = some (.int .i64 rs[j].f) ∧ w.cell? ⟨g, j * 2 + 1, none⟩ = some (.int .i64 rs[j].t) := by
  unfold BlR at h
  simp only [World.cell?, h]
  rw [List.getElem?_toArray, List.getElem?_toArray]
  exact flatR_at rs j hj
theorem BlR.frozen {w : World} {g : Nat} {rs : List Rg} (h : BlR w g rs) (i : Nat) : w.frozen? ⟨g, i, none⟩ = false := by
  unfold BlR at h
  simp [World.frozen?, h]
theorem BlR.rd {w : World} {g : Nat} {rs : List Rg} (h : BlR w g rs) (n : Nat) (hn : n ≤ rs.length) : RdR w.heap.size w (some ⟨g, 0, none⟩) (rs.take n) :=
  .inr ⟨g, 0, rfl, h.lt, fun j hj => by
    simp only [List.length_take] at hj
    rw [List.getElem_take, Nat.zero_add]
    exact h.cell j (by omega)⟩
theorem flatR_set : ∀ (rs : List Rg) (i : Nat) (t : Rg), i < rs.length → flatR (rs.set i t) = ((flatR rs).set (i * 2) (.int .i64 t.f)).set (i * 2 + 1) (.int .i64 t.t)
  | [], i, t, h => by simp at h
  | x :: ts, 0, t, h => by simp [flatR]
  | x :: ts, i + 1, t, h => by
    have ih := flatR_set ts i t (by simpa using h)
    rw [List.set_cons_succ, flatR, ih, flatR, show (i + 1) * 2 = i * 2 + 2 by omega]
    simp
theorem BlR.set2 {w : World} {g : Nat} {rs : List Rg} (h : BlR w g rs) (i : Nat) (t : Rg) (hi : i < rs.length) : BlR ((w.setCell ⟨g, i * 2, none⟩ (.int .i64 t.f)).setCell ⟨g, i * 2 + 1, none⟩ (.int .i64 t.t)) g (rs.set i t) := by
  unfold BlR at *
  rw [flatR_set rs i t hi]
  simp only [World.setCell, Array.getElem?_modify, if_true]
  rw [h]
  simp
theorem flatR_drop : ∀ (ys : List Rg) (k : Nat), flatR (ys.drop k) = (flatR ys).drop (k * 2)
  | [], k => by simp [flatR]
  | f :: r, 0 => by simp
  | f :: r, k + 1 => by
    have := flatR_drop r k
    rw [List.drop_succ_cons, this, show (k + 1) * 2 = k * 2 + 2 by omega, flatR]
    simp
theorem made_rg (n : Nat) : madeCells #[.int .i64 0, .int .i64 0] (n * 2) = (flatR (List.replicate n ⟨0, 0⟩)).toArray := by
  rw [← Array.toList_inj]
  apply List.ext_getElem?
  intro j
  by_cases hj : j < n * 2
  · have h1 := flatR_at (List.replicate n ⟨0, 0⟩) (j / 2) (by rw [List.length_replicate]; omega)
    simp only [madeCells, Array.toList_map, Array.toList_range, List.getElem?_map, List.getElem?_range hj, Option.map_some]
    rw [List.getElem_replicate] at h1
    rcases (show j % 2 = 0 ∨ j % 2 = 1 by omega) with h | h
    · have e : j / 2 * 2 = j := by omega
      rw [e] at h1
      rw [h1.1]
      simp [h]
    · have e : j / 2 * 2 + 1 = j := by omega
      rw [e] at h1
      rw [h1.2]
      simp [h]
  · rw [List.getElem?_eq_none (by simp [madeCells]; omega), List.getElem?_eq_none (by simp [flatR_len]; omega)]
theorem make_rg (n : Nat) (hn : n ≤ 67108864) (u : World) : (Instr.makeSlice 28 (.int .i64 (n : Int)) (.int .i64 (n : Int))).run Try.prog u =
    .ok (.slice (some ⟨u.heap.size, 0, none⟩) n n) (u.alloc (.cells (flatR (List.replicate n ⟨0, 0⟩)).toArray 32)) := by
  obtain ⟨i0, hi, hz0, hz1, hz2⟩ := info_parts info32
  have h := run_make (P := Try.prog) u 28 32 i0 _ Try.underlying28 hi hz0 .i64 .i64 (n : Int) (n : Int) (by omega) (Int.le_refl _) (by rw [hz2]; omega) (by omega)
  have e : ((n : Int)).toNat = n := by omega
  rw [e] at h
  rw [← made_rg]
  simpa [hz1, Value.cells] using h
theorem info32z : (Try.prog.info? 32).map (·.size) = some 2 := by kernel_rfl
theorem run_copy_none32 (w : World) (ty : TypeId) (d a : Option Addr) (M dCap sCap : Nat) : (Builtin.copy_ #[28, 28] ty #[.slice d M dCap, .slice a 0 sCap]).run Try.prog w = .ok (.int .i64 0) w := by
  obtain ⟨i0, hi, _, _, _⟩ := info_parts info32
  have hl : ∀ ad, (loadCells ad 0).run Try.prog w = .ok #[] w := fun ad => by simpa using run_loadCells_list (P := Try.prog) w ad [] (by simp)
  cases a <;> cases d <;> simp [Builtin.copy_, run_underlying Try.underlying28, Builtin.lenOf, Builtin.firstCells, sizeOf, typeInfo, hi, goInt, hl, storeCells]
theorem copy_rg {ty : TypeId} {w : World} {G M dCap sCap B : Nat} {a : Option Addr} {ys cs : List Rg} (hg : BlR w G ys) (hR : RdR B w a cs) (hM : cs.length ≤ M) (hfit : cs.length ≤ ys.length) :
    ∃ w', (Builtin.copy_ #[28, 28] ty #[.slice (some ⟨G, 0, none⟩) M dCap, .slice a cs.length sCap]).run Try.prog w = .ok (.int .i64 (cs.length : Int)) w' ∧ BlR w' G (cs ++ ys.drop cs.length) ∧ But (fun x => x = G) w w' := by
  by_cases h0 : cs = []
  · subst h0
    exact ⟨w, run_copy_none32 w ty _ _ M dCap sCap, by simpa using hg, But.refl _ _⟩
  · obtain ⟨b, off, rfl, hb, hc⟩ := hR.resolve_left h0
    have hmin : Nat.min cs.length M = cs.length := Nat.min_eq_left hM
    have h := run_copy_wide (P := Try.prog) w 28 28 ty 32 G 0 M dCap ⟨b, off, none⟩ cs.length sCap 2 (flatR ys).toArray 32 (flatR cs) Try.underlying28 info32z hg (by rw [hmin, flatR_len]) (rdr_src hc) (by simp [flatR_len]; omega) (flatR_one _)
    refine ⟨_, h.trans (by rw [hmin]; rfl), ?_, ?_⟩
    · have := setRow_heap w G (flatR ys).toArray ((flatR ys).toArray.toList.take 0 ++ flatR cs ++ (flatR ys).toArray.toList.drop (0 + (flatR cs).length)).toArray 32 (0, 0) hg
      unfold BlR
      rw [this, flatR_app, flatR_drop]
      simp [flatR_len]
    · exact ⟨rfl, rfl, rfl, by simp [World.setRow], fun k _ hx => setRow_other w G k _ (by intro e; exact hx e)⟩

/-! ### volumes -/
/-- block g holds just these volumes -/
def BlV (w : World) (g : Nat) (os : List PV) (us : List Value) : Prop := us.length = os.length ∧ w.heap[g]? = some (.cells (flatV os us).toArray 30 (0, 0))
theorem BlV.lt {w : World} {g : Nat} {os : List PV} {us : List Value} (h : BlV w g os us) : g < w.heap.size := (Array.getElem?_eq_some_iff.1 h.2).1
theorem BlV.keep {w w' : World} {g : Nat} {os : List PV} {us : List Value} (h : BlV w g os us) (hw : w'.heap[g]? = w.heap[g]?) : BlV w' g os us := ⟨h.1, by rw [hw]; exact h.2⟩
theorem BlV.at {w : World} {g : Nat} {os : List PV} {us : List Value} (h : BlV w g os us) (j : Nat) (hj : j < os.length) (i : Nat) (hi : i < 7) : w.cell? ⟨g, j * 7 + i, none⟩ = (cells7 os[j] (us[j]'(by have := h.1; omega)))[i]? := by
  have h2 := h.2
  simp only [World.cell?, h2]
  rw [List.getElem?_toArray, flatV_at os us h.1 j hj i hi]
  simp
theorem BlV.frozen {w : World} {g : Nat} {os : List PV} {us : List Value} (h : BlV w g os us) (i : Nat) : w.frozen? ⟨g, i, none⟩ = false := by
  have h2 := h.2
  simp [World.frozen?, h2]
theorem flatV_set : ∀ (os : List PV) (us : List Value) (i : Nat) (o : PV) (u : Value), us.length = os.length → i < os.length → flatV (os.set i o) (us.set i u) = (((((((flatV os us).set (i * 7) (.string o.nm)).set (i * 7 + 1) (.int .i64 o.id)).set (i * 7 + 2) (.int .i64 o.sz)).set (i * 7 + 3) (.int .i64 o.og)).set (i * 7 + 4) (.int .i64 o.kd)).set (i * 7 + 5) (.bool o.pt)).set (i * 7 + 6) u
  | [], _, i, o, u, _, h => by simp at h
  | _ :: _, [], _, _, _, h, _ => by simp at h
  | x :: ts, y :: us, 0, o, u, _, h => by simp [flatV, cells7]
  | x :: ts, y :: us, i + 1, o, u, hl, h => by
    have ih := flatV_set ts us i o u (by simpa using hl) (by simpa using h)
    rw [List.set_cons_succ, List.set_cons_succ, flatV, ih, flatV, show (i + 1) * 7 = i * 7 + 7 by omega]
    simp [cells7]
/-- seven stores -/
def at7 (w : World) (g k : Nat) (o : PV) (u : Value) : World := ((((((w.setCell ⟨g, k, none⟩ (.string o.nm)).setCell ⟨g, k + 1, none⟩ (.int .i64 o.id)).setCell ⟨g, k + 2, none⟩ (.int .i64 o.sz)).setCell ⟨g, k + 3, none⟩ (.int .i64 o.og)).setCell ⟨g, k + 4, none⟩ (.int .i64 o.kd)).setCell ⟨g, k + 5, none⟩ (.bool o.pt)).setCell ⟨g, k + 6, none⟩ u
theorem BlV.set7 {w : World} {g : Nat} {os : List PV} {us : List Value} (h : BlV w g os us) (i : Nat) (o : PV) (u : Value) (hi : i < os.length) : BlV (at7 w g (i * 7) o u) g (os.set i o) (us.set i u) := by
  refine ⟨by simp [h.1], ?_⟩
  rw [flatV_set os us i o u h.1 hi]
  unfold at7
  simp only [World.setCell, Array.getElem?_modify, if_true]
  rw [h.2]
  simp
theorem BlV.set6 {w : World} {g : Nat} {os : List PV} {us : List Value} (h : BlV w g os us) (i : Nat) (u : Value) (hi : i < os.length) : BlV (w.setCell ⟨g, i * 7 + 6, none⟩ u) g os (us.set i u) := by
  refine ⟨by simp [h.1], ?_⟩
  have e : flatV os (us.set i u) = (flatV os us).set (i * 7 + 6) u := by
    have k : ∀ (os : List PV) (us : List Value) (i : Nat), us.length = os.length → i < os.length → flatV os (us.set i u) = (flatV os us).set (i * 7 + 6) u := by
      intro os
      induction os with
      | nil => intro us i _ h; simp at h
      | cons x ts ih =>
        intro us i hl hi
        cases us with
        | nil => simp at hl
        | cons y us =>
          cases i with
          | zero => simp [flatV, cells7]
          | succ i =>
            have := ih us i (by simpa using hl) (by simpa using hi)
            rw [List.set_cons_succ, flatV, this, flatV, show (i + 1) * 7 = i * 7 + 7 by omega]
            simp [cells7]
    exact k os us i h.1 hi
  rw [e]
  simp only [World.setCell, Array.getElem?_modify, if_true]
  rw [h.2]
  simp
theorem but_at7 (w : World) (g k : Nat) (o : PV) (u : Value) : But (fun x => x = g) w (at7 w g k o u) := by
  unfold at7
  exact ((((((((But.refl (fun x => x = g) w).setCell (p := ⟨g, k, none⟩) rfl _).setCell (p := ⟨g, k + 1, none⟩) rfl _).setCell (p := ⟨g, k + 2, none⟩) rfl _).setCell (p := ⟨g, k + 3, none⟩) rfl _).setCell (p := ⟨g, k + 4, none⟩) rfl _).setCell (p := ⟨g, k + 5, none⟩) rfl _).setCell (p := ⟨g, k + 6, none⟩) rfl _)
theorem made_vol (n : Nat) : madeCells #[.string ByteArray.empty, .int .i64 0, .int .i64 0, .int .i64 0, .int .i64 0, .bool false, .slice none 0 0] (n * 7) = (flatV (List.replicate n PV0) (List.replicate n (.slice none 0 0))).toArray := by
  rw [← Array.toList_inj]
  apply List.ext_getElem?
  intro j
  by_cases hj : j < n * 7
  · have h1 := flatV_at (List.replicate n PV0) (List.replicate n (.slice none 0 0)) (by simp) (j / 7) (by rw [List.length_replicate]; omega) (j % 7) (by omega)
    rw [show j / 7 * 7 + j % 7 = j by omega] at h1
    rw [h1, List.getElem_replicate, List.getElem_replicate]
    simp only [madeCells, Array.toList_map, Array.toList_range, List.getElem?_map, List.getElem?_range hj, Option.map_some]
    rcases (show j % 7 = 0 ∨ j % 7 = 1 ∨ j % 7 = 2 ∨ j % 7 = 3 ∨ j % 7 = 4 ∨ j % 7 = 5 ∨ j % 7 = 6 by omega) with h | h | h | h | h | h | h <;> simp [h, cells7, PV0] <;> rfl
  · rw [List.getElem?_eq_none (by simp [madeCells]; omega), List.getElem?_eq_none (by show (flatV _ _).length ≤ j; rw [flatV_len _ _ (by simp)]; simp; omega)]
theorem make_vol (n : Nat) (hn : n ≤ 67108864) (u : World) : (Instr.makeSlice 22 (.int .i64 (n : Int)) (.int .i64 (n : Int))).run Try.prog u =
    .ok (.slice (some ⟨u.heap.size, 0, none⟩) n n) (u.alloc (.cells (flatV (List.replicate n PV0) (List.replicate n (.slice none 0 0))).toArray 30)) := by
  obtain ⟨i0, hi, hz0, hz1, hz2⟩ := info_parts info30
  have h := run_make (P := Try.prog) u 22 30 i0 _ Try.underlying22 hi hz0 .i64 .i64 (n : Int) (n : Int) (by omega) (Int.le_refl _) (by rw [hz2]; omega) (by omega)
  have e : ((n : Int)).toNat = n := by omega
  rw [e] at h
  rw [← made_vol]
  simpa [hz1, Value.cells] using h

end Go.Proofs.Ytfglfbiibeffbaa
