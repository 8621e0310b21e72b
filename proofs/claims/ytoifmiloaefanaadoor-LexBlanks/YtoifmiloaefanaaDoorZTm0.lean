import Derived.Test.YtoifmiloaefanaaDoorZCt0
/-
  Tokens: a block of them that is known whole; make, copy.
-/
namespace Go.Proofs.YtoifmiloaefanaaDoor
open Go.RowKit

theorem run_copy_wide {P : Program} (w : World) (dT sT ty elem : TypeId) (g o dLen dCap : Nat) (a : Addr) (sLen sCap size : Nat) (cur : Array Value) (t : TypeId) (cs : List Value)
    (hu : P.underlying dT = some (.slice elem)) (hs : (P.info? elem).map (·.size) = some size)
    (hg : w.heap[g]? = some (.cells cur t (0, 0))) (hn : cs.length = Nat.min sLen dLen * size)
    (hsrc : ∀ j v, cs[j]? = some v → w.cell? (a.add j) = some v) (hfit : o + cs.length ≤ cur.size) (h1 : ∀ v ∈ cs, v.oneCell' = true) :
    (Builtin.copy_ #[dT, sT] ty #[.slice (some ⟨g, o, none⟩) dLen dCap, .slice (some a) sLen sCap]).run P w =
      .ok (goInt (Nat.min sLen dLen)) (w.setRow g (cur.toList.take o ++ cs ++ cur.toList.drop (o + cs.length)).toArray) := by
  have hl := run_loadCells_list (P := P) w a cs hsrc
  have hst := run_storeCells_at P g o t cs 0 cur w hg (by simpa using hfit) h1
  rw [hn] at hl
  cases hq : P.info? elem with
  | none => simp [hq] at hs
  | some i =>
    have hi : i.size = size := by simpa [hq] using hs
    simp [Builtin.copy_, run_underlying hu, Builtin.lenOf, Builtin.firstCells, sizeOf, typeInfo, hq, hi, hl, hst]
/-- block g holds just these tokens -/
def BlT (w : World) (g : Nat) (ts : List Tk) : Prop := w.heap[g]? = some (.cells (flatT ts).toArray 29 (0, 0))
theorem BlT.lt {w : World} {g : Nat} {ts : List Tk} (h : BlT w g ts) : g < w.heap.size := (Array.getElem?_eq_some_iff.1 h).1
theorem BlT.cell {w : World} {g : Nat} {ts : List Tk} (h : BlT w g ts) (j : Nat) (hj : j < ts.length) : w.cell? ⟨g, j * 4, none⟩ = some (.int .i64 ts[j].k) ∧ w.cell? ⟨g, j * 4 + 1, none⟩ = some (.string (strOfNums ts[j].tx)) ∧ w.cell? ⟨g, j * 4 + 2, none⟩ = some (.int .i64 ts[j].n) ∧ w.cell? ⟨g, j * 4 + 3, none⟩ = some (.int .i64 ts[j].a) := by
  have k : ∀ i, i < 4 → ∀ v, (cellsT ts[j])[i]? = some v → w.cell? ⟨g, j * 4 + i, none⟩ = some v := fun i hi v hv => by
    unfold BlT at h
    simp only [World.cell?, h]
    rw [List.getElem?_toArray, flatT_at ts j hj i hi]
    exact hv
  exact ⟨k 0 (by decide) _ rfl, k 1 (by decide) _ rfl, k 2 (by decide) _ rfl, k 3 (by decide) _ rfl⟩
theorem BlT.rd {w : World} {g : Nat} {ts : List Tk} (h : BlT w g ts) : TkR w (some ⟨g, 0, none⟩) ts := .inr ⟨g, rfl, h.lt, fun j hj => h.cell j hj⟩
theorem BlT.new (w : World) (ts : List Tk) : BlT (w.alloc (.cells (flatT ts).toArray 29)) w.heap.size ts := heap_new _ _
theorem flatT_drop : ∀ (ys : List Tk) (k : Nat), flatT (ys.drop k) = (flatT ys).drop (k * 4)
  | [], k => by simp [flatT]
  | f :: r, 0 => by simp
  | f :: r, k + 1 => by
    have := flatT_drop r k
    rw [List.drop_succ_cons, this, show (k + 1) * 4 = (cellsT f).length + k * 4 by simp [cellsT]; omega, flatT, ← List.drop_drop, List.drop_left]
theorem flatT_over (ys cs : List Tk) : splice (flatT ys) 0 (flatT cs) = flatT (cs ++ ys.drop cs.length) := by
  unfold splice
  rw [flatT_app, flatT_drop, List.take_zero, List.nil_append, Nat.zero_add, flatT_len]
def tkZ : Tk := ⟨0, [], 0, 0⟩
theorem made_tok (n : Nat) : madeCells #[.int .i64 0, .string ByteArray.empty, .int .i64 0, .int .i64 0] (n * 4) = (flatT (List.replicate n tkZ)).toArray := by
  rw [← Array.toList_inj]
  apply List.ext_getElem?
  intro j
  by_cases hj : j < n * 4
  · have h1 := flatT_at (List.replicate n tkZ) (j / 4) (by rw [List.length_replicate]; omega) (j % 4) (by omega)
    rw [show j / 4 * 4 + j % 4 = j by omega] at h1
    rw [h1, List.getElem_replicate]
    simp only [madeCells, Array.toList_map, Array.toList_range, List.getElem?_map, List.getElem?_range hj, Option.map_some]
    rcases (show j % 4 = 0 ∨ j % 4 = 1 ∨ j % 4 = 2 ∨ j % 4 = 3 by omega) with h | h | h | h <;> simp [h, cellsT, tkZ] <;> rfl
  · rw [List.getElem?_eq_none (by simp [madeCells]; omega), List.getElem?_eq_none (by simp [flatT_len]; omega)]
theorem make_tok (n : Nat) (hn : n ≤ 16777216) (u : World) : (Instr.makeSlice 23 (.int .i64 (n : Int)) (.int .i64 (n : Int))).run Tryd.prog u =
    .ok (.slice (some ⟨u.heap.size, 0, none⟩) n n) (u.alloc (.cells (flatT (List.replicate n tkZ)).toArray 29)) := by
  obtain ⟨i0, hi, hz0, hz1, hz2⟩ := info_parts info29
  have h := run_make (P := Tryd.prog) u 23 29 i0 _ Tryd.underlying23 hi hz0 .i64 .i64 (n : Int) (n : Int) (by omega) (Int.le_refl _) (by rw [hz2]; omega) (by omega)
  have e : ((n : Int)).toNat = n := by omega
  rw [e] at h
  rw [← made_tok]
  simpa [hz1, Value.cells] using h
theorem info29z : (Tryd.prog.info? 29).map (·.size) = some 4 := by kernel_rfl
theorem copy_tok {ty : TypeId} {w : World} {G M dCap n sCap : Nat} {ad : Addr} {ys cs : List Tk} (hg : BlT w G ys) (hn : (flatT cs).length = Nat.min n M * 4) (hsrc : ∀ j v, (flatT cs)[j]? = some v → w.cell? (ad.add j) = some v) (hfit : cs.length ≤ ys.length) :
    ∃ w', (Builtin.copy_ #[23, 23] ty #[.slice (some ⟨G, 0, none⟩) M dCap, .slice (some ad) n sCap]).run Tryd.prog w = .ok (goInt (Nat.min n M)) w' ∧ BlT w' G (cs ++ ys.drop cs.length) ∧ But (fun x => x = G) w w' := by
  refine ⟨_, run_copy_wide (P := Tryd.prog) w 23 23 ty 29 G 0 M dCap ad n sCap 4 (flatT ys).toArray 29 (flatT cs) Tryd.underlying23 info29z hg hn hsrc (by simp [flatT_len]; omega) (cellsT_one _), ?_, ?_⟩
  · have := setRow_heap w G (flatT ys).toArray ((flatT ys).toArray.toList.take 0 ++ flatT cs ++ (flatT ys).toArray.toList.drop (0 + (flatT cs).length)).toArray 29 (0, 0) hg
    unfold BlT
    rw [this, ← flatT_over]
    simp [splice]
  · exact ⟨rfl, rfl, rfl, by simp [World.setRow], fun k _ hx => setRow_other w G k _ (by intro e; exact hx e)⟩

end Go.Proofs.YtoifmiloaefanaaDoor
/-
  lent: tokens in a list with others behind them.
-/
namespace Go.Proofs.YtoifmiloaefanaaDoor
open Go.RowKit

theorem flatT_set : ∀ (ts : List Tk) (i : Nat) (t : Tk), i < ts.length → flatT (ts.set i t) = ((((flatT ts).set (i * 4) (.int .i64 t.k)).set (i * 4 + 1) (.string (strOfNums t.tx))).set (i * 4 + 2) (.int .i64 t.n)).set (i * 4 + 3) (.int .i64 t.a)
  | [], i, t, h => by simp at h
  | x :: ts, 0, t, h => by simp [flatT, cellsT]
  | x :: ts, i + 1, t, h => by
    have ih := flatT_set ts i t (by simpa using h)
    rw [List.set_cons_succ, flatT, ih, flatT, show (i + 1) * 4 = i * 4 + 4 by omega]
    simp [cellsT]
theorem BlT.set4 {w : World} {g : Nat} {ts : List Tk} (h : BlT w g ts) (i : Nat) (t : Tk) (hi : i < ts.length) : BlT ((((w.setCell ⟨g, i * 4, none⟩ (.int .i64 t.k)).setCell ⟨g, i * 4 + 1, none⟩ (.string (strOfNums t.tx))).setCell ⟨g, i * 4 + 2, none⟩ (.int .i64 t.n)).setCell ⟨g, i * 4 + 3, none⟩ (.int .i64 t.a)) g (ts.set i t) := by
  unfold BlT at *
  rw [flatT_set ts i t hi]
  simp only [World.setCell, Array.getElem?_modify, if_true]
  rw [h]
  simp

/-- tokens to be read, wherever they begin -/
def TkO (w : World) (a : Option Addr) (c : Nat) (ts : List Tk) : Prop := ((a = none ∧ c = 0 ∧ ts = []) ∨ ∃ ad, a = some ad ∧ ts = []) ∨ ∃ g off, a = some ⟨g, off, none⟩ ∧ (0 < ts.length → g < w.heap.size) ∧ ∀ j v, (flatT ts)[j]? = some v → w.cell? ⟨g, off + j, none⟩ = some v
/-- the others -/
def othT (n i : Nat) : List Tk := (List.range i).map fun (j : Nat) => (⟨77 + ((n : Int) + (j : Int)), [], 0, 78⟩ : Tk)
theorem othT_succ (n i : Nat) : othT n (i + 1) = othT n i ++ [⟨77 + ((n : Int) + (i : Int)), [], 0, 78⟩] := by
  unfold othT
  rw [List.range_succ, List.map_append]
  rfl
theorem othT_len (n i : Nat) : (othT n i).length = i := by simp [othT]
theorem copy_any {a : Option Addr} {n c G : Nat} {ts : List Tk} {w : World} (hn : ts.length = n) (hR : TkO w a c ts) (hg : BlT w G (List.replicate (2 * n + 70) tkZ)) :
    ∃ w', (Builtin.copy_ #[23, 23] 3 #[.slice (some ⟨G, 0, none⟩) (2 * n + 70) (2 * n + 70), .slice a n c]).run Tryd.prog w = .ok (.int .i64 (n : Int)) w' ∧ BlT w' G (ts ++ List.replicate (n + 70) tkZ) ∧ But (fun x => x = G) w w' := by
  rcases hR with (⟨rfl, rfl, rfl⟩ | ⟨ad, rfl, rfl⟩) | ⟨g, off, rfl, _, hc⟩
  · obtain rfl : n = 0 := by simpa using hn.symm
    exact ⟨w, run_copy_nil (P := Tryd.prog) w 23 23 3 29 ⟨G, 0, none⟩ (2 * 0 + 70) (2 * 0 + 70) Tryd.underlying23 (by rw [info29z]; rfl), hg, But.refl _ _⟩
  · obtain rfl : n = 0 := by simpa using hn.symm
    obtain ⟨w', h1, h2, h3⟩ := copy_tok (ty := 3) (w := w) (G := G) (M := 2 * 0 + 70) (dCap := 2 * 0 + 70) (n := 0) (sCap := c) (ad := ad) (ys := List.replicate (2 * 0 + 70) tkZ) (cs := []) hg (by simp [flatT]) (fun j v hv => by simp [flatT] at hv) (by simp)
    exact ⟨w', h1, h2, h3⟩
  · obtain ⟨w', h1, h2, h3⟩ := copy_tok (ty := 3) (w := w) (G := G) (M := 2 * n + 70) (dCap := 2 * n + 70) (n := n) (sCap := c) (ad := ⟨g, off, none⟩) (ys := List.replicate (2 * n + 70) tkZ) (cs := ts) hg (by rw [flatT_len, hn, show n.min (2 * n + 70) = n from Nat.min_eq_left (by omega)]) (fun j v hv => by rw [Addr.add_lit]; exact hc j v hv) (by rw [List.length_replicate]; omega)
    refine ⟨w', ?_, ?_, h3⟩
    · rw [h1, show n.min (2 * n + 70) = n from Nat.min_eq_left (by omega)]
      rfl
    · rw [List.drop_replicate, hn, show 2 * n + 70 - n = n + 70 by omega] at h2
      exact h2
set_option maxRecDepth 100000 in
set_option maxHeartbeats 1000000 in
theorem lent_any (a : Option Addr) (n c : Nat) (ts : List Tk) (w : World) (hn : ts.length = n) (hN : n ≤ 1048576) (hR : TkO w a c ts) :
    Calls Tryd.prog 13 #[.slice a n c] w fun e w' => ∃ G, e = .returned (.slice (some ⟨G, 0, none⟩) n (2 * n + 70)) ∧ w.heap.size ≤ G ∧ BlT w' G (ts ++ othT n (n + 70)) ∧ Below w.heap.size w w' := by
  obtain ⟨G, hG⟩ : ∃ G, G = w.heap.size := ⟨_, rfl⟩
  obtain ⟨W1, hW1⟩ : ∃ W1, W1 = w.alloc (.cells (flatT (List.replicate (2 * n + 70) tkZ)).toArray 29) := ⟨_, rfl⟩
  have b1 : Below w.heap.size w W1 := by rw [hW1]; exact below1 _ _
  have hB1 : BlT W1 G (List.replicate (2 * n + 70) tkZ) := by rw [hW1, hG]; exact BlT.new _ _
  have hR1 : TkO W1 a c ts := by
    rcases hR with h | ⟨g, off, e, hg, hc⟩
    · exact .inl h
    · refine .inr ⟨g, off, e, fun h => by have := hg h; have := b1.size; omega, fun j v hv => ?_⟩
      have hl : 0 < ts.length := by
        have := (List.getElem?_eq_some_iff.1 hv).1
        rw [flatT_len] at this
        omega
      have := hc j v hv
      simp only [World.cell?] at this ⊢
      rw [b1.block g (hg hl)]
      exact this
  obtain ⟨W2, hcp, hB2, hb2⟩ := copy_any hn hR1 hB1
  have hmk := fun u => make_tok (2 * n + 70) (by omega) u
  rw [show ((2 * n + 70 : Nat) : Int) = 2 * (n : Int) + 70 by omega] at hmk
  have H2 : Hid (BlT W2 G (ts ++ (othT n 0 ++ List.replicate (n + 70) tkZ)) ∧ Below w.heap.size w W2) := ⟨hB2, b1.trans (hb2.below b1.size (fun x hx e => by omega))⟩
  have HG := hid hG
  have HW1 := hid hW1
  rw [hW1, hG] at hcp
  clear hG hW1 b1 hB1 hR1 hB2 hb2 hR
  have hn1 : (n : Int) ≤ 2 * (n : Int) + 70 := by omega
  obtain ⟨TT, hTT⟩ : ∃ TT, TT = (flatT (List.replicate (2 * n + 70) tkZ)).toArray := ⟨_, rfl⟩
  rw [← hTT] at hcp
  simp only [← hTT] at hmk
  clear hTT HW1
  go_enter Tryd.func13, Tryd.ntmps13
  go_wp2_with fail
  rw [← HG.out]
  go_loopw [4] (fun iv wr => ∃ i : Nat, iv = .int .i64 (((n + i : Nat)) : Int) ∧ i ≤ n + 70 ∧ BlT wr G (ts ++ (othT n i ++ List.replicate (n + 70 - i) tkZ)) ∧ Below w.heap.size w wr) (fun iv _ => 2 * n + 70 - (intOf iv).toNat)
  case atStart => exact ⟨0, rfl, Nat.zero_le _, H2.out.1, H2.out.2⟩
  case round =>
    clear H2 hcp hmk
    obtain ⟨i, rfl, hi, hB, hBe⟩ := hrel
    by_cases q : i < n + 70
    · have hlen : (ts ++ (othT n i ++ List.replicate (n + 70 - i) tkZ)).length = 2 * n + 70 := by
        rw [List.length_append, List.length_append, othT_len, List.length_replicate, hn]; omega
      obtain ⟨c0, c1, c2, c3⟩ := hB.cell (n + i) (by omega)
      have fz : ∀ o, wr.frozen? ⟨G, o, none⟩ = false := fun o => by unfold BlT at hB; simp [World.frozen?, hB]
      have f0 := fz ((n + i) * 4)
      have f1 := fz ((n + i) * 4 + 1)
      have f2 := fz ((n + i) * 4 + 2)
      have f3 := fz ((n + i) * 4 + 3)
      have HNX : Hid (∀ W, W = (((wr.setCell ⟨G, (n + i) * 4, none⟩ (.int .i64 (77 + ((n : Int) + (i : Int))))).setCell ⟨G, (n + i) * 4 + 1, none⟩ (.string ⟨#[]⟩)).setCell ⟨G, (n + i) * 4 + 2, none⟩ (.int .i64 0)).setCell ⟨G, (n + i) * 4 + 3, none⟩ (.int .i64 78) → BlT W G (ts ++ (othT n (i + 1) ++ List.replicate (n + 70 - (i + 1)) tkZ)) ∧ Below w.heap.size w W) := fun W hW => by
        have h4 := hB.set4 (n + i) ⟨77 + ((n : Int) + (i : Int)), [], 0, 78⟩ (by omega)
        have e0 : strOfNums [] = (⟨#[]⟩ : ByteArray) := rfl
        simp only [e0] at h4
        rw [← hW] at h4
        have hG := HG.out
        refine ⟨?_, ?_⟩
        · rw [List.set_append_right _ _ (by omega), hn, show n + i - n = i by omega, List.set_append_right _ _ (by rw [othT_len]; omega), othT_len, show i - i = 0 by omega, show n + 70 - i = (n + 70 - (i + 1)) + 1 by omega, List.replicate_succ, List.set_cons_zero] at h4
          rw [othT_succ, List.append_assoc]
          exact h4
        · rw [hW]
          exact (((hBe.setCell (p := ⟨G, (n + i) * 4, none⟩) (by simp; omega) _).setCell (p := ⟨G, (n + i) * 4 + 1, none⟩) (by simp; omega) _).setCell (p := ⟨G, (n + i) * 4 + 2, none⟩) (by simp; omega) _).setCell (p := ⟨G, (n + i) * 4 + 3, none⟩) (by simp; omega) _
      have q' : (n : Int) + (i : Int) < 2 * (n : Int) + 70 := by omega
      clear hB hBe fz
      go_wp2_with fail
      exact ⟨⟨i + 1, by rw [show ((n + (i + 1) : Nat) : Int) = (n : Int) + (i : Int) + 1 by omega], by omega, (HNX.out _ rfl).1, (HNX.out _ rfl).2⟩, by simp [intOf]; omega⟩
    · obtain rfl : i = n + 70 := by omega
      have HE : Hid (BlT wr G (ts ++ othT n (n + 70)) ∧ Below w.heap.size w wr ∧ w.heap.size ≤ G) := by
        rw [Nat.sub_self, List.replicate_zero, List.append_nil] at hB
        exact ⟨hB, hBe, by have := HG.out; omega⟩
      have q' : ¬ (n : Int) + ((n : Int) + 70) < 2 * (n : Int) + 70 := by omega
      have q2 : (n : Int) ≤ 2 * (n : Int) + 70 := by omega
      clear hB hBe
      go_wp2_with fail
      go_ret
      exact ⟨G, rfl, HE.out.2.2, HE.out.1, HE.out.2.1⟩

end Go.Proofs.YtoifmiloaefanaaDoor
/-
  back: the tokens that were lent stand as they stood, and the others behind them.
-/
namespace Go.Proofs.YtoifmiloaefanaaDoor
open Go.RowKit

theorem BlT.next {w w' : World} {g : Nat} {ts : List Tk} (h : BlT w g ts) (hb : Below w.heap.size w w') : BlT w' g ts := by
  have hl := h.lt
  unfold BlT at *
  rw [hb.block g hl]
  exact h
set_option maxRecDepth 100000 in
set_option maxHeartbeats 1000000 in
theorem back_yes (G n c2 : Nat) (a2 : Option Addr) (ts : List Tk) (w : World) (hn : ts.length = n) (hN : n ≤ 1048576) (hB : BlT w G (ts ++ othT n (n + 70))) (hR : TkR w a2 ts) :
    Calls Tryd.prog 16 #[.slice (some ⟨G, 0, none⟩) n (2 * n + 70), .slice a2 n c2] w fun e w' => e = .returned (.bool true) ∧ Below w.heap.size w w' := by
  have HB := hid hB
  have HR := hid hR
  have h1 : (n : Int) ≤ 2 * (n : Int) + 70 := by omega
  clear hB hR
  go_enter Tryd.func16, Tryd.ntmps16
  go_wp2_with fail
  go_loopw [6] (fun iv wr => ∃ i : Nat, iv = .int .i64 (((n + i : Nat)) : Int) ∧ i ≤ n + 70 ∧ Below w.heap.size w wr) (fun iv _ => 2 * n + 70 - (intOf iv).toNat)
  case atStart => exact ⟨0, rfl, Nat.zero_le _, Below.refl _ _⟩
  case round =>
    obtain ⟨i, rfl, hi, hBe⟩ := hrel
    by_cases q : i < n + 70
    · have hlen : (ts ++ othT n (n + 70)).length = 2 * n + 70 := by rw [List.length_append, othT_len, hn]; omega
      have hcs := (HB.out.next hBe).cell (n + i) (by omega)
      have hat : (ts ++ othT n (n + 70))[n + i]'(by omega) = ⟨77 + ((n : Int) + (i : Int)), [], 0, 78⟩ := by
        rw [List.getElem_append_right (by omega)]
        simp [othT, hn]
      rw [hat] at hcs
      obtain ⟨c0, c1, c2, c3⟩ := hcs
      have e0 : strOfNums [] = (⟨#[]⟩ : ByteArray) := rfl
      simp only [e0] at c1
      have HC : Hid (Calls Tryd.prog 23 #[.agg #[.int .i64 (77 + ((n : Int) + (i : Int))), .string ⟨#[]⟩, .int .i64 0, .int .i64 78], .agg #[.int .i64 (77 + ((n : Int) + (i : Int))), .string ⟨#[]⟩, .int .i64 0, .int .i64 78]] wr fun e w' => e = .returned (.bool true) ∧ Below w.heap.size w w') := by
        refine (SameToken_yes _ _ _ _ wr).mono ?_
        rintro e w' ⟨rfl, h⟩
        exact ⟨rfl, hBe.trans (h.mono hBe.size)⟩
      have q' : (n : Int) + (i : Int) < 2 * (n : Int) + 70 := by omega
      clear hat hBe e0 hlen
      go_wp2_with fail
      refine Calls.mono HC.out ?_
      rintro e w' ⟨rfl, h⟩
      have H := hid h
      clear h HC
      go_wp2_with fail
      exact ⟨⟨i + 1, by rw [show ((n + (i + 1) : Nat) : Int) = (n : Int) + (i : Int) + 1 by omega], by omega, H.out⟩, by simp [intOf]; omega⟩
    · obtain rfl : i = n + 70 := by omega
      have hg : TkR wr (some ⟨G, 0, none⟩) ts := by
        have := ((HB.out.next hBe).rd).take n
        rw [List.take_left' hn] at this
        exact this
      have HC : Hid (Calls Tryd.prog 24 #[.slice (some ⟨G, 0, none⟩) n (2 * n + 70), .slice a2 n c2] wr fun e w' => e = .returned (.bool true) ∧ Below w.heap.size w w') := by
        refine (SameTokens_yes _ a2 n _ c2 ts wr hn hg (HR.out.next hBe) (by omega)).mono ?_
        rintro e w' ⟨rfl, h⟩
        exact ⟨rfl, hBe.trans (h.mono hBe.size)⟩
      have q' : ¬ (n : Int) + ((n : Int) + 70) < 2 * (n : Int) + 70 := by omega
      clear hBe hg
      go_wp2_with fail
      refine Calls.mono HC.out ?_
      rintro e w' ⟨rfl, h⟩
      have H := hid h
      clear h HC
      go_wp2_with fail
      go_ret
      exact ⟨rfl, H.out⟩

end Go.Proofs.YtoifmiloaefanaaDoor
