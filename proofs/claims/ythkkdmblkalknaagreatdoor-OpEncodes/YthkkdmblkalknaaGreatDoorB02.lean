import Derived.Test.YthkkdmblkalknaaGreatDoorB01
import Derived.Laws.Tables
import Derived.Laws.CopyRow
import Derived.Laws.MakeOwn
import Derived.Deep.RegionWith
/-
  The tray: what stands behind a list; the list is laid.
-/
namespace Go.Proofs.YthkkdmblkalknaaGreatDoor
open Go.RowKit

set_option maxRecDepth 100000 in
set_option maxHeartbeats 1000000 in
theorem behind_any (j : Nat) (w : World) (hj : j ≤ 1073741824) : Calls Tryz.prog 82 #[.int .i64 (j : Int)] w fun e w' => e = .returned (.agg #[.int .i64 (-71 - (j : Int)), .string cE, .string cE, .int .i64 0, .int .i64 0, .slice none 0 0]) ∧ Below w.heap.size w w' := by
  have hb := below1 w (.cells #[.int .i64 (-71 - (j : Int)), .string cE, .string cE, .int .i64 0, .int .i64 0, .slice none 0 0] 29)
  go_enter Tryz.func82, Tryz.ntmps82
  go_wp2
  exact bodyPost_ret (results_row1 rfl _ _ w.heap.size 29 _ (0, 0) _ rfl (heap_new _ _) Tryz.underlying29 rfl (by kernel_rfl)) rfl ⟨rfl, hb⟩
theorem run_copy_wide {P : Program} (w : World) (dT sT ty elem : TypeId) (g o dLen dCap : Nat) (a : Addr) (sLen sCap size : Nat) (cur : Array Value) (t : TypeId) (cs : List Value)
    (hu : P.underlying dT = some (.slice elem)) (hs : (P.info? elem).map (·.size) = some size)
    (hg : w.heap[g]? = some (.cells cur t (0, 0))) (hn : cs.length = Nat.min sLen dLen * size)
    (hsrc : ∀ j v, cs[j]? = some v → w.cell? (a.add j) = some v) (hfit : o + cs.length ≤ cur.size) (h1 : ∀ v ∈ cs, v.oneCell' = true) :
    (Builtin.copy_ #[dT, sT] ty #[.slice (some ⟨g, o, none⟩) dLen dCap, .slice (some a) sLen sCap]).run P w =
      .ok (goInt (Nat.min sLen dLen)) (w.setRow g (cur.toList.take o ++ cs ++ cur.toList.drop (o + cs.length)).toArray) := by
  have hl := run_loadCells_list (P := P) w a cs hsrc
  have hst := run_storeCells_at P g o t cs 0 cur w hg (by simpa using hfit) h1
  rw [hn] at hl
  cases hq : P.info? elem with
  | none => simp [hq] at hs
  | some i =>
    have hi : i.size = size := by simpa [hq] using hs
    simp [Builtin.copy_, run_underlying hu, Builtin.lenOf, Builtin.firstCells, sizeOf, typeInfo, hq, hi, hl, hst]
/-- an empty list -/
def opsZ (n : Nat) : Array Value := madeCells #[.int .i64 0, .string cE, .string cE, .int .i64 0, .int .i64 0, .slice none 0 0] (n * 6)
theorem opsZ_size (n : Nat) : (opsZ n).size = 6 * n := by unfold opsZ; rw [size_madeCells]; omega
theorem make_ops (n : Nat) (hn : n ≤ 1073741824) (u : World) : (Instr.makeSlice 22 (.int .i64 (n : Int)) (.int .i64 (n : Int))).run Tryz.prog u =
    .ok (.slice (some ⟨u.heap.size, 0, none⟩) n n) (u.alloc (.cells (opsZ n) 29)) := by
  obtain ⟨i0, hi, hz0, hz1, hz2⟩ := info_parts info29
  have h := run_make (P := Tryz.prog) u 22 29 i0 _ Tryz.underlying22 hi hz0 .i64 .i64 (n : Int) (n : Int) (by omega) (Int.le_refl _) (by rw [hz2]; omega) (by omega)
  have e : ((n : Int)).toNat = n := by omega
  rw [e, hz1] at h
  exact h

/-- within the second loop -/
structure L2 (w0 : World) (κ0 : Nat → Nat) (T : Nat) (os : List PO) (lv dv : Value) (κ : Nat → Nat) (ls : List (Nat × Value)) (vs : List Value) (wr : World) (j : Nat) (fv : Value) : Prop where
  ts : TS wr T κ lv dv ls
  ext : ∀ x, x < w0.heap.size → κ x = κ0 x
  but : But (fun x => κ0 x ≠ 0) w0 wr
  row : wr.ownsRow w0.heap.size 29 6 fv (os.length + j) (flatO os vs ++ bhs j)
  fk : ∀ g, fv.ownBlock = some g → κ g = 0
  vl : vs.length = os.length
  sl : ∀ u ∈ vs, isSl u
  ll : os.length ≤ ls.length
  lt : ∀ i (h : i < os.length), Lt wr (ls[i]'(by omega)) os[i] (vs[i]'(by omega))
theorem L1.done {w0 : World} {κ0 : Nat → Nat} {T : Nat} {os : List PO} {lv fv : Value} {wr : World} {r : Nat} {dv : Value} {κ : Nat → Nat} {ls : List (Nat × Value)} {vs : List Value} (h : L1 w0 κ0 T os lv fv wr r dv κ ls vs) (hr : r = os.length) : L2 w0 κ0 T os lv dv κ ls vs wr 0 fv := by
  subst hr
  exact ⟨h.ts, h.ext, h.but, by simpa [bhs] using h.row, h.fk, h.vl, h.sl, h.rl, h.lt⟩
/-- nothing of the tray is written -/
theorem Lt.aside {w w' : World} {T : Nat} {κ : Nat → Nat} {lv dv : Value} {ls : List (Nat × Value)} (hts : TS w T κ lv dv ls) {i : Nat} (hi : i < ls.length) {o : PO} {v : Value} (h : Lt w ls[i] o v) {X : Nat → Prop} (hb : But X w w') (hX : ∀ x, X x → κ x < 10) : Lt w' ls[i] o v := by
  obtain ⟨q1, _, q3⟩ := hts.ten i hi
  exact h.keep hb (fun hx => by have := hX _ hx; omega) (fun g hg hx => by have := hX _ hx; have := q3 g hg; omega)
theorem L2.step {w0 : World} {κ0 : Nat → Nat} {T : Nat} {os : List PO} {lv dv : Value} {κ : Nat → Nat} {ls : List (Nat × Value)} {vs : List Value} {wr : World} {j : Nat} {fv : Value} (h : L2 w0 κ0 T os lv dv κ ls vs wr j fv) (hj : j ≤ 33554432) (hn : os.length ≤ 16777216) :
    Calls Tryz.prog 82 #[.int .i64 (j : Int)] wr fun e w1 => e = .returned (.agg #[.int .i64 (-71 - (j : Int)), .string cE, .string cE, .int .i64 0, .int .i64 0, .slice none 0 0]) ∧
      ∃ fv' w', (Builtin.append_ #[22, 22] 22 #[fv, .slice (some ⟨w1.heap.size, 0, none⟩) 1 1]).run Tryz.prog (w1.alloc (.cells #[.int .i64 (-71 - (j : Int)), .string cE, .string cE, .int .i64 0, .int .i64 0, .slice none 0 0] 29)) = .ok fv' w' ∧ L2 w0 κ0 T os lv dv κ ls vs w' (j + 1) fv' := by
  refine (behind_any j wr (by omega)).mono ?_
  rintro e w1 ⟨rfl, hb1⟩
  refine ⟨rfl, ?_⟩
  have b2 : But (fun _ => False) wr (w1.alloc (.cells #[.int .i64 (-71 - (j : Int)), .string cE, .string cE, .int .i64 0, .int .i64 0, .slice none 0 0] 29)) := (But.of_below hb1).alloc _
  obtain ⟨fv', w', hr, hrow, hg⟩ := app_op1 (own_keep h.row fun g hg => b2.block g (own_blk h.row hg).2.1 (fun h => h)) (bh j) none 0 0 (g := w1.heap.size) (heap_new _ _) (by omega) (Nat.le_trans h.but.size b2.size)
  have b3 : But (fun x => fv.ownBlock = some x) wr w' := (b2.mono (fun _ _ h => h.elim)).comp (but_of_gr hg) (fun x _ e => e)
  refine ⟨fv', w', hr, h.ts.keep b3 (fun x hx e => hx (h.fk x e)), h.ext, h.but.comp b3 (fun x hx e => ?_), ?_, fun g hg' => ?_, h.vl, h.sl, h.ll, fun i hi => Lt.aside h.ts (by have := h.ll; omega) (h.lt i hi) b3 (fun x e => by rw [h.fk x e]; omega)⟩
  · have := (own_blk h.row e).1
    omega
  · rw [bhs_succ, ← List.append_assoc]
    exact hrow
  · rcases hg.own with e | ⟨x, e, hx⟩
    · exact h.fk g (by rw [← e]; exact hg')
    · rw [hg'] at e
      simp at e
      subst e
      exact h.ts.cut g (Nat.le_trans b2.size hx)

/-- a list is lent: it lies in block G -/
structure TL (w : World) (T : Nat) (κ : Nat → Nat) (G M : Nat) (dv : Value) (ls : List (Nat × Value)) (os : List PO) (vs : List Value) : Prop where
  ts : TS w T κ (.slice (some ⟨G, 0, none⟩) M M) dv ls
  big : 2 * os.length + 70 ≤ M
  vl : vs.length = os.length
  ll : os.length ≤ ls.length
  lt : ∀ i (h : i < os.length), Lt w (ls[i]'(by omega)) os[i] (vs[i]'(by omega))
  row : ∃ cs : Array Value, w.heap[G]? = some (.cells cs 29 (0, 0)) ∧ ∀ (j : Nat) (u : Value), (flatO os vs ++ bhs (os.length + 70))[j]? = some u → cs[j]? = some u
/-- the list is made anew -/
theorem L2.made {w0 : World} {κ0 : Nat → Nat} {T : Nat} {os : List PO} {lv dv : Value} {κ : Nat → Nat} {ls : List (Nat × Value)} {vs : List Value} {wr : World} {j : Nat} {fv : Value} (h : L2 w0 κ0 T os lv dv κ ls vs wr j fv) (N : Nat) (hN : N ≤ 134217728) :
    ∃ κ', (κ' wr.heap.size = 2) ∧ L2 w0 κ0 T os (.slice (some ⟨wr.heap.size, 0, none⟩) N N) dv κ' ls vs ((wr.alloc (.cells (opsZ N) 29)).setCell ⟨T, 0, none⟩ (.slice (some ⟨wr.heap.size, 0, none⟩) N N)) j fv := by
  have hts := h.ts
  have hT := hts.lt
  have b1 : But (fun _ => False) wr (wr.alloc (.cells (opsZ N) 29)) := (But.refl _ _).alloc _
  have n1 := heap_new wr (.cells (opsZ N) 29)
  obtain ⟨W1, hW1⟩ : ∃ W1, W1 = wr.alloc (.cells (opsZ N) 29) := ⟨_, rfl⟩
  have z1 : W1.heap.size = wr.heap.size + 1 := by rw [hW1]; simp
  rw [← hW1] at b1 n1 ⊢
  have b2 : But (fun x => x = T) W1 (W1.setCell ⟨T, 0, none⟩ (.slice (some ⟨wr.heap.size, 0, none⟩) N N)) := (But.refl (fun x => x = T) W1).setCell (p := ⟨T, 0, none⟩) rfl _
  have b3 : But (fun x => x = T) wr (W1.setCell ⟨T, 0, none⟩ (.slice (some ⟨wr.heap.size, 0, none⟩) N N)) := (b1.mono (fun _ _ h => h.elim)).comp b2 (fun x _ e => e)
  have tb : W1.heap[T]? = some (.cells #[lv, dv] 48 (0, 0)) := (b1.block T hT (fun h => h)).trans hts.blk
  have s2 := b2.size
  refine ⟨fun x => if x = wr.heap.size then 2 else κ x, if_pos rfl, ⟨?_, ?_, fun x hx => ?_, ?_, ?_, fun g hg => ?_, fun i hi => ?_⟩, fun x hx => ?_, h.but.comp b3 (fun x hx e => ?_), own_keep h.row fun g hg => ?_, fun g hg => ?_, h.vl, h.sl, h.ll, fun i hi => Lt.aside h.ts (by have := h.ll; omega) (h.lt i hi) b3 (fun x e => by rw [e, hts.kT]; omega)⟩
  · simp only [World.setCell, Array.getElem?_modify, tb]
    simp
  · show (if T = wr.heap.size then 2 else κ T) = 1
    rw [if_neg (by omega)]
    exact hts.kT
  · show (if x = wr.heap.size then 2 else κ x) = 0
    rw [if_neg (by omega)]
    exact hts.cut x (by omega)
  · exact .inr ⟨wr.heap.size, N, opsZ N, rfl, if_pos rfl, (b2.block _ (by omega) (by omega)).trans n1, opsZ_size N, hN⟩
  · exact own_keep hts.dat fun g hg => b3.block g (own_blk hts.dat hg).2.1 (fun e => by have := hts.dk g hg; rw [e, hts.kT] at this; omega)
  · show (if g = wr.heap.size then 2 else κ g) = 3
    rw [if_neg (by have := (own_blk hts.dat hg).2.1; omega)]
    exact hts.dk g hg
  · obtain ⟨q1, q2, q3⟩ := hts.ten i hi
    refine ⟨?_, q2.but b3 (fun x hx e => ?_), fun g hg => ?_⟩
    · show (if ls[i].1 = wr.heap.size then 2 else κ ls[i].1) = _
      rw [if_neg (by have := q2.lt; omega)]
      exact q1
    · subst e
      rcases hx with e | hx
      · rw [← e, hts.kT] at q1; omega
      · have := q3 x hx; rw [hts.kT] at this; omega
    · show (if g = wr.heap.size then 2 else κ g) = _
      rw [if_neg (by have := q2.there (.inr hg); omega)]
      exact q3 g hg
  · show (if x = wr.heap.size then 2 else κ x) = _
    have := h.but.size
    rw [if_neg (by omega)]
    exact h.ext x hx
  · subst e
    rw [← h.ext x hx, hts.kT]
    omega
  · exact b3.block g (own_blk h.row hg).2.1 (fun e => by have := h.fk g hg; rw [e, hts.kT] at this; omega)
  · show (if g = wr.heap.size then 2 else κ g) = 0
    rw [if_neg (by have := (own_blk h.row hg).2.1; omega)]
    exact h.fk g hg
/-- the list is laid -/
theorem L2.laid {w0 : World} {κ0 : Nat → Nat} {T : Nat} {os : List PO} {G M : Nat} {dv : Value} {κ : Nat → Nat} {ls : List (Nat × Value)} {vs : List Value} {wr : World} {fa : Option Addr} {N c : Nat} (h : L2 w0 κ0 T os (.slice (some ⟨G, 0, none⟩) M M) dv κ ls vs wr (os.length + 70) (.slice fa N c)) (hM : 2 * os.length + 70 ≤ M) :
    N = 2 * os.length + 70 ∧ ∃ w', (Builtin.copy_ #[22, 22] 3 #[.slice (some ⟨G, 0, none⟩) M M, .slice fa N c]).run Tryz.prog wr = .ok (.int .i64 ((2 * os.length + 70 : Nat) : Int)) w' ∧ But (fun x => κ0 x ≠ 0) w0 w' ∧ TL w' T κ G M dv ls os vs := by
  have hts := h.ts
  rcases h.row.2 with ⟨e, q⟩ | ⟨fb, cap, cur, e, hbb, hh, r1, r2, r3, r4⟩
  · omega
  simp only [Value.slice.injEq] at e
  obtain ⟨rfl, rfl, rfl⟩ := e
  have hrow := h.row
  refine ⟨by omega, ?_⟩
  rcases hts.lst with e | ⟨G', M', cs, e1, e2, e3, e4, e5⟩
  · cases e
  simp only [Value.slice.injEq, Option.some.injEq, Addr.mk.injEq] at e1
  obtain ⟨⟨rfl, _, _⟩, rfl, _⟩ := e1
  have hlen : (flatO os vs ++ bhs (os.length + 70)).length = 6 * (2 * os.length + 70) := by rw [List.length_append, flatO_len os vs h.vl, bhs_len]; omega
  have hmin : Nat.min (os.length + (os.length + 70)) M = 2 * os.length + 70 := by rw [show os.length + (os.length + 70) = 2 * os.length + 70 by omega]; exact Nat.min_eq_left hM
  have hrun := run_copy_wide (P := Tryz.prog) wr 22 22 3 29 G 0 M M ⟨fb, 0, none⟩ (os.length + (os.length + 70)) c 6 cs 29 (flatO os vs ++ bhs (os.length + 70)) Tryz.underlying22 (by kernel_rfl) e3 (by rw [hlen, hmin]; omega) (fun j v hv => World.ownsRow.cells (g := fb) hrow rfl j v hv) (by rw [hlen, e4]; omega) (fun v hv => by
    rcases List.mem_append.1 hv with hv | hv
    · exact flatO_one os vs h.sl v hv
    · exact bhs_one _ v hv)
  rw [hmin] at hrun
  simp only [List.take_zero, List.nil_append, Nat.zero_add] at hrun
  have hset := setRow_heap wr G cs ((flatO os vs ++ bhs (os.length + 70)) ++ cs.toList.drop (flatO os vs ++ bhs (os.length + 70)).length).toArray 29 (0, 0) e3
  generalize hcs : ((flatO os vs ++ bhs (os.length + 70)) ++ cs.toList.drop (flatO os vs ++ bhs (os.length + 70)).length).toArray = cs' at hrun hset
  have hcs' : cs'.size = 6 * M := by
    have q := hlen
    rw [List.length_append] at q
    rw [← hcs]
    simp [e4]
    omega
  have b1 : But (fun x => x = G) wr (wr.setRow G cs') := ⟨rfl, rfl, rfl, by simp [World.setRow], fun k _ hx => setRow_other wr G k _ hx⟩
  refine ⟨_, hrun, h.but.comp b1 (fun x hx e => by subst e; rw [← h.ext x hx]; omega), ⟨⟨(b1.block T hts.lt (fun e => by have := hts.kT; rw [e] at this; omega)).trans hts.blk, hts.kT, fun x hx => hts.cut x (Nat.le_trans b1.size hx), .inr ⟨G, M, cs', rfl, e2, hset, hcs', e5⟩, own_keep hts.dat fun g hg => b1.block g (own_blk hts.dat hg).2.1 (fun e => by have := hts.dk g hg; rw [e] at this; omega), hts.dk, fun i hi => ?_⟩, hM, h.vl, h.ll, fun i hi => Lt.aside hts (by have := h.ll; omega) (h.lt i hi) b1 (fun x e => by rw [e]; omega), cs', hset, fun j u hu => ?_⟩⟩
  · obtain ⟨q1, q2, q3⟩ := hts.ten i hi
    refine ⟨q1, q2.but b1 (fun x hx e => ?_), q3⟩
    subst e
    rcases hx with e | hx
    · rw [← e] at q1; omega
    · have := q3 x hx; omega
  · rw [← hcs]
    have hj := (List.getElem?_eq_some_iff.1 hu).1
    simp only [List.getElem?_toArray]
    rw [List.getElem?_append_left hj]
    exact hu

end Go.Proofs.YthkkdmblkalknaaGreatDoor
/-
  Tray.Lend.
-/
namespace Go.Proofs.YthkkdmblkalknaaGreatDoor
open Go.RowKit

theorem TS.cell0 {w : World} {T : Nat} {κ : Nat → Nat} {lv dv : Value} {ls : List (Nat × Value)} (h : TS w T κ lv dv ls) : w.cell? ⟨T, 0, none⟩ = some lv := by simp [World.cell?, h.blk]
theorem TS.cell1 {w : World} {T : Nat} {κ : Nat → Nat} {lv dv : Value} {ls : List (Nat × Value)} (h : TS w T κ lv dv ls) : w.cell? ⟨T, 1, none⟩ = some dv := by simp [World.cell?, h.blk]
theorem TS.unfr {w : World} {T : Nat} {κ : Nat → Nat} {lv dv : Value} {ls : List (Nat × Value)} (h : TS w T κ lv dv ls) (i : Nat) : w.frozen? ⟨T, i, none⟩ = false := by simp [World.frozen?, h.blk]
theorem TS.dform {w : World} {T : Nat} {κ : Nat → Nat} {lv dv : Value} {ls : List (Nat × Value)} (h : TS w T κ lv dv ls) : ∃ a n c, dv = .slice a n c := by
  rcases h.dat.2 with ⟨e, _⟩ | ⟨g, cap, cur, e, _⟩
  · exact ⟨_, _, _, e⟩
  · exact ⟨_, _, _, e⟩
theorem TS.lform {w : World} {T : Nat} {κ : Nat → Nat} {lv dv : Value} {ls : List (Nat × Value)} (h : TS w T κ lv dv ls) : lv = .slice none 0 0 ∨ ∃ G M, lv = .slice (some ⟨G, 0, none⟩) M M ∧ M ≤ 134217728 := by
  rcases h.lst with e | ⟨G, M, cs, e, _, _, _, h⟩
  · exact .inl e
  · exact .inr ⟨G, M, e, h⟩
theorem TS.dlen {w : World} {T : Nat} {κ : Nat → Nat} {lv : Value} {a : Option Addr} {n c : Nat} {ls : List (Nat × Value)} (h : TS w T κ lv (.slice a n c) ls) : n = ls.length := by
  rcases h.dat.2 with ⟨e, q⟩ | ⟨g, cap, cur, e, _⟩
  · cases e; exact q.symm
  · cases e; rfl
theorem TS.ptr {w : World} {T : Nat} {κ : Nat → Nat} {lv : Value} {a : Option Addr} {n c : Nat} {ls : List (Nat × Value)} (h : TS w T κ lv (.slice a n c) ls) (r : Nat) (hr : r < ls.length) : ∃ db, a = some ⟨db, 0, none⟩ ∧ w.cell? ⟨db, r, none⟩ = some (.pointer (some ⟨ls[r].1, 0, none⟩)) := by
  rcases h.dat.2 with ⟨e, q⟩ | ⟨g, cap, cur, e, _⟩
  · omega
  · cases e
    refine ⟨g, rfl, ?_⟩
    have := World.ownsRow.cells (g := g) h.dat rfl r (.pointer (some ⟨ls[r].1, 0, none⟩)) (by simp [hr])
    rw [Addr.add_lit, Nat.zero_add] at this
    exact this
theorem L1.fblk {w0 : World} {κ0 : Nat → Nat} {T : Nat} {os : List PO} {lv : Value} {fa : Option Addr} {fc : Nat} {wr : World} {r : Nat} {dv : Value} {κ : Nat → Nat} {ls : List (Nat × Value)} {vs : List Value} (h : L1 w0 κ0 T os lv (.slice fa os.length fc) wr r dv κ ls vs) (hr : r < os.length) : ∃ fb, fa = some ⟨fb, 0, none⟩ := by
  rcases h.row.2 with ⟨e, q⟩ | ⟨g, cap, cur, e, _⟩
  · omega
  · cases e; exact ⟨g, rfl⟩
theorem row_form {w : World} {B e k m : Nat} {v : Value} {xs : List Value} (h : w.ownsRow B e k v m xs) : ∃ a c, v = .slice a m c := by
  rcases h.2 with ⟨e, q⟩ | ⟨g, cap, cur, e, _⟩
  · exact ⟨none, 0, by rw [e, q]⟩
  · exact ⟨_, _, e⟩

/-- what Lend leaves -/
def TLendP (w : World) (κ : Nat → Nat) (T : Nat) (os : List PO) (e : Ending) (w' : World) : Prop := ∃ G M κ' dv' ls' vs, e = .returned (.slice (some ⟨G, 0, none⟩) os.length M) ∧ TL w' T κ' G M dv' ls' os vs ∧ (∀ y, y < w.heap.size → κ' y = κ y) ∧ But (fun x => κ x ≠ 0) w w'
set_option maxRecDepth 100000 in
set_option maxHeartbeats 8000000 in
theorem TLend_any (T : Nat) (κ : Nat → Nat) (lv dv : Value) (ls : List (Nat × Value)) (x : Option Addr) (c : Nat) (os : List PO) (w : World) (hl : os.length ≤ 16777216) (hS : TS w T κ lv dv ls) (hR : RdON (fun x => κ x ≠ 0) w x os) (hx : x = none → c = 0) :
    Calls Tryz.prog 47 #[.pointer (some ⟨T, 0, none⟩), .slice x os.length c] w (TLendP w κ T os) := by
  have ow0 : (w.alloc (.cells #[] 29)).ownsRow w.heap.size 29 6 (.slice (some ⟨w.heap.size, 0, none⟩) 0 0) 0 [] := ⟨rfl, .inr ⟨w.heap.size, 0, #[], rfl, Nat.le_refl _, heap_new _ _, Nat.le_refl _, Nat.zero_le _, rfl, rfl⟩⟩
  have b0 : But (fun _ => False) w (w.alloc (.cells #[] 29)) := (But.refl _ _).alloc _
  obtain ⟨fv, w1, vs0, hrun1, hrow, hvl, hsl, hg⟩ := app_ops ow0 (hR.but (b0.mono (fun _ _ h => h.elim))) hx hl (by simp)
  have hL0 := L1.start hS (v := .slice (some ⟨w.heap.size, 0, none⟩) 0 0) (fun g e => by simp [Value.ownBlock] at e; omega) b0 (fun _ h => h) hg hrow hvl hsl
  obtain ⟨fa, fc, rfl⟩ := row_form hrow
  have HL0 := hid hL0
  have HR := hid hR
  clear ow0 b0 hrow hvl hsl hg hL0 hS hR hx
  go_enter Tryz.func47, Tryz.ntmps47
  go_wp2_with (at_builtin; refine Lib.wpList_append_run _ rfl _ _ _ _ rfl _ _ rfl rfl _ _ hrun1 ?_)
  clear hrun1
  go_loopw [6] (fun i wr => ∃ (r : Nat) (dv' : Value) (κ' : Nat → Nat) (ls' : List (Nat × Value)) (vs' : List Value), r ≤ os.length ∧ i = .int .i64 (r : Int) ∧ L1 w κ T os lv (.slice fa os.length fc) wr r dv' κ' ls' vs') (fun i _ => os.length - (intOf i).toNat)
  case atStart => exact ⟨0, dv, κ, ls, vs0, Nat.zero_le _, rfl, HL0.out⟩
  case round =>
    clear HL0
    obtain ⟨r, dv', κ', ls', vs', hr, rfl, hL⟩ := hrel
    by_cases hlt : r < os.length
    · by_cases hgr : ls'.length ≤ r
      · have hT1 := hL.ts.cell1
        obtain ⟨da0, dn0, dc0, rfl⟩ := hL.ts.dform
        have hlen0 := hL.ts.dlen
        obtain ⟨dv2, w3, κ2, hrun, ⟨hcT, hfT⟩, hL2⟩ := hL.grow (by have := hL.rl; omega) hl
        obtain ⟨da, dn, dc, rfl⟩ := hL2.ts.dform
        have HL2 := hid hL2
        have hd1 : (dn0 : Int) ≤ (r : Int) := by omega
        have hr1 : (r : Int) < (os.length : Int) := by omega
        have hlr : ls'.length = r := by have := hL.rl; omega
        have HLR := hid hlr
        clear hL hL2 hlen0 hgr hlr
        go_wp2_with (at_builtin; refine Lib.wpList_append_run _ rfl _ _ _ _ rfl _ _ rfl rfl _ _ hrun ?_)
        have hL := HL2.out
        have hll : r < (ls' ++ [(wr.heap.size, Value.slice none 0 0)]).length := by have := HLR.out; simp; omega
        clear HL2 HLR hrun hcT hfT hT1 hd1
        generalize w3.setCell ⟨T, 1, none⟩ (.slice da dn dc) = W at *
        generalize ls' ++ [(wr.heap.size, Value.slice none 0 0)] = ls' at *
        obtain ⟨db, hda, hdc⟩ : ∃ db, da = some ⟨db, 0, none⟩ ∧ W.cell? ⟨db, r, none⟩ = some (.pointer (some ⟨(ls'[r]'hll).1, 0, none⟩)) := hL.ts.ptr r hll
        subst hda
        have hT1 := hL.ts.cell1
        have hlen := hL.ts.dlen
        have hRN := (HR.out).ext hL.but hL.ext
        obtain ⟨b, off, rfl, hbl, hbx, hc⟩ := hRN.2.resolve_left (fun e => by rw [e] at hlt; simp at hlt)
        obtain ⟨a, cp, ⟨_, _, _, _, _, c5⟩, hRd, _⟩ := hc r hlt
        have hok := hRN.1 (os[r]'hlt) (List.getElem_mem hlt)
        obtain ⟨fb, rfl⟩ := hL.fblk hlt
        have HC := hid (hL.drew.lend hlt hll a cp (hRd.but (But.refl _ _).drew) hok.da)
        have hr1 : (r : Int) < (os.length : Int) := by omega
        have hr2 : (r : Int) < (dn : Int) := by omega
        generalize (ls'[r]'hll).1 = LL at *
        generalize (os[r]'hlt).da.length = dl at *
        clear hL hc hRN hRd hok hlen hbl hbx HR hll
        go_wp2_with fail
        go_region_with (go_at_call 60; refine Calls.mono HC.out ?_; rintro e w2 ⟨G, rfl, ⟨u, hu⟩, hfz, κ2, ls2, vs2, _, hL2⟩; (have HL2 := hid hL2; clear hL2))
        all_goals go_wp2
        all_goals
          go_roundw
          case rel => exact ⟨r + 1, _, κ2, ls2, vs2, by omega, by go_num, HL2.out⟩
          case measure => simp [intOf]; omega
      · obtain ⟨da, dn, dc, rfl⟩ := hL.ts.dform
        have hT1 := hL.ts.cell1
        have hlen0 := hL.ts.dlen
        have hd1 : ¬ ((dn : Int) ≤ (r : Int)) := by omega
        have hr1 : (r : Int) < (os.length : Int) := by omega
        have hll : r < ls'.length := by omega
        have HL := hid hL
        clear hL hlen0 hgr
        go_wp2_with fail
        have hL := HL.out
        clear HL hT1 hd1
        obtain ⟨W, hW⟩ : ∃ W, W = wr := ⟨_, rfl⟩
        subst hW
        obtain ⟨db, hda, hdc⟩ : ∃ db, da = some ⟨db, 0, none⟩ ∧ W.cell? ⟨db, r, none⟩ = some (.pointer (some ⟨(ls'[r]'hll).1, 0, none⟩)) := hL.ts.ptr r hll
        subst hda
        have hT1 := hL.ts.cell1
        have hlen := hL.ts.dlen
        have hRN := (HR.out).ext hL.but hL.ext
        obtain ⟨b, off, rfl, hbl, hbx, hc⟩ := hRN.2.resolve_left (fun e => by rw [e] at hlt; simp at hlt)
        obtain ⟨a, cp, ⟨_, _, _, _, _, c5⟩, hRd, _⟩ := hc r hlt
        have hok := hRN.1 (os[r]'hlt) (List.getElem_mem hlt)
        obtain ⟨fb, rfl⟩ := hL.fblk hlt
        have HC := hid (hL.drew.lend hlt hll a cp (hRd.but (But.refl _ _).drew) hok.da)
        have hr1 : (r : Int) < (os.length : Int) := by omega
        have hr2 : (r : Int) < (dn : Int) := by omega
        generalize (ls'[r]'hll).1 = LL at *
        generalize (os[r]'hlt).da.length = dl at *
        clear hL hc hRN hRd hok hlen hbl hbx HR hll
        go_wp2_with fail
        go_region_with (go_at_call 60; refine Calls.mono HC.out ?_; rintro e w2 ⟨G, rfl, ⟨u, hu⟩, hfz, κ2, ls2, vs2, _, hL2⟩; (have HL2 := hid hL2; clear hL2))
        all_goals go_wp2
        all_goals
          go_roundw
          case rel => exact ⟨r + 1, _, κ2, ls2, vs2, by omega, by go_num, HL2.out⟩
          case measure => simp [intOf]; omega
    · have e : r = os.length := by omega
      subst e
      have hL2 := hL.done rfl
      have HL2 := hid hL2
      clear hL hL2 hlt HR
      go_wp2
      go_loopw [5, 7] (fun f i wr => ∃ (j N : Nat) (fa : Option Addr) (c : Nat), j ≤ os.length + 70 ∧ i = .int .i64 (j : Int) ∧ f = .slice fa N c ∧ L2 w κ T os lv dv' κ' ls' vs' wr j (.slice fa N c)) (fun _ i _ => os.length + 70 - (intOf i).toNat)
      case atStart => exact ⟨0, os.length, fa, fc, Nat.zero_le _, rfl, rfl, HL2.out⟩
      case round =>
        clear HL2
        obtain ⟨j, N, fa, c, hj, rfl, rfl, hL⟩ := hrel
        by_cases hjn : j < os.length + 70
        · have HC : Hid (Calls Tryz.prog 82 #[.int .i64 (j : Int)] wr fun e w1 => e = .returned (.agg #[.int .i64 (-71 - (j : Int)), .string cE, .string cE, .int .i64 0, .int .i64 0, .slice none 0 0]) ∧
              ∃ N' fa' c' w', (Builtin.append_ #[22, 22] 22 #[.slice fa N c, .slice (some ⟨w1.heap.size, 0, none⟩) 1 1]).run Tryz.prog (w1.alloc (.cells #[.int .i64 (-71 - (j : Int)), .string cE, .string cE, .int .i64 0, .int .i64 0, .slice none 0 0] 29)) = .ok (.slice fa' N' c') w' ∧ L2 w κ T os lv dv' κ' ls' vs' w' (j + 1) (.slice fa' N' c')) := by
            refine (hL.step (by omega) hl).mono ?_
            rintro e w1 ⟨rfl, fv', w', hr', hL'⟩
            obtain ⟨a', c', rfl⟩ := row_form hL'.row
            exact ⟨rfl, _, a', c', w', hr', hL'⟩
          have hj1 : (j : Int) < (os.length : Int) + 70 := by omega
          clear hL
          go_wp2_with fail
          refine HC.out.mono ?_
          rintro e w2 ⟨rfl, N', fa', c', w', hrun, hL'⟩
          have HL' := hid hL'
          clear hL' HC
          go_wp2_with (at_builtin; refine Lib.wpList_append_run _ rfl _ _ _ _ rfl _ _ rfl rfl _ _ hrun ?_)
          go_roundw
          case rel => exact ⟨j + 1, N', fa', c', by omega, by go_num, rfl, HL'.out⟩
          case measure => simp [intOf]; omega
        · have e : j = os.length + 70 := by omega
          subst e
          have hNN : N = 2 * os.length + 70 := by
            have h1 := hL.row.2
            rcases h1 with ⟨e, q⟩ | ⟨g, cap, cur, e, _⟩
            · omega
            · cases e; omega
          have hT0 := hL.ts.cell0
          have hjf : ¬ (((os.length + 70 : Nat) : Int) < (os.length : Int) + 70) := by omega
          by_cases hbig : ∃ G M, lv = .slice (some ⟨G, 0, none⟩) M M ∧ 2 * os.length + 70 ≤ M
          · obtain ⟨G, M, rfl, hM⟩ := hbig
            have hcmp : ¬ ((M : Int) < (N : Int)) := by omega
            clear hNN
            obtain ⟨hN, w5, hcp, hb5, hTL⟩ := hL.laid hM
            have hT0 := hL.ts.cell0
            have hT5 := hTL.ts.cell0
            have HTL := hid hTL
            have HB := hid hb5
            have HE := hid hL.ext
            have hnM : (os.length : Int) ≤ (M : Int) := by omega
            clear hL hTL hb5 hN
            go_wp2
            go_ret
            exact ⟨G, M, _, _, _, _, rfl, HTL.out, HE.out, HB.out⟩
          · obtain ⟨la, lm, lc, rfl, hlm⟩ : ∃ la lm lc, lv = .slice la lm lc ∧ lm < 2 * os.length + 70 := by
              rcases hL.ts.lform with e | ⟨G, M, e, _⟩
              · exact ⟨none, 0, 0, e, by omega⟩
              · exact ⟨_, M, M, e, Nat.lt_of_not_le fun h => hbig ⟨G, M, e, h⟩⟩
            clear hbig
            have hcmp : ((lm : Int) < (N : Int)) := by omega
            have hmk := make_ops N (by omega)
            obtain ⟨κ2, _, hL2⟩ := hL.made N (by omega)
            have hTlt := hL.ts.lt
            rw [World.setCell_alloc_past _ _ _ _ (by show T < _; exact hTlt)] at hL2
            have hfr0 := hL.ts.unfr 0
            have HL2 := hid hL2
            have HNN := hid hNN
            clear hL hL2 hNN hlm
            go_wp2_with fail
            have hL := HL2.out
            have hM : 2 * os.length + 70 ≤ N := by have := HNN.out; omega
            clear HL2 HNN hmk hcmp hT0 hfr0 hTlt
            generalize (wr.setCell ⟨T, 0, none⟩ (.slice (some ⟨wr.heap.size, 0, none⟩) N N)).alloc (.cells (opsZ N) 29) = W2 at *
            generalize wr.heap.size = G at hL ⊢
            obtain ⟨M, hMM⟩ : ∃ M, M = N := ⟨_, rfl⟩
            subst hMM
            obtain ⟨hN, w5, hcp, hb5, hTL⟩ := hL.laid hM
            have hT0 := hL.ts.cell0
            have hT5 := hTL.ts.cell0
            have HTL := hid hTL
            have HB := hid hb5
            have HE := hid hL.ext
            have hnM : (os.length : Int) ≤ (M : Int) := by omega
            clear hL hTL hb5 hN
            rw [hcp]
            go_wp2
            go_ret
            exact ⟨G, M, _, _, _, _, rfl, HTL.out, HE.out, HB.out⟩

end Go.Proofs.YthkkdmblkalknaaGreatDoor
/-
  The tray: a list comes back, in plain words.
-/
namespace Go.Proofs.YthkkdmblkalknaaGreatDoor
open Go.RowKit

theorem heap_setG {w : World} {G : Nat} {cs : Array Value} {t : TypeId} {fz : Nat × Nat} (h : w.heap[G]? = some (.cells cs t fz)) (i : Nat) (v : Value) : (w.setCell ⟨G, i, none⟩ v).heap[G]? = some (.cells (cs.setIfInBounds i v) t fz) := by
  simp only [World.setCell, Array.getElem?_modify, h]
  simp
/-- a cell of the list is written -/
theorem TS.setL {w : World} {T : Nat} {κ : Nat → Nat} {G M : Nat} {dv : Value} {ls : List (Nat × Value)} (h : TS w T κ (.slice (some ⟨G, 0, none⟩) M M) dv ls) (i : Nat) (v : Value) : TS (w.setCell ⟨G, i, none⟩ v) T κ (.slice (some ⟨G, 0, none⟩) M M) dv ls := by
  rcases h.lst with e | ⟨G', M', cs, e1, e2, e3, e4⟩
  · cases e
  simp only [Value.slice.injEq, Option.some.injEq, Addr.mk.injEq] at e1
  obtain ⟨⟨rfl, _, _⟩, rfl, _⟩ := e1
  have b1 : But (fun x => x = G) w (w.setCell ⟨G, i, none⟩ v) := (But.refl (fun x => x = G) w).setCell (p := ⟨G, i, none⟩) rfl _
  refine ⟨(b1.block T h.lt (fun e => by have := h.kT; rw [e] at this; omega)).trans h.blk, h.kT, fun x hx => h.cut x (Nat.le_trans b1.size hx), .inr ⟨G, M, _, rfl, e2, heap_setG e3 i v, by simpa using e4⟩, own_keep h.dat fun g hg => b1.block g (own_blk h.dat hg).2.1 (fun e => by have := h.dk g hg; rw [e] at this; omega), h.dk, fun j hj => ?_⟩
  obtain ⟨q1, q2, q3⟩ := h.ten j hj
  refine ⟨q1, q2.but b1 (fun x hx e => ?_), q3⟩
  subst e
  rcases hx with e | hx
  · rw [← e] at q1; omega
  · have := q3 x hx; omega
/-- what stands behind the list, in block G -/
def RowB (w : World) (G n : Nat) : Prop := ∃ cs : Array Value, w.heap[G]? = some (.cells cs 29 (0, 0)) ∧ ∀ (j : Nat) (u : Value), (bhs (n + 70))[j]? = some u → cs[6 * n + j]? = some u
theorem RowB.set {w : World} {G n : Nat} (h : RowB w G n) (i : Nat) (hi : i < 6 * n) (v : Value) : RowB (w.setCell ⟨G, i, none⟩ v) G n := by
  obtain ⟨cs, h1, h2⟩ := h
  refine ⟨_, heap_setG h1 i v, fun j u hu => ?_⟩
  rw [Array.getElem?_setIfInBounds_ne (by omega)]
  exact h2 j u hu
theorem RowB.keep {w w' : World} {G n : Nat} (h : RowB w G n) (hb : w'.heap[G]? = w.heap[G]?) : RowB w' G n := by
  obtain ⟨cs, h1, h2⟩ := h
  exact ⟨cs, hb.trans h1, h2⟩
theorem RowB.op {w : World} {G n : Nat} (h : RowB w G n) (j : Nat) (hj : j < n + 70) : OpC w G ((n + j) * 6) (bh j) none 0 := by
  obtain ⟨cs, h1, h2⟩ := h
  have key : ∀ k (hk : k < 6) u, (cells6 (bh j) (.slice none 0 0))[k]? = some u → w.cell? ⟨G, (n + j) * 6 + k, none⟩ = some u := by
    intro k hk u hu
    have := h2 (6 * j + k) u (by rw [bhs_at (n + 70) j hj k hk]; exact hu)
    simp only [World.cell?, h1]
    rw [show (n + j) * 6 + k = 6 * n + (6 * j + k) by omega]
    simpa using this
  exact ⟨key 0 (by omega) _ rfl, key 1 (by omega) _ rfl, key 2 (by omega) _ rfl, key 3 (by omega) _ rfl, key 4 (by omega) _ rfl, key 5 (by omega) _ rfl⟩
theorem TL.rowB {w : World} {T : Nat} {κ : Nat → Nat} {G M : Nat} {dv : Value} {ls : List (Nat × Value)} {os : List PO} {vs : List Value} (h : TL w T κ G M dv ls os vs) : RowB w G os.length := by
  obtain ⟨cs, h1, h2⟩ := h.row
  refine ⟨cs, h1, fun j u hu => h2 _ u ?_⟩
  rw [List.getElem?_append_right (by rw [flatO_len os vs h.vl]; omega), flatO_len os vs h.vl, show 6 * os.length + j - os.length * 6 = j by omega]
  exact hu
/-- what is lent is read -/
theorem TL.rd {w : World} {T : Nat} {κ : Nat → Nat} {G M : Nat} {dv : Value} {ls : List (Nat × Value)} {os : List PO} {vs : List Value} (h : TL w T κ G M dv ls os vs) (hok : ∀ o ∈ os, okO o) (hb : ∀ o ∈ os, Pl.isB o.da) : RdO w.heap.size w (some ⟨G, 0, none⟩) os := by
  obtain ⟨cs, h1, h2⟩ := h.row
  refine ⟨hok, .inr ⟨G, 0, rfl, (Array.getElem?_eq_some_iff.1 h1).1, fun t ht => ?_⟩⟩
  obtain ⟨Gi, Mi, _, hL, hv⟩ := h.lt t ht
  have hvl := h.vl
  have key : ∀ k (hk : k < 6) u, (cells6 os[t] (vs[t]'(by omega)))[k]? = some u → w.cell? ⟨G, 0 + t * 6 + k, none⟩ = some u := by
    intro k hk u hu
    have := h2 (t * 6 + k) u (by rw [List.getElem?_append_left (by rw [flatO_len os vs hvl]; omega), flatO_at os vs hvl t ht k hk]; exact hu)
    simp only [World.cell?, h1]
    rw [Nat.zero_add]
    simpa using this
  refine ⟨some ⟨Gi, 0, none⟩, 2 * os[t].da.length + 70, ⟨key 0 (by omega) _ rfl, key 1 (by omega) _ rfl, key 2 (by omega) _ rfl, key 3 (by omega) _ rfl, key 4 (by omega) _ rfl, key 5 (by omega) _ (by rw [← hv]; rfl)⟩, hL.rd rfl (hb _ (List.getElem_mem ht)), fun e => by cases e⟩
theorem TL.below {w w' : World} {T : Nat} {κ : Nat → Nat} {G M : Nat} {dv : Value} {ls : List (Nat × Value)} {os : List PO} {vs : List Value} (h : TL w T κ G M dv ls os vs) (hb : Below w.heap.size w w') : TL w' T κ G M dv ls os vs := by
  have b : But (fun _ => False) w w' := But.of_below hb
  refine ⟨h.ts.keep b (fun _ _ h => h), h.big, h.vl, h.ll, fun i hi => (h.lt i hi).keep b (fun h => h) (fun _ _ h => h), ?_⟩
  obtain ⟨cs, h1, h2⟩ := h.row
  exact ⟨cs, (b.block G (Array.getElem?_eq_some_iff.1 h1).1 (fun h => h)).trans h1, h2⟩

/-- within Back's first loop -/
structure B1 (w0 : World) (T : Nat) (κ : Nat → Nat) (G M : Nat) (dv : Value) (ls : List (Nat × Value)) (os : List PO) (vs : List Value) (wr : World) (r : Nat) : Prop where
  ts : TS wr T κ (.slice (some ⟨G, 0, none⟩) M M) dv ls
  vl : vs.length = os.length
  ll : os.length ≤ ls.length
  lt : ∀ i (_ : r ≤ i) (h : i < os.length), Lt wr (ls[i]'(by omega)) os[i] (vs[i]'(by omega))
  row : RowB wr G os.length
  but : But (fun x => κ x ≠ 0) w0 wr
  big : 2 * os.length + 70 ≤ M
theorem TL.back {w : World} {T : Nat} {κ : Nat → Nat} {G M : Nat} {dv : Value} {ls : List (Nat × Value)} {os : List PO} {vs : List Value} (h : TL w T κ G M dv ls os vs) : B1 w T κ G M dv ls os vs w 0 := ⟨h.ts, h.vl, h.ll, fun i _ hi => h.lt i hi, h.rowB, But.refl _ _, h.big⟩
theorem B1.below {w0 : World} {T : Nat} {κ : Nat → Nat} {G M : Nat} {dv : Value} {ls : List (Nat × Value)} {os : List PO} {vs : List Value} {wr wr' : World} {r : Nat} (h : B1 w0 T κ G M dv ls os vs wr r) (hb : Below wr.heap.size wr wr') : B1 w0 T κ G M dv ls os vs wr' r := by
  have b : But (fun _ => False) wr wr' := But.of_below hb
  have hG : G < wr.heap.size := by obtain ⟨cs, h1, _⟩ := h.row; exact (Array.getElem?_eq_some_iff.1 h1).1
  exact ⟨h.ts.keep b (fun _ _ h => h), h.vl, h.ll, fun i h0 hi => (h.lt i h0 hi).keep b (fun h => h) (fun _ _ h => h), h.row.keep (b.block G hG (fun h => h)), h.but.trans (b.mono (fun _ _ h => h.elim)), h.big⟩
theorem B1.drew {w0 : World} {T : Nat} {κ : Nat → Nat} {G M : Nat} {dv : Value} {ls : List (Nat × Value)} {os : List PO} {vs : List Value} {wr : World} {r : Nat} (h : B1 w0 T κ G M dv ls os vs wr r) : B1 w0 T κ G M dv ls os vs wr.drew r := h.below (below_drew _ _)
/-- an operation of no fields but the kind -/
def putB (w : World) (G r : Nat) : World := (((((w.setCell ⟨G, r * 6, none⟩ (.int .i64 1)).setCell ⟨G, r * 6 + 1, none⟩ (.string cE)).setCell ⟨G, r * 6 + 2, none⟩ (.string cE)).setCell ⟨G, r * 6 + 3, none⟩ (.int .i64 0)).setCell ⟨G, r * 6 + 4, none⟩ (.int .i64 0)).setCell ⟨G, r * 6 + 5, none⟩ (.slice none 0 0)
theorem but_putB (w : World) (G r : Nat) : But (fun x => x = G) w (putB w G r) :=
  ((((((But.refl (fun x => x = G) w).setCell (p := ⟨G, r * 6, none⟩) rfl _).setCell (p := ⟨G, r * 6 + 1, none⟩) rfl _).setCell (p := ⟨G, r * 6 + 2, none⟩) rfl _).setCell (p := ⟨G, r * 6 + 3, none⟩) rfl _).setCell (p := ⟨G, r * 6 + 4, none⟩) rfl _).setCell (p := ⟨G, r * 6 + 5, none⟩) rfl _
/-- one round of the first loop -/
theorem B1.step {w0 : World} {T : Nat} {κ : Nat → Nat} {G M : Nat} {dv : Value} {ls : List (Nat × Value)} {os : List PO} {vs : List Value} {wr : World} {r : Nat} (h : B1 w0 T κ G M dv ls os vs wr r) (hr : r < os.length) (a : Option Addr) (c : Nat) (hn : os[r].da.length ≤ 16777216) (hR : RdN (fun x => κ x ≠ 0) wr a os[r].da.length os[r].da) :
    Calls Tryz.prog 62 #[.pointer (some ⟨(ls[r]'(by have := h.ll; omega)).1, 0, none⟩), .slice a os[r].da.length c] wr fun e w2 => e = .returned (.bool true) ∧ w2.cell? ⟨T, 0, none⟩ = some (.slice (some ⟨G, 0, none⟩) M M) ∧ (∀ k, k < 6 → ∃ u, w2.cell? ⟨G, r * 6 + k, none⟩ = some u) ∧ (∀ k, w2.frozen? ⟨G, k, none⟩ = false) ∧ B1 w0 T κ G M dv ls os vs (putB w2 G r) (r + 1) := by
  have hts := h.ts
  have hl : r < ls.length := by have := h.ll; omega
  obtain ⟨t1, t2, t3⟩ := hts.ten r hl
  obtain ⟨Gi, Mi, e, hL, hv⟩ := h.lt r (Nat.le_refl _) hr
  have kGi : κ Gi = 11 + 2 * r := t3 Gi (by rw [e]; rfl)
  refine (Back_any ls[r].1 Gi Mi a os[r].da.length c os[r].da wr hn hL (hR.mono (fun k _ hk => by rcases hk with rfl | rfl <;> omega))).mono ?_
  rintro e' w2 ⟨rfl, hS2, hb⟩
  have kG : κ G = 2 ∧ ∃ cs, wr.heap[G]? = some (.cells cs 29 (0, 0)) ∧ cs.size = 6 * M := by
    rcases hts.lst with e | ⟨G', M', cs, e1, e2, e3, e4, _⟩
    · cases e
    · simp only [Value.slice.injEq, Option.some.injEq, Addr.mk.injEq] at e1
      obtain ⟨⟨rfl, _, _⟩, rfl, _⟩ := e1
      exact ⟨e2, cs, e3, e4⟩
  obtain ⟨kG, cs, hcs, hsz⟩ := kG
  have nG : G ≠ Gi := fun e => by rw [e] at kG; omega
  have hG2 : w2.heap[G]? = some (.cells cs 29 (0, 0)) := (hb.block G (Array.getElem?_eq_some_iff.1 hcs).1 nG).trans hcs
  have ts2 : TS w2 T κ (.slice (some ⟨G, 0, none⟩) M M) dv ls := by
    refine ⟨(hb.block T hts.lt (fun e => by have := hts.kT; rw [e] at this; omega)).trans hts.blk, hts.kT, fun x hx => hts.cut x (Nat.le_trans hb.size hx), .inr ⟨G, M, cs, rfl, kG, hG2, hsz, ?_⟩, own_keep hts.dat fun g hg => hb.block g (own_blk hts.dat hg).2.1 (fun e => by have := hts.dk g hg; rw [e] at this; omega), hts.dk, fun j hj => ?_⟩
    · rcases hts.lform with e | ⟨G', M', e1, e2⟩
      · cases e
      · simp only [Value.slice.injEq] at e1
        omega
    · obtain ⟨q1, q2, q3⟩ := hts.ten j hj
      by_cases ej : j = r
      · subst ej
        refine ⟨q1, ?_, q3⟩
        rw [e]
        exact hS2
      · refine ⟨q1, q2.but hb (fun x hx ex => ?_), q3⟩
        subst ex
        rcases hx with rfl | hx
        · omega
        · have := q3 x hx; omega
  have b6 := but_putB w2 G r
  have rb : RowB w2 G os.length := h.row.keep (hb.block G (Array.getElem?_eq_some_iff.1 hcs).1 nG)
  refine ⟨rfl, ts2.cell0, fun k hk => ?_, fun k => by simp [World.frozen?, hG2], ⟨(((((ts2.setL _ _).setL _ _).setL _ _).setL _ _).setL _ _).setL _ _, h.vl, h.ll, fun i hi0 hi => ?_, (((((rb.set _ (by omega) _).set _ (by omega) _).set _ (by omega) _).set _ (by omega) _).set _ (by omega) _).set _ (by omega) _, (h.but.trans (hb.mono (fun x _ e => by rw [e]; omega))).trans (b6.mono (fun x _ e => by rw [e]; omega)), h.big⟩⟩
  · have hb' := h.big
    simp only [World.cell?, hG2]
    exact ⟨cs[r * 6 + k]'(by omega), by simp [show r * 6 + k < cs.size by omega]⟩
  · have hil : i < ls.length := by have := h.ll; omega
    obtain ⟨q1, q2, q3⟩ := hts.ten i hil
    exact ((h.lt i (by omega) hi).keep hb (fun ex => by rw [ex] at q1; omega) (fun g hg ex => by have := q3 g hg; rw [ex] at this; omega)).keep b6 (fun ex => by rw [ex] at q1; omega) (fun g hg ex => by have := q3 g hg; rw [ex] at this; omega)

end Go.Proofs.YthkkdmblkalknaaGreatDoor
