/-
  The document's bad, its heap in memory, ready.
-/
import Derived.Test.YtajnokkmpjdliaaRf0
namespace Go.Proofs.Ytajnokkmpjdliaa
open Go.RowKit

structure Hm (W : World) (Hb lb eb tb ib xb n m : Nat) (ls fw lt fs nx : List Int) : Prop where
  box : W.heap[Hb]? = some (.cells #[.slice (some ⟨lb, 0, none⟩) n n, .slice (some ⟨eb, 0, none⟩) (n / 64 + 1) (n / 64 + 1), .slice (some ⟨tb, 0, none⟩) (n / 4096 + 1) (n / 4096 + 1), .slice (some ⟨ib, 0, none⟩) n n, .slice (some ⟨xb, 0, none⟩) m m] 53 (0, 0))
  l : Blk W lb ls
  f : Blk W eb fw
  t : Blk W tb lt
  i : Blk W ib fs
  x : Blk W xb nx
  ne : (lb ≠ eb ∧ lb ≠ tb ∧ lb ≠ ib ∧ lb ≠ xb) ∧ (eb ≠ tb ∧ eb ≠ ib ∧ eb ≠ xb) ∧ (tb ≠ ib ∧ tb ≠ xb) ∧ ib ≠ xb
section
variable {W W' : World} {Hb lb eb tb ib xb n m : Nat} {ls fw lt fs nx : List Int}
theorem Hm.blt (h : Hm W Hb lb eb tb ib xb n m ls fw lt fs nx) : Hb < W.heap.size := (Array.getElem?_eq_some_iff.1 h.box).1
theorem Hm.bne (h : Hm W Hb lb eb tb ib xb n m ls fw lt fs nx) {g : Nat} {zs : List Int} (hg : Blk W g zs) : Hb ≠ g := fun e => by
  have h1 := h.box
  unfold Blk at hg
  rw [e, hg] at h1
  simp at h1
theorem Hm.cells (h : Hm W Hb lb eb tb ib xb n m ls fw lt fs nx) : W.cell? ⟨Hb, 0, none⟩ = some (.slice (some ⟨lb, 0, none⟩) n n) ∧ W.cell? ⟨Hb, 1, none⟩ = some (.slice (some ⟨eb, 0, none⟩) (n / 64 + 1) (n / 64 + 1)) ∧ W.cell? ⟨Hb, 2, none⟩ = some (.slice (some ⟨tb, 0, none⟩) (n / 4096 + 1) (n / 4096 + 1)) ∧ W.cell? ⟨Hb, 3, none⟩ = some (.slice (some ⟨ib, 0, none⟩) n n) ∧ W.cell? ⟨Hb, 4, none⟩ = some (.slice (some ⟨xb, 0, none⟩) m m) := by
  have := h.box
  simp [World.cell?, this]
theorem Hm.but (h : Hm W Hb lb eb tb ib xb n m ls fw lt fs nx) {X : Nat → Prop} (hb : But X W W') (h0 : ¬ X Hb) (h1 : ¬ X lb) (h2 : ¬ X eb) (h3 : ¬ X tb) (h4 : ¬ X ib) (h5 : ¬ X xb) : Hm W' Hb lb eb tb ib xb n m ls fw lt fs nx :=
  ⟨(hb.block _ h.blt h0).trans h.box, h.l.but hb h1, h.f.but hb h2, h.t.but hb h3, h.i.but hb h4, h.x.but hb h5, h.ne⟩
theorem Hm.next (h : Hm W Hb lb eb tb ib xb n m ls fw lt fs nx) (hb : Below W.heap.size W W') : Hm W' Hb lb eb tb ib xb n m ls fw lt fs nx :=
  h.but (But.of_below (X := fun _ => False) hb) (fun e => e) (fun e => e) (fun e => e) (fun e => e) (fun e => e) (fun e => e)
theorem but_cell (W : World) (g t : Nat) (v : Value) : But (fun k => k = g) W (W.setCell ⟨g, t, none⟩ v) := (But.refl (fun k => k = g) W).setCell (p := ⟨g, t, none⟩) rfl _
theorem Hm.setL (h : Hm W Hb lb eb tb ib xb n m ls fw lt fs nx) (t : Nat) (v : Int) : Hm (W.setCell ⟨lb, t, none⟩ (.int .i64 v)) Hb lb eb tb ib xb n m (ls.set t v) fw lt fs nx := by
  obtain ⟨⟨n1, n2, n3, n4⟩, ⟨n5, n6, n7⟩, ⟨n8, n9⟩, n10⟩ := h.ne
  have hb := but_cell W lb t (.int .i64 v)
  exact ⟨(hb.block _ h.blt (h.bne h.l)).trans h.box, h.l.set t v, h.f.but hb n1.symm, h.t.but hb n2.symm, h.i.but hb n3.symm, h.x.but hb n4.symm, h.ne⟩
theorem Hm.setF (h : Hm W Hb lb eb tb ib xb n m ls fw lt fs nx) (t : Nat) (v : Int) : Hm (W.setCell ⟨eb, t, none⟩ (.int .i64 v)) Hb lb eb tb ib xb n m ls (fw.set t v) lt fs nx := by
  obtain ⟨⟨n1, n2, n3, n4⟩, ⟨n5, n6, n7⟩, ⟨n8, n9⟩, n10⟩ := h.ne
  have hb := but_cell W eb t (.int .i64 v)
  exact ⟨(hb.block _ h.blt (h.bne h.f)).trans h.box, h.l.but hb n1, h.f.set t v, h.t.but hb n5.symm, h.i.but hb n6.symm, h.x.but hb n7.symm, h.ne⟩
theorem Hm.setT (h : Hm W Hb lb eb tb ib xb n m ls fw lt fs nx) (t : Nat) (v : Int) : Hm (W.setCell ⟨tb, t, none⟩ (.int .i64 v)) Hb lb eb tb ib xb n m ls fw (lt.set t v) fs nx := by
  obtain ⟨⟨n1, n2, n3, n4⟩, ⟨n5, n6, n7⟩, ⟨n8, n9⟩, n10⟩ := h.ne
  have hb := but_cell W tb t (.int .i64 v)
  exact ⟨(hb.block _ h.blt (h.bne h.t)).trans h.box, h.l.but hb n2, h.f.but hb n5, h.t.set t v, h.i.but hb n8.symm, h.x.but hb n9.symm, h.ne⟩
theorem Hm.setI (h : Hm W Hb lb eb tb ib xb n m ls fw lt fs nx) (t : Nat) (v : Int) : Hm (W.setCell ⟨ib, t, none⟩ (.int .i64 v)) Hb lb eb tb ib xb n m ls fw lt (fs.set t v) nx := by
  obtain ⟨⟨n1, n2, n3, n4⟩, ⟨n5, n6, n7⟩, ⟨n8, n9⟩, n10⟩ := h.ne
  have hb := but_cell W ib t (.int .i64 v)
  exact ⟨(hb.block _ h.blt (h.bne h.i)).trans h.box, h.l.but hb n3, h.f.but hb n6, h.t.but hb n8, h.i.set t v, h.x.but hb n10.symm, h.ne⟩
theorem Hm.setX (h : Hm W Hb lb eb tb ib xb n m ls fw lt fs nx) (t : Nat) (v : Int) : Hm (W.setCell ⟨xb, t, none⟩ (.int .i64 v)) Hb lb eb tb ib xb n m ls fw lt fs (nx.set t v) := by
  obtain ⟨⟨n1, n2, n3, n4⟩, ⟨n5, n6, n7⟩, ⟨n8, n9⟩, n10⟩ := h.ne
  have hb := but_cell W xb t (.int .i64 v)
  exact ⟨(hb.block _ h.blt (h.bne h.x)).trans h.box, h.l.but hb n4, h.f.but hb n7, h.t.but hb n9, h.i.but hb n10, h.x.set t v, h.ne⟩
end

/-- what ready leaves -/
def RyQ (Hb lb eb tb ib xb n m : Nat) (ls fw lt fs nx : List Int) (x : Nat) (k : Int) (w : World) (e : Ending) (w' : World) : Prop := e = .returned (.tuple #[]) ∧ Hm w' Hb lb eb tb ib xb n m ls (fw.set (x / 64) (gt fw (x / 64) + k)) (lt.set (x / 4096) (gt lt (x / 4096) + k)) fs nx ∧ But (fun y => y = eb ∨ y = tb) w w'
theorem wrN (b : Nat) (h : b ≤ 2097152) : IntKind.i64.wrap (b : Int) = (b : Int) := iw64 _ (by omega)
theorem add_wr (u k : Int) (h : 0 ≤ u ∧ u ≤ 1048576) (hk : -1 ≤ k ∧ k ≤ 1) : IntKind.i64.wrap (u + k) = u + k := iw64 _ (by omega)

set_option maxRecDepth 100000 in
set_option maxHeartbeats 2000000 in
theorem ready_any (Hb lb eb tb ib xb n m x : Nat) (ls fw lt fs nx : List Int) (k : Int) (hk : -1 ≤ k ∧ k ≤ 1) (hx : x < n) (hn : n ≤ 1048576) (w : World) (h : Hm w Hb lb eb tb ib xb n m ls fw lt fs nx) (hf : fw.length = n / 64 + 1) (ht : lt.length = n / 4096 + 1)
    (h1 : 0 ≤ gt fw (x / 64) ∧ gt fw (x / 64) ≤ 1048576) (h2 : 0 ≤ gt lt (x / 4096) ∧ gt lt (x / 4096) ≤ 1048576) :
    Calls Try.prog 27 #[.pointer (some ⟨Hb, 0, none⟩), .int .i64 (x : Int), .int .i64 k] w (RyQ Hb lb eb tb ib xb n m ls fw lt fs nx x k w) := by
  obtain ⟨PO, hPO⟩ : ∃ PO, PO = RyQ Hb lb eb tb ib xb n m ls fw lt fs nx x k w := ⟨_, rfl⟩
  rw [← hPO]
  obtain ⟨b, hb⟩ : ∃ b, b = x / 64 := ⟨_, rfl⟩
  obtain ⟨d, hd⟩ : ∃ d, d = x / 4096 := ⟨_, rfl⟩
  have hq1 : (x : Int).tdiv 64 = (b : Int) := by rw [Int.tdiv_eq_ediv_of_nonneg (by omega)]; omega
  have hq2 : (x : Int).tdiv 4096 = (d : Int) := by rw [Int.tdiv_eq_ediv_of_nonneg (by omega)]; omega
  have hq3 : (x : Int) / 64 = (b : Int) := by omega
  have hq4 : (x : Int) / 4096 = (d : Int) := by omega
  rw [← hb] at h1
  rw [← hd] at h2
  obtain ⟨u, hu⟩ : ∃ u, u = gt fw b := ⟨_, rfl⟩
  obtain ⟨v, hv⟩ : ∃ v, v = gt lt d := ⟨_, rfl⟩
  rw [← hu] at h1
  rw [← hv] at h2
  obtain ⟨p1, hp1⟩ : ∃ p1, p1 = n / 64 + 1 := ⟨_, rfl⟩
  obtain ⟨p2, hp2⟩ : ∃ p2, p2 = n / 4096 + 1 := ⟨_, rfl⟩
  have qb : (b : Int) < (p1 : Int) := by omega
  have qd : (d : Int) < (p2 : Int) := by omega
  have qb0 : ¬ (b : Int) < 0 := by omega
  have qd0 : ¬ (d : Int) < 0 := by omega
  have e3 := wrN b (by omega)
  have e4 := wrN d (by omega)
  have e1 := add_wr u k h1 hk
  have e2 := add_wr v k h2 hk
  obtain ⟨u1, hu1⟩ : ∃ u1, u1 = (w.setCell ⟨eb, b, none⟩ (.int .i64 (u + k))).drew := ⟨_, rfl⟩
  obtain ⟨u2, hu2⟩ : ∃ u2, u2 = (u1.setCell ⟨tb, d, none⟩ (.int .i64 (v + k))).drew := ⟨_, rfl⟩
  have hH1 : Hm u1 Hb lb eb tb ib xb n m ls (fw.set b (u + k)) lt fs nx := by rw [hu1]; exact (h.setF b (u + k)).next (below_drew _ _)
  have hH2 : Hm u2 Hb lb eb tb ib xb n m ls (fw.set b (u + k)) (lt.set d (v + k)) fs nx := by rw [hu2]; exact (hH1.setT d (v + k)).next (below_drew _ _)
  have cb : w.cell? ⟨eb, b, none⟩ = some (.int .i64 u) := by rw [hu]; exact h.f.cell b (by omega)
  have cd : u1.cell? ⟨tb, d, none⟩ = some (.int .i64 v) := by rw [hv]; exact hH1.t.cell d (by omega)
  have fb := h.f.frozen b
  have fd := hH1.t.frozen d
  have HS0 : Hid ((fun y => y.cell? ⟨Hb, 1, none⟩ = some (.slice (some ⟨eb, 0, none⟩) p1 p1) ∧ y.cell? ⟨eb, b, none⟩ = some (.int .i64 u)) w.drew) := ⟨by rw [hp1]; exact h.cells.2.1, cb⟩
  have HS1 : Hid ((fun y => y.cell? ⟨Hb, 2, none⟩ = some (.slice (some ⟨tb, 0, none⟩) p2 p2) ∧ y.cell? ⟨tb, d, none⟩ = some (.int .i64 v)) u1.drew) := ⟨by rw [hp2]; exact hH1.cells.2.2.1, cd⟩
  have HEnd : Hid (PO (.returned (.tuple #[])) u2) := by
    unfold Hid
    rw [hPO]
    refine ⟨rfl, by rw [← hb, ← hd, ← hu, ← hv]; exact hH2, ?_⟩
    have b1 : But (fun y => y = eb ∨ y = tb) w u1 := by rw [hu1]; exact ((but_cell w eb b _).mono fun _ _ e => .inl e).drew
    have b2 : But (fun y => y = eb ∨ y = tb) u1 u2 := by rw [hu2]; exact ((but_cell u1 tb d _).mono fun _ _ e => .inr e).drew
    exact b1.trans b2
  have HU1 := hid hu1
  have HU2 := hid hu2
  clear h hH1 hH2 hu1 hu2 hPO hb hd hu hv hp1 hp2 hf ht h1 h2 hk hx
  go_enter Try.func27, Try.ntmps27
  go_wp2_with fail
  refine wp_region_last (S := (fun y => y.cell? ⟨Hb, 1, none⟩ = some (.slice (some ⟨eb, 0, none⟩) p1 p1) ∧ y.cell? ⟨eb, b, none⟩ = some (.int .i64 u))) 17 17 (by kernel_rfl) (by kernel_rfl) (by kernel_rfl) HS0.out (fun hSS => ?_)
  refine wpAnyH_take (i := 0) (oi := ({ dst := some 6, op := Op.move (Operand.tmp 0), type := 49, pos := _, after := _, guard := none } : Oper)) (v := ?_) rfl (by kernel_rfl) (by kernel_rfl) (by kernel_rfl) (fun _ _ _ h => h) (Or.inl ⟨by rfl, ?_⟩) hSS ?_
  rotate_left
  · intro w9 hSw
    (try dsimp only at hSw)
    (try go_split_ands)
    first | (go_simp; done) | (go_simp; with_reducible rfl)
  try simp only [Act.put, List.setIfInBounds_toArray, List.set_cons_zero, List.set_cons_succ]
  refine wpAnyH_take (i := 1) (oi := ({ dst := some 7, op := Op.nilCheck (Operand.tmp 6), type := 0, pos := _, after := _, guard := none } : Oper)) (v := ?_) rfl (by kernel_rfl) (by kernel_rfl) (by kernel_rfl) (fun _ _ _ h => h) (Or.inl ⟨by rfl, ?_⟩) hSS ?_
  rotate_left
  · intro w9 hSw
    (try dsimp only at hSw)
    (try go_split_ands)
    first | (go_simp; done) | (go_simp; with_reducible rfl)
  try simp only [Act.put, List.setIfInBounds_toArray, List.set_cons_zero, List.set_cons_succ]
  refine wpAnyH_take (i := 2) (oi := ({ dst := some 8, op := Op.fieldAddr 53 (Operand.tmp 7) 1, type := 0, pos := _, after := _, guard := none } : Oper)) (v := ?_) rfl (by kernel_rfl) (by kernel_rfl) (by kernel_rfl) (fun _ _ _ h => h) (Or.inl ⟨by rfl, ?_⟩) hSS ?_
  rotate_left
  · intro w9 hSw
    (try dsimp only at hSw)
    (try go_split_ands)
    first | (go_simp; done) | (go_simp; with_reducible rfl)
  try simp only [Act.put, List.setIfInBounds_toArray, List.set_cons_zero, List.set_cons_succ]
  refine wpAnyH_take (i := 3) (oi := ({ dst := some 9, op := Op.load 23 (Operand.tmp 8), type := 23, pos := _, after := _, guard := none } : Oper)) (v := ?_) rfl (by kernel_rfl) (by kernel_rfl) (by kernel_rfl) (fun _ _ _ h => h) (Or.inl ⟨by rfl, ?_⟩) hSS ?_
  rotate_left
  · intro w9 hSw
    (try dsimp only at hSw)
    (try go_split_ands)
    first | (go_simp; done) | (go_simp; with_reducible rfl)
  try simp only [Act.put, List.setIfInBounds_toArray, List.set_cons_zero, List.set_cons_succ]
  refine wpAnyH_take (i := 4) (oi := ({ dst := some 10, op := Op.move (Operand.tmp 1), type := 3, pos := _, after := _, guard := none } : Oper)) (v := ?_) rfl (by kernel_rfl) (by kernel_rfl) (by kernel_rfl) (fun _ _ _ h => h) (Or.inl ⟨by rfl, ?_⟩) hSS ?_
  rotate_left
  · intro w9 hSw
    (try dsimp only at hSw)
    (try go_split_ands)
    first | (go_simp; done) | (go_simp; with_reducible rfl)
  try simp only [Act.put, List.setIfInBounds_toArray, List.set_cons_zero, List.set_cons_succ]
  refine wpAnyH_take (i := 5) (oi := ({ dst := some 11, op := Op.binOp BinOp.quo 3 (Operand.tmp 10) (Operand.const (Value.int IntKind.i64 64)) 3, type := 3, pos := _, after := _, guard := none } : Oper)) (v := ?_) rfl (by kernel_rfl) (by kernel_rfl) (by kernel_rfl) (fun _ _ _ h => h) (Or.inl ⟨by rfl, ?_⟩) hSS ?_
  rotate_left
  · intro w9 hSw
    (try dsimp only at hSw)
    (try go_split_ands)
    first | (go_simp; done) | (go_simp; with_reducible rfl)
  try simp only [Act.put, List.setIfInBounds_toArray, List.set_cons_zero, List.set_cons_succ]
  refine wpAnyH_take (i := 6) (oi := ({ dst := some 12, op := Op.move (Operand.tmp 0), type := 49, pos := _, after := _, guard := none } : Oper)) (v := ?_) rfl (by kernel_rfl) (by kernel_rfl) (by kernel_rfl) (fun _ _ _ h => h) (Or.inl ⟨by rfl, ?_⟩) hSS ?_
  rotate_left
  · intro w9 hSw
    (try dsimp only at hSw)
    (try go_split_ands)
    first | (go_simp; done) | (go_simp; with_reducible rfl)
  try simp only [Act.put, List.setIfInBounds_toArray, List.set_cons_zero, List.set_cons_succ]
  refine wpAnyH_take (i := 7) (oi := ({ dst := some 13, op := Op.nilCheck (Operand.tmp 12), type := 0, pos := _, after := _, guard := none } : Oper)) (v := ?_) rfl (by kernel_rfl) (by kernel_rfl) (by kernel_rfl) (fun _ _ _ h => h) (Or.inl ⟨by rfl, ?_⟩) hSS ?_
  rotate_left
  · intro w9 hSw
    (try dsimp only at hSw)
    (try go_split_ands)
    first | (go_simp; done) | (go_simp; with_reducible rfl)
  try simp only [Act.put, List.setIfInBounds_toArray, List.set_cons_zero, List.set_cons_succ]
  refine wpAnyH_take (i := 8) (oi := ({ dst := some 14, op := Op.fieldAddr 53 (Operand.tmp 13) 1, type := 0, pos := _, after := _, guard := none } : Oper)) (v := ?_) rfl (by kernel_rfl) (by kernel_rfl) (by kernel_rfl) (fun _ _ _ h => h) (Or.inl ⟨by rfl, ?_⟩) hSS ?_
  rotate_left
  · intro w9 hSw
    (try dsimp only at hSw)
    (try go_split_ands)
    first | (go_simp; done) | (go_simp; with_reducible rfl)
  try simp only [Act.put, List.setIfInBounds_toArray, List.set_cons_zero, List.set_cons_succ]
  refine wpAnyH_take (i := 9) (oi := ({ dst := some 15, op := Op.load 23 (Operand.tmp 14), type := 23, pos := _, after := _, guard := none } : Oper)) (v := ?_) rfl (by kernel_rfl) (by kernel_rfl) (by kernel_rfl) (fun _ _ _ h => h) (Or.inl ⟨by rfl, ?_⟩) hSS ?_
  rotate_left
  · intro w9 hSw
    (try dsimp only at hSw)
    (try go_split_ands)
    first | (go_simp; done) | (go_simp; with_reducible rfl)
  try simp only [Act.put, List.setIfInBounds_toArray, List.set_cons_zero, List.set_cons_succ]
  refine wpAnyH_take (i := 10) (oi := ({ dst := some 16, op := Op.move (Operand.tmp 1), type := 3, pos := _, after := _, guard := none } : Oper)) (v := ?_) rfl (by kernel_rfl) (by kernel_rfl) (by kernel_rfl) (fun _ _ _ h => h) (Or.inl ⟨by rfl, ?_⟩) hSS ?_
  rotate_left
  · intro w9 hSw
    (try dsimp only at hSw)
    (try go_split_ands)
    first | (go_simp; done) | (go_simp; with_reducible rfl)
  try simp only [Act.put, List.setIfInBounds_toArray, List.set_cons_zero, List.set_cons_succ]
  refine wpAnyH_take (i := 11) (oi := ({ dst := some 17, op := Op.binOp BinOp.quo 3 (Operand.tmp 16) (Operand.const (Value.int IntKind.i64 64)) 3, type := 3, pos := _, after := _, guard := none } : Oper)) (v := ?_) rfl (by kernel_rfl) (by kernel_rfl) (by kernel_rfl) (fun _ _ _ h => h) (Or.inl ⟨by rfl, ?_⟩) hSS ?_
  rotate_left
  · intro w9 hSw
    (try dsimp only at hSw)
    (try go_split_ands)
    first | (go_simp; done) | (go_simp; with_reducible rfl)
  try simp only [Act.put, List.setIfInBounds_toArray, List.set_cons_zero, List.set_cons_succ]
  refine wpAnyH_take (i := 12) (oi := ({ dst := some 18, op := Op.indexAddr 23 (Operand.tmp 15) (Operand.tmp 17), type := 0, pos := _, after := _, guard := none } : Oper)) (v := ?_) rfl (by kernel_rfl) (by kernel_rfl) (by kernel_rfl) (fun _ _ _ h => h) (Or.inl ⟨by rfl, ?_⟩) hSS ?_
  rotate_left
  · intro w9 hSw
    (try dsimp only at hSw)
    (try go_split_ands)
    first | (go_simp; done) | (go_simp; with_reducible rfl)
  try simp only [Act.put, List.setIfInBounds_toArray, List.set_cons_zero, List.set_cons_succ]
  refine wpAnyH_take (i := 13) (oi := ({ dst := some 19, op := Op.load 3 (Operand.tmp 18), type := 3, pos := _, after := _, guard := none } : Oper)) (v := ?_) rfl (by kernel_rfl) (by kernel_rfl) (by kernel_rfl) (fun _ _ _ h => h) (Or.inl ⟨by rfl, ?_⟩) hSS ?_
  rotate_left
  · intro w9 hSw
    (try dsimp only at hSw)
    (try go_split_ands)
    first | (go_simp; done) | (go_simp; with_reducible rfl)
  try simp only [Act.put, List.setIfInBounds_toArray, List.set_cons_zero, List.set_cons_succ]
  refine wpAnyH_take (i := 14) (oi := ({ dst := some 20, op := Op.move (Operand.tmp 2), type := 3, pos := _, after := _, guard := none } : Oper)) (v := ?_) rfl (by kernel_rfl) (by kernel_rfl) (by kernel_rfl) (fun _ _ _ h => h) (Or.inl ⟨by rfl, ?_⟩) hSS ?_
  rotate_left
  · intro w9 hSw
    (try dsimp only at hSw)
    (try go_split_ands)
    first | (go_simp; done) | (go_simp; with_reducible rfl)
  try simp only [Act.put, List.setIfInBounds_toArray, List.set_cons_zero, List.set_cons_succ]
  refine wpAnyH_take (i := 15) (oi := ({ dst := some 21, op := Op.binOp BinOp.add 3 (Operand.tmp 19) (Operand.tmp 20) 3, type := 3, pos := _, after := _, guard := none } : Oper)) (v := ?_) rfl (by kernel_rfl) (by kernel_rfl) (by kernel_rfl) (fun _ _ _ h => h) (Or.inl ⟨by rfl, ?_⟩) hSS ?_
  rotate_left
  · intro w9 hSw
    (try dsimp only at hSw)
    (try go_split_ands)
    first | (go_simp; done) | (go_simp; with_reducible rfl)
  try simp only [Act.put, List.setIfInBounds_toArray, List.set_cons_zero, List.set_cons_succ]
  refine wpAnyH_take (i := 16) (oi := ({ dst := some 22, op := Op.indexAddr 23 (Operand.tmp 9) (Operand.tmp 11), type := 0, pos := _, after := _, guard := none } : Oper)) (v := ?_) rfl (by kernel_rfl) (by kernel_rfl) (by kernel_rfl) (fun _ _ _ h => h) (Or.inl ⟨by rfl, ?_⟩) hSS ?_
  rotate_left
  · intro w9 hSw
    (try dsimp only at hSw)
    (try go_split_ands)
    first | (go_simp; done) | (go_simp; with_reducible rfl)
  try simp only [Act.put, List.setIfInBounds_toArray, List.set_cons_zero, List.set_cons_succ]
  refine wpAnyH_done (by kernel_rfl) ?_ _
  refine last_step (L := 17) (o := ({ dst := none, op := Op.store 3 (Operand.tmp 22) (Operand.tmp 21), type := 0, pos := _, after := _, guard := none } : Oper)) rfl (fun K9 hK9 => ?_)
  go_simp
  refine hK9.out _ _ ?_
  clear hK9 K9
  try simp only [Act.put, List.setIfInBounds_toArray, List.set_cons_zero, List.set_cons_succ]
  rw [← HU1.out]
  go_wp2_with fail
  refine wp_region_last (S := (fun y => y.cell? ⟨Hb, 2, none⟩ = some (.slice (some ⟨tb, 0, none⟩) p2 p2) ∧ y.cell? ⟨tb, d, none⟩ = some (.int .i64 v))) 17 17 (by kernel_rfl) (by kernel_rfl) (by kernel_rfl) HS1.out (fun hSS => ?_)
  refine wpAnyH_take (i := 0) (oi := ({ dst := some 23, op := Op.move (Operand.tmp 0), type := 49, pos := _, after := _, guard := none } : Oper)) (v := ?_) rfl (by kernel_rfl) (by kernel_rfl) (by kernel_rfl) (fun _ _ _ h => h) (Or.inl ⟨by rfl, ?_⟩) hSS ?_
  rotate_left
  · intro w9 hSw
    (try dsimp only at hSw)
    (try go_split_ands)
    first | (go_simp; done) | (go_simp; with_reducible rfl)
  try simp only [Act.put, List.setIfInBounds_toArray, List.set_cons_zero, List.set_cons_succ]
  refine wpAnyH_take (i := 1) (oi := ({ dst := some 24, op := Op.nilCheck (Operand.tmp 23), type := 0, pos := _, after := _, guard := none } : Oper)) (v := ?_) rfl (by kernel_rfl) (by kernel_rfl) (by kernel_rfl) (fun _ _ _ h => h) (Or.inl ⟨by rfl, ?_⟩) hSS ?_
  rotate_left
  · intro w9 hSw
    (try dsimp only at hSw)
    (try go_split_ands)
    first | (go_simp; done) | (go_simp; with_reducible rfl)
  try simp only [Act.put, List.setIfInBounds_toArray, List.set_cons_zero, List.set_cons_succ]
  refine wpAnyH_take (i := 2) (oi := ({ dst := some 25, op := Op.fieldAddr 53 (Operand.tmp 24) 2, type := 0, pos := _, after := _, guard := none } : Oper)) (v := ?_) rfl (by kernel_rfl) (by kernel_rfl) (by kernel_rfl) (fun _ _ _ h => h) (Or.inl ⟨by rfl, ?_⟩) hSS ?_
  rotate_left
  · intro w9 hSw
    (try dsimp only at hSw)
    (try go_split_ands)
    first | (go_simp; done) | (go_simp; with_reducible rfl)
  try simp only [Act.put, List.setIfInBounds_toArray, List.set_cons_zero, List.set_cons_succ]
  refine wpAnyH_take (i := 3) (oi := ({ dst := some 26, op := Op.load 23 (Operand.tmp 25), type := 23, pos := _, after := _, guard := none } : Oper)) (v := ?_) rfl (by kernel_rfl) (by kernel_rfl) (by kernel_rfl) (fun _ _ _ h => h) (Or.inl ⟨by rfl, ?_⟩) hSS ?_
  rotate_left
  · intro w9 hSw
    (try dsimp only at hSw)
    (try go_split_ands)
    first | (go_simp; done) | (go_simp; with_reducible rfl)
  try simp only [Act.put, List.setIfInBounds_toArray, List.set_cons_zero, List.set_cons_succ]
  refine wpAnyH_take (i := 4) (oi := ({ dst := some 27, op := Op.move (Operand.tmp 1), type := 3, pos := _, after := _, guard := none } : Oper)) (v := ?_) rfl (by kernel_rfl) (by kernel_rfl) (by kernel_rfl) (fun _ _ _ h => h) (Or.inl ⟨by rfl, ?_⟩) hSS ?_
  rotate_left
  · intro w9 hSw
    (try dsimp only at hSw)
    (try go_split_ands)
    first | (go_simp; done) | (go_simp; with_reducible rfl)
  try simp only [Act.put, List.setIfInBounds_toArray, List.set_cons_zero, List.set_cons_succ]
  refine wpAnyH_take (i := 5) (oi := ({ dst := some 28, op := Op.binOp BinOp.quo 3 (Operand.tmp 27) (Operand.const (Value.int IntKind.i64 4096)) 3, type := 3, pos := _, after := _, guard := none } : Oper)) (v := ?_) rfl (by kernel_rfl) (by kernel_rfl) (by kernel_rfl) (fun _ _ _ h => h) (Or.inl ⟨by rfl, ?_⟩) hSS ?_
  rotate_left
  · intro w9 hSw
    (try dsimp only at hSw)
    (try go_split_ands)
    first | (go_simp; done) | (go_simp; with_reducible rfl)
  try simp only [Act.put, List.setIfInBounds_toArray, List.set_cons_zero, List.set_cons_succ]
  refine wpAnyH_take (i := 6) (oi := ({ dst := some 29, op := Op.move (Operand.tmp 0), type := 49, pos := _, after := _, guard := none } : Oper)) (v := ?_) rfl (by kernel_rfl) (by kernel_rfl) (by kernel_rfl) (fun _ _ _ h => h) (Or.inl ⟨by rfl, ?_⟩) hSS ?_
  rotate_left
  · intro w9 hSw
    (try dsimp only at hSw)
    (try go_split_ands)
    first | (go_simp; done) | (go_simp; with_reducible rfl)
  try simp only [Act.put, List.setIfInBounds_toArray, List.set_cons_zero, List.set_cons_succ]
  refine wpAnyH_take (i := 7) (oi := ({ dst := some 30, op := Op.nilCheck (Operand.tmp 29), type := 0, pos := _, after := _, guard := none } : Oper)) (v := ?_) rfl (by kernel_rfl) (by kernel_rfl) (by kernel_rfl) (fun _ _ _ h => h) (Or.inl ⟨by rfl, ?_⟩) hSS ?_
  rotate_left
  · intro w9 hSw
    (try dsimp only at hSw)
    (try go_split_ands)
    first | (go_simp; done) | (go_simp; with_reducible rfl)
  try simp only [Act.put, List.setIfInBounds_toArray, List.set_cons_zero, List.set_cons_succ]
  refine wpAnyH_take (i := 8) (oi := ({ dst := some 31, op := Op.fieldAddr 53 (Operand.tmp 30) 2, type := 0, pos := _, after := _, guard := none } : Oper)) (v := ?_) rfl (by kernel_rfl) (by kernel_rfl) (by kernel_rfl) (fun _ _ _ h => h) (Or.inl ⟨by rfl, ?_⟩) hSS ?_
  rotate_left
  · intro w9 hSw
    (try dsimp only at hSw)
    (try go_split_ands)
    first | (go_simp; done) | (go_simp; with_reducible rfl)
  try simp only [Act.put, List.setIfInBounds_toArray, List.set_cons_zero, List.set_cons_succ]
  refine wpAnyH_take (i := 9) (oi := ({ dst := some 32, op := Op.load 23 (Operand.tmp 31), type := 23, pos := _, after := _, guard := none } : Oper)) (v := ?_) rfl (by kernel_rfl) (by kernel_rfl) (by kernel_rfl) (fun _ _ _ h => h) (Or.inl ⟨by rfl, ?_⟩) hSS ?_
  rotate_left
  · intro w9 hSw
    (try dsimp only at hSw)
    (try go_split_ands)
    first | (go_simp; done) | (go_simp; with_reducible rfl)
  try simp only [Act.put, List.setIfInBounds_toArray, List.set_cons_zero, List.set_cons_succ]
  refine wpAnyH_take (i := 10) (oi := ({ dst := some 33, op := Op.move (Operand.tmp 1), type := 3, pos := _, after := _, guard := none } : Oper)) (v := ?_) rfl (by kernel_rfl) (by kernel_rfl) (by kernel_rfl) (fun _ _ _ h => h) (Or.inl ⟨by rfl, ?_⟩) hSS ?_
  rotate_left
  · intro w9 hSw
    (try dsimp only at hSw)
    (try go_split_ands)
    first | (go_simp; done) | (go_simp; with_reducible rfl)
  try simp only [Act.put, List.setIfInBounds_toArray, List.set_cons_zero, List.set_cons_succ]
  refine wpAnyH_take (i := 11) (oi := ({ dst := some 34, op := Op.binOp BinOp.quo 3 (Operand.tmp 33) (Operand.const (Value.int IntKind.i64 4096)) 3, type := 3, pos := _, after := _, guard := none } : Oper)) (v := ?_) rfl (by kernel_rfl) (by kernel_rfl) (by kernel_rfl) (fun _ _ _ h => h) (Or.inl ⟨by rfl, ?_⟩) hSS ?_
  rotate_left
  · intro w9 hSw
    (try dsimp only at hSw)
    (try go_split_ands)
    first | (go_simp; done) | (go_simp; with_reducible rfl)
  try simp only [Act.put, List.setIfInBounds_toArray, List.set_cons_zero, List.set_cons_succ]
  refine wpAnyH_take (i := 12) (oi := ({ dst := some 35, op := Op.indexAddr 23 (Operand.tmp 32) (Operand.tmp 34), type := 0, pos := _, after := _, guard := none } : Oper)) (v := ?_) rfl (by kernel_rfl) (by kernel_rfl) (by kernel_rfl) (fun _ _ _ h => h) (Or.inl ⟨by rfl, ?_⟩) hSS ?_
  rotate_left
  · intro w9 hSw
    (try dsimp only at hSw)
    (try go_split_ands)
    first | (go_simp; done) | (go_simp; with_reducible rfl)
  try simp only [Act.put, List.setIfInBounds_toArray, List.set_cons_zero, List.set_cons_succ]
  refine wpAnyH_take (i := 13) (oi := ({ dst := some 36, op := Op.load 3 (Operand.tmp 35), type := 3, pos := _, after := _, guard := none } : Oper)) (v := ?_) rfl (by kernel_rfl) (by kernel_rfl) (by kernel_rfl) (fun _ _ _ h => h) (Or.inl ⟨by rfl, ?_⟩) hSS ?_
  rotate_left
  · intro w9 hSw
    (try dsimp only at hSw)
    (try go_split_ands)
    first | (go_simp; done) | (go_simp; with_reducible rfl)
  try simp only [Act.put, List.setIfInBounds_toArray, List.set_cons_zero, List.set_cons_succ]
  refine wpAnyH_take (i := 14) (oi := ({ dst := some 37, op := Op.move (Operand.tmp 2), type := 3, pos := _, after := _, guard := none } : Oper)) (v := ?_) rfl (by kernel_rfl) (by kernel_rfl) (by kernel_rfl) (fun _ _ _ h => h) (Or.inl ⟨by rfl, ?_⟩) hSS ?_
  rotate_left
  · intro w9 hSw
    (try dsimp only at hSw)
    (try go_split_ands)
    first | (go_simp; done) | (go_simp; with_reducible rfl)
  try simp only [Act.put, List.setIfInBounds_toArray, List.set_cons_zero, List.set_cons_succ]
  refine wpAnyH_take (i := 15) (oi := ({ dst := some 38, op := Op.binOp BinOp.add 3 (Operand.tmp 36) (Operand.tmp 37) 3, type := 3, pos := _, after := _, guard := none } : Oper)) (v := ?_) rfl (by kernel_rfl) (by kernel_rfl) (by kernel_rfl) (fun _ _ _ h => h) (Or.inl ⟨by rfl, ?_⟩) hSS ?_
  rotate_left
  · intro w9 hSw
    (try dsimp only at hSw)
    (try go_split_ands)
    first | (go_simp; done) | (go_simp; with_reducible rfl)
  try simp only [Act.put, List.setIfInBounds_toArray, List.set_cons_zero, List.set_cons_succ]
  refine wpAnyH_take (i := 16) (oi := ({ dst := some 39, op := Op.indexAddr 23 (Operand.tmp 26) (Operand.tmp 28), type := 0, pos := _, after := _, guard := none } : Oper)) (v := ?_) rfl (by kernel_rfl) (by kernel_rfl) (by kernel_rfl) (fun _ _ _ h => h) (Or.inl ⟨by rfl, ?_⟩) hSS ?_
  rotate_left
  · intro w9 hSw
    (try dsimp only at hSw)
    (try go_split_ands)
    first | (go_simp; done) | (go_simp; with_reducible rfl)
  try simp only [Act.put, List.setIfInBounds_toArray, List.set_cons_zero, List.set_cons_succ]
  refine wpAnyH_done (by kernel_rfl) ?_ _
  refine last_step (L := 17) (o := ({ dst := none, op := Op.store 3 (Operand.tmp 39) (Operand.tmp 38), type := 0, pos := _, after := _, guard := none } : Oper)) rfl (fun K9 hK9 => ?_)
  go_simp
  refine hK9.out _ _ ?_
  clear hK9 K9
  try simp only [Act.put, List.setIfInBounds_toArray, List.set_cons_zero, List.set_cons_succ]
  rw [← HU2.out]
  go_end0
  exact HEnd.out
end Go.Proofs.Ytajnokkmpjdliaa
