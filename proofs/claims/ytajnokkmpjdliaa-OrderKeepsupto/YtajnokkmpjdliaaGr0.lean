/-
  order.graphOf.
-/
import Derived.Test.YtajnokkmpjdliaaRp1
import Derived.Test.YtajnokkmpjdliaaKp0
namespace Go.Proofs.Ytajnokkmpjdliaa
open Go.RowKit

theorem size_new (w : World) (o : Obj) : Hid ((w.alloc o).heap.size = w.heap.size + 1) := by unfold Hid; simp
theorem cell_new1 (w : World) (v : Value) (t : TypeId) : (w.alloc (.cells #[v] t)).cell? ⟨w.heap.size, 0, none⟩ = some v := by
  have := heap_new w (.cells #[v] t)
  unfold World.cell?
  rw [this]
  rfl
/-! ### edges that are read -/
def RdE (w : World) (a : Option Addr) (m : Nat) (E : List (Nat × Nat)) : Prop := E.length = m ∧ ∀ i, i < m → ∃ g off, a = some ⟨g, off, none⟩ ∧ w.cell? ⟨g, off + i * 2, none⟩ = some (.int .i64 ((eg E i).1 : Int)) ∧ w.cell? ⟨g, off + i * 2 + 1, none⟩ = some (.int .i64 ((eg E i).2 : Int))
theorem RdE.next {w w' : World} {a : Option Addr} {m : Nat} {E : List (Nat × Nat)} (h : RdE w a m E) (hb : Below w.heap.size w w') : RdE w' a m E := by
  refine ⟨h.1, fun i hi => ?_⟩
  obtain ⟨g, off, ha, h1, h2⟩ := h.2 i hi
  have hg := World.block_lt_of_cell? w ⟨g, off + i * 2, none⟩ h1
  exact ⟨g, off, ha, (hb.cell hg).trans h1, (hb.cell (p := ⟨g, off + i * 2 + 1, none⟩) hg).trans h2⟩

/-! ### a graph in memory -/
structure GS (n m : Nat) (E : List (Nat × Nat)) (i : Nat) (fs nx : List Int) : Prop where
  fl : fs.length = n
  nl : nx.length = m
  f : ∀ x, x < n → gt fs x = hd (chn E x i)
  x : ∀ j, j < i → gt nx j = hd (chn E (eg E j).1 j)
structure Gr (w : World) (Gb fb nb n m : Nat) (a : Option Addr) (c : Nat) (fs nx : List Int) : Prop where
  box : w.heap[Gb]? = some (.cells #[.int .i64 (n : Int), .slice a m c, .slice (some ⟨fb, 0, none⟩) n n, .slice (some ⟨nb, 0, none⟩) m m] 57 (0, 0))
  f : Blk w fb fs
  x : Blk w nb nx
theorem Gr.cells {w : World} {Gb fb nb n m : Nat} {a : Option Addr} {c : Nat} {fs nx : List Int} (h : Gr w Gb fb nb n m a c fs nx) : w.cell? ⟨Gb, 0, none⟩ = some (.int .i64 (n : Int)) ∧ w.cell? ⟨Gb, 1, none⟩ = some (.slice a m c) ∧ w.cell? ⟨Gb, 2, none⟩ = some (.slice (some ⟨fb, 0, none⟩) n n) ∧ w.cell? ⟨Gb, 3, none⟩ = some (.slice (some ⟨nb, 0, none⟩) m m) := by
  have := h.box
  simp [World.cell?, this]
theorem Gr.lt {w : World} {Gb fb nb n m : Nat} {a : Option Addr} {c : Nat} {fs nx : List Int} (h : Gr w Gb fb nb n m a c fs nx) : Gb < w.heap.size := (Array.getElem?_eq_some_iff.1 h.box).1
theorem Gr.keep {w w' : World} {Gb fb nb n m : Nat} {a : Option Addr} {c : Nat} {fs nx : List Int} (h : Gr w Gb fb nb n m a c fs nx) (h1 : w'.heap[Gb]? = w.heap[Gb]?) (h2 : w'.heap[fb]? = w.heap[fb]?) (h3 : w'.heap[nb]? = w.heap[nb]?) : Gr w' Gb fb nb n m a c fs nx := ⟨h1.trans h.box, h.f.of_block h2, h.x.of_block h3⟩
theorem Gr.next {w w' : World} {Gb fb nb n m : Nat} {a : Option Addr} {c : Nat} {fs nx : List Int} (h : Gr w Gb fb nb n m a c fs nx) (hb : Below w.heap.size w w') : Gr w' Gb fb nb n m a c fs nx := h.keep (hb.block _ h.lt) (hb.block _ h.f.lt) (hb.block _ h.x.lt)
theorem gt_set (l : List Int) (k j : Nat) (x : Int) (hk : k < l.length) : gt (l.set k x) j = if j = k then x else gt l j := by
  unfold gt
  simp only [List.getD_eq_getElem?_getD, List.getElem?_set]
  by_cases e : j = k
  · subst e; simp [hk]
  · have e' : ¬ k = j := fun q => e q.symm
    simp [e, e']
theorem GS.start {n m : Nat} {E : List (Nat × Nat)} : GS n m E 0 (rep n (-1)) (zeros m) := ⟨by simp [rep], by simp [zeros], fun x hx => by simp [gt, rep, List.getD_eq_getElem?_getD, hx, chn, hd], fun j hj => by omega⟩
theorem GS.step {n m : Nat} {E : List (Nat × Nat)} {i : Nat} {fs nx : List Int} (h : GS n m E i fs nx) (hi : i < m) (hb : (eg E i).1 < n) : GS n m E (i + 1) (fs.set (eg E i).1 (i : Int)) (nx.set i (gt fs (eg E i).1)) := by
  refine ⟨by rw [List.length_set]; exact h.fl, by rw [List.length_set]; exact h.nl, fun x hx => ?_, fun j hj => ?_⟩
  · rw [gt_set _ _ _ _ (by rw [h.fl]; exact hb)]
    simp only [chn]
    by_cases e : x = (eg E i).1
    · rw [if_pos e, if_pos e.symm]; rfl
    · rw [if_neg e, if_neg (fun q => e q.symm)]; exact h.f x hx
  · rw [gt_set _ _ _ _ (by rw [h.nl]; exact hi)]
    by_cases e : j = i
    · subst e; rw [if_pos rfl]; exact h.f _ hb
    · rw [if_neg e]; exact h.x j (by omega)

/-- what graphOf leaves -/
def GoQ (n m : Nat) (a : Option Addr) (c : Nat) (E : List (Nat × Nat)) (w : World) (e : Ending) (w' : World) : Prop := ∃ Gb fb nb fs nx, e = .returned (.pointer (some ⟨Gb, 0, none⟩)) ∧ Gr w' Gb fb nb n m a c fs nx ∧ GS n m E m fs nx ∧ (w.heap.size ≤ Gb ∧ w.heap.size ≤ fb ∧ w.heap.size ≤ nb ∧ fb ≠ nb) ∧ Below w.heap.size w w'

set_option maxRecDepth 100000 in
set_option maxHeartbeats 4000000 in
theorem graphOf_any (n m c : Nat) (a : Option Addr) (E : List (Nat × Nat)) (hn : n ≤ 1048576) (hm : m ≤ 1048576) (w : World) (hR : RdE w a m E) (hE : EdOk n E) :
    Calls Try.prog 20 #[.int .i64 (n : Int), .slice a m c] w (GoQ n m a c E w) := by
  obtain ⟨PO, hPO⟩ : ∃ PO, PO = GoQ n m a c E w := ⟨_, rfl⟩
  rw [← hPO]
  have HPO := hid hPO
  have hmk := fun u => make_i64 m (by omega) u
  have HRp : Hid (∀ (X : Nat) (u : World), u.cell? ⟨X, 0, none⟩ = some (.int .i64 (-1)) → Calls Try.prog 28 #[.slice (some ⟨X, 0, none⟩) 1 1, .int .i64 (n : Int)] u (RpQ n (-1) u)) := fun X u h => Repeat_any n X (-1) hn u h
  have HREAD := hid hR
  have HED := hid hE
  have HM := hid hm
  have HN := hid hn
  obtain ⟨B, hB⟩ : ∃ B, B = w.heap.size := ⟨_, rfl⟩
  have HB := hid hB
  clear hR hE hPO hB
  go_enter Try.func20, Try.ntmps20
  go_wp2_with fail
  rename_i K hK
  have HREST : Hid (∀ (xb fb nb Gb : Nat) (W : World), Gr W Gb fb nb n m a c (rep n (-1)) (zeros m) → B ≤ Gb → B ≤ fb → B ≤ nb → fb ≠ nb → Below B w W → K { tmps := #[.int .i64 (n : Int), .slice a m c, undef, undef, .pointer none, .pointer (some ⟨Gb, 0, none⟩), undef, undef, .int .i64 (n : Int), .slice a m c, .slice (some ⟨xb, 0, none⟩) 1 1, .int .i64 (n : Int), .slice (some ⟨fb, 0, none⟩) n n, .slice a m c, .int .i64 (m : Int), .slice (some ⟨nb, 0, none⟩) m m, .agg #[.int .i64 (n : Int), .slice a m c, .slice (some ⟨fb, 0, none⟩) n n, .slice (some ⟨nb, 0, none⟩) m m], .pointer (some ⟨Gb, 0, none⟩), undef, undef, undef, undef, undef, undef, undef, undef, undef, undef, undef, undef, undef, undef, undef, undef, undef, undef, undef, undef, undef, undef, undef, undef, undef, undef, undef, undef, undef, undef, undef], defers := [] } W) := by
    intro xb fb nb Gb W hG h1 h2 h3 h4 hb
    refine hK _ _ ?_
    have HG0 := hid hG
    have HBW := hid hb
    have HD : Hid (B ≤ Gb ∧ B ≤ fb ∧ B ≤ nb ∧ fb ≠ nb) := ⟨h1, h2, h3, h4⟩
    clear hK hG hb h1 h2 h3 h4 hmk HRp
    go_wp2_with fail
    go_loopw [20] (fun iv wr => ∃ (i : Nat) (fs nx : List Int), iv = .int .i64 (i : Int) ∧ i ≤ m ∧ Gr wr Gb fb nb n m a c fs nx ∧ GS n m E i fs nx ∧ Below B w wr) (fun iv _ => m - (intOf iv).toNat)
    case atStart => exact ⟨0, _, _, rfl, by omega, HG0.out, GS.start, HBW.out⟩
    case round =>
      obtain ⟨i, fs, nx, rfl, hi, hG, hS, hb⟩ := hrel
      clear HG0 HBW
      by_cases q : i = m
      · have HF : Hid (PO (.returned (.pointer (some ⟨Gb, 0, none⟩))) wr) := by
          unfold Hid
          rw [HPO.out]
          have hD := HD.out
          rw [HB.out] at hb hD
          exact ⟨Gb, fb, nb, fs, nx, rfl, hG, by rw [q] at hS; exact hS, hD, hb⟩
        have qq : (m : Int) ≤ (i : Int) := by omega
        clear hG hS hb hi q
        go_wp2_with fail
        exact HF.out
      · have him : i < m := by omega
        have q1 : (i : Int) < (m : Int) := by omega
        have hm1 := HM.out
        obtain ⟨g, off, ha, c1, c2⟩ := (HREAD.out.next (w' := wr) (by rw [← HB.out]; exact hb)).2 i him
        have hEi : eg E i ∈ E := by
          have : eg E i = E[i]'(by rw [HREAD.out.1]; exact him) := by simp [eg, HREAD.out.1, him]
          rw [this]; exact List.getElem_mem _
        obtain ⟨hb1, hb2⟩ := HED.out _ hEi
        have hst := hS.step him hb1
        obtain ⟨b, hbb⟩ : ∃ b, b = (eg E i).1 := ⟨_, rfl⟩
        obtain ⟨af, haf⟩ : ∃ af, af = (eg E i).2 := ⟨_, rfl⟩
        rw [← hbb] at c1 hb1 hst
        rw [← haf] at c2
        obtain ⟨fx, hfx⟩ : ∃ fx, fx = gt fs b := ⟨_, rfl⟩
        rw [← hfx] at hst
        obtain ⟨u1, hu1⟩ : ∃ u1, u1 = wr.alloc (.cells #[.int .i64 (b : Int), .int .i64 (af : Int)] 28) := ⟨_, rfl⟩
        obtain ⟨u2, hu2⟩ : ∃ u2, u2 = (u1.setCell ⟨nb, i, none⟩ (.int .i64 fx)).drew := ⟨_, rfl⟩
        obtain ⟨u3, hu3⟩ : ∃ u3, u3 = (u2.setCell ⟨fb, b, none⟩ (.int .i64 (i : Int))).drew := ⟨_, rfl⟩
        have hb1' : Below wr.heap.size wr u1 := by rw [hu1]; exact below1 _ _
        have hG1 : Gr u1 Gb fb nb n m (some ⟨g, off, none⟩) c fs nx := by rw [← ha]; exact hG.next hb1'
        have hD := HD.out
        have hne1 : Gb ≠ nb := fun e => by
          have h1 := hG.box
          have h2 := hG.x
          unfold Blk at h2
          rw [e, h2] at h1
          simp at h1
        have hne2 : Gb ≠ fb := fun e => by
          have h1 := hG.box
          have h2 := hG.f
          unfold Blk at h2
          rw [e, h2] at h1
          simp at h1
        have hbt2 : But (fun k => k = nb) u1 u2 := by rw [hu2]; exact ((But.refl (fun k => k = nb) u1).setCell (p := ⟨nb, i, none⟩) rfl _).drew
        have hbt3 : But (fun k => k = fb) u2 u3 := by rw [hu3]; exact ((But.refl (fun k => k = fb) u2).setCell (p := ⟨fb, b, none⟩) rfl _).drew
        have hbl2 : But (fun k => k = nb) wr u2 := (But.of_below hb1').trans hbt2
        have hG2 : Gr u2 Gb fb nb n m (some ⟨g, off, none⟩) c fs (nx.set i fx) := ⟨(hbt2.block Gb hG1.lt hne1).trans hG1.box, hG1.f.of_block (hbt2.block fb hG1.f.lt hD.2.2.2), by rw [hu2]; exact Blk.set (w := u1) hG1.x i fx⟩
        have hG3 : Gr u3 Gb fb nb n m (some ⟨g, off, none⟩) c (fs.set b i) (nx.set i fx) := ⟨(hbt3.block Gb hG2.lt hne2).trans hG2.box, by rw [hu3]; exact Blk.set (w := u2) hG2.f b i, hG2.x.of_block (hbt3.block nb hG2.x.lt hD.2.2.2.symm)⟩
        have he1 : u1.heap[wr.heap.size]? = some (.cells #[.int .i64 (b : Int), .int .i64 (af : Int)] 28 (0, 0)) := by rw [hu1]; exact heap_new _ _
        have he2 : u2.heap[wr.heap.size]? = some (.cells #[.int .i64 (b : Int), .int .i64 (af : Int)] 28 (0, 0)) := (hbt2.block _ (by rw [hu1]; simp) (by have := hG.x.lt; omega)).trans he1
        have hfl := hS.fl
        have hnl := hS.nl
        have cf : fs.getD b 0 = fx := hfx.symm
        have HS5 : Hid ((fun y => (y.cell? ⟨Gb, 2, none⟩ = some (.slice (some ⟨fb, 0, none⟩) n n) ∧ y.cell? ⟨Gb, 3, none⟩ = some (.slice (some ⟨nb, 0, none⟩) m m)) ∧ (y.cell? ⟨wr.heap.size, 0, none⟩ = some (.int .i64 (b : Int)) ∧ y.cell? ⟨fb, b, none⟩ = some (.int .i64 fx))) u1.drew) := by
          have h1 := hG1.cells
          have h2 := hG1.f.cell b (by omega)
          rw [cf] at h2
          exact ⟨⟨h1.2.2.1, h1.2.2.2⟩, by show u1.cell? _ = _; simp [World.cell?, he1], h2⟩
        have HS6 : Hid ((fun y => (y.cell? ⟨Gb, 2, none⟩ = some (.slice (some ⟨fb, 0, none⟩) n n) ∧ y.cell? ⟨Gb, 3, none⟩ = some (.slice (some ⟨nb, 0, none⟩) m m)) ∧ (y.cell? ⟨wr.heap.size, 0, none⟩ = some (.int .i64 (b : Int)) ∧ y.cell? ⟨fb, b, none⟩ = some (.int .i64 fx))) u2.drew) := by
          have h1 := hG2.cells
          have h2 := hG2.f.cell b (by omega)
          rw [cf] at h2
          exact ⟨⟨h1.2.2.1, h1.2.2.2⟩, by show u2.cell? _ = _; simp [World.cell?, he2], h2⟩
        obtain ⟨ox, hox⟩ : ∃ ox, ox = nx.getD i 0 := ⟨_, rfl⟩
        have hw5 : u1.cell? ⟨nb, i, none⟩ = some (.int .i64 ox) := by rw [hox]; exact hG1.x.cell i (by omega)
        have hw5' : u1.drew.cell? ⟨nb, i, none⟩ = some (.int .i64 ox) := hw5
        have hw6 : u2.cell? ⟨fb, b, none⟩ = some (.int .i64 fx) := by rw [← cf]; exact hG2.f.cell b (by omega)
        have hz5 : u1.frozen? ⟨nb, i, none⟩ = false := hG1.x.frozen i
        have hz6 : u2.frozen? ⟨fb, b, none⟩ = false := hG2.f.frozen b
        have HEnd : Hid (Gr u3 Gb fb nb n m a c (fs.set b i) (nx.set i fx) ∧ GS n m E (i + 1) (fs.set b i) (nx.set i fx) ∧ Below B w u3) := ⟨by rw [ha]; exact hG3, hst, (hb.trans (hb1'.mono (by have := hb.size; have := HB.out; omega))).trans (((hbt2.below (B := B) (by have := hb.size; have := hb1'.size; have := HB.out; omega) (fun k hk e => by omega)).trans (hbt3.below (B := B) (by have := hb.size; have := hbl2.size; have := HB.out; omega) (fun k hk e => by omega))))⟩
        have q5 : (b : Int) < (n : Int) := by omega
        have q6 : 0 ≤ (b : Int) := by omega
        have HA := hid ha
        have HU1 := hid hu1
        have HU2 := hid hu2
        have HU3 := hid hu3
        have e1 : IntKind.i64.wrap ((i : Int) + 1) = (i : Int) + 1 := iw64 _ (by omega)
        have e2 : wrap64 ((i : Int) + 1) = (i : Int) + 1 := w64 _ (by omega)
        clear hG hS hb hi hst hu1 hu2 hu3 hb1' hG1 hG2 hG3 hD hne1 hne2 hbt2 hbt3 hbl2 he1 he2 hfl hnl cf hbb haf hfx hEi hb2 q hm1 hox
        subst ha
        go_wp2_with fail
        rw [← HU1.out]
        refine wp_region_last (S := (fun y => (y.cell? ⟨Gb, 2, none⟩ = some (.slice (some ⟨fb, 0, none⟩) n n) ∧ y.cell? ⟨Gb, 3, none⟩ = some (.slice (some ⟨nb, 0, none⟩) m m)) ∧ (y.cell? ⟨wr.heap.size, 0, none⟩ = some (.int .i64 (b : Int)) ∧ y.cell? ⟨fb, b, none⟩ = some (.int .i64 fx)))) 14 14 (by kernel_rfl) (by kernel_rfl) (by kernel_rfl) HS5.out (fun hSS => ?_)
        refine wpAnyH_take (i := 0) (oi := ({ dst := some 25, op := Op.move (Operand.tmp 5), type := 43, pos := _, after := _, guard := none } : Oper)) (v := ?_) rfl (by kernel_rfl) (by kernel_rfl) (by kernel_rfl) (fun _ _ _ h => h) (Or.inl ⟨by rfl, ?_⟩) hSS ?_
        rotate_left
        · intro w9 hSw
          (try dsimp only at hSw)
          (try go_split_ands)
          first | (go_simp; done) | (go_simp; with_reducible rfl)
        try simp only [Act.put, List.setIfInBounds_toArray, List.set_cons_zero, List.set_cons_succ]
        refine wpAnyH_take (i := 1) (oi := ({ dst := some 26, op := Op.nilCheck (Operand.tmp 25), type := 0, pos := _, after := _, guard := none } : Oper)) (v := ?_) rfl (by kernel_rfl) (by kernel_rfl) (by kernel_rfl) (fun _ _ _ h => h) (Or.inl ⟨by rfl, ?_⟩) hSS ?_
        rotate_left
        · intro w9 hSw
          (try dsimp only at hSw)
          (try go_split_ands)
          first | (go_simp; done) | (go_simp; with_reducible rfl)
        try simp only [Act.put, List.setIfInBounds_toArray, List.set_cons_zero, List.set_cons_succ]
        refine wpAnyH_take (i := 2) (oi := ({ dst := some 27, op := Op.fieldAddr 57 (Operand.tmp 26) 3, type := 0, pos := _, after := _, guard := none } : Oper)) (v := ?_) rfl (by kernel_rfl) (by kernel_rfl) (by kernel_rfl) (fun _ _ _ h => h) (Or.inl ⟨by rfl, ?_⟩) hSS ?_
        rotate_left
        · intro w9 hSw
          (try dsimp only at hSw)
          (try go_split_ands)
          first | (go_simp; done) | (go_simp; with_reducible rfl)
        try simp only [Act.put, List.setIfInBounds_toArray, List.set_cons_zero, List.set_cons_succ]
        refine wpAnyH_take (i := 3) (oi := ({ dst := some 28, op := Op.load 23 (Operand.tmp 27), type := 23, pos := _, after := _, guard := none } : Oper)) (v := ?_) rfl (by kernel_rfl) (by kernel_rfl) (by kernel_rfl) (fun _ _ _ h => h) (Or.inl ⟨by rfl, ?_⟩) hSS ?_
        rotate_left
        · intro w9 hSw
          (try dsimp only at hSw)
          (try go_split_ands)
          first | (go_simp; done) | (go_simp; with_reducible rfl)
        try simp only [Act.put, List.setIfInBounds_toArray, List.set_cons_zero, List.set_cons_succ]
        refine wpAnyH_take (i := 4) (oi := ({ dst := some 29, op := Op.move (Operand.tmp 6), type := 3, pos := _, after := _, guard := none } : Oper)) (v := ?_) rfl (by kernel_rfl) (by kernel_rfl) (by kernel_rfl) (fun _ _ _ h => h) (Or.inl ⟨by rfl, ?_⟩) hSS ?_
        rotate_left
        · intro w9 hSw
          (try dsimp only at hSw)
          (try go_split_ands)
          first | (go_simp; done) | (go_simp; with_reducible rfl)
        try simp only [Act.put, List.setIfInBounds_toArray, List.set_cons_zero, List.set_cons_succ]
        refine wpAnyH_take (i := 5) (oi := ({ dst := some 30, op := Op.move (Operand.tmp 5), type := 43, pos := _, after := _, guard := none } : Oper)) (v := ?_) rfl (by kernel_rfl) (by kernel_rfl) (by kernel_rfl) (fun _ _ _ h => h) (Or.inl ⟨by rfl, ?_⟩) hSS ?_
        rotate_left
        · intro w9 hSw
          (try dsimp only at hSw)
          (try go_split_ands)
          first | (go_simp; done) | (go_simp; with_reducible rfl)
        try simp only [Act.put, List.setIfInBounds_toArray, List.set_cons_zero, List.set_cons_succ]
        refine wpAnyH_take (i := 6) (oi := ({ dst := some 31, op := Op.nilCheck (Operand.tmp 30), type := 0, pos := _, after := _, guard := none } : Oper)) (v := ?_) rfl (by kernel_rfl) (by kernel_rfl) (by kernel_rfl) (fun _ _ _ h => h) (Or.inl ⟨by rfl, ?_⟩) hSS ?_
        rotate_left
        · intro w9 hSw
          (try dsimp only at hSw)
          (try go_split_ands)
          first | (go_simp; done) | (go_simp; with_reducible rfl)
        try simp only [Act.put, List.setIfInBounds_toArray, List.set_cons_zero, List.set_cons_succ]
        refine wpAnyH_take (i := 7) (oi := ({ dst := some 32, op := Op.fieldAddr 57 (Operand.tmp 31) 2, type := 0, pos := _, after := _, guard := none } : Oper)) (v := ?_) rfl (by kernel_rfl) (by kernel_rfl) (by kernel_rfl) (fun _ _ _ h => h) (Or.inl ⟨by rfl, ?_⟩) hSS ?_
        rotate_left
        · intro w9 hSw
          (try dsimp only at hSw)
          (try go_split_ands)
          first | (go_simp; done) | (go_simp; with_reducible rfl)
        try simp only [Act.put, List.setIfInBounds_toArray, List.set_cons_zero, List.set_cons_succ]
        refine wpAnyH_take (i := 8) (oi := ({ dst := some 33, op := Op.load 23 (Operand.tmp 32), type := 23, pos := _, after := _, guard := none } : Oper)) (v := ?_) rfl (by kernel_rfl) (by kernel_rfl) (by kernel_rfl) (fun _ _ _ h => h) (Or.inl ⟨by rfl, ?_⟩) hSS ?_
        rotate_left
        · intro w9 hSw
          (try dsimp only at hSw)
          (try go_split_ands)
          first | (go_simp; done) | (go_simp; with_reducible rfl)
        try simp only [Act.put, List.setIfInBounds_toArray, List.set_cons_zero, List.set_cons_succ]
        refine wpAnyH_take (i := 9) (oi := ({ dst := some 34, op := Op.fieldAddr 28 (Operand.tmp 7) 0, type := 0, pos := _, after := _, guard := none } : Oper)) (v := ?_) rfl (by kernel_rfl) (by kernel_rfl) (by kernel_rfl) (fun _ _ _ h => h) (Or.inl ⟨by rfl, ?_⟩) hSS ?_
        rotate_left
        · intro w9 hSw
          (try dsimp only at hSw)
          (try go_split_ands)
          first | (go_simp; done) | (go_simp; with_reducible rfl)
        try simp only [Act.put, List.setIfInBounds_toArray, List.set_cons_zero, List.set_cons_succ]
        refine wpAnyH_take (i := 10) (oi := ({ dst := some 35, op := Op.load 3 (Operand.tmp 34), type := 3, pos := _, after := _, guard := none } : Oper)) (v := ?_) rfl (by kernel_rfl) (by kernel_rfl) (by kernel_rfl) (fun _ _ _ h => h) (Or.inl ⟨by rfl, ?_⟩) hSS ?_
        rotate_left
        · intro w9 hSw
          (try dsimp only at hSw)
          (try go_split_ands)
          first | (go_simp; done) | (go_simp; with_reducible rfl)
        try simp only [Act.put, List.setIfInBounds_toArray, List.set_cons_zero, List.set_cons_succ]
        refine wpAnyH_take (i := 11) (oi := ({ dst := some 36, op := Op.indexAddr 23 (Operand.tmp 33) (Operand.tmp 35), type := 0, pos := _, after := _, guard := none } : Oper)) (v := ?_) rfl (by kernel_rfl) (by kernel_rfl) (by kernel_rfl) (fun _ _ _ h => h) (Or.inl ⟨by rfl, ?_⟩) hSS ?_
        rotate_left
        · intro w9 hSw
          (try dsimp only at hSw)
          (try go_split_ands)
          first | (go_simp; done) | (go_simp; with_reducible rfl)
        try simp only [Act.put, List.setIfInBounds_toArray, List.set_cons_zero, List.set_cons_succ]
        refine wpAnyH_take (i := 12) (oi := ({ dst := some 37, op := Op.load 3 (Operand.tmp 36), type := 3, pos := _, after := _, guard := none } : Oper)) (v := ?_) rfl (by kernel_rfl) (by kernel_rfl) (by kernel_rfl) (fun _ _ _ h => h) (Or.inl ⟨by rfl, ?_⟩) hSS ?_
        rotate_left
        · intro w9 hSw
          (try dsimp only at hSw)
          (try go_split_ands)
          first | (go_simp; done) | (go_simp; with_reducible rfl)
        try simp only [Act.put, List.setIfInBounds_toArray, List.set_cons_zero, List.set_cons_succ]
        refine wpAnyH_take (i := 13) (oi := ({ dst := some 38, op := Op.indexAddr 23 (Operand.tmp 28) (Operand.tmp 29), type := 0, pos := _, after := _, guard := none } : Oper)) (v := ?_) rfl (by kernel_rfl) (by kernel_rfl) (by kernel_rfl) (fun _ _ _ h => h) (Or.inl ⟨by rfl, ?_⟩) hSS ?_
        rotate_left
        · intro w9 hSw
          (try dsimp only at hSw)
          (try go_split_ands)
          first | (go_simp; done) | (go_simp; with_reducible rfl)
        try simp only [Act.put, List.setIfInBounds_toArray, List.set_cons_zero, List.set_cons_succ]
        refine wpAnyH_done (by kernel_rfl) ?_ _
        refine last_step (L := 14) (o := ({ dst := none, op := Op.store 3 (Operand.tmp 38) (Operand.tmp 37), type := 0, pos := _, after := _, guard := none } : Oper)) rfl (fun K9 hK9 => ?_)
        go_simp
        refine hK9.out _ _ ?_
        clear hK9 K9
        try simp only [Act.put, List.setIfInBounds_toArray, List.set_cons_zero, List.set_cons_succ]
        rw [← HU2.out]
        go_wp2_with fail
        refine wp_region_last (S := (fun y => (y.cell? ⟨Gb, 2, none⟩ = some (.slice (some ⟨fb, 0, none⟩) n n) ∧ y.cell? ⟨Gb, 3, none⟩ = some (.slice (some ⟨nb, 0, none⟩) m m)) ∧ (y.cell? ⟨wr.heap.size, 0, none⟩ = some (.int .i64 (b : Int)) ∧ y.cell? ⟨fb, b, none⟩ = some (.int .i64 fx)))) 8 8 (by kernel_rfl) (by kernel_rfl) (by kernel_rfl) HS6.out (fun hSS => ?_)
        refine wpAnyH_take (i := 0) (oi := ({ dst := some 39, op := Op.move (Operand.tmp 5), type := 43, pos := _, after := _, guard := none } : Oper)) (v := ?_) rfl (by kernel_rfl) (by kernel_rfl) (by kernel_rfl) (fun _ _ _ h => h) (Or.inl ⟨by rfl, ?_⟩) hSS ?_
        rotate_left
        · intro w9 hSw
          (try dsimp only at hSw)
          (try go_split_ands)
          first | (go_simp; done) | (go_simp; with_reducible rfl)
        try simp only [Act.put, List.setIfInBounds_toArray, List.set_cons_zero, List.set_cons_succ]
        refine wpAnyH_take (i := 1) (oi := ({ dst := some 40, op := Op.nilCheck (Operand.tmp 39), type := 0, pos := _, after := _, guard := none } : Oper)) (v := ?_) rfl (by kernel_rfl) (by kernel_rfl) (by kernel_rfl) (fun _ _ _ h => h) (Or.inl ⟨by rfl, ?_⟩) hSS ?_
        rotate_left
        · intro w9 hSw
          (try dsimp only at hSw)
          (try go_split_ands)
          first | (go_simp; done) | (go_simp; with_reducible rfl)
        try simp only [Act.put, List.setIfInBounds_toArray, List.set_cons_zero, List.set_cons_succ]
        refine wpAnyH_take (i := 2) (oi := ({ dst := some 41, op := Op.fieldAddr 57 (Operand.tmp 40) 2, type := 0, pos := _, after := _, guard := none } : Oper)) (v := ?_) rfl (by kernel_rfl) (by kernel_rfl) (by kernel_rfl) (fun _ _ _ h => h) (Or.inl ⟨by rfl, ?_⟩) hSS ?_
        rotate_left
        · intro w9 hSw
          (try dsimp only at hSw)
          (try go_split_ands)
          first | (go_simp; done) | (go_simp; with_reducible rfl)
        try simp only [Act.put, List.setIfInBounds_toArray, List.set_cons_zero, List.set_cons_succ]
        refine wpAnyH_take (i := 3) (oi := ({ dst := some 42, op := Op.load 23 (Operand.tmp 41), type := 23, pos := _, after := _, guard := none } : Oper)) (v := ?_) rfl (by kernel_rfl) (by kernel_rfl) (by kernel_rfl) (fun _ _ _ h => h) (Or.inl ⟨by rfl, ?_⟩) hSS ?_
        rotate_left
        · intro w9 hSw
          (try dsimp only at hSw)
          (try go_split_ands)
          first | (go_simp; done) | (go_simp; with_reducible rfl)
        try simp only [Act.put, List.setIfInBounds_toArray, List.set_cons_zero, List.set_cons_succ]
        refine wpAnyH_take (i := 4) (oi := ({ dst := some 43, op := Op.fieldAddr 28 (Operand.tmp 7) 0, type := 0, pos := _, after := _, guard := none } : Oper)) (v := ?_) rfl (by kernel_rfl) (by kernel_rfl) (by kernel_rfl) (fun _ _ _ h => h) (Or.inl ⟨by rfl, ?_⟩) hSS ?_
        rotate_left
        · intro w9 hSw
          (try dsimp only at hSw)
          (try go_split_ands)
          first | (go_simp; done) | (go_simp; with_reducible rfl)
        try simp only [Act.put, List.setIfInBounds_toArray, List.set_cons_zero, List.set_cons_succ]
        refine wpAnyH_take (i := 5) (oi := ({ dst := some 44, op := Op.load 3 (Operand.tmp 43), type := 3, pos := _, after := _, guard := none } : Oper)) (v := ?_) rfl (by kernel_rfl) (by kernel_rfl) (by kernel_rfl) (fun _ _ _ h => h) (Or.inl ⟨by rfl, ?_⟩) hSS ?_
        rotate_left
        · intro w9 hSw
          (try dsimp only at hSw)
          (try go_split_ands)
          first | (go_simp; done) | (go_simp; with_reducible rfl)
        try simp only [Act.put, List.setIfInBounds_toArray, List.set_cons_zero, List.set_cons_succ]
        refine wpAnyH_take (i := 6) (oi := ({ dst := some 45, op := Op.move (Operand.tmp 6), type := 3, pos := _, after := _, guard := none } : Oper)) (v := ?_) rfl (by kernel_rfl) (by kernel_rfl) (by kernel_rfl) (fun _ _ _ h => h) (Or.inl ⟨by rfl, ?_⟩) hSS ?_
        rotate_left
        · intro w9 hSw
          (try dsimp only at hSw)
          (try go_split_ands)
          first | (go_simp; done) | (go_simp; with_reducible rfl)
        try simp only [Act.put, List.setIfInBounds_toArray, List.set_cons_zero, List.set_cons_succ]
        refine wpAnyH_take (i := 7) (oi := ({ dst := some 46, op := Op.indexAddr 23 (Operand.tmp 42) (Operand.tmp 44), type := 0, pos := _, after := _, guard := none } : Oper)) (v := ?_) rfl (by kernel_rfl) (by kernel_rfl) (by kernel_rfl) (fun _ _ _ h => h) (Or.inl ⟨by rfl, ?_⟩) hSS ?_
        rotate_left
        · intro w9 hSw
          (try dsimp only at hSw)
          (try go_split_ands)
          first | (go_simp; done) | (go_simp; with_reducible rfl)
        try simp only [Act.put, List.setIfInBounds_toArray, List.set_cons_zero, List.set_cons_succ]
        refine wpAnyH_done (by kernel_rfl) ?_ _
        refine last_step (L := 8) (o := ({ dst := none, op := Op.store 3 (Operand.tmp 46) (Operand.tmp 45), type := 0, pos := _, after := _, guard := none } : Oper)) rfl (fun K9 hK9 => ?_)
        go_simp
        refine hK9.out _ _ ?_
        clear hK9 K9
        try simp only [Act.put, List.setIfInBounds_toArray, List.set_cons_zero, List.set_cons_succ]
        rw [← HU3.out]
        go_wp2_with fail
        refine ⟨⟨i + 1, _, _, by rw [Int.natCast_add]; rfl, by omega, HEnd.out⟩, ?_⟩
        simp only [intOf]
        omega
  refine wp_region_held_drew (S := (fun _ => True)) (by kernel_rfl) trivial (fun hSS => ?_)
  refine wpAnyH_take (i := 0) (oi := ({ dst := some 8, op := Op.move (Operand.tmp 0), type := 3, pos := _, after := _, guard := none } : Oper)) (v := ?_) rfl (by kernel_rfl) (by kernel_rfl) (by kernel_rfl) (fun _ _ _ h => h) (Or.inl ⟨by rfl, ?_⟩) hSS ?_
  rotate_left
  · intro w9 hSw
    (try dsimp only at hSw)
    (try go_split_ands)
    first | (go_simp; done) | (go_simp; with_reducible rfl)
  try simp only [Act.put, List.setIfInBounds_toArray, List.set_cons_zero, List.set_cons_succ]
  refine wpAnyH_take (i := 1) (oi := ({ dst := some 9, op := Op.move (Operand.tmp 1), type := 22, pos := _, after := _, guard := none } : Oper)) (v := ?_) rfl (by kernel_rfl) (by kernel_rfl) (by kernel_rfl) (fun _ _ _ h => h) (Or.inl ⟨by rfl, ?_⟩) hSS ?_
  rotate_left
  · intro w9 hSw
    (try dsimp only at hSw)
    (try go_split_ands)
    first | (go_simp; done) | (go_simp; with_reducible rfl)
  try simp only [Act.put, List.setIfInBounds_toArray, List.set_cons_zero, List.set_cons_succ]
  refine wpAnyH_take (i := 3) (oi := ({ dst := some 11, op := Op.move (Operand.tmp 0), type := 3, pos := _, after := _, guard := none } : Oper)) (v := ?_) rfl (by kernel_rfl) (by kernel_rfl) (by kernel_rfl) (fun _ _ _ h => h) (Or.inl ⟨by rfl, ?_⟩) hSS ?_
  rotate_left
  · intro w9 hSw
    (try dsimp only at hSw)
    (try go_split_ands)
    first | (go_simp; done) | (go_simp; with_reducible rfl)
  try simp only [Act.put, List.setIfInBounds_toArray, List.set_cons_zero, List.set_cons_succ]
  refine wpAnyH_take (i := 5) (oi := ({ dst := some 13, op := Op.move (Operand.tmp 1), type := 22, pos := _, after := _, guard := none } : Oper)) (v := ?_) rfl (by kernel_rfl) (by kernel_rfl) (by kernel_rfl) (fun _ _ _ h => h) (Or.inl ⟨by rfl, ?_⟩) hSS ?_
  rotate_left
  · intro w9 hSw
    (try dsimp only at hSw)
    (try go_split_ands)
    first | (go_simp; done) | (go_simp; with_reducible rfl)
  try simp only [Act.put, List.setIfInBounds_toArray, List.set_cons_zero, List.set_cons_succ]
  refine wpAnyH_take (i := 6) (oi := ({ dst := some 14, op := Op.call { callee := Callee.builtin Builtin.len, args := #[Operand.tmp 13], argTypes := #[22] }, type := 3, pos := _, after := _, guard := none } : Oper)) (v := ?_) rfl (by kernel_rfl) (by kernel_rfl) (by kernel_rfl) (fun _ _ _ h => h) (Or.inl ⟨by rfl, ?_⟩) hSS ?_
  rotate_left
  · intro w9 hSw
    (try dsimp only at hSw)
    (try go_split_ands)
    first | (go_simp; done) | (go_simp; with_reducible rfl)
  try simp only [Act.put, List.setIfInBounds_toArray, List.set_cons_zero, List.set_cons_succ]
  refine wpAnyH_ready (rs := [2, 7]) (by kernel_rfl) (by simp) (AllReadyH.cons (o := ({ dst := some 10, op := Op.buildSlice 23 1 #[(0, Operand.const (Value.int IntKind.i64 (-1)))], type := 23, pos := _, after := _, guard := none } : Oper)) rfl (fun K9 hK9 => ?_) (AllReadyH.cons (o := ({ dst := some 15, op := Op.makeSlice 23 (Operand.tmp 14) (Operand.tmp 14), type := 23, pos := _, after := _, guard := none } : Oper)) rfl (fun K9 hK9 => ?_) AllReadyH.nil))
  · go_simp
    obtain ⟨W1, hW1⟩ : ∃ W1, W1 = (w.alloc (.cells #[.int .i64 (-1)] 3)).drew := ⟨_, rfl⟩
    have bW1 : Below w.heap.size w W1 := by rw [hW1]; exact (below1 w _).trans (below_drew _ _)
    have sW1 : Hid (W1.heap.size = w.heap.size + 1) := by rw [hW1]; exact size_new w _
    have kW1 : W1.cell? ⟨w.heap.size, 0, none⟩ = some (.int .i64 (-1)) := by rw [hW1]; exact cell_new1 w _ _
    rw [← hW1]
    clear hW1
    refine hK9.out _ _ trivial (fun hSS => ?_)
    clear hK9 K9
    try simp only [Act.put, List.setIfInBounds_toArray, List.set_cons_zero, List.set_cons_succ]
    refine wpAnyH_ready (rs := [4, 7]) (by kernel_rfl) (by simp) (AllReadyH.cons (o := ({ dst := some 12, op := Op.call { callee := Callee.value (Operand.func 28), args := #[Operand.tmp 10, Operand.tmp 11], argTypes := #[23, 3] }, type := 23, pos := _, after := _, guard := none } : Oper)) rfl (fun K9 hK9 => ?_) (AllReadyH.cons (o := ({ dst := some 15, op := Op.makeSlice 23 (Operand.tmp 14) (Operand.tmp 14), type := 23, pos := _, after := _, guard := none } : Oper)) rfl (fun K9 hK9 => ?_) AllReadyH.nil))
    · go_simp
      go_at_call 28
      refine Calls.mono (HRp.out w.heap.size W1 kW1) ?_
      rintro e wq ⟨rb, rfl, hrb, hRb, hbq⟩
      have hbs := hbq.size
      refine hK9.out _ _ trivial (fun hSS => ?_)
      clear hK9 K9
      try simp only [Act.put, List.setIfInBounds_toArray, List.set_cons_zero, List.set_cons_succ]
      refine wpAnyH_ready (rs := [7]) (by kernel_rfl) (by simp) (AllReadyH.cons (o := ({ dst := some 15, op := Op.makeSlice 23 (Operand.tmp 14) (Operand.tmp 14), type := 23, pos := _, after := _, guard := none } : Oper)) rfl (fun K9 hK9 => ?_) AllReadyH.nil)
      go_simp
      obtain ⟨W3, hW3⟩ : ∃ W3, W3 = wq.alloc (.cells ((zeros m).map (Value.int .i64)).toArray 3) := ⟨_, rfl⟩
      have bW3 : Below wq.heap.size wq W3 := by rw [hW3]; exact below1 wq _
      have sW3 : Hid (W3.heap.size = wq.heap.size + 1) := by rw [hW3]; exact size_new wq _
      have kW3 : Blk W3 wq.heap.size (zeros m) := by rw [hW3]; exact Blk.new wq _
      rw [← hW3]
      clear hW3
      refine hK9.out _ _ trivial (fun hSS => ?_)
      clear hK9 K9
      try simp only [Act.put, List.setIfInBounds_toArray, List.set_cons_zero, List.set_cons_succ]
      refine wpAnyH_take (i := 8) (oi := ({ dst := some 16, op := Op.build 57 #[(0, Operand.tmp 8), (1, Operand.tmp 9), (2, Operand.tmp 12), (3, Operand.tmp 15)], type := 57, pos := _, after := _, guard := none } : Oper)) (v := ?_) rfl (by kernel_rfl) (by kernel_rfl) (by kernel_rfl) (fun _ _ _ h => h) (Or.inl ⟨by rfl, ?_⟩) hSS ?_
      rotate_left
      · intro w9 hSw
        (try dsimp only at hSw)
        (try go_split_ands)
        first | (go_simp; done) | (go_simp; with_reducible rfl)
      try simp only [Act.put, List.setIfInBounds_toArray, List.set_cons_zero, List.set_cons_succ]
      refine wpAnyH_ready (rs := [9]) (by kernel_rfl) (by simp) (AllReadyH.cons (o := ({ dst := some 17, op := Op.box 57 (Operand.tmp 16), type := 43, pos := _, after := _, guard := none } : Oper)) rfl (fun K9 hK9 => ?_) AllReadyH.nil)
      go_simp
      obtain ⟨WG, hWG⟩ : ∃ WG, WG = W3.alloc (.cells #[.int .i64 (n : Int), .slice a m c, .slice (some ⟨rb, 0, none⟩) n n, .slice (some ⟨wq.heap.size, 0, none⟩) m m] 57) := ⟨_, rfl⟩
      have bWG : Below W3.heap.size W3 WG := by rw [hWG]; exact below1 _ _
      have hBd : Below w.heap.size w W3 := (bW1.trans (hbq.mono bW1.size)).trans (bW3.mono (by have := bW1.size; omega))
      have hFb : Blk W3 rb (rep n (-1)) := hRb.below bW3 hRb.lt
      have hNb : Blk W3 wq.heap.size (zeros m) := kW3
      have hGr : Gr WG W3.heap.size rb wq.heap.size n m a c (rep n (-1)) (zeros m) := ⟨by rw [hWG]; exact heap_new _ _, hFb.below bWG hFb.lt, hNb.below bWG hNb.lt⟩
      rw [← hWG]
      clear hWG
      refine hK9.out _ _ trivial (fun hSS => ?_)
      clear hK9 K9
      try simp only [Act.put, List.setIfInBounds_toArray, List.set_cons_zero, List.set_cons_succ]
      refine wpAnyH_take (i := 10) (oi := ({ dst := some 5, op := Op.assign (Operand.tmp 17), type := 43, pos := _, after := _, guard := none } : Oper)) (v := ?_) rfl (by kernel_rfl) (by kernel_rfl) (by kernel_rfl) (fun _ _ _ h => h) (Or.inl ⟨by rfl, ?_⟩) hSS ?_
      rotate_left
      · intro w9 hSw
        (try dsimp only at hSw)
        (try go_split_ands)
        first | (go_simp; done) | (go_simp; with_reducible rfl)
      try simp only [Act.put, List.setIfInBounds_toArray, List.set_cons_zero, List.set_cons_succ]
      refine wpAnyH_done (by kernel_rfl) ?_ _
      refine HREST.out _ _ _ _ _ hGr ?_ ?_ ?_ ?_ ?_
      · rw [HB.out]; exact hBd.size
      · rw [HB.out]; have := bW1.size; (try have := bW2.size); omega
      · rw [HB.out]; have := bW1.size; (try have := bW2.size); omega
      · have := hRb.lt; omega
      · rw [HB.out]; exact hBd.trans (bWG.mono hBd.size)
    · go_simp
      obtain ⟨W2, hW2⟩ : ∃ W2, W2 = W1.alloc (.cells ((zeros m).map (Value.int .i64)).toArray 3) := ⟨_, rfl⟩
      have bW2 : Below W1.heap.size W1 W2 := by rw [hW2]; exact below1 W1 _
      have sW2 : Hid (W2.heap.size = W1.heap.size + 1) := by rw [hW2]; exact size_new W1 _
      have kW2 : Blk W2 W1.heap.size (zeros m) := by rw [hW2]; exact Blk.new W1 _
      rw [← hW2]
      clear hW2
      refine hK9.out _ _ trivial (fun hSS => ?_)
      clear hK9 K9
      try simp only [Act.put, List.setIfInBounds_toArray, List.set_cons_zero, List.set_cons_succ]
      refine wpAnyH_ready (rs := [4]) (by kernel_rfl) (by simp) (AllReadyH.cons (o := ({ dst := some 12, op := Op.call { callee := Callee.value (Operand.func 28), args := #[Operand.tmp 10, Operand.tmp 11], argTypes := #[23, 3] }, type := 23, pos := _, after := _, guard := none } : Oper)) rfl (fun K9 hK9 => ?_) AllReadyH.nil)
      go_simp
      go_at_call 28
      refine Calls.mono (HRp.out w.heap.size W2 ((bW2.cell (p := ⟨w.heap.size, 0, none⟩) (by show w.heap.size < W1.heap.size; have := sW1.out; omega)).trans kW1)) ?_
      rintro e wq ⟨rb, rfl, hrb, hRb, hbq⟩
      have hbs := hbq.size
      refine hK9.out _ _ trivial (fun hSS => ?_)
      clear hK9 K9
      try simp only [Act.put, List.setIfInBounds_toArray, List.set_cons_zero, List.set_cons_succ]
      refine wpAnyH_take (i := 8) (oi := ({ dst := some 16, op := Op.build 57 #[(0, Operand.tmp 8), (1, Operand.tmp 9), (2, Operand.tmp 12), (3, Operand.tmp 15)], type := 57, pos := _, after := _, guard := none } : Oper)) (v := ?_) rfl (by kernel_rfl) (by kernel_rfl) (by kernel_rfl) (fun _ _ _ h => h) (Or.inl ⟨by rfl, ?_⟩) hSS ?_
      rotate_left
      · intro w9 hSw
        (try dsimp only at hSw)
        (try go_split_ands)
        first | (go_simp; done) | (go_simp; with_reducible rfl)
      try simp only [Act.put, List.setIfInBounds_toArray, List.set_cons_zero, List.set_cons_succ]
      refine wpAnyH_ready (rs := [9]) (by kernel_rfl) (by simp) (AllReadyH.cons (o := ({ dst := some 17, op := Op.box 57 (Operand.tmp 16), type := 43, pos := _, after := _, guard := none } : Oper)) rfl (fun K9 hK9 => ?_) AllReadyH.nil)
      go_simp
      obtain ⟨WG, hWG⟩ : ∃ WG, WG = wq.alloc (.cells #[.int .i64 (n : Int), .slice a m c, .slice (some ⟨rb, 0, none⟩) n n, .slice (some ⟨W1.heap.size, 0, none⟩) m m] 57) := ⟨_, rfl⟩
      have bWG : Below wq.heap.size wq WG := by rw [hWG]; exact below1 _ _
      have hBd : Below w.heap.size w wq := (bW1.trans (bW2.mono bW1.size)).trans (hbq.mono (by have := sW1.out; have := sW2.out; omega))
      have hFb : Blk wq rb (rep n (-1)) := hRb
      have hNb : Blk wq W1.heap.size (zeros m) := kW2.below hbq kW2.lt
      have hGr : Gr WG wq.heap.size rb W1.heap.size n m a c (rep n (-1)) (zeros m) := ⟨by rw [hWG]; exact heap_new _ _, hFb.below bWG hFb.lt, hNb.below bWG hNb.lt⟩
      rw [← hWG]
      clear hWG
      refine hK9.out _ _ trivial (fun hSS => ?_)
      clear hK9 K9
      try simp only [Act.put, List.setIfInBounds_toArray, List.set_cons_zero, List.set_cons_succ]
      refine wpAnyH_take (i := 10) (oi := ({ dst := some 5, op := Op.assign (Operand.tmp 17), type := 43, pos := _, after := _, guard := none } : Oper)) (v := ?_) rfl (by kernel_rfl) (by kernel_rfl) (by kernel_rfl) (fun _ _ _ h => h) (Or.inl ⟨by rfl, ?_⟩) hSS ?_
      rotate_left
      · intro w9 hSw
        (try dsimp only at hSw)
        (try go_split_ands)
        first | (go_simp; done) | (go_simp; with_reducible rfl)
      try simp only [Act.put, List.setIfInBounds_toArray, List.set_cons_zero, List.set_cons_succ]
      refine wpAnyH_done (by kernel_rfl) ?_ _
      refine HREST.out _ _ _ _ _ hGr ?_ ?_ ?_ ?_ ?_
      · rw [HB.out]; exact hBd.size
      · rw [HB.out]; have := bW1.size; (try have := bW2.size); omega
      · rw [HB.out]; have := bW1.size; (try have := bW2.size); omega
      · have := kW2.lt; omega
      · rw [HB.out]; exact hBd.trans (bWG.mono hBd.size)
  · go_simp
    obtain ⟨W1, hW1⟩ : ∃ W1, W1 = (w.alloc (.cells ((zeros m).map (Value.int .i64)).toArray 3)).drew := ⟨_, rfl⟩
    have bW1 : Below w.heap.size w W1 := by rw [hW1]; exact (below1 w _).trans (below_drew _ _)
    have sW1 : Hid (W1.heap.size = w.heap.size + 1) := by rw [hW1]; exact size_new w _
    have kW1 : Blk W1 w.heap.size (zeros m) := by rw [hW1]; exact Blk.new w _
    rw [← hW1]
    clear hW1
    refine hK9.out _ _ trivial (fun hSS => ?_)
    clear hK9 K9
    try simp only [Act.put, List.setIfInBounds_toArray, List.set_cons_zero, List.set_cons_succ]
    refine wpAnyH_ready (rs := [2]) (by kernel_rfl) (by simp) (AllReadyH.cons (o := ({ dst := some 10, op := Op.buildSlice 23 1 #[(0, Operand.const (Value.int IntKind.i64 (-1)))], type := 23, pos := _, after := _, guard := none } : Oper)) rfl (fun K9 hK9 => ?_) AllReadyH.nil)
    go_simp
    obtain ⟨W2, hW2⟩ : ∃ W2, W2 = W1.alloc (.cells #[.int .i64 (-1)] 3) := ⟨_, rfl⟩
    have bW2 : Below W1.heap.size W1 W2 := by rw [hW2]; exact below1 W1 _
    have sW2 : Hid (W2.heap.size = W1.heap.size + 1) := by rw [hW2]; exact size_new W1 _
    have kW2 : W2.cell? ⟨W1.heap.size, 0, none⟩ = some (.int .i64 (-1)) := by rw [hW2]; exact cell_new1 W1 _ _
    rw [← hW2]
    clear hW2
    refine hK9.out _ _ trivial (fun hSS => ?_)
    clear hK9 K9
    try simp only [Act.put, List.setIfInBounds_toArray, List.set_cons_zero, List.set_cons_succ]
    refine wpAnyH_ready (rs := [4]) (by kernel_rfl) (by simp) (AllReadyH.cons (o := ({ dst := some 12, op := Op.call { callee := Callee.value (Operand.func 28), args := #[Operand.tmp 10, Operand.tmp 11], argTypes := #[23, 3] }, type := 23, pos := _, after := _, guard := none } : Oper)) rfl (fun K9 hK9 => ?_) AllReadyH.nil)
    go_simp
    go_at_call 28
    refine Calls.mono (HRp.out W1.heap.size W2 kW2) ?_
    rintro e wq ⟨rb, rfl, hrb, hRb, hbq⟩
    have hbs := hbq.size
    refine hK9.out _ _ trivial (fun hSS => ?_)
    clear hK9 K9
    try simp only [Act.put, List.setIfInBounds_toArray, List.set_cons_zero, List.set_cons_succ]
    refine wpAnyH_take (i := 8) (oi := ({ dst := some 16, op := Op.build 57 #[(0, Operand.tmp 8), (1, Operand.tmp 9), (2, Operand.tmp 12), (3, Operand.tmp 15)], type := 57, pos := _, after := _, guard := none } : Oper)) (v := ?_) rfl (by kernel_rfl) (by kernel_rfl) (by kernel_rfl) (fun _ _ _ h => h) (Or.inl ⟨by rfl, ?_⟩) hSS ?_
    rotate_left
    · intro w9 hSw
      (try dsimp only at hSw)
      (try go_split_ands)
      first | (go_simp; done) | (go_simp; with_reducible rfl)
    try simp only [Act.put, List.setIfInBounds_toArray, List.set_cons_zero, List.set_cons_succ]
    refine wpAnyH_ready (rs := [9]) (by kernel_rfl) (by simp) (AllReadyH.cons (o := ({ dst := some 17, op := Op.box 57 (Operand.tmp 16), type := 43, pos := _, after := _, guard := none } : Oper)) rfl (fun K9 hK9 => ?_) AllReadyH.nil)
    go_simp
    obtain ⟨WG, hWG⟩ : ∃ WG, WG = wq.alloc (.cells #[.int .i64 (n : Int), .slice a m c, .slice (some ⟨rb, 0, none⟩) n n, .slice (some ⟨w.heap.size, 0, none⟩) m m] 57) := ⟨_, rfl⟩
    have bWG : Below wq.heap.size wq WG := by rw [hWG]; exact below1 _ _
    have hBd : Below w.heap.size w wq := (bW1.trans (bW2.mono bW1.size)).trans (hbq.mono (by have := sW1.out; have := sW2.out; omega))
    have hFb : Blk wq rb (rep n (-1)) := hRb
    have hNb : Blk wq w.heap.size (zeros m) := (kW1.below bW2 kW1.lt).below hbq (by have := kW1.lt; have := bW2.size; omega)
    have hGr : Gr WG wq.heap.size rb w.heap.size n m a c (rep n (-1)) (zeros m) := ⟨by rw [hWG]; exact heap_new _ _, hFb.below bWG hFb.lt, hNb.below bWG hNb.lt⟩
    rw [← hWG]
    clear hWG
    refine hK9.out _ _ trivial (fun hSS => ?_)
    clear hK9 K9
    try simp only [Act.put, List.setIfInBounds_toArray, List.set_cons_zero, List.set_cons_succ]
    refine wpAnyH_take (i := 10) (oi := ({ dst := some 5, op := Op.assign (Operand.tmp 17), type := 43, pos := _, after := _, guard := none } : Oper)) (v := ?_) rfl (by kernel_rfl) (by kernel_rfl) (by kernel_rfl) (fun _ _ _ h => h) (Or.inl ⟨by rfl, ?_⟩) hSS ?_
    rotate_left
    · intro w9 hSw
      (try dsimp only at hSw)
      (try go_split_ands)
      first | (go_simp; done) | (go_simp; with_reducible rfl)
    try simp only [Act.put, List.setIfInBounds_toArray, List.set_cons_zero, List.set_cons_succ]
    refine wpAnyH_done (by kernel_rfl) ?_ _
    refine HREST.out _ _ _ _ _ hGr ?_ ?_ ?_ ?_ ?_
    · rw [HB.out]; exact hBd.size
    · rw [HB.out]; have := bW1.size; (try have := bW2.size); omega
    · rw [HB.out]; have := bW1.size; (try have := bW2.size); omega
    · have := kW1.lt; have := bW2.size; omega
    · rw [HB.out]; exact hBd.trans (bWG.mono hBd.size)
end Go.Proofs.Ytajnokkmpjdliaa
