/-
  lex: Tokens: its set-up, and what its round does.
-/
import Derived.Test.YtoifmiloaefanaaTl0
namespace Go.Proofs.Ytoifmiloaefanaa
open Go.RowKit Go.Shelf

set_option maxHeartbeats 400000 in
theorem tokens14 (k : Nat) (w : World) : Calls Try.prog 14 #[.pointer (some ⟨k, 0, none⟩)] w fun e w' => e = .returned (.func (.func 22) #[] #[.pointer (some ⟨w.heap.size, 0, none⟩)]) ∧ w' = w.alloc (.cells #[.pointer (some ⟨k, 0, none⟩)] 44) := by
  go_enter Try.func14, Try.ntmps14
  go_wp2
  go_ret
  exact ⟨rfl, rfl⟩

theorem cell_of {W : World} {g : Nat} {v : Value} {t : TypeId} (h : W.heap[g]? = some (.cells #[v] t (0, 0))) : W.cell? ⟨g, 0, none⟩ = some v ∧ W.frozen? ⟨g, 0, none⟩ = false := ⟨by simp [World.cell?, h], by simp [World.frozen?, h]⟩
theorem set_of {W : World} {g : Nat} {v : Value} {t : TypeId} (h : W.heap[g]? = some (.cells #[v] t (0, 0))) (u : Value) : (W.setCell ⟨g, 0, none⟩ u).heap[g]? = some (.cells #[u] t (0, 0)) := by
  have hl := (Array.getElem?_eq_some_iff.1 h).1
  have h2 := (Array.getElem?_eq_some_iff.1 h).2
  simp [World.setCell, Array.getElem_modify_self, h2, hl]
theorem but_set (w : World) (o i : Nat) (v : Value) : But (fun k => k = o) w (w.setCell ⟨o, i, none⟩ v) := (But.refl (fun k => k = o) w).setCell (p := ⟨o, i, none⟩) rfl v

/-- within Tokens -/
structure TsS (b : Nat) (w : World) (zs : List Int) (c : Option Nat) (v : Value) (ts : List Tk) (W : World) : Prop where
  q0 : W.heap[b]? = some (.cells #[.slice none 0 0] 23 (0, 0))
  q1 : W.heap[b + 1]? = some (.cells #[.int .i64 0] 3 (0, 0))
  q2 : W.heap[b + 2]? = some (.cells #[.int .i64 0] 24 (0, 0))
  q3 : W.heap[b + 3]? = some (.cells #[v] 23 (0, 0))
  q4 : ∀ a, c = some a → Scn W (b + 4) (strOfNums zs) a
  q5 : W.heap[b + 5]? = some (.cells #[.pointer (some ⟨b + 4, 0, none⟩)] 44 (0, 0))
  ow : OwT (b + 8) W v ts
  bel : Below b w W
  sz : b + 8 ≤ W.heap.size
def TsI (b : Nat) (w : World) (zs : List Int) (c : Option Nat) (pre : List (Tk × Int)) (W : World) : Prop := (∃ v, TsS b w zs c v (pre.map Prod.fst) W) ∧ (∀ x ∈ pre, x.2 = 0)
def TsX (b : Nat) (w : World) (c : Code) (pre : List (Tk × Int)) (W : World) : Prop := c = .ret ∧ ∃ p x, pre = p ++ [x] ∧ x.2 ≠ 0 ∧ W.heap[b]? = some (.cells #[.slice none 0 0] 23 (0, 0)) ∧ W.heap[b + 1]? = some (.cells #[.int .i64 x.1.a] 3 (0, 0)) ∧ W.heap[b + 2]? = some (.cells #[.int .i64 x.2] 24 (0, 0)) ∧ Below b w W ∧ b + 8 ≤ W.heap.size
/-- what lies in other blocks does not matter -/
theorem TsS.keep {b : Nat} {w : World} {zs : List Int} {c c' : Option Nat} {v : Value} {ts : List Tk} {W W' : World} {X : Nat → Prop} (h : TsS b w zs c v ts W) (hb : But X W W') (h1 : ∀ x, x < b + 6 → x ≠ b + 4 → ¬ X x) (h2 : ∀ x, b + 8 ≤ x → x < W.heap.size → ¬ X x) (h4 : ∀ a, c' = some a → Scn W' (b + 4) (strOfNums zs) a) : TsS b w zs c' v ts W' := by
  have hz := h.sz
  refine ⟨(hb.block _ (by omega) (h1 _ (by omega) (by omega))).trans h.q0, (hb.block _ (by omega) (h1 _ (by omega) (by omega))).trans h.q1, (hb.block _ (by omega) (h1 _ (by omega) (by omega))).trans h.q2, (hb.block _ (by omega) (h1 _ (by omega) (by omega))).trans h.q3, h4, (hb.block _ (by omega) (h1 _ (by omega) (by omega))).trans h.q5, ?_, ?_, by have := hb.size; omega⟩
  · exact h.ow.keep fun g hg hgl => hb.block g hgl (h2 g hg hgl)
  · exact h.bel.trans (hb.below (by omega) (fun x hx e => h1 x (by omega) (by omega) e))
theorem TsS.same {b : Nat} {w : World} {zs : List Int} {c : Option Nat} {v : Value} {ts : List Tk} {W W' : World} {X : Nat → Prop} (h : TsS b w zs c v ts W) (hb : But X W W') (h1 : ∀ x, x < b + 6 → ¬ X x) (h2 : ∀ x, b + 8 ≤ x → x < W.heap.size → ¬ X x) : TsS b w zs c v ts W' :=
  h.keep hb (fun x hx _ => h1 x hx) h2 (fun a e => (h.q4 a e).but hb (h1 _ (by omega)))
theorem TsI.put {b : Nat} {w : World} {zs : List Int} {c : Option Nat} {pre : List (Tk × Int)} {W : World} (h : TsI b w zs c pre W) (o : Obj) : TsI b w zs c pre (W.putObj (b + 7) o) := by
  obtain ⟨⟨v, q⟩, r⟩ := h
  exact ⟨⟨v, q.same (but_put W _ o) (fun x hx e => by omega) (fun x hx _ e => by omega)⟩, r⟩
theorem TsX.put {b : Nat} {w : World} {c : Code} {pre : List (Tk × Int)} {W : World} (h : TsX b w c pre W) (o : Obj) : TsX b w c pre (W.putObj (b + 7) o) := by
  obtain ⟨h0, p0, x, h1, h3, h4, h5, h6, h7, h8⟩ := h
  have hb := but_put W (b + 7) o
  exact ⟨h0, p0, x, h1, h3, (hb.block _ (by omega) (by omega)).trans h4, (hb.block _ (by omega) (by omega)).trans h5, (hb.block _ (by omega) (by omega)).trans h6, h7.trans (hb.below (by omega) (fun x hx e => by omega)), by have := hb.size; omega⟩
/-- the token's own block in a round -/
def TsA (b : Nat) (x : Tk × Int) (T : Nat) (W : World) : Prop := b + 8 ≤ T ∧ W.heap[T]? = some (.cells (cellsT x.1).toArray 29 (0, 0))
theorem TsA.put {b T : Nat} {x : Tk × Int} {W : World} (h : TsA b x T W) (o : Obj) : TsA b x T (W.putObj (b + 7) o) := by
  have hl := (Array.getElem?_eq_some_iff.1 h.2).1
  exact ⟨h.1, ((but_put W (b + 7) o).block T hl (by have := h.1; omega)).trans h.2⟩
theorem TsA.cells {b T : Nat} {x : Tk × Int} {W : World} (h : TsA b x T W) : W.cell? ⟨T, 0, none⟩ = some (.int .i64 x.1.k) ∧ W.cell? ⟨T, 1, none⟩ = some (.string (strOfNums x.1.tx)) ∧ W.cell? ⟨T, 2, none⟩ = some (.int .i64 x.1.n) ∧ W.cell? ⟨T, 3, none⟩ = some (.int .i64 x.1.a) := by
  have h2 := h.2
  refine ⟨?_, ?_, ?_, ?_⟩ <;> simp [World.cell?, h2, cellsT]
/-- one token more -/
theorem TsI.more {b : Nat} {w : World} {zs : List Int} {c : Option Nat} {pre : List (Tk × Int)} {W : World} (h : TsI b w zs c pre W) (t : Tk) (hl : pre.length ≤ 16384) :
    ∃ pa pn pc qa qn qc W5, (W.alloc (.cells (cellsT t).toArray 29)).cell? ⟨b + 3, 0, none⟩ = some (.slice pa pn pc) ∧ W.cell? ⟨b + 3, 0, none⟩ = some (.slice pa pn pc) ∧ (Builtin.append_ #[23, 23] 23 #[.slice pa pn pc, .slice (some ⟨W.heap.size, 0, none⟩) 1 1]).run Try.prog (W.alloc (.cells (cellsT t).toArray 29)) = .ok (.slice qa qn qc) W5 ∧ (W5.cell? ⟨b + 3, 0, none⟩ = some (.slice pa pn pc) ∧ W5.frozen? ⟨b + 3, 0, none⟩ = false) ∧ Dl2 (b + 6) W (W5.setCell ⟨b + 3, 0, none⟩ (.slice qa qn qc)) ∧ TsI b w zs c (pre ++ [(t, 0)]) (W5.setCell ⟨b + 3, 0, none⟩ (.slice qa qn qc)) := by
  obtain ⟨⟨v, q⟩, r⟩ := h
  have hz := q.sz
  obtain ⟨W4, hW4⟩ : ∃ W4, W4 = W.alloc (.cells (cellsT t).toArray 29) := ⟨_, rfl⟩
  have b4 : Below W.heap.size W W4 := by rw [hW4]; exact below1 _ _
  have z4 : W4.heap.size = W.heap.size + 1 := by rw [hW4]; simp
  have hg : W4.heap[W.heap.size]? = some (.cells (cellsT t).toArray 29 (0, 0)) := by rw [hW4]; exact heap_new _ _
  have s4 := q.same (But.of_below (X := fun _ => False) b4) (fun _ _ e => e) (fun _ _ _ e => e)
  obtain ⟨u', W5, hr, hL, hgr⟩ := s4.ow.push 23 t hg (by rw [List.length_map]; omega) (by omega)
  obtain ⟨pa, pc, rfl⟩ := q.ow.form
  obtain ⟨qa, qc, rfl⟩ := hL.form
  have b5 : Below (b + 8) W4 W5 := hgr.below (by omega) (fun g hg' => (own_blk s4.ow hg').1)
  have q3 := (b5.block (b + 3) (by omega)).trans s4.q3
  have hb6 := but_set W5 (b + 3) 0 (.slice qa ((pre.map Prod.fst) ++ [t]).length qc)
  have z5 := b5.size
  rw [← hW4]
  refine ⟨pa, _, pc, qa, _, qc, W5, (cell_of s4.q3).1, (cell_of q.q3).1, hr, cell_of q3, ?_, ?_⟩
  · exact ((Dl2.of_below b4 (by omega)).trans (Dl2.of_below b5 (by omega))).trans (Dl2.of_but hb6 (by omega) (by omega) (by omega))
  · have k : ∀ i, i < b + 6 → i ≠ b + 3 → (W5.setCell ⟨b + 3, 0, none⟩ (.slice qa ((pre.map Prod.fst) ++ [t]).length qc)).heap[i]? = W4.heap[i]? := fun i hi hn => (hb6.block i (by omega) hn).trans (b5.block i (by omega))
    refine ⟨⟨_, (k _ (by omega) (by omega)).trans s4.q0, (k _ (by omega) (by omega)).trans s4.q1, (k _ (by omega) (by omega)).trans s4.q2, set_of q3 _, fun a e => ?_, (k _ (by omega) (by omega)).trans s4.q5, ?_, ?_, by have := hb6.size; omega⟩, fun x hx => ?_⟩
    · have := s4.q4 a e
      unfold Scn at *
      rw [k _ (by omega) (by omega)]
      exact this
    · rw [List.map_append]
      exact hL.keep fun g hg hgl => hb6.block g hgl (by omega)
    · exact (s4.bel.trans (b5.mono (by omega))).trans (hb6.below (by omega) (fun x hx e => by omega))
    · rcases List.mem_append.1 hx with h | h
      · exact r x h
      · rw [List.mem_singleton.1 h]
/-- an error: the end -/
theorem TsI.err {b : Nat} {w : World} {zs : List Int} {c : Option Nat} {pre : List (Tk × Int)} {W : World} (h : TsI b w zs c pre W) (x : Tk × Int) (hx : x.2 ≠ 0) :
    ((W.cell? ⟨b, 0, none⟩ = some (.slice none 0 0) ∧ W.frozen? ⟨b, 0, none⟩ = false) ∧ (W.cell? ⟨b + 1, 0, none⟩ = some (.int .i64 0) ∧ W.frozen? ⟨b + 1, 0, none⟩ = false) ∧ (W.cell? ⟨b + 2, 0, none⟩ = some (.int .i64 0) ∧ W.frozen? ⟨b + 2, 0, none⟩ = false)) ∧
        Dl2 (b + 6) W (((W.setCell ⟨b, 0, none⟩ (.slice none 0 0)).setCell ⟨b + 1, 0, none⟩ (.int .i64 x.1.a)).setCell ⟨b + 2, 0, none⟩ (.int .i64 x.2)).drew ∧ TsX b w .ret (pre ++ [x]) (((W.setCell ⟨b, 0, none⟩ (.slice none 0 0)).setCell ⟨b + 1, 0, none⟩ (.int .i64 x.1.a)).setCell ⟨b + 2, 0, none⟩ (.int .i64 x.2)).drew := by
  obtain ⟨⟨v, s3⟩, r⟩ := h
  have hz := s3.sz
  refine ⟨⟨cell_of s3.q0, cell_of s3.q1, cell_of s3.q2⟩, ?_⟩
  obtain ⟨A1, hA1⟩ : ∃ A1, A1 = W.setCell ⟨b, 0, none⟩ (.slice none 0 0) := ⟨_, rfl⟩
  obtain ⟨A2, hA2⟩ : ∃ A2, A2 = A1.setCell ⟨b + 1, 0, none⟩ (.int .i64 x.1.a) := ⟨_, rfl⟩
  obtain ⟨A3, hA3⟩ : ∃ A3, A3 = A2.setCell ⟨b + 2, 0, none⟩ (.int .i64 x.2) := ⟨_, rfl⟩
  rw [← hA1, ← hA2, ← hA3]
  have e1 : But (fun k => k = b) W A1 := by rw [hA1]; exact but_set W b 0 _
  have e2 : But (fun k => k = b + 1) A1 A2 := by rw [hA2]; exact but_set A1 (b + 1) 0 _
  have e3 : But (fun k => k = b + 2) A2 A3 := by rw [hA3]; exact but_set A2 (b + 2) 0 _
  have f1 := e1.size
  have f2 := e2.size
  have f3 := e3.size
  refine ⟨((Dl2.of_but e1 (by omega) (by omega) (by omega)).trans (Dl2.of_but e2 (by omega) (by omega) (by omega))).trans ((Dl2.of_but e3 (by omega) (by omega) (by omega)).trans ⟨rfl, rfl⟩), rfl, pre, x, rfl, hx, ?_, ?_, ?_, ?_, ?_⟩
  · refine (e3.block b (by omega) (by omega)).trans ((e2.block b (by omega) (by omega)).trans ?_)
    rw [hA1]; exact set_of s3.q0 _
  · refine (e3.block (b + 1) (by omega) (by omega)).trans ?_
    rw [hA2]
    exact set_of ((e1.block (b + 1) (by omega) (by omega)).trans s3.q1) _
  · show A3.heap[b + 2]? = _
    rw [hA3]
    exact set_of ((e2.block (b + 2) (by omega) (by omega)).trans ((e1.block (b + 2) (by omega) (by omega)).trans s3.q2)) _
  · exact (((s3.bel.trans (e1.below (by omega) (fun x hx e => by omega))).trans (e2.below (by omega) (fun x hx e => by omega))).trans (e3.below (by omega) (fun x hx e => by omega))).trans (below_drew _ _)
  · show b + 8 ≤ A3.heap.size
    omega

end Go.Proofs.Ytoifmiloaefanaa
