import Derived.Test.YthkkdmblkalknaaGreatDoorA05
import Derived.Test.YthkkdmblkalknaaGreatDoorA10
import Derived.RegionIn
/-
  op: Parse in plain words; its set-up.
-/
namespace Go.Proofs.YthkkdmblkalknaaGreatDoor
open Go.RowKit Go.Deep Go.Shelf

theorem operationOf_any (s : ByteArray) (w : World) (hG : GT w) (hs : s.size ≤ 16777216) :
    Calls Tryz.prog 45 #[.string s] w fun e w' => ∃ v, e = .returned (.tuple #[.agg #[.int .i64 (lineP s).1.k, .string (lineP s).1.nm, .string (lineP s).1.ot, .int .i64 (lineP s).1.fr, .int .i64 (lineP s).1.to, v], .bool (lineP s).2]) ∧ OfE w (lineP s).1 v w' := by
  by_cases h : whole s = false ∨ kd ((pieces s).getD 0 cE) = 0
  · have e : lineP s = (PO0, false) := by unfold lineP; rw [if_pos h]
    rw [e]
    exact lineOf_no s w hG hs h
  · have h1 : whole s = true := by cases hw : whole s with | true => rfl | false => exact absurd (Or.inl hw) h
    exact lineOf_yes s w hG hs h1 _ rfl (by have : kd ((pieces s).getD 0 cE) ≠ 0 := fun e => h (.inr e); omega)

/-- the lines' operations, or the first line that is none -/
def prsL : Nat → List ByteArray → List PO → List PO × Nat × Int
  | _, [], acc => (acc, 0, 0)
  | n, l :: ls, acc => if (lineP l).2 = true then prsL (n + 1) ls (acc ++ [(lineP l).1]) else ([], n + 1, 162)
def prs (s : ByteArray) : List PO × Nat × Int := prsL 0 (linesB s) []
theorem prsL_ok : ∀ (ls : List ByteArray) (n : Nat) (acc : List PO), (∀ l ∈ ls, (lineP l).2 = true) → prsL n ls acc = (acc ++ ls.map (fun l => (lineP l).1), 0, 0)
  | [], n, acc, _ => by simp [prsL]
  | l :: ls, n, acc, h => by
    unfold prsL
    rw [if_pos (h l (by simp)), prsL_ok ls _ _ (fun q hq => h q (by simp [hq]))]
    simp
theorem prsL_err : ∀ (ls : List ByteArray) (x : ByteArray) (rest : List ByteArray) (n : Nat) (acc : List PO), (∀ l ∈ ls, (lineP l).2 = true) → (lineP x).2 = false → prsL n (ls ++ x :: rest) acc = ([], n + ls.length + 1, 162)
  | [], x, rest, n, acc, _, hx => by simp [prsL, hx]
  | l :: ls, x, rest, n, acc, h, hx => by
    rw [List.cons_append]
    unfold prsL
    rw [if_pos (h l (by simp)), prsL_err ls x rest _ _ (fun q hq => h q (by simp [hq])) hx]
    simp only [List.length_cons]
    rw [show n + 1 + ls.length + 1 = n + (ls.length + 1) + 1 by omega]

/-- within Parse -/
structure PsS (b : Nat) (w : World) (c0 : ByteArray) (n : Nat) (v : Value) (os : List PO) (W : World) : Prop where
  q0 : W.heap[b]? = some (.cells #[.slice none 0 0] 22 (0, 0))
  q1 : W.heap[b + 1]? = some (.cells #[.int .i64 0] 3 (0, 0))
  q2 : W.heap[b + 2]? = some (.cells #[.int .i64 0] 26 (0, 0))
  q3 : W.heap[b + 3]? = some (.cells #[v] 22 (0, 0))
  q4 : W.heap[b + 4]? = some (.cells #[.int .i64 (n : Int)] 3 (0, 0))
  q5 : W.heap[b + 5]? = some (.cells #[.string c0] 9 (0, 0))
  ow : ∃ vs, OwL (b + 8) W v os vs
  bel : Below b w W
  sz : b + 8 ≤ W.heap.size
def PsI (b : Nat) (w : World) (c0 : ByteArray) (pre : List ByteArray) (W : World) : Prop := (∃ v, PsS b w c0 pre.length v (pre.map fun l => (lineP l).1) W) ∧ ∀ l ∈ pre, (lineP l).2 = true
def PsX (b : Nat) (w : World) (c : Code) (pre : List ByteArray) (W : World) : Prop := c = .ret ∧ ∃ pre0 x, pre = pre0 ++ [x] ∧ (∀ l ∈ pre0, (lineP l).2 = true) ∧ (lineP x).2 = false ∧ W.heap[b]? = some (.cells #[.slice none 0 0] 22 (0, 0)) ∧ W.heap[b + 1]? = some (.cells #[.int .i64 (pre.length : Int)] 3 (0, 0)) ∧ W.heap[b + 2]? = some (.cells #[.int .i64 162] 26 (0, 0)) ∧ Below b w W ∧ b + 8 ≤ W.heap.size
theorem cell_of {W : World} {g : Nat} {v : Value} {t : TypeId} (h : W.heap[g]? = some (.cells #[v] t (0, 0))) : W.cell? ⟨g, 0, none⟩ = some v ∧ W.frozen? ⟨g, 0, none⟩ = false := ⟨by simp [World.cell?, h], by simp [World.frozen?, h]⟩
theorem set_of {W : World} {g : Nat} {v : Value} {t : TypeId} (h : W.heap[g]? = some (.cells #[v] t (0, 0))) (u : Value) : (W.setCell ⟨g, 0, none⟩ u).heap[g]? = some (.cells #[u] t (0, 0)) := by
  have hl := (Array.getElem?_eq_some_iff.1 h).1
  have h2 := (Array.getElem?_eq_some_iff.1 h).2
  simp [World.setCell, Array.getElem_modify_self, h2, hl]
theorem but_set (w : World) (o i : Nat) (v : Value) : But (fun k => k = o) w (w.setCell ⟨o, i, none⟩ v) := (But.refl (fun k => k = o) w).setCell (p := ⟨o, i, none⟩) rfl v
/-- what lies in other blocks does not matter -/
theorem PsS.keep {b : Nat} {w : World} {c0 : ByteArray} {n : Nat} {v : Value} {os : List PO} {W W' : World} {X : Nat → Prop} (h : PsS b w c0 n v os W) (hb : But X W W') (h1 : ∀ x, x < b + 6 → ¬ X x) (h2 : ∀ x, b + 8 ≤ x → x < W.heap.size → ¬ X x) : PsS b w c0 n v os W' := by
  have hz := h.sz
  refine ⟨(hb.block _ (by omega) (h1 _ (by omega))).trans h.q0, (hb.block _ (by omega) (h1 _ (by omega))).trans h.q1, (hb.block _ (by omega) (h1 _ (by omega))).trans h.q2, (hb.block _ (by omega) (h1 _ (by omega))).trans h.q3, (hb.block _ (by omega) (h1 _ (by omega))).trans h.q4, (hb.block _ (by omega) (h1 _ (by omega))).trans h.q5, ?_, ?_, by have := hb.size; omega⟩
  · obtain ⟨vs, ho⟩ := h.ow
    exact ⟨vs, ho.keep fun g hg hgl => hb.block g hgl (h2 g hg hgl)⟩
  · exact h.bel.trans (hb.below (by omega) (fun x hx e => h1 x (by omega) e))
theorem PsI.drew {b : Nat} {w : World} {c0 : ByteArray} {pre : List ByteArray} {W : World} (h : PsI b w c0 pre W) : PsI b w c0 pre W.drew := by
  obtain ⟨⟨v, q⟩, r⟩ := h
  exact ⟨⟨v, q.q0, q.q1, q.q2, q.q3, q.q4, q.q5, q.ow.imp fun vs o => o.keep fun g _ _ => rfl, q.bel.trans (below_drew _ _), q.sz⟩, r⟩
theorem PsI.put {b : Nat} {w : World} {c0 : ByteArray} {pre : List ByteArray} {W : World} (h : PsI b w c0 pre W) (o : Obj) : PsI b w c0 pre (W.putObj (b + 7) o) := by
  obtain ⟨⟨v, q⟩, r⟩ := h
  exact ⟨⟨v, q.keep (but_put W _ o) (fun x hx e => by omega) (fun x hx _ e => by omega)⟩, r⟩
theorem PsX.put {b : Nat} {w : World} {c : Code} {pre : List ByteArray} {W : World} (h : PsX b w c pre W) (o : Obj) : PsX b w c pre (W.putObj (b + 7) o) := by
  obtain ⟨h0, p0, x, h1, h2, h3, h4, h5, h6, h7, h8⟩ := h
  have hb := but_put W (b + 7) o
  exact ⟨h0, p0, x, h1, h2, h3, (hb.block _ (by omega) (by omega)).trans h4, (hb.block _ (by omega) (by omega)).trans h5, (hb.block _ (by omega) (by omega)).trans h6, h7.trans (hb.below (by omega) (fun x hx e => by omega)), by have := hb.size; omega⟩
theorem PsI.cut {b : Nat} {w : World} {c0 : ByteArray} {pre : List ByteArray} {W : World} (h : PsI b w c0 pre W) (c1 : ByteArray) : PsI b w c1 pre (W.setCell ⟨b + 5, 0, none⟩ (.string c1)) := by
  obtain ⟨⟨v, q⟩, r⟩ := h
  have hz := q.sz
  have hb := but_set W (b + 5) 0 (.string c1)
  refine ⟨⟨v, (hb.block _ (by omega) (by omega)).trans q.q0, (hb.block _ (by omega) (by omega)).trans q.q1, (hb.block _ (by omega) (by omega)).trans q.q2, (hb.block _ (by omega) (by omega)).trans q.q3, (hb.block _ (by omega) (by omega)).trans q.q4, set_of q.q5 _, ?_, ?_, by have := hb.size; omega⟩, r⟩
  · obtain ⟨vs, ho⟩ := q.ow
    exact ⟨vs, ho.keep fun g hg hgl => hb.block g hgl (by omega)⟩
  · exact q.bel.trans (hb.below (by omega) (fun x hx e => by omega))
theorem Lines_any (s : ByteArray) (w : World) : Calls Tryz.prog 44 #[.string s] w fun e w' => e = .returned (.func (.func 77) #[] #[.pointer (some ⟨w.heap.size, 0, none⟩)]) ∧ w' = w.alloc (.cells #[.string s] 9) := by
  go_enter Tryz.func44, Tryz.ntmps44
  go_wp2
  go_ret
  exact ⟨rfl, rfl⟩
theorem results_cells3 {P : Program} {fn : Func} {p q r : Tmp} {t1 t2 t3 : TypeId} (h : fn.results = #[.cell p t1, .cell q t2, .cell r t3]) (tmps : Array Value) (w : World) {b1 b2 b3 : Nat} {v1 v2 v3 : Value} (hp : tmps.getD p undef = .pointer (some ⟨b1, 0, none⟩)) (hq : tmps.getD q undef = .pointer (some ⟨b2, 0, none⟩)) (hr : tmps.getD r undef = .pointer (some ⟨b3, 0, none⟩)) (h1 : (loadVar t1 ⟨b1, 0, none⟩).run P w = .ok v1 w) (h2 : (loadVar t2 ⟨b2, 0, none⟩).run P w = .ok v2 w) (h3 : (loadVar t3 ⟨b3, 0, none⟩).run P w = .ok v3 w) : (results fn tmps).run P w = .ok (.tuple #[v1, v2, v3]) w := by
  have hp' := hp
  have hq' := hq
  have hr' := hr
  simp only [Array.getD_eq_getD_getElem?] at hp' hq' hr'
  simp only [results, h]
  simp [Sem.run_bind, hp', hq', hr', asAddr, h1, h2, h3]
theorem loadv_one {P : Program} {t b : Nat} {v : Value} {w : World} {d : TypeDesc} (hu : P.underlying t = some d) (hd : (match d with | .struct _ | .array _ _ => true | _ => false) = false) (hc : w.cell? ⟨b, 0, none⟩ = some v) : (loadVar t ⟨b, 0, none⟩).run P w = .ok v w := by
  have hr := fun W : World => run_underlying hu W
  simp only [loadVar, isAgg, Sem.run_bind, hr, Result.andThen]
  cases d <;> simp_all

end Go.Proofs.YthkkdmblkalknaaGreatDoor
/-
  op: Parse, what its round does.
-/
namespace Go.Proofs.YthkkdmblkalknaaGreatDoor
open Go.RowKit Go.Deep Go.Shelf

theorem OwL.form {B : Nat} {w : World} {v : Value} {os : List PO} {vs : List Value} (h : OwL B w v os vs) : ∃ a n c, v = .slice a n c := by
  rcases h.row.2 with ⟨e, _⟩ | ⟨g, cap, cur, e, _⟩
  · exact ⟨_, _, _, e⟩
  · exact ⟨_, _, _, e⟩
theorem PsI.form {b : Nat} {w : World} {c0 : ByteArray} {pre : List ByteArray} {W : World} (h : PsI b w c0 pre W) {v : Value} (hv : W.cell? ⟨b + 3, 0, none⟩ = some v) : ∃ a n c, v = .slice a n c := by
  obtain ⟨⟨v', q⟩, r⟩ := h
  rw [(cell_of q.q3).1] at hv
  obtain ⟨vs, ho⟩ := q.ow
  cases hv
  exact ho.form
theorem PsS.cellsAll {b : Nat} {w : World} {c0 : ByteArray} {n : Nat} {v : Value} {os : List PO} {W : World} (h : PsS b w c0 n v os W) : (W.cell? ⟨b + 3, 0, none⟩ = some v ∧ W.frozen? ⟨b + 3, 0, none⟩ = false) ∧ (W.cell? ⟨b + 4, 0, none⟩ = some (.int .i64 (n : Int)) ∧ W.frozen? ⟨b + 4, 0, none⟩ = false) ∧ (W.cell? ⟨b, 0, none⟩ = some (.slice none 0 0) ∧ W.frozen? ⟨b, 0, none⟩ = false) ∧ (W.cell? ⟨b + 1, 0, none⟩ = some (.int .i64 0) ∧ W.frozen? ⟨b + 1, 0, none⟩ = false) ∧ (W.cell? ⟨b + 2, 0, none⟩ = some (.int .i64 0) ∧ W.frozen? ⟨b + 2, 0, none⟩ = false) := ⟨cell_of h.q3, cell_of h.q4, cell_of h.q0, cell_of h.q1, cell_of h.q2⟩
theorem PsS.count {b : Nat} {w : World} {c0 : ByteArray} {n : Nat} {v : Value} {os : List PO} {W : World} (h : PsS b w c0 n v os W) (m : Nat) : PsS b w c0 m v os (W.setCell ⟨b + 4, 0, none⟩ (.int .i64 (m : Int))) := by
  have hz := h.sz
  have hb := but_set W (b + 4) 0 (.int .i64 (m : Int))
  refine ⟨(hb.block _ (by omega) (by omega)).trans h.q0, (hb.block _ (by omega) (by omega)).trans h.q1, (hb.block _ (by omega) (by omega)).trans h.q2, (hb.block _ (by omega) (by omega)).trans h.q3, set_of h.q4 _, (hb.block _ (by omega) (by omega)).trans h.q5, ?_, ?_, by have := hb.size; omega⟩
  · obtain ⟨vs, ho⟩ := h.ow
    exact ⟨vs, ho.keep fun g hg hgl => hb.block g hgl (by omega)⟩
  · exact h.bel.trans (hb.below (by omega) (fun x hx e => by omega))
/-- a round: the line's operation; then one more in the list, or the end -/
theorem PsI.step {b : Nat} {w : World} {c0 : ByteArray} {pre : List ByteArray} {W : World} (h : PsI b w c0 pre W) (hG : GT w) (hb : w.heap.size = b) (x : ByteArray) (hx : x.size ≤ 16777216) (hl : pre.length ≤ 16777216) :
    Calls Tryz.prog 45 #[.string x] (W.setCell ⟨b + 4, 0, none⟩ (.int .i64 ((pre.length : Int) + 1))) fun e W2 => ∃ o va vn vc ok, e = .returned (.tuple #[.agg #[.int .i64 o.k, .string o.nm, .string o.ot, .int .i64 o.fr, .int .i64 o.to, .slice va vn vc], .bool ok]) ∧ lineP x = (o, ok) ∧ ∀ W3, W3 = W2.alloc (.cells #[.int .i64 o.k, .string o.nm, .string o.ot, .int .i64 o.fr, .int .i64 o.to, .slice va vn vc] 29) →
      (ok = true → ∃ v, ((∃ a n c, v = .slice a n c) ∧ W3.cell? ⟨b + 3, 0, none⟩ = some v) ∧ ∃ u' W5, (∃ a n c, u' = .slice a n c) ∧  (Builtin.append_ #[22, 22] 22 #[v, .slice (some ⟨W2.heap.size + 1, 0, none⟩) 1 1]).run Tryz.prog (W3.alloc (.cells #[.int .i64 o.k, .string o.nm, .string o.ot, .int .i64 o.fr, .int .i64 o.to, .slice va vn vc] 29)) = .ok u' W5 ∧ (W5.cell? ⟨b + 3, 0, none⟩ = some v ∧ W5.frozen? ⟨b + 3, 0, none⟩ = false) ∧ Dl2 (b + 6) W (W5.setCell ⟨b + 3, 0, none⟩ u') ∧ PsI b w c0 (pre ++ [x]) (W5.setCell ⟨b + 3, 0, none⟩ u')) ∧
      (ok = false → ((W3.cell? ⟨b + 4, 0, none⟩ = some (.int .i64 ((pre.length : Int) + 1))) ∧ (W3.cell? ⟨b, 0, none⟩ = some (.slice none 0 0) ∧ W3.frozen? ⟨b, 0, none⟩ = false) ∧ (W3.cell? ⟨b + 1, 0, none⟩ = some (.int .i64 0) ∧ W3.frozen? ⟨b + 1, 0, none⟩ = false) ∧ (W3.cell? ⟨b + 2, 0, none⟩ = some (.int .i64 0) ∧ W3.frozen? ⟨b + 2, 0, none⟩ = false)) ∧
        Dl2 (b + 6) W (((W3.setCell ⟨b, 0, none⟩ (.slice none 0 0)).setCell ⟨b + 1, 0, none⟩ (.int .i64 ((pre.length : Int) + 1))).setCell ⟨b + 2, 0, none⟩ (.int .i64 162)).drew ∧ PsX b w .ret (pre ++ [x]) (((W3.setCell ⟨b, 0, none⟩ (.slice none 0 0)).setCell ⟨b + 1, 0, none⟩ (.int .i64 ((pre.length : Int) + 1))).setCell ⟨b + 2, 0, none⟩ (.int .i64 162)).drew) := by
  obtain ⟨⟨v, q⟩, r⟩ := h
  have hz := q.sz
  have s1 := q.count (pre.length + 1)
  rw [show ((pre.length + 1 : Nat) : Int) = (pre.length : Int) + 1 by omega] at s1
  have d1 : Dl2 (b + 6) W (W.setCell ⟨b + 4, 0, none⟩ (.int .i64 ((pre.length : Int) + 1))) := Dl2.of_but (but_set W (b + 4) 0 _) (by omega) (by omega) (by omega)
  have z1 : (W.setCell ⟨b + 4, 0, none⟩ (.int .i64 ((pre.length : Int) + 1))).heap.size = W.heap.size := by simp [World.setCell]
  have h9 := hG.lt
  generalize W.setCell ⟨b + 4, 0, none⟩ (.int .i64 ((pre.length : Int) + 1)) = W1 at s1 d1 z1 ⊢
  refine (operationOf_any x W1 (hG.below s1.bel (by omega)) hx).mono ?_
  rintro e W2 ⟨v2, rfl, h1, h2⟩
  obtain ⟨va, vc, rfl⟩ := h1.form
  refine ⟨(lineP x).1, va, _, vc, (lineP x).2, rfl, rfl, fun W3 hW3 => ?_⟩
  have s2 := s1.keep (But.of_below (X := fun _ => False) h2) (fun _ _ e => e) (fun _ _ _ e => e)
  have b3 : Below W2.heap.size W2 W3 := by rw [hW3]; exact below1 _ _
  have s3 := s2.keep (But.of_below (X := fun _ => False) b3) (fun _ _ e => e) (fun _ _ _ e => e)
  have z2 := h2.size
  have z3 : W3.heap.size = W2.heap.size + 1 := by rw [hW3]; simp
  have d3 : Dl2 (b + 6) W W3 := (d1.trans (Dl2.of_below h2 (by omega))).trans (Dl2.of_below b3 (by omega))
  refine ⟨fun hok => ?_, fun hno => ?_⟩
  · have c3 := s3.cellsAll
    refine ⟨v, ⟨by obtain ⟨vs, ho⟩ := q.ow; exact ho.form, c3.1.1⟩, ?_⟩
    obtain ⟨W4, hW4⟩ : ∃ W4, W4 = W3.alloc (.cells #[.int .i64 (lineP x).1.k, .string (lineP x).1.nm, .string (lineP x).1.ot, .int .i64 (lineP x).1.fr, .int .i64 (lineP x).1.to, .slice va (lineP x).1.da.length vc] 29) := ⟨_, rfl⟩
    rw [← hW4]
    have b4 : Below W3.heap.size W3 W4 := by rw [hW4]; exact below1 _ _
    have s4 := s3.keep (But.of_below (X := fun _ => False) b4) (fun _ _ e => e) (fun _ _ _ e => e)
    obtain ⟨vs, ho⟩ := q.ow
    obtain ⟨vs4, ho4⟩ := s4.ow
    have b24 : Below W2.heap.size W2 W4 := b3.trans (b4.mono (by omega))
    have b14 : Below W1.heap.size W1 W4 := h2.trans (b24.mono (by omega))
    obtain ⟨vs1, ho1⟩ := s1.ow
    have ho4' := ho1.next b14
    obtain ⟨u', W5, hr, hL, hg⟩ := ho4'.push 22 (lineP x).1 _ ((h1.mono (show b + 8 ≤ W1.heap.size by omega)).next b24) (fun i hi g hgi e => by
      have q1 := (ho1.dat i (by rw [← ho1.len]; exact hi)).lt g hgi
      have q2 := h1.base g e
      omega) (g := W2.heap.size + 1) (by rw [hW4, ← z3]; exact heap_new _ _) (by simpa using hl) (by have := b4.size; omega)
    have z4 := b4.size
    have b5 : Below (b + 8) W4 W5 := hg.below (by omega) (fun g hg' => (own_blk ho4'.row hg').1)
    have q3 := (b5.block (b + 3) (by omega)).trans s4.q3
    have hb6 := but_set W5 (b + 3) 0 u'
    have z5 := b5.size
    refine ⟨u', W5, hL.form, hr, cell_of q3, ?_, ?_⟩
    · exact ((d3.trans (Dl2.of_below b4 (by omega))).trans (Dl2.of_below b5 (by omega))).trans (Dl2.of_but hb6 (by omega) (by omega) (by omega))
    · refine ⟨⟨u', ?_⟩, fun l hl' => ?_⟩
      · have k : ∀ i, i < b + 6 → i ≠ b + 3 → (W5.setCell ⟨b + 3, 0, none⟩ u').heap[i]? = W4.heap[i]? := fun i hi hn => (hb6.block i (by omega) hn).trans (b5.block i (by omega))
        refine ⟨(k _ (by omega) (by omega)).trans s4.q0, (k _ (by omega) (by omega)).trans s4.q1, (k _ (by omega) (by omega)).trans s4.q2, set_of q3 _, ?_, (k _ (by omega) (by omega)).trans s4.q5, ⟨vs1 ++ [.slice va (lineP x).1.da.length vc], ?_⟩, ?_, by have := hb6.size; omega⟩
        · rw [List.length_append]; exact (k _ (by omega) (by omega)).trans s4.q4
        · rw [List.map_append]
          exact hL.keep fun g hg hgl => hb6.block g hgl (by omega)
        · exact (s4.bel.trans (b5.mono (by omega))).trans (hb6.below (by omega) (fun x hx e => by omega))
      · rcases List.mem_append.1 hl' with h | h
        · exact r l h
        · rw [List.mem_singleton.1 h]; exact hok
  · have c3 := s3.cellsAll
    refine ⟨⟨by have := c3.2.1.1; rwa [show ((pre.length + 1 : Nat) : Int) = (pre.length : Int) + 1 by omega] at this, c3.2.2.1, c3.2.2.2.1, c3.2.2.2.2⟩, ?_⟩
    obtain ⟨A1, hA1⟩ : ∃ A1, A1 = W3.setCell ⟨b, 0, none⟩ (.slice none 0 0) := ⟨_, rfl⟩
    obtain ⟨A2, hA2⟩ : ∃ A2, A2 = A1.setCell ⟨b + 1, 0, none⟩ (.int .i64 ((pre.length : Int) + 1)) := ⟨_, rfl⟩
    obtain ⟨A3, hA3⟩ : ∃ A3, A3 = A2.setCell ⟨b + 2, 0, none⟩ (.int .i64 162) := ⟨_, rfl⟩
    rw [← hA1, ← hA2, ← hA3]
    have e1 : But (fun k => k = b) W3 A1 := by rw [hA1]; exact but_set W3 b 0 _
    have e2 : But (fun k => k = b + 1) A1 A2 := by rw [hA2]; exact but_set A1 (b + 1) 0 _
    have e3 : But (fun k => k = b + 2) A2 A3 := by rw [hA3]; exact but_set A2 (b + 2) 0 _
    have f1 := e1.size
    have f2 := e2.size
    have f3 := e3.size
    refine ⟨((d3.trans (Dl2.of_but e1 (by omega) (by omega) (by omega))).trans (Dl2.of_but e2 (by omega) (by omega) (by omega))).trans ((Dl2.of_but e3 (by omega) (by omega) (by omega)).trans ⟨rfl, rfl⟩), rfl, pre, x, rfl, r, hno, ?_, ?_, ?_, ?_, ?_⟩
    · refine (e3.block b (by omega) (by omega)).trans ((e2.block b (by omega) (by omega)).trans ?_)
      rw [hA1]; exact set_of s3.q0 _
    · refine (e3.block (b + 1) (by omega) (by omega)).trans ?_
      rw [hA2, List.length_append]
      exact set_of ((e1.block (b + 1) (by omega) (by omega)).trans s3.q1) _
    · show A3.heap[b + 2]? = _
      rw [hA3]
      exact set_of ((e2.block (b + 2) (by omega) (by omega)).trans ((e1.block (b + 2) (by omega) (by omega)).trans s3.q2)) _
    · exact (((s3.bel.trans (e1.below (by omega) (fun x hx e => by omega))).trans (e2.below (by omega) (fun x hx e => by omega))).trans (e3.below (by omega) (fun x hx e => by omega))).trans (below_drew _ _)
    · show b + 8 ≤ A3.heap.size
      omega

end Go.Proofs.YthkkdmblkalknaaGreatDoor
/-
  op: Parse.
-/
namespace Go.Proofs.YthkkdmblkalknaaGreatDoor
open Go.RowKit Go.Deep Go.Shelf

attribute [local go_sem] Oper.semAt_some

theorem wpListIn_append_run {F : Fence} {n : Nat} {P : Program} {w w' : World} {ops : Array Oper} {rest : List Oper} {o : Oper} {a : Act} {Q : Exit → Act → World → Prop} (hg : o.guard = none) (s x : Operand) (t : TypeId) (hop : o.op = Op.call { callee := Callee.builtin Builtin.append, args := #[s, x], argTypes := #[t, t] }) {v v1 v2 : Value} (hs : a.eval s = v) (hx : a.eval x = v1) (hrun : (Builtin.append_ #[t, t] o.type #[v, v1]).run P w = .ok v2 w') (hK : wpListIn F n P ops Q rest (a.put o.dst v2) w') : wpListIn F n P ops Q (o :: rest) a w := by
  refine wpListIn_plain hg fun K hK' => ?_
  unfold Oper.wpIn
  refine ⟨?_, ?_⟩
  · simp [Oper.about, hop, resolve, Target.leads, Sem.run_pure]
  · rw [Oper.semAt_plain F _ _ (by rw [hop]; intro c hc'; cases hc')]
    simp [execOp, hop, resolve, invoke, builtin, hs, hx, hrun, Result.andThen]
    exact hK' _ _ hK

set_option maxRecDepth 100000 in
set_option maxHeartbeats 16000000 in
theorem Parse_any (text : ByteArray) (w : World) (hG : GT w) (ht : text.size ≤ 16777216) :
    Calls Tryz.prog 18 #[.string text] w fun e w' => ∃ u vs, e = .returned (.tuple #[u, .int .i64 ((prs text).2.1 : Int), .int .i64 (prs text).2.2]) ∧ OwL w.heap.size w' u (prs text).1 vs ∧ Below w.heap.size w w' := by
  obtain ⟨PQ, hPQ⟩ : ∃ PQ : Ending → World → Prop, PQ = fun e w' => ∃ u vs, e = .returned (.tuple #[u, .int .i64 ((prs text).2.1 : Int), .int .i64 (prs text).2.2]) ∧ OwL w.heap.size w' u (prs text).1 vs ∧ Below w.heap.size w w' := ⟨_, rfl⟩
  rw [← hPQ]
  obtain ⟨b, hb⟩ : ∃ b, w.heap.size = b := ⟨_, rfl⟩
  rw [hb] at hPQ
  have HPQ := hid hPQ
  obtain ⟨w1, hw1⟩ : ∃ w1, w1 = ((((w.alloc (.cells #[.slice none 0 0] 22)).alloc (.cells #[.int .i64 0] 3)).alloc (.cells #[.int .i64 0] 26)).alloc (.cells #[.slice none 0 0] 22)).alloc (.cells #[.int .i64 0] 3) := ⟨_, rfl⟩
  have HW1 := hid hw1
  have s1 : w1.heap.size = b + 5 := by rw [hw1]; simp [hb]
  have HL := hid (Lines_any text w1)
  obtain ⟨w3, hw3⟩ : ∃ w3, w3 = w1.alloc (.cells #[.string text] 9) := ⟨_, rfl⟩
  have s3 : w3.heap.size = b + 6 := by rw [hw3]; simp [s1]
  rw [← hw3, s1] at HL
  have HS3 := hid s3
  have HIT := hid (lines_it 3 (by omega) (b + 5) (b + 6) text ht (PsI b w) (fun _ => PsX b w) w3 (by omega) (fun c0 pre W h => cell_of (by obtain ⟨⟨v, q⟩, r⟩ := h; exact q.q5)) (fun c0 c1 pre W h => h.cut c1) (fun c0 pre W h => h.drew))
  have H0 : Hid (∀ o1 o2, PsI b w text [] ((w3.alloc o1).alloc o2)) := fun o1 o2 => by
    have bb : Below b w ((w3.alloc o1).alloc o2) := by
      rw [hw3, hw1, ← hb]
      exact (((((((Below.refl _ _).alloc (Nat.le_refl _) _).alloc (by simp) _).alloc (by simp; omega) _).alloc (by simp; omega) _).alloc (by simp; omega) _).alloc (by simp; omega) _).alloc (by simp; omega) _ |>.alloc (by simp; omega) _
    have al : ∀ (u : World) (o : Obj), (u.alloc o).heap = u.heap.push o := fun _ _ => rfl
    have hz : ((w3.alloc o1).alloc o2).heap.size = b + 8 := by simp [s3]
    refine ⟨⟨_, ?_, ?_, ?_, ?_, ?_, ?_, ⟨[], OwL.nil _ _⟩, bb, by omega⟩, by simp⟩
    all_goals (rw [hw3, hw1]; simp only [al, Array.getElem?_push, Array.size_push, hb]; simp only [if_true]; repeat (first | rw [if_pos (by omega)] | rw [if_neg (by omega)]); try rfl)
  have HSTEP := hid (fun c0 pre W (h : PsI b w c0 pre W) => h.step hG hb)
  have HEnd : Hid (∀ D c0 xs W, b + 6 = D → xs = linesB text → PsI b w c0 xs W → W.heap[D]? = some (.deferred (some [])) → ∃ v, (∃ a n c, v = .slice a n c) ∧ (W.cell? ⟨b + 3, 0, none⟩ = some v ∧ (W.cell? ⟨b, 0, none⟩ = some (.slice none 0 0) ∧ W.frozen? ⟨b, 0, none⟩ = false) ∧ (W.cell? ⟨b + 1, 0, none⟩ = some (.int .i64 0) ∧ W.frozen? ⟨b + 1, 0, none⟩ = false) ∧ (W.cell? ⟨b + 2, 0, none⟩ = some (.int .i64 0) ∧ W.frozen? ⟨b + 2, 0, none⟩ = false)) ∧
      (((W.setCell ⟨b, 0, none⟩ v).setCell ⟨b + 1, 0, none⟩ (.int .i64 0)).setCell ⟨b + 2, 0, none⟩ (.int .i64 0)).heap[D]? = some (.deferred (some [])) ∧
      (((((W.setCell ⟨b, 0, none⟩ v).setCell ⟨b + 1, 0, none⟩ (.int .i64 0)).setCell ⟨b + 2, 0, none⟩ (.int .i64 0)).putObj D (.deferred none)).cell? ⟨b, 0, none⟩ = some v ∧ ((((W.setCell ⟨b, 0, none⟩ v).setCell ⟨b + 1, 0, none⟩ (.int .i64 0)).setCell ⟨b + 2, 0, none⟩ (.int .i64 0)).putObj D (.deferred none)).cell? ⟨b + 1, 0, none⟩ = some (.int .i64 0) ∧ ((((W.setCell ⟨b, 0, none⟩ v).setCell ⟨b + 1, 0, none⟩ (.int .i64 0)).setCell ⟨b + 2, 0, none⟩ (.int .i64 0)).putObj D (.deferred none)).cell? ⟨b + 2, 0, none⟩ = some (.int .i64 0)) ∧
      PQ (.returned (.tuple #[v, .int .i64 0, .int .i64 0])) ((((W.setCell ⟨b, 0, none⟩ v).setCell ⟨b + 1, 0, none⟩ (.int .i64 0)).setCell ⟨b + 2, 0, none⟩ (.int .i64 0)).putObj D (.deferred none))) := fun D c0 xs W hD hS hi hDk => by
    obtain ⟨⟨v, q⟩, r⟩ := hi
    have hz := q.sz
    obtain ⟨c3, c4, c0', c1, c2⟩ := q.cellsAll
    obtain ⟨A1, hA1⟩ : ∃ A1, A1 = W.setCell ⟨b, 0, none⟩ v := ⟨_, rfl⟩
    obtain ⟨A2, hA2⟩ : ∃ A2, A2 = A1.setCell ⟨b + 1, 0, none⟩ (.int .i64 0) := ⟨_, rfl⟩
    obtain ⟨A3, hA3⟩ : ∃ A3, A3 = A2.setCell ⟨b + 2, 0, none⟩ (.int .i64 0) := ⟨_, rfl⟩
    obtain ⟨A4, hA4⟩ : ∃ A4, A4 = A3.putObj D (.deferred none) := ⟨_, rfl⟩
    refine ⟨v, by obtain ⟨vs, ho⟩ := q.ow; exact ho.form, ⟨c3.1, c0', c1, c2⟩, ?_⟩
    rw [← hA1, ← hA2, ← hA3, ← hA4]
    have e1 : But (fun k => k = b) W A1 := by rw [hA1]; exact but_set W b 0 _
    have e2 : But (fun k => k = b + 1) A1 A2 := by rw [hA2]; exact but_set A1 (b + 1) 0 _
    have e3 : But (fun k => k = b + 2) A2 A3 := by rw [hA3]; exact but_set A2 (b + 2) 0 _
    have e4 : But (fun k => k = D) A3 A4 := by rw [hA4]; exact but_put A3 D _
    have f1 := e1.size
    have f2 := e2.size
    have f3 := e3.size
    have g0 : A4.heap[b]? = some (.cells #[v] 22 (0, 0)) := (e4.block b (by omega) (by omega)).trans ((e3.block b (by omega) (by omega)).trans ((e2.block b (by omega) (by omega)).trans (by rw [hA1]; exact set_of q.q0 _)))
    have g1 : A4.heap[b + 1]? = some (.cells #[.int .i64 0] 3 (0, 0)) := (e4.block _ (by omega) (by omega)).trans ((e3.block _ (by omega) (by omega)).trans (by rw [hA2]; exact set_of ((e1.block _ (by omega) (by omega)).trans q.q1) _))
    have g2 : A4.heap[b + 2]? = some (.cells #[.int .i64 0] 26 (0, 0)) := (e4.block _ (by omega) (by omega)).trans (by rw [hA3]; exact set_of ((e2.block _ (by omega) (by omega)).trans ((e1.block _ (by omega) (by omega)).trans q.q2)) _)
    have hDl := (Array.getElem?_eq_some_iff.1 hDk).1
    refine ⟨(e3.block D (by omega) (by omega)).trans ((e2.block D (by omega) (by omega)).trans ((e1.block D (by omega) (by omega)).trans hDk)), ⟨(cell_of g0).1, (cell_of g1).1, (cell_of g2).1⟩, ?_⟩
    rw [HPQ.out]
    have hp : prs text = (xs.map (fun l => (lineP l).1), 0, 0) := by
      unfold prs
      rw [← hS, prsL_ok xs 0 [] r]
      rfl
    obtain ⟨vs, ho⟩ := q.ow
    rw [hp]
    refine ⟨v, vs, rfl, (ho.keep (w' := A4) fun g hg hgl => ?_).mono (show b ≤ b + 8 by omega), ?_⟩
    · exact (e4.block g (by omega) (by omega)).trans ((e3.block g (by omega) (by omega)).trans ((e2.block g (by omega) (by omega)).trans (e1.block g (by omega) (by omega))))
    · exact (((q.bel.trans (e1.below (by omega) (fun x hx e => by omega))).trans (e2.below (by omega) (fun x hx e => by omega))).trans (e3.below (by omega) (fun x hx e => by omega))).trans (e4.below (by omega) (fun x hx e => by omega))
  have HStp : Hid (∀ D c pre W, b + 6 = D → (∃ rest, pre ≠ [] ∧ pre ++ rest = linesB text) → PsX b w c pre W → W.heap[D]? = some (.deferred (some [])) → c = .ret ∧ ((W.putObj D (.deferred none)).cell? ⟨b, 0, none⟩ = some (.slice none 0 0) ∧ (W.putObj D (.deferred none)).cell? ⟨b + 1, 0, none⟩ = some (.int .i64 (pre.length : Int)) ∧ (W.putObj D (.deferred none)).cell? ⟨b + 2, 0, none⟩ = some (.int .i64 162)) ∧ PQ (.returned (.tuple #[.slice none 0 0, .int .i64 (pre.length : Int), .int .i64 162])) (W.putObj D (.deferred none))) := fun D c pre W hD hS hi hDk => by
    obtain ⟨h0, p0, x, h1, h2, h3, h4, h5, h6, h7, h8⟩ := hi
    have e4 := but_put W D (.deferred none)
    refine ⟨h0, ⟨(cell_of ((e4.block _ (by omega) (by omega)).trans h4)).1, (cell_of ((e4.block _ (by omega) (by omega)).trans h5)).1, (cell_of ((e4.block _ (by omega) (by omega)).trans h6)).1⟩, ?_⟩
    rw [HPQ.out]
    obtain ⟨rest, _, hr⟩ := hS
    have hp : prs text = ([], pre.length, 162) := by
      unfold prs
      rw [← hr, h1, List.append_assoc, List.singleton_append, prsL_err p0 x rest 0 [] h2 h3, List.length_append]
      simp
    rw [hp]
    exact ⟨_, [], rfl, OwL.nil _ _, h7.trans (e4.below (by omega) (fun x hx e => by omega))⟩
  clear hPQ hw1 hw3 s1 s3 hG
  refine (callsIn_wide (n := 5)).1 ?_
  refine callsIn_of_wp_marks Tryz.func18 rfl trivial ?_ rfl
  refine wpIn_wide.2 ?_
  simp only [Tryz.ntmps18, List.size_toArray, List.length_cons, List.length_nil, Nat.reduceAdd, Nat.reduceSub, Array.replicate_succ, Array.replicate_zero, List.push_toArray, List.append_toArray, List.nil_append, List.cons_append]
  go_wp2_with fail
  rw [← HW1.out]
  refine Calls.mono HL.out ?_
  rintro e w2 ⟨rfl, hw2⟩
  rw [hw2]
  clear HL hw2 HW1
  go_wp2_with fail
  refine (wpIn_wide (n := 4)).1 ?_
  have HT : Hid (text.size ≤ 16777216) := ht
  refine rfLawG (F := Fence.wide) (n := 4) rfl (by omega) (gf := 77) (lb := #[.pointer (some ⟨b + 5, 0, none⟩)]) rfl trivial (enters_of Tryz.func77 (by kernel_rfl) rfl) (fun _ => rfl) (PsI b w) (fun _ => PsX b w) ?hI ?hIx text H0.out (fun c0 pre x a' W => PsI b w c0 pre W ∧ a' = { tmps := #[Value.string text, undef, Value.pointer (some { block := b, off := 0 }), Value.pointer (some { block := b + 1, off := 0 }), Value.pointer (some { block := b + 2, off := 0 }), Value.pointer (some { block := b + 3, off := 0 }), Value.pointer (some { block := b + 4, off := 0 }), Value.string x, undef, undef, Value.string text, Value.func (Fn.func 77) #[] #[Value.pointer (some { block := b + 5, off := 0 })], Value.string x, undef, undef, undef, undef, undef, undef, undef, undef, undef, undef, undef, undef, undef, undef, undef], defers := [] }) ?hAx (by rw [HS3.out]; exact HIT.out) ?assign ?body ?done ?stop
  case hI => intro c0 pre W o _ q; rw [HS3.out]; exact q.put o
  case hIx => intro c0 c pre W o _ q; rw [HS3.out]; exact q.put o
  case hAx => intro c0 pre x a' W o _ q; rw [HS3.out]; exact ⟨q.1.put o, q.2⟩
  case assign =>
    intro l c0 pre x W KK hlt' hE hi hlen hK
    clear HIT HEnd HStp HSTEP H0
    gi_wp2
    exact hK _ _ (Dl2.refl _ _) ⟨hi, by simp⟩
  case body =>
    rintro l c0 pre x a' W hlt' hE ⟨hi, rfl⟩ hlen
    rw [HS3.out]
    obtain ⟨c4, f4⟩ : W.cell? ⟨b + 4, 0, none⟩ = some (.int .i64 (pre.length : Int)) ∧ W.frozen? ⟨b + 4, 0, none⟩ = false := by obtain ⟨⟨v, q⟩, r⟩ := hi; exact cell_of q.q4
    have hst := HSTEP.out c0 pre W hi x (by omega) (by omega)
    cases hok : (lineP x).2 with
    | true =>
      have HC : Hid (∀ nn, CallsIn (Fence.wide.inRound l) nn Tryz.prog 45 #[.string x] (W.setCell ⟨b + 4, 0, none⟩ (.int .i64 ((pre.length : Int) + 1))) fun e W2 => ∃ (o : PO) (va : Option Addr) (vn vc : Nat) (pa : Option Addr) (pn pc : Nat) (qa : Option Addr) (qn qc : Nat) (W5 : World), e = .returned (.tuple #[.agg #[.int .i64 o.k, .string o.nm, .string o.ot, .int .i64 o.fr, .int .i64 o.to, .slice va vn vc], .bool true]) ∧ (W2.alloc (.cells #[.int .i64 o.k, .string o.nm, .string o.ot, .int .i64 o.fr, .int .i64 o.to, .slice va vn vc] 29)).cell? ⟨b + 3, 0, none⟩ = some (.slice pa pn pc) ∧ (Builtin.append_ #[22, 22] 22 #[.slice pa pn pc, .slice (some ⟨W2.heap.size + 1, 0, none⟩) 1 1]).run Tryz.prog ((W2.alloc (.cells #[.int .i64 o.k, .string o.nm, .string o.ot, .int .i64 o.fr, .int .i64 o.to, .slice va vn vc] 29)).alloc (.cells #[.int .i64 o.k, .string o.nm, .string o.ot, .int .i64 o.fr, .int .i64 o.to, .slice va vn vc] 29)) = .ok (.slice qa qn qc) W5 ∧ (W5.cell? ⟨b + 3, 0, none⟩ = some (.slice pa pn pc) ∧ W5.frozen? ⟨b + 3, 0, none⟩ = false) ∧ Dl2 (b + 6) W (W5.setCell ⟨b + 3, 0, none⟩ (.slice qa qn qc)) ∧ PsI b w c0 (pre ++ [x]) (W5.setCell ⟨b + 3, 0, none⟩ (.slice qa qn qc))) := fun nn => by
        refine CallsIn.inRound l ((callsIn_wide (n := nn)).2 (hst.mono ?_))
        rintro e W2 ⟨o, va, vn, vc, ok, rfl, hlp, hgo⟩
        rw [hlp] at hok
        obtain rfl : ok = true := hok
        obtain ⟨v, ⟨⟨pa, pn, pc, rfl⟩, g1⟩, u', W5, ⟨qa, qn, qc, rfl⟩, g2, g3⟩ := (hgo _ rfl).1 rfl
        exact ⟨o, va, vn, vc, pa, pn, pc, qa, qn, qc, W5, rfl, g1, g2, g3⟩
      clear HIT HEnd HStp HSTEP H0 hi hst hok
      gi_wp2_with (first | (gi_at_builtin; refine wpListIn_append_run rfl _ _ 22 rfl rfl rfl HRUN.out ?_) | (refine ⟨trivial, ?_⟩; gi_at_call 45; with_reducible refine (HC.out _).mono ?_; rintro e W2 ⟨o, va, vn, vc, pa, pn, pc, qa, qn, qc, W5, rfl, g1, hrun, ⟨g3, g4⟩, q1, q2⟩; have HRUN := hid hrun; have Q1 := hid q1; have Q2 := hid q2; clear hrun q1 q2))
      exact ⟨Q1.out, Q2.out⟩
    | false =>
      have HC : Hid (∀ nn, CallsIn (Fence.wide.inRound l) nn Tryz.prog 45 #[.string x] (W.setCell ⟨b + 4, 0, none⟩ (.int .i64 ((pre.length : Int) + 1))) fun e W2 => ∃ (o : PO) (va : Option Addr) (vn vc : Nat) (W3 : World), e = .returned (.tuple #[.agg #[.int .i64 o.k, .string o.nm, .string o.ot, .int .i64 o.fr, .int .i64 o.to, .slice va vn vc], .bool false]) ∧ W2.alloc (.cells #[.int .i64 o.k, .string o.nm, .string o.ot, .int .i64 o.fr, .int .i64 o.to, .slice va vn vc] 29) = W3 ∧ ((W3.cell? ⟨b + 4, 0, none⟩ = some (.int .i64 ((pre.length : Int) + 1))) ∧ (W3.cell? ⟨b, 0, none⟩ = some (.slice none 0 0) ∧ W3.frozen? ⟨b, 0, none⟩ = false) ∧ (W3.cell? ⟨b + 1, 0, none⟩ = some (.int .i64 0) ∧ W3.frozen? ⟨b + 1, 0, none⟩ = false) ∧ (W3.cell? ⟨b + 2, 0, none⟩ = some (.int .i64 0) ∧ W3.frozen? ⟨b + 2, 0, none⟩ = false)) ∧ Dl2 (b + 6) W (((W3.setCell ⟨b, 0, none⟩ (.slice none 0 0)).setCell ⟨b + 1, 0, none⟩ (.int .i64 ((pre.length : Int) + 1))).setCell ⟨b + 2, 0, none⟩ (.int .i64 162)).drew ∧ PsX b w .ret (pre ++ [x]) (((W3.setCell ⟨b, 0, none⟩ (.slice none 0 0)).setCell ⟨b + 1, 0, none⟩ (.int .i64 ((pre.length : Int) + 1))).setCell ⟨b + 2, 0, none⟩ (.int .i64 162)).drew) := fun nn => by
        refine CallsIn.inRound l ((callsIn_wide (n := nn)).2 (hst.mono ?_))
        rintro e W2 ⟨o, va, vn, vc, ok, rfl, hlp, hgo⟩
        rw [hlp] at hok
        obtain rfl : ok = false := hok
        exact ⟨o, va, vn, vc, _, rfl, rfl, (hgo _ rfl).2 rfl⟩
      clear HIT HEnd HStp HSTEP H0 hi hst hok
      gi_wp2_with (refine ⟨trivial, ?_⟩; gi_at_call 45; with_reducible refine (HC.out _).mono ?_; rintro e W2 ⟨o, va, vn, vc, W3, rfl, hW3, ⟨k4, ⟨k0, z0⟩, ⟨k1, z1⟩, k2, z2⟩, q1, q2⟩; have HW3 := hid hW3; have Q1 := hid q1; have Q2 := hid q2; clear hW3 q1 q2)
      rw [HW3.out]
      gi_region
      all_goals (gi_wp2; exact ⟨Q1.out, Q2.out⟩)
  case done =>
    rintro D c0 xs W hD hS hi hDk
    rw [HS3.out] at hD
    obtain ⟨v, ⟨pa, pn, pc, rfl⟩, ⟨c3, ⟨c0', f0⟩, ⟨c1, f1⟩, c2, f2⟩, e1, ⟨e2, e3, e5⟩, e4⟩ := HEnd.out D c0 xs W hD hS hi hDk
    have E1 := hid e1
    have E2 := hid e2
    have E3 := hid e3
    have E5 := hid e5
    have E4 := hid e4
    clear hi hDk hS hD HIT HEnd HSTEP HStp H0 e1 e2 e3 e4 e5
    go_wp2_with fail
    refine ⟨by simp, .inl ⟨_, _, rfl, run_takeDeferred E1.out, ?_⟩⟩
    exact ⟨_, results_cells3 rfl _ _ rfl rfl rfl (loadv_one Tryz.underlying22 rfl E2.out) (loadv_one Tryz.underlying3 rfl E3.out) (loadv_one Tryz.underlying26 rfl E5.out), E4.out⟩
  case stop =>
    rintro D c0 c pre W hD hSp hi hDk
    rw [HS3.out] at hD
    obtain ⟨rfl, ⟨e2, e3, e5⟩, e4⟩ := HStp.out D c pre W hD hSp hi hDk
    have E1 := hid hDk
    have E2 := hid e2
    have E3 := hid e3
    have E5 := hid e5
    have E4 := hid e4
    clear hi hDk hSp hD HIT HEnd HSTEP HStp H0 e2 e3 e4 e5
    refine wpIn_wide.2 ?_
    go_wp2_with fail
    refine ⟨by simp, .inl ⟨_, _, rfl, run_takeDeferred E1.out, ?_⟩⟩
    exact ⟨_, results_cells3 rfl _ _ rfl rfl rfl (loadv_one Tryz.underlying22 rfl E2.out) (loadv_one Tryz.underlying3 rfl E3.out) (loadv_one Tryz.underlying26 rfl E5.out), E4.out⟩

end Go.Proofs.YthkkdmblkalknaaGreatDoor
