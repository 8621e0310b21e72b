import Derived.Test.YthkkdmblkalknaaGreatDoorA09
import Derived.Test.YthkkdmblkalknaaGreatDoorA08
import Derived.Deep.RegionHeld3
import Derived.Laws.BytesArg
/-
  Operations of one's own, in a list; Decode in plain words.
-/
namespace Go.Proofs.YthkkdmblkalknaaGreatDoor
open Go.RowKit

theorem info29 : (Tryz.prog.info? 29).map (fun i => (i.zero, i.size, i.bytes)) = some (some (.agg #[.int .i64 0, .string ByteArray.empty, .string ByteArray.empty, .int .i64 0, .int .i64 0, .slice none 0 0]), 6, 80) := by kernel_rfl
def cells6 (o : PO) (v : Value) : List Value := [.int .i64 o.k, .string o.nm, .string o.ot, .int .i64 o.fr, .int .i64 o.to, v]
def flatO : List PO → List Value → List Value
  | o :: os, v :: vs => cells6 o v ++ flatO os vs
  | _, _ => []
theorem flatO_app : ∀ (os : List PO) (vs : List Value) (o : PO) (v : Value), vs.length = os.length → flatO (os ++ [o]) (vs ++ [v]) = flatO os vs ++ cells6 o v
  | [], [], o, v, _ => by simp [flatO]
  | [], _ :: _, _, _, h => by simp at h
  | _ :: _, [], _, _, h => by simp at h
  | p :: os, x :: vs, o, v, h => by
    have ih := flatO_app os vs o v (by simpa using h)
    simp only [List.cons_append, flatO, ih, List.append_assoc]
theorem flatO_len : ∀ (os : List PO) (vs : List Value), vs.length = os.length → (flatO os vs).length = os.length * 6
  | [], [], _ => rfl
  | [], _ :: _, h => by simp at h
  | _ :: _, [], h => by simp at h
  | p :: os, x :: vs, h => by
    have ih := flatO_len os vs (by simpa using h)
    simp [flatO, cells6, ih]
    omega
theorem flatO_at : ∀ (os : List PO) (vs : List Value) (hl : vs.length = os.length) (t : Nat) (ht : t < os.length) (i : Nat), i < 6 → (flatO os vs)[t * 6 + i]? = (cells6 os[t] (vs[t]'(by omega)))[i]?
  | [], _, _, t, ht, _, _ => by simp at ht
  | _ :: _, [], h, _, _, _, _ => by simp at h
  | p :: os, x :: vs, h, 0, _, i, hi => by
    simp only [flatO, Nat.zero_mul, Nat.zero_add, List.getElem_cons_zero]
    rw [List.getElem?_append_left (by simpa [cells6] using hi)]
  | p :: os, x :: vs, h, t + 1, ht, i, hi => by
    have ih := flatO_at os vs (by simpa using h) t (by simpa using ht) i hi
    simp only [flatO, List.getElem_cons_succ]
    rw [List.getElem?_append_right (by simp [cells6]; omega), show (t + 1) * 6 + i - (cells6 p x).length = t * 6 + i by simp [cells6]; omega]
    exact ih

/-- operations of one's own: the list, and the data of each -/
structure OwL (B : Nat) (w : World) (v : Value) (os : List PO) (vs : List Value) : Prop where
  len : vs.length = os.length
  row : w.ownsRow B 29 6 v os.length (flatO os vs)
  dat : ∀ i (h : i < os.length), Ow B w (vs[i]'(by omega)) os[i].da
  apart : ∀ i j (hi : i < j) (hj : j < vs.length) g, (vs[i]'(by omega)).ownBlock = some g → vs[j].ownBlock ≠ some g
theorem own_blk {B : Nat} {e : TypeId} {n m : Nat} {w : World} {v : Value} {xs : List Value} (h : w.ownsRow B e n v m xs) {g : Nat} (hg : v.ownBlock = some g) : B ≤ g ∧ g < w.heap.size ∧ ∃ cur, w.heap[g]? = some (.cells cur e (0, 0)) := by
  rcases h.2 with ⟨rfl, _⟩ | ⟨g', cap, cur, rfl, hb, hh, _⟩
  · simp [Value.ownBlock] at hg
  · simp [Value.ownBlock] at hg
    subst hg
    exact ⟨hb, (Array.getElem?_eq_some_iff.1 hh).1, cur, hh⟩
theorem own_keep {B : Nat} {e : TypeId} {n m : Nat} {w w' : World} {v : Value} {xs : List Value} (h : w.ownsRow B e n v m xs) (hk : ∀ g, v.ownBlock = some g → w'.heap[g]? = w.heap[g]?) : w'.ownsRow B e n v m xs := by
  obtain ⟨h1, h2⟩ := h
  refine ⟨h1, ?_⟩
  rcases h2 with ⟨e, q⟩ | ⟨g', cap, cur, e, hb, hh, r⟩
  · exact .inl ⟨e, q⟩
  · exact .inr ⟨g', cap, cur, e, hb, (hk g' (by rw [e]; rfl)).trans hh, r⟩
theorem own_mono {B B' : Nat} {e : TypeId} {n m : Nat} {w : World} {v : Value} {xs : List Value} (h : w.ownsRow B e n v m xs) (hb : B' ≤ B) : w.ownsRow B' e n v m xs := by
  obtain ⟨h1, h2⟩ := h
  refine ⟨h1, ?_⟩
  rcases h2 with q | ⟨g', cap, cur, e, hbg, r⟩
  · exact .inl q
  · exact .inr ⟨g', cap, cur, e, by omega, r⟩
theorem OwL.ne {B : Nat} {w : World} {v : Value} {os : List PO} {vs : List Value} (h : OwL B w v os vs) {B' : Nat} {u : Value} {zs : List Int} (hu : Ow B' w u zs) {g : Nat} (hg : u.ownBlock = some g) : v.ownBlock ≠ some g := by
  intro e
  obtain ⟨_, _, c1, h1⟩ := own_blk h.row e
  obtain ⟨_, _, c2, h2⟩ := own_blk hu hg
  rw [h1] at h2
  simp at h2
theorem OwL.nil (B : Nat) (w : World) : OwL B w (.slice none 0 0) [] [] := ⟨rfl, ⟨rfl, .inl ⟨rfl, rfl⟩⟩, fun i h => by simp at h, fun i j hi hj => by simp at hj⟩
theorem OwL.keep {B : Nat} {w w' : World} {v : Value} {os : List PO} {vs : List Value} (h : OwL B w v os vs) (hk : ∀ g, B ≤ g → g < w.heap.size → w'.heap[g]? = w.heap[g]?) : OwL B w' v os vs :=
  ⟨h.len, own_keep h.row fun g hg => by obtain ⟨a, b, _⟩ := own_blk h.row hg; exact hk g a b, fun i hi => (h.dat i hi).keep fun g hg => hk g ((h.dat i hi).base g hg) ((h.dat i hi).lt g hg), h.apart⟩
theorem OwL.next {B : Nat} {w w' : World} {v : Value} {os : List PO} {vs : List Value} (h : OwL B w v os vs) (hb : Below w.heap.size w w') : OwL B w' v os vs := h.keep fun g _ hg => hb.block g hg
theorem OwL.mono {B B' : Nat} {w : World} {v : Value} {os : List PO} {vs : List Value} (h : OwL B w v os vs) (hb : B' ≤ B) : OwL B' w v os vs := ⟨h.len, own_mono h.row hb, fun i hi => (h.dat i hi).mono hb, h.apart⟩
theorem OwL.push {B : Nat} {w : World} {v : Value} {os : List PO} {vs : List Value} (ty : TypeId) (h : OwL B w v os vs) (o : PO) (nv : Value) (hd : Ow B w nv o.da) (hn : ∀ i (hi : i < vs.length) g, vs[i].ownBlock = some g → nv.ownBlock ≠ some g) {g : Nat} (hg : w.heap[g]? = some (.cells (cells6 o nv).toArray 29 (0, 0))) (hl : os.length ≤ 16777216) (hw : B ≤ w.heap.size) :
    ∃ v' w', (Builtin.append_ #[22, 22] ty #[v, .slice (some ⟨g, 0, none⟩) 1 1]).run Tryz.prog w = .ok v' w' ∧ OwL B w' v' (os ++ [o]) (vs ++ [nv]) ∧ Gr w w' v v' := by
  obtain ⟨i0, hi, hz0, hz1, hz2⟩ := info_parts info29
  obtain ⟨a, c, rfl⟩ := hd.form
  obtain ⟨v', w', hr, h2, h3, _, h5⟩ := run_append_own_at (P := Tryz.prog) w B 22 ty 29 i0 _ 6 80 Tryz.underlying22 hi hz0 hz1 hz2 rfl (by decide) v os.length (flatO os vs) h.row ⟨g, 0, none⟩ 1 1 (cells6 o (.slice a o.da.length c)) rfl (fun j u hu => by
    rw [Addr.add_lit, Nat.zero_add]
    simp only [World.cell?, hg]
    simpa using hu) (fun u hu => by simp only [cells6, List.mem_cons, List.not_mem_nil, or_false] at hu; rcases hu with rfl | rfl | rfl | rfl | rfl | rfl <;> rfl) (by unfold maxLen; omega) (by omega) hw
  have gr : Gr w w' v v' := ⟨h3.os, h3.tape, h3.output, h3.size, h3.block, h5.elim .inl fun e => .inr ⟨_, e, Nat.le_refl _⟩⟩
  have keep : ∀ {u : Value} {zs : List Int}, Ow B w u zs → Ow B w' u zs := fun hu => hu.keep fun x hx => gr.block x (hu.lt x hx) (fun e => h.ne hu hx e.symm)
  refine ⟨v', w', hr, ⟨by simp [h.len], ?_, fun i hi => ?_, fun i j hij hj x hx => ?_⟩, gr⟩
  · rw [flatO_app os vs o _ h.len, List.length_append]
    exact h2
  · by_cases he : i < os.length
    · rw [List.getElem_append_left (by have := h.len; omega)]
      have := keep (h.dat i he)
      simp only [List.getElem_append_left he]
      exact this
    · simp only [List.length_append, List.length_cons, List.length_nil] at hi
      have e : i = os.length := by omega
      subst e
      have e2 : (vs ++ [Value.slice a o.da.length c])[os.length]'(by simp [h.len]) = .slice a o.da.length c := by
        rw [List.getElem_append_right (by rw [h.len]; exact Nat.le_refl _)]
        simp
      simp only [List.getElem_append_right (Nat.le_refl _), Nat.sub_self, List.getElem_cons_zero]
      rw [e2]
      exact keep hd
  · simp only [List.length_append, List.length_cons, List.length_nil] at hj
    by_cases he : j < vs.length
    · rw [List.getElem_append_left he]
      rw [List.getElem_append_left (by omega)] at hx
      exact h.apart i j hij he x hx
    · have e : j = vs.length := by omega
      subst e
      rw [List.getElem_append_left (by omega)] at hx
      rw [List.getElem_append_right (Nat.le_refl _)]
      simp only [Nat.sub_self, List.getElem_cons_zero]
      exact hn i (by omega) x hx

/-! ### plain -/
def decA : Nat → St → List PO → List PO × Int
  | 0, _, acc => (acc, 0)
  | n + 1, s, acc => if s.1 = [] then (acc, 0) else if (opP s).1.2 = 0 then decA n (opP s).2 (acc ++ [(opP s).1.1]) else ([], (opP s).1.2)
def dcd (zs : List Int) : List PO × Int := decA zs.length (zs, false) []
theorem pt_le (s : St) (m : Int) : (pt s m).2.1.length ≤ s.1.length := pt_len.2
set_option maxRecDepth 100000 in
theorem stepW_le (q : PO × St) (x : ByteArray) : (stepW q x).2.1.length ≤ q.2.1.length := by
  have h1 : (txG pt q.2).2.1.length ≤ q.2.1.length := Nat.le_trans (pt_le _ _) (pt_le q.2 1)
  unfold stepW
  repeat' split
  · exact h1
  · exact h1
  · exact pt_le q.2 4
  · exact pt_le q.2 4
  · exact pt_le q.2 512
  · exact Nat.le_refl _
theorem decW_le (ws : List ByteArray) (q : PO × St) : (decW ws q).2.1.length ≤ q.2.1.length := by
  induction ws generalizing q with
  | nil => exact Nat.le_refl _
  | cons x r ih => exact Nat.le_trans (ih (stepW q x)) (stepW_le q x)
theorem opP_lt {s : St} (h : s.1 ≠ []) : (opP s).2.1.length < s.1.length := by
  have h1 : 1 ≤ s.1.length := List.length_pos_iff.2 h
  have h2 : (nbG pt s 1).2.1.length < s.1.length := by
    show (pt s 1).2.1.length < _
    unfold pt
    rw [if_neg (by omega)]
    simp
    omega
  have h3 : (dec1 s).2.1.length < s.1.length := Nat.lt_of_le_of_lt (decW_le _ _) h2
  unfold opP
  repeat' split
  · exact h2
  · exact h3
  · exact h3
  · exact h3
theorem decA_enough : ∀ (n m : Nat) (s : St) (acc : List PO), s.1.length ≤ n → s.1.length ≤ m → decA n s acc = decA m s acc
  | 0, 0, _, _, _, _ => rfl
  | 0, m + 1, s, acc, h, _ => by
    have e : s.1 = [] := List.eq_nil_of_length_eq_zero (by omega)
    simp [decA, e]
  | n + 1, 0, s, acc, _, h => by
    have e : s.1 = [] := List.eq_nil_of_length_eq_zero (by omega)
    simp [decA, e]
  | n + 1, m + 1, s, acc, h1, h2 => by
    unfold decA
    split
    · rfl
    · rename_i hs
      have := opP_lt hs
      split
      · exact decA_enough n m _ _ (by omega) (by omega)
      · rfl
theorem decA_stop {n : Nat} {s : St} {acc : List PO} (h : s.1 = []) : decA n s acc = (acc, 0) := by cases n <;> simp [decA, h]
theorem decA_go {n : Nat} {s : St} {acc : List PO} (hn : s.1.length ≤ n) (h : s.1 ≠ []) (he : (opP s).1.2 = 0) : decA n s acc = decA n (opP s).2 (acc ++ [(opP s).1.1]) := by
  have := opP_lt h
  cases n with
  | zero => exact absurd (List.eq_nil_of_length_eq_zero (by omega)) h
  | succ n =>
    conv => lhs; unfold decA
    rw [if_neg h, if_pos he]
    exact decA_enough n (n + 1) _ _ (by omega) (by omega)
theorem decA_err {n : Nat} {s : St} {acc : List PO} (hn : s.1.length ≤ n) (h : s.1 ≠ []) (he : (opP s).1.2 ≠ 0) : decA n s acc = ([], (opP s).1.2) := by
  cases n with
  | zero => exact absurd (List.eq_nil_of_length_eq_zero (by omega)) h
  | succ n => unfold decA; rw [if_neg h, if_neg he]

end Go.Proofs.YthkkdmblkalknaaGreatDoor
/-
  op: operationOf, in plain words; what it keeps.
-/
namespace Go.Proofs.YthkkdmblkalknaaGreatDoor
open Go.RowKit

def takeL : List (ByteArray × ByteArray) → PO → Option PO
  | [], o => some o
  | p :: r, o => if (takeP o p.1 p.2).2 = true then takeL r (takeP o p.1 p.2).1 else none
/-- a line's body, and whether the line ends in LF -/
def bodyB (s : ByteArray) : ByteArray := ⟨(Lib.trimSuffix s.data.toList [10]).toArray⟩
def whole (s : ByteArray) : Bool := Lib.hasSuffix s.data.toList [10]
def pieces (s : ByteArray) : List ByteArray := Lib.splitB ⟨#[32]⟩ 0 (min 5 ((bodyB s).size + 1) - 1) (bodyB s)
def kind0 (k : Nat) : PO := { PO0 with k := (k : Int) }
def finL : Option PO → PO × Bool
  | none => (PO0, false)
  | some o => (o, decide (o.ck = 0))
/-- a line's operation -/
def lineP (s : ByteArray) : PO × Bool :=
  if whole s = false ∨ kd ((pieces s).getD 0 cE) = 0 then (PO0, false)
  else if (pieces s).length ≠ nw (kd ((pieces s).getD 0 cE)) then (PO0, false)
  else finL (takeL ((wordsOf (kd ((pieces s).getD 0 cE))).zip (pieces s)) (kind0 (kd ((pieces s).getD 0 cE))))
theorem takeL_app (l : List (ByteArray × ByteArray)) (p : ByteArray × ByteArray) (o : PO) : takeL (l ++ [p]) o = (takeL l o).bind fun q => if (takeP q p.1 p.2).2 = true then some (takeP q p.1 p.2).1 else none := by
  induction l generalizing o with
  | nil => simp [takeL]
  | cons a r ih =>
    simp only [List.cons_append, takeL]
    split
    · exact ih _
    · rfl
theorem takeL_none {l l' : List (ByteArray × ByteArray)} {o : PO} (h : takeL l o = none) : takeL (l ++ l') o = none := by
  induction l generalizing o with
  | nil => simp [takeL] at h
  | cons a r ih =>
    simp only [List.cons_append, takeL] at h ⊢
    split at h
    · rename_i h1; rw [if_pos h1]; exact ih h
    · rename_i h1; rw [if_neg h1]
theorem split_ne (sep : ByteArray) (k : Nat) (s : ByteArray) : Lib.splitB sep 0 k s ≠ [] := by
  cases k with
  | zero => simp [Lib.splitB]
  | succ k => unfold Lib.splitB; split <;> simp
theorem split_size (sep : ByteArray) : ∀ (k : Nat) (s : ByteArray), ∀ x ∈ Lib.splitB sep 0 k s, x.size ≤ s.size
  | 0, s => by intro x hx; simp [Lib.splitB] at hx; subst hx; exact Nat.le_refl _
  | k + 1, s => by
    intro x hx
    unfold Lib.splitB at hx
    split at hx
    · simp at hx; subst hx; exact Nat.le_refl _
    · rcases List.mem_cons.1 hx with rfl | hx
      · rw [ByteArray.size_extract]; omega
      · have := split_size sep k _ x hx
        rw [ByteArray.size_extract] at this
        omega
theorem body_size (s : ByteArray) : (bodyB s).size ≤ s.size := by
  unfold bodyB Lib.trimSuffix
  split
  · show (List.toArray _).size ≤ s.data.size
    simp
  · exact Nat.le_refl _
theorem zip_take_next (ws ts : List ByteArray) (r : Nat) (h1 : r < ws.length) (h2 : r < ts.length) : (ws.zip ts).take (r + 1) = (ws.zip ts).take r ++ [(ws.getD r ByteArray.empty, ts.getD r cE)] := by
  rw [List.take_add_one]
  congr 1
  have e : (ws.zip ts)[r]? = some (ws[r], ts[r]) := (List.getElem?_zip_eq_some (z := (ws[r], ts[r]))).2 ⟨List.getElem?_eq_getElem h1, List.getElem?_eq_getElem h2⟩
  rw [e]
  simp [h1, h2]

/-- within operationOf: R: what it answers, O: its operation, T: the texts, D: the words -/
structure OfI (R T O D m : Nat) (ts : List ByteArray) (w wr : World) (o : PO) (v : Value) : Prop where
  tk : TkO w.heap.size O wr o v
  rb : OpB wr R PO0 (.slice none 0 0)
  tb : ∀ j, j < ts.length → wr.cell? ⟨T, j, none⟩ = some (.string (ts.getD j cE))
  db : wr.heap[D]? = some (.cells #[.string (kw m), .string (tl m).1, .string (tl m).2.1, .string (tl m).2.2] 76 (0, 0))
  bel : Below w.heap.size w wr
  h1 : w.heap.size ≤ R
  h2 : R < T
  h3 : T < O
  h4 : O < D
  h5 : D < wr.heap.size
  nR : some R ≠ v.ownBlock
theorem OfI.step {R T O D m : Nat} {ts : List ByteArray} {w wr w' : World} {o o' : PO} {v v' : Value} (h : OfI R T O D m ts w wr o v) (ht : TkO w.heap.size O w' o' v') (hb : But (fun y => y = O) wr w') (hn : some R ≠ v'.ownBlock) : OfI R T O D m ts w w' o' v' where
  tk := ht
  rb := h.rb.keep (hb.block R h.rb.lt (by have := h.h2; have := h.h3; omega))
  tb j hj := (hb.cell (p := ⟨T, j, none⟩) (by have := h.h3; have := h.h4; have := h.h5; show T < _; omega) (by have := h.h3; show ¬ T = O; omega)).trans (h.tb j hj)
  db := (hb.block D h.h5 (by have := h.h4; omega)).trans h.db
  bel := by
    refine h.bel.trans (hb.below h.bel.size (fun x hx e => ?_))
    have := h.h1; have := h.h2; have := h.h3; omega
  h1 := h.h1
  h2 := h.h2
  h3 := h.h3
  h4 := h.h4
  h5 := by have := h.h5; have := hb.size; omega
  nR := hn

/-- before the kind is known -/
theorem cellsOf_at {ts : List ByteArray} {N j : Nat} (hj : j < ts.length) : (Lib.cellsOf ts N)[j]? = some (.string (ts.getD j cE)) := by
  unfold Lib.cellsOf
  simp [hj, List.getElem?_append_left]

end Go.Proofs.YthkkdmblkalknaaGreatDoor
/-
  op: operationOf by its contract.
-/
namespace Go.Proofs.YthkkdmblkalknaaGreatDoor
open Go.RowKit

/-- the answer of operationOf -/
def OfE (w : World) (o : PO) (v : Value) (w' : World) : Prop := Ow w.heap.size w' v o.da ∧ Below w.heap.size w w'
theorem OfE.put6 {w w' : World} {R : Nat} {o : PO} {v : Value} (h : OfE w o v w') (hR : w.heap.size ≤ R) (hn : some R ≠ v.ownBlock) (o' : PO) (v' : Value) : OfE w o v (put6 w' R o' v') := by
  obtain ⟨h1, h2⟩ := h
  have hb := but_put6 w' R o' v'
  exact ⟨h1.keep fun g hg => hb.block g (h1.lt g hg) (fun e => hn (by rw [hg, e])), h2.trans (hb.below h2.size (fun x hx e => by omega))⟩

/-- the calls ahead of the kind -/
def OfA (s : ByteArray) (W0 : World) (Q : World → Nat → Prop) : Prop :=
  Calls Tryz.prog 78 #[.string s, .string ⟨#[10]⟩] W0 fun e w1 => e = .returned (.tuple #[.string (bodyB s), .bool (whole s)]) ∧
    Calls Tryz.prog 79 #[.string (bodyB s), .string ⟨#[32]⟩, .int .i64 5] w1 fun e w2 => ∃ T c, e = .returned (.slice (some ⟨T, 0, none⟩) (pieces s).length c) ∧ w2.cell? ⟨T, 0, none⟩ = some (.string ((pieces s).getD 0 cE)) ∧ (0 < (pieces s).length ∧ (pieces s).length ≤ c) ∧
    Calls Tryz.prog 80 #[.string ((pieces s).getD 0 cE)] w2 fun e w3 => e = .returned (.tuple #[.int .i64 (kd ((pieces s).getD 0 cE) : Int), .bool (decide (1 ≤ kd ((pieces s).getD 0 cE)))]) ∧ Q w3 T
theorem ofA_any (s : ByteArray) (w W0 : World) (hG : GT w) (hs : s.size ≤ 16777216) (b0 : Below w.heap.size w W0) (hW : W0.heap.size = w.heap.size + 1) (r0 : OpB W0 w.heap.size PO0 (.slice none 0 0)) :
    OfA s W0 fun w3 T => Below w.heap.size w w3 ∧ OpB w3 w.heap.size PO0 (.slice none 0 0) ∧ (∀ j, j < (pieces s).length → w3.cell? ⟨T, j, none⟩ = some (.string ((pieces s).getD j cE))) ∧ T = w.heap.size + 1 ∧ w3.heap.size = w.heap.size + 2 := by
  have hb := body_size s
  obtain ⟨mx, hm⟩ := (hG.next b0).mx
  refine (Tryz.strings_CutSuffix s ⟨#[10]⟩ W0 (by omega)).mono ?_
  rintro e w1 ⟨rfl, rfl⟩
  refine ⟨rfl, (Tryz.strings_SplitN (bodyB s) ⟨#[32]⟩ 5 mx w1 (by omega) hm (by decide) (by decide) (by decide)).mono ?_⟩
  rintro e w2 ⟨rfl, hw2⟩
  have hne : pieces s ≠ [] := split_ne _ _ _
  have hl : (pieces s).length ≤ min 5 ((bodyB s).size + 1) := by
    have := Lib.splitB_length_le ⟨#[32]⟩ 0 (min 5 ((bodyB s).size + 1) - 1) (bodyB s)
    unfold pieces
    omega
  have b2 : Below w1.heap.size w1 w2 := by rw [hw2]; exact below1 _ _
  have hc : ∀ j, j < (pieces s).length → w2.cell? ⟨w1.heap.size, j, none⟩ = some (.string ((pieces s).getD j cE)) := fun j hj => cell_al hw2 j _ (cellsOf_at hj)
  refine ⟨w1.heap.size, _, rfl, hc 0 (List.length_pos_iff.2 hne), ⟨List.length_pos_iff.2 hne, hl⟩, (kindOf_any _ w2 (hG.next (b0.trans (b2.mono b0.size)))).mono ?_⟩
  rintro e w3 ⟨rfl, rfl⟩
  refine ⟨rfl, b0.trans (b2.mono b0.size), r0.keep (b2.block _ r0.lt), hc, hW, ?_⟩
  rw [hw2]
  simp [hW]

theorem OpB.cs {w : World} {b : Nat} {o : PO} {v : Value} (h : OpB w b o v) : (w.cell? ⟨b, 0, none⟩ = some (.int .i64 o.k) ∧ w.cell? ⟨b, 1, none⟩ = some (.string o.nm) ∧ w.cell? ⟨b, 2, none⟩ = some (.string o.ot) ∧ w.cell? ⟨b, 3, none⟩ = some (.int .i64 o.fr) ∧ w.cell? ⟨b, 4, none⟩ = some (.int .i64 o.to) ∧ w.cell? ⟨b, 5, none⟩ = some v) ∧ (w.frozen? ⟨b, 0, none⟩ = false ∧ w.frozen? ⟨b, 1, none⟩ = false ∧ w.frozen? ⟨b, 2, none⟩ = false ∧ w.frozen? ⟨b, 3, none⟩ = false ∧ w.frozen? ⟨b, 4, none⟩ = false ∧ w.frozen? ⟨b, 5, none⟩ = false) :=
  ⟨⟨h.cell 0 _ rfl, h.cell 1 _ rfl, h.cell 2 _ rfl, h.cell 3 _ rfl, h.cell 4 _ rfl, h.cell 5 _ rfl⟩, h.fz 0, h.fz 1, h.fz 2, h.fz 3, h.fz 4, h.fz 5⟩

set_option maxRecDepth 100000 in
set_option maxHeartbeats 4000000 in
theorem lineOf_no (s : ByteArray) (w : World) (hG : GT w) (hs : s.size ≤ 16777216) (h : whole s = false ∨ kd ((pieces s).getD 0 cE) = 0) :
    Calls Tryz.prog 45 #[.string s] w fun e w' => ∃ v, e = .returned (.tuple #[.agg #[.int .i64 0, .string cE, .string cE, .int .i64 0, .int .i64 0, v], .bool false]) ∧ OfE w PO0 v w' := by
  obtain ⟨W0, hW0⟩ : ∃ W0, W0 = w.alloc (.cells #[.int .i64 0, .string cE, .string cE, .int .i64 0, .int .i64 0, .slice none 0 0] 29) := ⟨_, rfl⟩
  have b0 : Below w.heap.size w W0 := by rw [hW0]; exact below1 _ _
  have z0 : W0.heap.size = w.heap.size + 1 := by rw [hW0]; simp
  have r0 : OpB W0 w.heap.size PO0 (.slice none 0 0) := by rw [hW0]; exact heap_new _ _
  have HA := hid (ofA_any s w W0 hG hs b0 z0 r0)
  unfold OfA at HA
  have HW0 := hid hW0
  obtain ⟨R, hR⟩ : ∃ R, R = w.heap.size := ⟨_, rfl⟩
  have HR := hid hR
  clear hG hs hW0 b0 z0 r0 hR
  generalize bodyB s = bd at *
  generalize whole s = wh at *
  generalize kd ((pieces s).getD 0 cE) = kk at *
  generalize (pieces s).getD 0 cE = p0 at *
  generalize pieces s = ps at *
  go_enter Tryz.func45, Tryz.ntmps45
  go_wp2_with fail
  rw [← HW0.out]
  rw [← HR.out]
  refine HA.out.mono ?_
  rintro e w1 ⟨rfl, hB⟩
  have HB := hid hB
  clear hB HA HW0
  go_wp2_with fail
  refine HB.out.mono ?_
  rintro e w2 ⟨T, c, rfl, hc0, ⟨hps, hlc⟩, hC⟩
  have HC := hid hC
  clear hC HB
  go_wp2_with fail
  refine HC.out.mono ?_
  rintro e w3 ⟨rfl, hb3, hr3, _⟩
  obtain ⟨⟨c0, c1, c2, c3, c4, c5⟩, ⟨y0, y1, y2, y3, y4, y5⟩⟩ := hr3.cs
  have HR3 := hid hr3
  have HB3 := hid hb3
  rw [← HR.out] at c0 c1 c2 c3 c4 c5 y0 y1 y2 y3 y4 y5 HR3
  clear hr3 hb3 HC hc0
  have HFin : Hid (∀ x, x = put6 w3 R PO0 (.slice none 0 0) → OpB x R PO0 (.slice none 0 0) ∧ OfE w PO0 (.slice none 0 0) x) := by
    rintro x rfl
    exact ⟨HR3.out.put6 _ _, OfE.put6 ⟨Ow.nil _ _, HB3.out⟩ (Nat.le_of_eq HR.out.symm) (by simp [Value.ownBlock]) _ _⟩
  cases wh with
  | false =>
    by_cases hk : 1 ≤ kk
    · have qk : decide (1 ≤ kk) = true := decide_eq_true hk
      rw [qk]
      go_wp2_with fail
      exact bodyPost_ret (results_op rfl _ _ R PO0 (.slice none 0 0) (.bool false) rfl rfl (HFin.out _ rfl).1) rfl ⟨_, rfl, (HFin.out _ rfl).2⟩
    · have qk : decide (1 ≤ kk) = false := decide_eq_false hk
      rw [qk]
      go_wp2_with fail
      exact bodyPost_ret (results_op rfl _ _ R PO0 (.slice none 0 0) (.bool false) rfl rfl (HFin.out _ rfl).1) rfl ⟨_, rfl, (HFin.out _ rfl).2⟩
  | true =>
    have hk : ¬ 1 ≤ kk := by rcases h with h | h; cases h; omega
    have qk : decide (1 ≤ kk) = false := decide_eq_false hk
    rw [qk]
    clear h hk
    go_wp2_with fail
    exact bodyPost_ret (results_op rfl _ _ R PO0 (.slice none 0 0) (.bool false) rfl rfl (HFin.out _ rfl).1) rfl ⟨_, rfl, (HFin.out _ rfl).2⟩

end Go.Proofs.YthkkdmblkalknaaGreatDoor
/-
  op: operationOf of a line that has a kind.
-/
namespace Go.Proofs.YthkkdmblkalknaaGreatDoor
open Go.RowKit

theorem below_drew (B : Nat) (w : World) : Below B w w.drew := ⟨rfl, rfl, rfl, Nat.le_refl _, fun _ _ => rfl⟩

set_option maxRecDepth 100000 in
set_option maxHeartbeats 16000000 in
theorem lineOf_yes (s : ByteArray) (w : World) (hG : GT w) (hs : s.size ≤ 16777216) (h : whole s = true) (m : Nat) (hm : kd ((pieces s).getD 0 cE) = m) (m1 : 1 ≤ m) :
    Calls Tryz.prog 45 #[.string s] w fun e w' => ∃ v, e = .returned (.tuple #[.agg #[.int .i64 (lineP s).1.k, .string (lineP s).1.nm, .string (lineP s).1.ot, .int .i64 (lineP s).1.fr, .int .i64 (lineP s).1.to, v], .bool (lineP s).2]) ∧ OfE w (lineP s).1 v w' := by
  have m2 : m ≤ 11 := by rw [← hm]; exact (kd_spec _).1
  obtain ⟨W0, hW0⟩ : ∃ W0, W0 = w.alloc (.cells #[.int .i64 0, .string cE, .string cE, .int .i64 0, .int .i64 0, .slice none 0 0] 29) := ⟨_, rfl⟩
  have b0 : Below w.heap.size w W0 := by rw [hW0]; exact below1 _ _
  have z0 : W0.heap.size = w.heap.size + 1 := by rw [hW0]; simp
  have r0 : OpB W0 w.heap.size PO0 (.slice none 0 0) := by rw [hW0]; exact heap_new _ _
  have HA := hid (ofA_any s w W0 hG hs b0 z0 r0)
  unfold OfA at HA
  rw [h, hm] at HA
  obtain ⟨e4, n4⟩ := nw_idx m1 m2
  have HSZ : Hid (∀ j, j < (pieces s).length → ((pieces s).getD j cE).size ≤ 16777216) := fun j hj => by
    have hb := body_size s
    have := split_size ⟨#[32]⟩ (min 5 ((bodyB s).size + 1) - 1) (bodyB s) ((pieces s).getD j cE) (by
      rw [List.getD_eq_getElem?_getD, List.getElem?_eq_getElem hj]
      exact List.getElem_mem hj)
    omega
  have HWD : Hid (∀ w3, Below w.heap.size w w3 → w3.heap.size = w.heap.size + 2 → OpB w3 w.heap.size PO0 (.slice none 0 0) → (∀ j, j < (pieces s).length → w3.cell? ⟨w.heap.size + 1, j, none⟩ = some (.string ((pieces s).getD j cE))) →
      ∀ W3, W3 = w3.alloc (.cells #[.int .i64 (m : Int), .string cE, .string cE, .int .i64 0, .int .i64 0, .slice none 0 0] 29) → FmC W3 m ∧
      Calls Tryz.prog 68 #[.agg #[.string (kw m), .string (tl m).1, .string (tl m).2.1, .string (tl m).2.2]] W3 fun e w4 => e = .returned (.slice (some ⟨w.heap.size + 3, 0, none⟩) (nw m) 4) ∧ OfI w.heap.size (w.heap.size + 1) (w.heap.size + 2) (w.heap.size + 3) m (pieces s) w w4 (kind0 m) (.slice none 0 0)) := by
    intro w3 b3 z3 r3 t3 W3 hW3
    have b4 : Below w3.heap.size w3 W3 := by rw [hW3]; exact below1 _ _
    have b5 : Below w.heap.size w W3 := b3.trans (b4.mono b3.size)
    have z4 : W3.heap.size = w.heap.size + 3 := by rw [hW3]; simp [z3]
    refine ⟨FmC.of (hG.next b5) m2, (words_any (kw m) (tl m).1 (tl m).2.1 (tl m).2.2 W3 _ rfl (nw m) e4 n4).mono ?_⟩
    rintro e w4 ⟨rfl, hw4⟩
    have b6 : Below W3.heap.size W3 w4 := by rw [hw4]; exact below1 _ _
    have o3 : OpB W3 (w.heap.size + 2) (kind0 m) (.slice none 0 0) := by rw [hW3, ← z3]; exact heap_new _ _
    have b7 : Below w3.heap.size w3 w4 := b4.trans (b6.mono b4.size)
    refine ⟨by rw [z4], ⟨⟨o3.keep (b6.block _ o3.lt), Ow.nil _ _, by simp [Value.ownBlock], ⟨?_, ?_, (show (-9223372036854775808 : Int) ≤ 0 by decide), (show (0 : Int) ≤ 9223372036854775807 by decide), (show (-9223372036854775808 : Int) ≤ 0 by decide), (show (0 : Int) ≤ 9223372036854775807 by decide), Nat.zero_le _, Nat.zero_le _, Nat.zero_le _⟩⟩, r3.keep (b7.block _ r3.lt), fun j hj => (b7.cell (p := ⟨w.heap.size + 1, j, none⟩) (by show w.heap.size + 1 < _; omega)).trans (t3 j hj), ?_, b3.trans (b7.mono b3.size), Nat.le_refl _, by omega, by omega, by omega, ?_, by simp [Value.ownBlock]⟩⟩
    · show _ ≤ (m : Int); omega
    · show (m : Int) ≤ _; omega
    · rw [hw4, ← z4]; exact heap_new _ _
    · rw [hw4]; simp [z4]
  have HLP : Hid (lineP s = if (pieces s).length ≠ nw m then (PO0, false) else finL (takeL ((wordsOf m).zip (pieces s)) (kind0 m))) := by
    show lineP s = _
    unfold lineP
    rw [hm, if_neg (by rw [h]; simp; omega)]
  have HW0 := hid hW0
  have HG := hid hG
  have hnw : (nw m : Int) ≤ 4 := by omega
  have m1' : (1 : Int) ≤ (m : Int) := by omega
  have m2' : (m : Int) ≤ 11 := by omega
  have qk : decide (1 ≤ m) = true := decide_eq_true m1
  rw [qk] at HA
  obtain ⟨R, hR⟩ : ∃ R, R = w.heap.size := ⟨_, rfl⟩
  have HR := hid hR
  clear hG hs hW0 b0 z0 r0 hm h e4 qk
  generalize lineP s = X at *
  generalize bodyB s = bd at *
  generalize hp0 : (pieces s).getD 0 cE = p0 at HA
  clear hp0
  generalize pieces s = ps at *
  rw [← hR] at HWD HA
  clear hR
  go_enter Tryz.func45, Tryz.ntmps45
  go_wp2_with fail
  rw [← HW0.out]
  rw [← HR.out]
  refine HA.out.mono ?_
  rintro e w1 ⟨rfl, hB⟩
  have HB := hid hB
  clear hB HA HW0
  go_wp2_with fail
  refine HB.out.mono ?_
  rintro e w2 ⟨T, c, rfl, hc0, ⟨hps, hlc⟩, hC⟩
  have HC := hid hC
  clear hC HB
  go_wp2_with fail
  refine HC.out.mono ?_
  rintro e w3 ⟨rfl, hb3, hr3, ht3, hT, hz3⟩
  subst hT
  obtain ⟨⟨f0, f1, f2, f3⟩, hD⟩ := HWD.out w3 (HR.out ▸ hb3) hz3 hr3 ht3 _ rfl
  have HD := hid hD
  have HZ3 := hid hz3
  clear hb3 hr3 ht3 hD HWD HC hc0 hz3
  go_wp2_with fail
  refine HD.out.mono ?_
  rintro e w4 ⟨rfl, hI⟩
  have e3 : w3.heap.size = R + 2 := HZ3.out
  rw [e3]
  clear HD HZ3 f0 f1 f2 f3 e3
  obtain ⟨O, hO⟩ : ∃ O, O = R + 2 := ⟨_, rfl⟩
  obtain ⟨T, hT⟩ : ∃ T, T = R + 1 := ⟨_, rfl⟩
  obtain ⟨D, hD⟩ : ∃ D, D = R + 3 := ⟨_, rfl⟩
  rw [← hO, ← hT, ← hD] at hI
  rw [← hO, ← hT, ← hD]
  clear hO hT hD
  obtain ⟨⟨c0, c1, c2, c3, c4, c5⟩, ⟨y0, y1, y2, y3, y4, y5⟩⟩ := hI.rb.cs
  have HI0 := hid hI
  clear hI
  by_cases hlen : ps.length = nw m
  case neg =>
    have e : X = (PO0, false) := by rw [HLP.out, if_pos hlen]
    subst e
    have ql : ((ps.length : Int) != (nw m : Int)) = true := by simp; omega
    clear HLP hlen
    go_wp2_with fail
    exact bodyPost_ret (results_op rfl _ _ R PO0 (.slice none 0 0) (.bool false) rfl rfl (HI0.out.rb.put6 PO0 (.slice none 0 0))) rfl ⟨_, rfl, OfE.put6 ⟨Ow.nil _ _, HI0.out.bel⟩ (Nat.le_of_eq HR.out.symm) (by simp [Value.ownBlock]) PO0 (.slice none 0 0)⟩
  case pos =>
    have HLX : Hid (X = finL (takeL ((wordsOf m).zip ps) (kind0 m))) := by
      show X = _
      rw [HLP.out, if_neg (by omega)]
    have ql : ((ps.length : Int) != (nw m : Int)) = false := by simp; omega
    have HLEN := hid hlen
    clear HLP hlen c0 c1 c2 c3 c4 c5 y0 y1 y2 y3 y4 y5
    go_wp2_with fail
    go_loopw [48] (fun i wr => ∃ (r : Nat), r ≤ nw m ∧ i = .int .i64 (r : Int) ∧ ∃ o v, takeL (((wordsOf m).zip ps).take r) (kind0 m) = some o ∧ OfI R T O D m ps w wr o v) (fun i _ => nw m - (intOf i).toNat)
    case atStart => exact ⟨0, Nat.zero_le _, rfl, _, _, rfl, HI0.out⟩
    case round =>
      obtain ⟨r, hr, rfl, o, v, htk, hI⟩ := hrel
      clear HI0
      by_cases hlt : r < nw m
      · have hc : wr.cell? ⟨D, r, none⟩ = some (.string ((frm m).getD r ByteArray.empty)) := by
          have h := hI.db
          simp only [World.cell?, h]
          match r, (show r < 4 by omega) with
          | 0, _ => rfl
          | 1, _ => rfl
          | 2, _ => rfl
          | 3, _ => rfl
        have hl := HLEN.out
        have ht := hI.tb r (by omega)
        have htz := HSZ.out r (by omega)
        have hwl : r < (wordsOf m).length := by unfold wordsOf; rw [List.length_take]; show r < min _ 4; omega
        have hwe : (wordsOf m).getD r ByteArray.empty = (frm m).getD r ByteArray.empty := by
          unfold wordsOf
          rw [List.getD_eq_getElem?_getD, List.getD_eq_getElem?_getD, List.getElem?_take_of_lt hlt]
        have hnx := zip_take_next (wordsOf m) ps r hwl (by omega)
        rw [hwe] at hnx
        have hsp : (wordsOf m).zip ps = ((wordsOf m).zip ps).take (r + 1) ++ ((wordsOf m).zip ps).drop (r + 1) := (List.take_append_drop _ _).symm
        have hlps : (r : Int) < (ps.length : Int) := by omega
        generalize (frm m).getD r ByteArray.empty = x at *
        generalize ps.getD r cE = t at *
        have hgo := takeL_app (((wordsOf m).zip ps).take r) (x, t) (kind0 m)
        rw [htk, ← hnx] at hgo
        simp only [Option.bind_some] at hgo
        have HGO := hid hgo
        have HSP := hid hsp
        have HI := hid hI
        have H81 := hid (take_any x t (HG.out.next hI.bel) htz hI.bel.size hI.tk)
        obtain ⟨⟨c0, c1, c2, c3, c4, c5⟩, ⟨y0, y1, y2, y3, y4, y5⟩⟩ := hI.rb.cs
        clear hgo hsp hI htk hnx hwe hwl hl htz c0 c1 c2 c3 c4 c5 y0 y1 y2 y3 y4 y5
        go_wp2_with fail
        refine H81.out.mono ?_
        rintro e w5 ⟨v5, rfl, h5, b5, hv5⟩
        have hn5 : some R ≠ v5.ownBlock := by
          rcases hv5 with e | e
          · rw [e]; exact HI.out.nR
          · intro q
            have := e R q.symm
            have := HI.out.rb.lt
            omega
        have HI5 := hid (HI.out.step h5 b5 hn5)
        clear h5 b5 hn5 hv5 H81 HI hc ht
        generalize hP : takeP o x t = P at *
        clear hP
        obtain ⟨p1, p2⟩ := P
        dsimp only at *
        cases p2 with
        | true =>
          go_wp2
          go_roundw
          case rel => exact ⟨r + 1, by omega, by go_num, p1, v5, by rw [HGO.out]; rfl, HI5.out⟩
          case measure => simp [intOf]; omega
        | false =>
          have e : X = (PO0, false) := by
            have hn : takeL (((wordsOf m).zip ps).take (r + 1)) (kind0 m) = none := by rw [HGO.out]; rfl
            have := takeL_none (l' := ((wordsOf m).zip ps).drop (r + 1)) hn
            rw [← HSP.out] at this
            rw [HLX.out, this]; rfl
          subst e
          obtain ⟨⟨c0, c1, c2, c3, c4, c5⟩, ⟨y0, y1, y2, y3, y4, y5⟩⟩ := HI5.out.rb.cs
          go_wp2_with fail
          exact bodyPost_ret (results_op rfl _ _ R PO0 (.slice none 0 0) (.bool false) rfl rfl (HI5.out.rb.put6 PO0 (.slice none 0 0))) rfl ⟨_, rfl, OfE.put6 ⟨Ow.nil _ _, HI5.out.bel⟩ (Nat.le_of_eq HR.out.symm) (by simp [Value.ownBlock]) PO0 (.slice none 0 0)⟩
      · obtain rfl : r = nw m := by omega
        have hz : ((wordsOf m).zip ps).take (nw m) = (wordsOf m).zip ps := by
          rw [List.take_of_length_le]
          rw [List.length_zip]
          have := HLEN.out
          omega
        rw [hz] at htk
        have e : X = (o, decide (o.ck = 0)) := by rw [HLX.out, htk]; rfl
        subst e
        obtain ⟨va, vc, rfl⟩ := hI.tk.ow.form
        have hok := hI.tk.ok
        have HCk := hid (Check_any o.k o.nm o.ot o.fr o.to va o.da.length vc wr.drew (HG.out.next (hI.bel.trans (below_drew _ _))) hok.nm hok.ot hok.f0 hok.t1)
        change Hid (Calls Tryz.prog 10 _ wr.drew fun e w' => e = .returned (.int .i64 o.ck) ∧ _) at HCk
        have HI := hid hI
        have hSo := hI.tk.ob.cs
        clear hI hok htk hz HLX HSZ
        go_wp2_with fail
        refine wp_region_held_drew (S := (fun W => (W.cell? ⟨O, 0, none⟩ = some (.int .i64 o.k) ∧ W.cell? ⟨O, 1, none⟩ = some (.string o.nm) ∧ W.cell? ⟨O, 2, none⟩ = some (.string o.ot) ∧ W.cell? ⟨O, 3, none⟩ = some (.int .i64 o.fr) ∧ W.cell? ⟨O, 4, none⟩ = some (.int .i64 o.to) ∧ W.cell? ⟨O, 5, none⟩ = some (.slice va o.da.length vc)))) (by kernel_rfl) hSo.1 (fun hSS => ?_)
        refine wpAnyH_take (i := 0) (oi := ({ dst := some 62, op := Op.load 29 (Operand.tmp 9), type := 29, pos := _, after := _, guard := none } : Oper)) (v := ?_) rfl (by kernel_rfl) (by kernel_rfl) (by kernel_rfl) (fun _ _ _ h => h) (Or.inl ⟨by rfl, ?_⟩) hSS ?_
        rotate_left
        · intro w9 hSw
          (try dsimp only at hSw)
          (try go_split_ands)
          first | (go_simp; done) | (go_simp; with_reducible rfl)
        try simp only [Act.put, List.setIfInBounds_toArray, List.set_cons_zero, List.set_cons_succ]
        refine wpAnyH_take (i := 1) (oi := ({ dst := some 63, op := Op.load 29 (Operand.tmp 9), type := 29, pos := _, after := _, guard := none } : Oper)) (v := ?_) rfl (by kernel_rfl) (by kernel_rfl) (by kernel_rfl) (fun _ _ _ h => h) (Or.inl ⟨by rfl, ?_⟩) hSS ?_
        rotate_left
        · intro w9 hSw
          (try dsimp only at hSw)
          (try go_split_ands)
          first | (go_simp; done) | (go_simp; with_reducible rfl)
        try simp only [Act.put, List.setIfInBounds_toArray, List.set_cons_zero, List.set_cons_succ]
        refine wpAnyH_ready (rs := [2]) (by kernel_rfl) (by simp) (AllReadyH.cons (o := ({ dst := some 64, op := Op.call { callee := Callee.value (Operand.func 10), args := #[Operand.tmp 63], argTypes := #[29] }, type := 26, pos := _, after := _, guard := none } : Oper)) rfl (fun K9 hK9 => ?_) AllReadyH.nil)
        go_simp
        go_at_call 10
        refine HCk.out.mono ?_
        rintro e w5 ⟨rfl, b5d⟩
        have b5 : Below wr.heap.size wr w5 := (below_drew _ _).trans b5d
        have ht5 := HI.out.tk.next b5
        have hr5 := HI.out.rb.keep (b5.block R HI.out.rb.lt)
        refine hK9.out _ _ ht5.ob.cs.1 (fun hSS => ?_)
        clear hK9 K9
        try simp only [Act.put, List.setIfInBounds_toArray, List.set_cons_zero, List.set_cons_succ]
        refine wpAnyH_take (i := 3) (oi := ({ dst := some 65, op := Op.binOp BinOp.eql 26 (Operand.tmp 64) (Operand.const (Value.int IntKind.i64 0)) 26, type := 4, pos := _, after := _, guard := none } : Oper)) (v := ?_) rfl (by kernel_rfl) (by kernel_rfl) (by kernel_rfl) (fun _ _ _ h => h) (Or.inl ⟨by rfl, ?_⟩) hSS ?_
        rotate_left
        · intro w9 hSw
          (try dsimp only at hSw)
          (try go_split_ands)
          first | (go_simp; done) | (go_simp; with_reducible rfl)
        try simp only [Act.put, List.setIfInBounds_toArray, List.set_cons_zero, List.set_cons_succ]
        obtain ⟨⟨c0, c1, c2, c3, c4, c5⟩, ⟨y0, y1, y2, y3, y4, y5⟩⟩ := hr5.cs
        refine wpAnyH_ready (rs := [4]) (by kernel_rfl) (by simp) (AllReadyH.cons (o := ({ dst := none, op := Op.store 29 (Operand.tmp 2) (Operand.tmp 62), type := 0, pos := _, after := _, guard := none } : Oper)) rfl (fun K9 hK9 => ?_) AllReadyH.nil)
        go_simp
        refine hK9.out _ _ (OpB.keep ht5.ob ((but_put6 w5 R o (.slice va o.da.length vc)).block O ht5.ob.lt (by have := HI.out.h2; have := HI.out.h3; omega))).cs.1 (fun hSS => ?_)
        clear hK9 K9
        try simp only [Act.put, List.setIfInBounds_toArray, List.set_cons_zero, List.set_cons_succ]
        refine wpAnyH_take (i := 5) (oi := ({ dst := some 3, op := Op.assign (Operand.tmp 65), type := 4, pos := _, after := _, guard := none } : Oper)) (v := ?_) rfl (by kernel_rfl) (by kernel_rfl) (by kernel_rfl) (fun _ _ _ h => h) (Or.inl ⟨by rfl, ?_⟩) hSS ?_
        rotate_left
        · intro w9 hSw
          (try dsimp only at hSw)
          (try go_split_ands)
          first | (go_simp; done) | (go_simp; with_reducible rfl)
        try simp only [Act.put, List.setIfInBounds_toArray, List.set_cons_zero, List.set_cons_succ]
        refine wpAnyH_done (by kernel_rfl) ?_ _
        go_wp2_with fail
        have hn5 := HI.out.nR
        exact bodyPost_ret (results_op rfl _ _ R o (.slice va o.da.length vc) (.bool (decide (o.ck = 0))) rfl rfl (hr5.put6 o (.slice va o.da.length vc))) rfl ⟨_, rfl, OfE.put6 ⟨ht5.ow, HI.out.bel.trans (b5.mono HI.out.bel.size)⟩ (Nat.le_of_eq HR.out.symm) hn5 o (.slice va o.da.length vc)⟩

end Go.Proofs.YthkkdmblkalknaaGreatDoor
