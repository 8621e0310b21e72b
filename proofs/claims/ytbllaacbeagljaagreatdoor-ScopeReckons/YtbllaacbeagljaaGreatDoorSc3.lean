/-
  lex: refused, begun, stands, unit.
-/
import Derived.Test.YtbllaacbeagljaaGreatDoorSc2
import Derived.Laws.ResultCell
import Derived.Laws.Rows
namespace Go.Proofs.YtbllaacbeagljaaGreatDoor
open Go.RowKit

def tokV (t : Tk) : Value := .agg #[.int .i64 t.k, .string (strOfNums t.tx), .int .i64 t.n, .int .i64 t.a]

theorem results_row_tmp {P : Program} {fn : Func} {p u : Tmp} {ty : TypeId} (h : fn.results = #[.cell p ty, .tmp u]) (tmps : Array Value) (w : World) (g : Nat) (t : TypeId) (cs : Array Value) (fr : Nat × Nat) (d : TypeDesc) (x : Value)
    (hp : tmps.getD p undef = .pointer (some ⟨g, 0, none⟩)) (hx : tmps.getD u undef = x) (hg : w.heap[g]? = some (.cells cs t fr))
    (hu : P.underlying ty = some d) (hd : (match d with | .struct _ | .array _ _ => true | _ => false) = true) (hi : (P.info? ty).map (·.size) = some cs.size) :
    (results fn tmps).run P w = .ok (.tuple #[.agg cs, x]) w := by
  rw [results_cell_tmp h, hp, hx]
  simp [asAddr, run_loadVar_row w g t ty cs fr d hg hu hd hi]
theorem heap_new (w : World) (o : Obj) : (w.alloc o).heap[w.heap.size]? = some o := by
  show (w.heap.push _)[w.heap.size]? = _
  simp
theorem below1 (w : World) (o : Obj) : Below w.heap.size w (w.alloc o) := (Below.refl _ _).alloc (Nat.le_refl _) _
/-- a token's cells -/
abbrev tcs (k : Int) (s : ByteArray) (n a : Int) : Array Value := #[.int .i64 k, .string s, .int .i64 n, .int .i64 a]
abbrev sE : ByteArray := ⟨#[]⟩
def TkB (w : World) (b : Nat) (k : Int) (s : ByteArray) (n a : Int) : Prop := w.heap[b]? = some (.cells (tcs k s n a) 227 (0, 0))
theorem TkB.lt {w : World} {b : Nat} {k n a : Int} {s : ByteArray} (h : TkB w b k s n a) : b < w.heap.size := (Array.getElem?_eq_some_iff.1 h).1
theorem TkB.cell {w : World} {b : Nat} {k n a : Int} {s : ByteArray} (h : TkB w b k s n a) (i : Nat) (v : Value) (hv : (tcs k s n a)[i]? = some v) : w.cell? ⟨b, i, none⟩ = some v := by unfold TkB at h; simp [World.cell?, h, hv]
theorem TkB.fz {w : World} {b : Nat} {k n a : Int} {s : ByteArray} (h : TkB w b k s n a) (i : Nat) : w.frozen? ⟨b, i, none⟩ = false := by unfold TkB at h; simp [World.frozen?, h]
theorem TkB.keep {w w' : World} {b : Nat} {k n a : Int} {s : ByteArray} (h : TkB w b k s n a) (hw : w'.heap[b]? = w.heap[b]?) : TkB w' b k s n a := by unfold TkB at *; rw [hw]; exact h
theorem TkB.set {w : World} {b : Nat} {k n a : Int} {s : ByteArray} (h : TkB w b k s n a) (i : Nat) (x : Value) {k' n' a' : Int} {s' : ByteArray} (hx : (tcs k s n a).setIfInBounds i x = tcs k' s' n' a') : TkB (w.setCell ⟨b, i, none⟩ x) b k' s' n' a' := by
  unfold TkB at *
  simp only [World.setCell, Array.getElem?_modify]
  rw [h, ← hx]
  simp
def put4 (w : World) (b : Nat) (k : Int) (s : ByteArray) (n a : Int) : World := (((w.setCell ⟨b, 0, none⟩ (.int .i64 k)).setCell ⟨b, 1, none⟩ (.string s)).setCell ⟨b, 2, none⟩ (.int .i64 n)).setCell ⟨b, 3, none⟩ (.int .i64 a)
theorem TkB.put4 {w : World} {b : Nat} {k n a : Int} {s : ByteArray} (h : TkB w b k s n a) (k' : Int) (s' : ByteArray) (n' a' : Int) : TkB (put4 w b k' s' n' a') b k' s' n' a' := by
  have h0 := h.set (k' := k') (s' := s) (n' := n) (a' := a) 0 (.int .i64 k') rfl
  have h1 := h0.set (k' := k') (s' := s') (n' := n) (a' := a) 1 (.string s') rfl
  have h2 := h1.set (k' := k') (s' := s') (n' := n') (a' := a) 2 (.int .i64 n') rfl
  exact h2.set (k' := k') (s' := s') (n' := n') (a' := a') 3 (.int .i64 a') rfl
theorem but_put4 (w : World) (b : Nat) (k : Int) (s : ByteArray) (n a : Int) : But (fun x => x = b) w (put4 w b k s n a) :=
  ((((But.refl (fun x => x = b) w).setCell (p := ⟨b, 0, none⟩) rfl _).setCell (p := ⟨b, 1, none⟩) rfl _).setCell (p := ⟨b, 2, none⟩) rfl _).setCell (p := ⟨b, 3, none⟩) rfl _
theorem results_tok {fn : Func} {p u : Tmp} (h : fn.results = #[.cell p 227, .tmp u]) (tmps : Array Value) (w : World) (R : Nat) (k : Int) (s : ByteArray) (n a : Int) (x : Value) (hp : tmps.getD p undef = .pointer (some ⟨R, 0, none⟩)) (hx : tmps.getD u undef = x) (hB : TkB w R k s n a) :
    (results fn tmps).run Tryz.prog w = .ok (.tuple #[.agg (tcs k s n a), x]) w :=
  results_row_tmp h tmps w R 227 _ (0, 0) _ x hp hx hB Tryz.underlying227 rfl (by kernel_rfl)

set_option maxHeartbeats 1000000 in
theorem refused_any (a e0 : Int) (w : World) : Calls Tryz.prog 162 #[.int .i64 a, .int .i64 e0] w fun e w' => e = .returned (.tuple #[.agg (tcs 0 sE 0 a), .int .i64 e0]) ∧ Below w.heap.size w w' := by
  go_enter Tryz.func162, Tryz.ntmps162
  go_wp2
  exact bodyPost_ret (results_tok rfl _ _ w.heap.size 0 sE 0 a (.int .i64 e0) rfl rfl (heap_new _ _)) rfl ⟨rfl, below1 _ _⟩

set_option maxRecDepth 100000 in
set_option maxHeartbeats 2000000 in
theorem begun_name (w : World) : Calls Tryz.prog 161 #[.int .u8 34] w fun e w' => e = .returned (.func (.func 169) #[] #[]) ∧ w' = w := by
  go_enter Tryz.func161, Tryz.ntmps161
  go_wp2
  go_ret
  exact ⟨rfl, rfl⟩
set_option maxRecDepth 100000 in
set_option maxHeartbeats 4000000 in
theorem begun_mark (z : Int) (h : isMk z = true) (w : World) : Calls Tryz.prog 161 #[.int .u8 z] w fun e w' => e = .returned (.func (.func 170) #[] #[]) ∧ w' = w := by
  have hz : z = 59 ∨ z = 123 ∨ z = 125 ∨ z = 40 ∨ z = 41 ∨ z = 44 ∨ z = 61 ∨ z = 60 ∨ z = 43 ∨ z = 45 ∨ z = 42 ∨ z = 47 ∨ z = 37 := by simpa [isMk, or_assoc] using h
  clear h
  rcases hz with rfl | rfl | rfl | rfl | rfl | rfl | rfl | rfl | rfl | rfl | rfl | rfl | rfl
  all_goals (go_enter Tryz.func161, Tryz.ntmps161; go_wp2; go_ret; exact ⟨rfl, rfl⟩)
set_option maxRecDepth 100000 in
set_option maxHeartbeats 4000000 in
theorem begun_digit (z : Int) (h : isDig z = true) (w : World) : Calls Tryz.prog 161 #[.int .u8 z] w fun e w' => e = .returned (.func (.func 171) #[] #[]) ∧ w' = w := by
  have hz : z = 48 ∨ z = 49 ∨ z = 50 ∨ z = 51 ∨ z = 52 ∨ z = 53 ∨ z = 54 ∨ z = 55 ∨ z = 56 ∨ z = 57 := by simp [isDig] at h; omega
  clear h
  rcases hz with rfl | rfl | rfl | rfl | rfl | rfl | rfl | rfl | rfl | rfl
  all_goals (go_enter Tryz.func161, Tryz.ntmps161; go_wp2; go_ret; exact ⟨rfl, rfl⟩)
set_option maxRecDepth 100000 in
set_option maxHeartbeats 4000000 in
theorem begun_word (z : Int) (h : isLet z = true) (w : World) : Calls Tryz.prog 161 #[.int .u8 z] w fun e w' => e = .returned (.func (.func 173) #[] #[]) ∧ w' = w := by
  have hz : z ≠ 34 ∧ z ≠ 59 ∧ z ≠ 123 ∧ z ≠ 125 ∧ z ≠ 40 ∧ z ≠ 41 ∧ z ≠ 44 ∧ z ≠ 61 ∧ z ≠ 60 ∧ z ≠ 43 ∧ z ≠ 45 ∧ z ≠ 42 ∧ z ≠ 47 ∧ z ≠ 37 ∧ z ≠ 48 ∧ z ≠ 49 ∧ z ≠ 50 ∧ z ≠ 51 ∧ z ≠ 52 ∧ z ≠ 53 ∧ z ≠ 54 ∧ z ≠ 55 ∧ z ≠ 56 ∧ z ≠ 57 := by simp [isLet] at h; omega
  have H := hid (isLetter_any z w)
  rw [h] at H
  obtain ⟨n34, n59, n123, n125, n40, n41, n44, n61, n60, n43, n45, n42, n47, n37, n48, n49, n50, n51, n52, n53, n54, n55, n56, n57⟩ := hz
  clear h
  go_enter Tryz.func161, Tryz.ntmps161
  go_wp2_with (go_at_call 172; refine Calls.mono H.out ?_; rintro e w1 ⟨rfl, rfl⟩)
  go_ret
  exact ⟨rfl, rfl⟩
set_option maxRecDepth 100000 in
set_option maxHeartbeats 4000000 in
theorem begun_none (z : Int) (h1 : isLet z = false) (h2 : isDig z = false) (h3 : z ≠ 34) (h4 : isMk z = false) (w : World) : Calls Tryz.prog 161 #[.int .u8 z] w fun e w' => e = .returned .nilFunc ∧ w' = w := by
  have hz : z ≠ 59 ∧ z ≠ 123 ∧ z ≠ 125 ∧ z ≠ 40 ∧ z ≠ 41 ∧ z ≠ 44 ∧ z ≠ 61 ∧ z ≠ 60 ∧ z ≠ 43 ∧ z ≠ 45 ∧ z ≠ 42 ∧ z ≠ 47 ∧ z ≠ 37 ∧ z ≠ 48 ∧ z ≠ 49 ∧ z ≠ 50 ∧ z ≠ 51 ∧ z ≠ 52 ∧ z ≠ 53 ∧ z ≠ 54 ∧ z ≠ 55 ∧ z ≠ 56 ∧ z ≠ 57 := by simp [isMk] at h4; simp [isDig] at h2; omega
  have H := hid (isLetter_any z w)
  rw [h1] at H
  obtain ⟨n59, n123, n125, n40, n41, n44, n61, n60, n43, n45, n42, n47, n37, n48, n49, n50, n51, n52, n53, n54, n55, n56, n57⟩ := hz
  clear h1 h2 h4
  go_enter Tryz.func161, Tryz.ntmps161
  go_wp2_with (go_at_call 172; refine Calls.mono H.out ?_; rintro e w1 ⟨rfl, rfl⟩)
  go_ret
  exact ⟨rfl, rfl⟩

theorem at_some {zs : List Int} {b : Nat} (h : b < zs.length) : zs[b]? = some (zs.getD b 0) := by simp [h]
set_option maxRecDepth 100000 in
set_option maxHeartbeats 1000000 in
theorem stands_any {w : World} {k : Nat} {zs : List Int} {b : Nat} (c : Int) (hb : Pl.isB zs) (hl : zs.length ≤ 16777216) (hbl : b ≤ zs.length) (h : Scn w k (strOfNums zs) b) :
    Calls Tryz.prog 185 #[.pointer (some ⟨k, 0, none⟩), .int .u8 c] w fun e w' => e = .returned (.bool (decide (zs[b]? = some c))) ∧ w' = w.drew.drew := by
  have hsz := str_size zs
  have HG := hid (fun i hi h => str_get zs hb i hi h)
  have H32 := hid (isAtEnd_any h.drew)
  have c0 := h.c0
  have c1 := h.c1
  have kS := And.intro c0 c1
  clear hb h
  generalize strOfNums zs = S at *
  by_cases q : b = zs.length
  · rw [decide_eq_true (show b = S.size by omega)] at H32
    have hn : decide (zs[b]? = some c) = false := decide_eq_false (by rw [List.getElem?_eq_none (by omega)]; intro h; cases h)
    rw [hn]
    clear hn
    go_enter Tryz.func185, Tryz.ntmps185
    go_wp2_with fail
    refine wp_region_held_drew (S := (fun w' => w'.cell? ⟨k, 0, none⟩ = some (.string S) ∧ w'.cell? ⟨k, 1, none⟩ = some (.int .i64 (b : Int)))) (by kernel_rfl) kS (fun hSS => ?_)
    refine wpAnyH_take (i := 0) (oi := ({ dst := some 5, op := Op.move (Operand.tmp 0), type := 243, pos := _, after := _, guard := none } : Oper)) (v := ?_) rfl (by kernel_rfl) (by kernel_rfl) (by kernel_rfl) (fun _ _ _ h => h) (Or.inl ⟨by rfl, ?_⟩) hSS ?_
    rotate_left
    · intro w9 hSw
      (try dsimp only at hSw)
      (try go_split_ands)
      first | (go_simp; done) | (go_simp; with_reducible rfl)
    try simp only [Act.put, List.setIfInBounds_toArray, List.set_cons_zero, List.set_cons_succ]
    refine wpAnyH_ready (rs := [1]) (by kernel_rfl) (by simp) (AllReadyH.cons (o := ({ dst := some 6, op := Op.call { callee := Callee.value (Operand.func 176), args := #[Operand.tmp 5], argTypes := #[243] }, type := 4, pos := _, after := _, guard := none } : Oper)) rfl (fun K9 hK9 => ?_) AllReadyH.nil)
    go_simp
    go_at_call 176
    refine Calls.mono H32.out ?_
    rintro e w1 ⟨rfl, rfl⟩
    refine hK9.out _ _ kS (fun hSS => ?_)
    clear hK9 K9
    try simp only [Act.put, List.setIfInBounds_toArray, List.set_cons_zero, List.set_cons_succ]
    refine wpAnyH_take (i := 2) (oi := ({ dst := some 7, op := Op.unOp UnOp.not 4 (Operand.tmp 6), type := 4, pos := _, after := _, guard := none } : Oper)) (v := ?_) rfl (by kernel_rfl) (by kernel_rfl) (by kernel_rfl) (fun _ _ _ h => h) (Or.inl ⟨by rfl, ?_⟩) hSS ?_
    rotate_left
    · intro w9 hSw
      (try dsimp only at hSw)
      (try go_split_ands)
      first | (go_simp; done) | (go_simp; with_reducible rfl)
    try simp only [Act.put, List.setIfInBounds_toArray, List.set_cons_zero, List.set_cons_succ]
    refine wpAnyH_take (i := 3) (oi := ({ dst := some 8, op := Op.move (Operand.tmp 7), type := 4, pos := _, after := _, guard := none } : Oper)) (v := ?_) rfl (by kernel_rfl) (by kernel_rfl) (by kernel_rfl) (fun _ _ _ h => h) (Or.inl ⟨by rfl, ?_⟩) hSS ?_
    rotate_left
    · intro w9 hSw
      (try dsimp only at hSw)
      (try go_split_ands)
      first | (go_simp; done) | (go_simp; with_reducible rfl)
    try simp only [Act.put, List.setIfInBounds_toArray, List.set_cons_zero, List.set_cons_succ]
    refine wpAnyH_take (i := 4) (oi := ({ dst := some 9, op := Op.move (Operand.tmp 0), type := 243, pos := _, after := _, guard := some (3, true) } : Oper)) (v := undef) rfl (by kernel_rfl) (by kernel_rfl) (by kernel_rfl) (fun _ _ _ h => h) (Or.inr ⟨by rfl, rfl⟩) hSS ?_
    try simp only [Act.put, List.setIfInBounds_toArray, List.set_cons_zero, List.set_cons_succ]
    refine wpAnyH_take (i := 5) (oi := ({ dst := some 10, op := Op.nilCheck (Operand.tmp 9), type := 0, pos := _, after := _, guard := some (3, true) } : Oper)) (v := undef) rfl (by kernel_rfl) (by kernel_rfl) (by kernel_rfl) (fun _ _ _ h => h) (Or.inr ⟨by rfl, rfl⟩) hSS ?_
    try simp only [Act.put, List.setIfInBounds_toArray, List.set_cons_zero, List.set_cons_succ]
    refine wpAnyH_take (i := 6) (oi := ({ dst := some 11, op := Op.fieldAddr 245 (Operand.tmp 10) 0, type := 0, pos := _, after := _, guard := some (3, true) } : Oper)) (v := undef) rfl (by kernel_rfl) (by kernel_rfl) (by kernel_rfl) (fun _ _ _ h => h) (Or.inr ⟨by rfl, rfl⟩) hSS ?_
    try simp only [Act.put, List.setIfInBounds_toArray, List.set_cons_zero, List.set_cons_succ]
    refine wpAnyH_take (i := 7) (oi := ({ dst := some 12, op := Op.load 9 (Operand.tmp 11), type := 9, pos := _, after := _, guard := some (3, true) } : Oper)) (v := undef) rfl (by kernel_rfl) (by kernel_rfl) (by kernel_rfl) (fun _ _ _ h => h) (Or.inr ⟨by rfl, rfl⟩) hSS ?_
    try simp only [Act.put, List.setIfInBounds_toArray, List.set_cons_zero, List.set_cons_succ]
    refine wpAnyH_take (i := 8) (oi := ({ dst := some 13, op := Op.move (Operand.tmp 0), type := 243, pos := _, after := _, guard := some (3, true) } : Oper)) (v := undef) rfl (by kernel_rfl) (by kernel_rfl) (by kernel_rfl) (fun _ _ _ h => h) (Or.inr ⟨by rfl, rfl⟩) hSS ?_
    try simp only [Act.put, List.setIfInBounds_toArray, List.set_cons_zero, List.set_cons_succ]
    refine wpAnyH_take (i := 9) (oi := ({ dst := some 14, op := Op.nilCheck (Operand.tmp 13), type := 0, pos := _, after := _, guard := some (3, true) } : Oper)) (v := undef) rfl (by kernel_rfl) (by kernel_rfl) (by kernel_rfl) (fun _ _ _ h => h) (Or.inr ⟨by rfl, rfl⟩) hSS ?_
    try simp only [Act.put, List.setIfInBounds_toArray, List.set_cons_zero, List.set_cons_succ]
    refine wpAnyH_take (i := 10) (oi := ({ dst := some 15, op := Op.fieldAddr 245 (Operand.tmp 14) 1, type := 0, pos := _, after := _, guard := some (3, true) } : Oper)) (v := undef) rfl (by kernel_rfl) (by kernel_rfl) (by kernel_rfl) (fun _ _ _ h => h) (Or.inr ⟨by rfl, rfl⟩) hSS ?_
    try simp only [Act.put, List.setIfInBounds_toArray, List.set_cons_zero, List.set_cons_succ]
    refine wpAnyH_take (i := 11) (oi := ({ dst := some 16, op := Op.load 3 (Operand.tmp 15), type := 3, pos := _, after := _, guard := some (3, true) } : Oper)) (v := undef) rfl (by kernel_rfl) (by kernel_rfl) (by kernel_rfl) (fun _ _ _ h => h) (Or.inr ⟨by rfl, rfl⟩) hSS ?_
    try simp only [Act.put, List.setIfInBounds_toArray, List.set_cons_zero, List.set_cons_succ]
    refine wpAnyH_take (i := 12) (oi := ({ dst := some 17, op := Op.index 9 (Operand.tmp 12) (Operand.tmp 16), type := 5, pos := _, after := _, guard := some (3, true) } : Oper)) (v := undef) rfl (by kernel_rfl) (by kernel_rfl) (by kernel_rfl) (fun _ _ _ h => h) (Or.inr ⟨by rfl, rfl⟩) hSS ?_
    try simp only [Act.put, List.setIfInBounds_toArray, List.set_cons_zero, List.set_cons_succ]
    refine wpAnyH_take (i := 13) (oi := ({ dst := some 18, op := Op.move (Operand.tmp 1), type := 5, pos := _, after := _, guard := some (3, true) } : Oper)) (v := undef) rfl (by kernel_rfl) (by kernel_rfl) (by kernel_rfl) (fun _ _ _ h => h) (Or.inr ⟨by rfl, rfl⟩) hSS ?_
    try simp only [Act.put, List.setIfInBounds_toArray, List.set_cons_zero, List.set_cons_succ]
    refine wpAnyH_take (i := 14) (oi := ({ dst := some 19, op := Op.binOp BinOp.eql 5 (Operand.tmp 17) (Operand.tmp 18) 5, type := 4, pos := _, after := _, guard := some (3, true) } : Oper)) (v := undef) rfl (by kernel_rfl) (by kernel_rfl) (by kernel_rfl) (fun _ _ _ h => h) (Or.inr ⟨by rfl, rfl⟩) hSS ?_
    try simp only [Act.put, List.setIfInBounds_toArray, List.set_cons_zero, List.set_cons_succ]
    refine wpAnyH_take (i := 15) (oi := ({ dst := some 20, op := Op.pick (Operand.tmp 8) (Operand.tmp 19) (Operand.const (Value.bool false)), type := 4, pos := _, after := _, guard := none } : Oper)) (v := ?_) rfl (by kernel_rfl) (by kernel_rfl) (by kernel_rfl) (fun _ _ _ h => h) (Or.inl ⟨by rfl, ?_⟩) hSS ?_
    rotate_left
    · intro w9 hSw
      (try dsimp only at hSw)
      (try go_split_ands)
      first | (go_simp; done) | (go_simp; with_reducible rfl)
    try simp only [Act.put, List.setIfInBounds_toArray, List.set_cons_zero, List.set_cons_succ]
    refine wpAnyH_take (i := 16) (oi := ({ dst := some 4, op := Op.assign (Operand.tmp 20), type := 4, pos := _, after := _, guard := none } : Oper)) (v := ?_) rfl (by kernel_rfl) (by kernel_rfl) (by kernel_rfl) (fun _ _ _ h => h) (Or.inl ⟨by rfl, ?_⟩) hSS ?_
    rotate_left
    · intro w9 hSw
      (try dsimp only at hSw)
      (try go_split_ands)
      first | (go_simp; done) | (go_simp; with_reducible rfl)
    try simp only [Act.put, List.setIfInBounds_toArray, List.set_cons_zero, List.set_cons_succ]
    refine wpAnyH_done (by kernel_rfl) ?_ _
    go_wp2
    go_ret
    exact ⟨rfl, rfl⟩
  · rw [decide_eq_false (show ¬ b = S.size by omega)] at H32
    have hbS : b < S.size := by omega
    have hg := HG.out b (by omega) hbS
    obtain ⟨z, HZ⟩ : ∃ z, Hid (zs.getD b 0 = z) := ⟨_, rfl⟩
    rw [HZ.out] at hg
    have hlt : (b : Int) < zs.length := by omega
    have hlb : (b : Int) ≤ 16777216 := by omega
    have hn : decide (zs[b]? = some c) = decide (z = c) := by rw [at_some (by omega), HZ.out]; simp
    rw [hn]
    have hbq : (z == c) = decide (z = c) := by rw [Bool.eq_iff_iff]; simp
    clear hn
    go_enter Tryz.func185, Tryz.ntmps185
    go_wp2_with fail
    refine wp_region_held_drew (S := (fun w' => w'.cell? ⟨k, 0, none⟩ = some (.string S) ∧ w'.cell? ⟨k, 1, none⟩ = some (.int .i64 (b : Int)))) (by kernel_rfl) kS (fun hSS => ?_)
    refine wpAnyH_take (i := 0) (oi := ({ dst := some 5, op := Op.move (Operand.tmp 0), type := 243, pos := _, after := _, guard := none } : Oper)) (v := ?_) rfl (by kernel_rfl) (by kernel_rfl) (by kernel_rfl) (fun _ _ _ h => h) (Or.inl ⟨by rfl, ?_⟩) hSS ?_
    rotate_left
    · intro w9 hSw
      (try dsimp only at hSw)
      (try go_split_ands)
      first | (go_simp; done) | (go_simp; with_reducible rfl)
    try simp only [Act.put, List.setIfInBounds_toArray, List.set_cons_zero, List.set_cons_succ]
    refine wpAnyH_ready (rs := [1]) (by kernel_rfl) (by simp) (AllReadyH.cons (o := ({ dst := some 6, op := Op.call { callee := Callee.value (Operand.func 176), args := #[Operand.tmp 5], argTypes := #[243] }, type := 4, pos := _, after := _, guard := none } : Oper)) rfl (fun K9 hK9 => ?_) AllReadyH.nil)
    go_simp
    go_at_call 176
    refine Calls.mono H32.out ?_
    rintro e w1 ⟨rfl, rfl⟩
    refine hK9.out _ _ kS (fun hSS => ?_)
    clear hK9 K9
    try simp only [Act.put, List.setIfInBounds_toArray, List.set_cons_zero, List.set_cons_succ]
    refine wpAnyH_take (i := 2) (oi := ({ dst := some 7, op := Op.unOp UnOp.not 4 (Operand.tmp 6), type := 4, pos := _, after := _, guard := none } : Oper)) (v := ?_) rfl (by kernel_rfl) (by kernel_rfl) (by kernel_rfl) (fun _ _ _ h => h) (Or.inl ⟨by rfl, ?_⟩) hSS ?_
    rotate_left
    · intro w9 hSw
      (try dsimp only at hSw)
      (try go_split_ands)
      first | (go_simp; done) | (go_simp; with_reducible rfl)
    try simp only [Act.put, List.setIfInBounds_toArray, List.set_cons_zero, List.set_cons_succ]
    refine wpAnyH_take (i := 3) (oi := ({ dst := some 8, op := Op.move (Operand.tmp 7), type := 4, pos := _, after := _, guard := none } : Oper)) (v := ?_) rfl (by kernel_rfl) (by kernel_rfl) (by kernel_rfl) (fun _ _ _ h => h) (Or.inl ⟨by rfl, ?_⟩) hSS ?_
    rotate_left
    · intro w9 hSw
      (try dsimp only at hSw)
      (try go_split_ands)
      first | (go_simp; done) | (go_simp; with_reducible rfl)
    try simp only [Act.put, List.setIfInBounds_toArray, List.set_cons_zero, List.set_cons_succ]
    refine wpAnyH_take (i := 4) (oi := ({ dst := some 9, op := Op.move (Operand.tmp 0), type := 243, pos := _, after := _, guard := some (3, true) } : Oper)) (v := ?_) rfl (by kernel_rfl) (by kernel_rfl) (by kernel_rfl) (fun _ _ _ h => h) (Or.inl ⟨by rfl, ?_⟩) hSS ?_
    rotate_left
    · intro w9 hSw
      (try dsimp only at hSw)
      (try go_split_ands)
      first | (go_simp; done) | (go_simp; with_reducible rfl)
    try simp only [Act.put, List.setIfInBounds_toArray, List.set_cons_zero, List.set_cons_succ]
    refine wpAnyH_take (i := 5) (oi := ({ dst := some 10, op := Op.nilCheck (Operand.tmp 9), type := 0, pos := _, after := _, guard := some (3, true) } : Oper)) (v := ?_) rfl (by kernel_rfl) (by kernel_rfl) (by kernel_rfl) (fun _ _ _ h => h) (Or.inl ⟨by rfl, ?_⟩) hSS ?_
    rotate_left
    · intro w9 hSw
      (try dsimp only at hSw)
      (try go_split_ands)
      first | (go_simp; done) | (go_simp; with_reducible rfl)
    try simp only [Act.put, List.setIfInBounds_toArray, List.set_cons_zero, List.set_cons_succ]
    refine wpAnyH_take (i := 6) (oi := ({ dst := some 11, op := Op.fieldAddr 245 (Operand.tmp 10) 0, type := 0, pos := _, after := _, guard := some (3, true) } : Oper)) (v := ?_) rfl (by kernel_rfl) (by kernel_rfl) (by kernel_rfl) (fun _ _ _ h => h) (Or.inl ⟨by rfl, ?_⟩) hSS ?_
    rotate_left
    · intro w9 hSw
      (try dsimp only at hSw)
      (try go_split_ands)
      first | (go_simp; done) | (go_simp; with_reducible rfl)
    try simp only [Act.put, List.setIfInBounds_toArray, List.set_cons_zero, List.set_cons_succ]
    refine wpAnyH_take (i := 7) (oi := ({ dst := some 12, op := Op.load 9 (Operand.tmp 11), type := 9, pos := _, after := _, guard := some (3, true) } : Oper)) (v := ?_) rfl (by kernel_rfl) (by kernel_rfl) (by kernel_rfl) (fun _ _ _ h => h) (Or.inl ⟨by rfl, ?_⟩) hSS ?_
    rotate_left
    · intro w9 hSw
      (try dsimp only at hSw)
      (try go_split_ands)
      first | (go_simp; done) | (go_simp; with_reducible rfl)
    try simp only [Act.put, List.setIfInBounds_toArray, List.set_cons_zero, List.set_cons_succ]
    refine wpAnyH_take (i := 8) (oi := ({ dst := some 13, op := Op.move (Operand.tmp 0), type := 243, pos := _, after := _, guard := some (3, true) } : Oper)) (v := ?_) rfl (by kernel_rfl) (by kernel_rfl) (by kernel_rfl) (fun _ _ _ h => h) (Or.inl ⟨by rfl, ?_⟩) hSS ?_
    rotate_left
    · intro w9 hSw
      (try dsimp only at hSw)
      (try go_split_ands)
      first | (go_simp; done) | (go_simp; with_reducible rfl)
    try simp only [Act.put, List.setIfInBounds_toArray, List.set_cons_zero, List.set_cons_succ]
    refine wpAnyH_take (i := 9) (oi := ({ dst := some 14, op := Op.nilCheck (Operand.tmp 13), type := 0, pos := _, after := _, guard := some (3, true) } : Oper)) (v := ?_) rfl (by kernel_rfl) (by kernel_rfl) (by kernel_rfl) (fun _ _ _ h => h) (Or.inl ⟨by rfl, ?_⟩) hSS ?_
    rotate_left
    · intro w9 hSw
      (try dsimp only at hSw)
      (try go_split_ands)
      first | (go_simp; done) | (go_simp; with_reducible rfl)
    try simp only [Act.put, List.setIfInBounds_toArray, List.set_cons_zero, List.set_cons_succ]
    refine wpAnyH_take (i := 10) (oi := ({ dst := some 15, op := Op.fieldAddr 245 (Operand.tmp 14) 1, type := 0, pos := _, after := _, guard := some (3, true) } : Oper)) (v := ?_) rfl (by kernel_rfl) (by kernel_rfl) (by kernel_rfl) (fun _ _ _ h => h) (Or.inl ⟨by rfl, ?_⟩) hSS ?_
    rotate_left
    · intro w9 hSw
      (try dsimp only at hSw)
      (try go_split_ands)
      first | (go_simp; done) | (go_simp; with_reducible rfl)
    try simp only [Act.put, List.setIfInBounds_toArray, List.set_cons_zero, List.set_cons_succ]
    refine wpAnyH_take (i := 11) (oi := ({ dst := some 16, op := Op.load 3 (Operand.tmp 15), type := 3, pos := _, after := _, guard := some (3, true) } : Oper)) (v := ?_) rfl (by kernel_rfl) (by kernel_rfl) (by kernel_rfl) (fun _ _ _ h => h) (Or.inl ⟨by rfl, ?_⟩) hSS ?_
    rotate_left
    · intro w9 hSw
      (try dsimp only at hSw)
      (try go_split_ands)
      first | (go_simp; done) | (go_simp; with_reducible rfl)
    try simp only [Act.put, List.setIfInBounds_toArray, List.set_cons_zero, List.set_cons_succ]
    refine wpAnyH_take (i := 12) (oi := ({ dst := some 17, op := Op.index 9 (Operand.tmp 12) (Operand.tmp 16), type := 5, pos := _, after := _, guard := some (3, true) } : Oper)) (v := .int .u8 z) rfl (by kernel_rfl) (by kernel_rfl) (by kernel_rfl) (fun _ _ _ h => h) (Or.inl ⟨by rfl, ?_⟩) hSS ?_
    · intro w9 hSw
      (try dsimp only at hSw)
      (try go_split_ands)
      first | (go_simp; done) | (go_simp; simp [hg, hbS]; done)
    try simp only [Act.put, List.setIfInBounds_toArray, List.set_cons_zero, List.set_cons_succ]
    refine wpAnyH_take (i := 13) (oi := ({ dst := some 18, op := Op.move (Operand.tmp 1), type := 5, pos := _, after := _, guard := some (3, true) } : Oper)) (v := ?_) rfl (by kernel_rfl) (by kernel_rfl) (by kernel_rfl) (fun _ _ _ h => h) (Or.inl ⟨by rfl, ?_⟩) hSS ?_
    rotate_left
    · intro w9 hSw
      (try dsimp only at hSw)
      (try go_split_ands)
      first | (go_simp; done) | (go_simp; with_reducible rfl)
    try simp only [Act.put, List.setIfInBounds_toArray, List.set_cons_zero, List.set_cons_succ]
    refine wpAnyH_take (i := 14) (oi := ({ dst := some 19, op := Op.binOp BinOp.eql 5 (Operand.tmp 17) (Operand.tmp 18) 5, type := 4, pos := _, after := _, guard := some (3, true) } : Oper)) (v := .bool (decide (z = c))) rfl (by kernel_rfl) (by kernel_rfl) (by kernel_rfl) (fun _ _ _ h => h) (Or.inl ⟨by rfl, ?_⟩) hSS ?_
    · intro w9 hSw
      (try dsimp only at hSw)
      (try go_split_ands)
      first | (go_simp; done) | (go_simp; simp [hbq]; done)
    try simp only [Act.put, List.setIfInBounds_toArray, List.set_cons_zero, List.set_cons_succ]
    refine wpAnyH_take (i := 15) (oi := ({ dst := some 20, op := Op.pick (Operand.tmp 8) (Operand.tmp 19) (Operand.const (Value.bool false)), type := 4, pos := _, after := _, guard := none } : Oper)) (v := ?_) rfl (by kernel_rfl) (by kernel_rfl) (by kernel_rfl) (fun _ _ _ h => h) (Or.inl ⟨by rfl, ?_⟩) hSS ?_
    rotate_left
    · intro w9 hSw
      (try dsimp only at hSw)
      (try go_split_ands)
      first | (go_simp; done) | (go_simp; with_reducible rfl)
    try simp only [Act.put, List.setIfInBounds_toArray, List.set_cons_zero, List.set_cons_succ]
    refine wpAnyH_take (i := 16) (oi := ({ dst := some 4, op := Op.assign (Operand.tmp 20), type := 4, pos := _, after := _, guard := none } : Oper)) (v := ?_) rfl (by kernel_rfl) (by kernel_rfl) (by kernel_rfl) (fun _ _ _ h => h) (Or.inl ⟨by rfl, ?_⟩) hSS ?_
    rotate_left
    · intro w9 hSw
      (try dsimp only at hSw)
      (try go_split_ands)
      first | (go_simp; done) | (go_simp; with_reducible rfl)
    try simp only [Act.put, List.setIfInBounds_toArray, List.set_cons_zero, List.set_cons_succ]
    refine wpAnyH_done (by kernel_rfl) ?_ _
    go_wp2
    go_ret
    exact ⟨rfl, rfl⟩

set_option maxRecDepth 100000 in
set_option maxHeartbeats 1000000 in
theorem unit_any {w : World} {k : Nat} {zs : List Int} {b : Nat} (hb : Pl.isB zs) (hl : zs.length ≤ 16777216) (hbl : b ≤ zs.length) (h : Scn w k (strOfNums zs) b) :
    Calls Tryz.prog 180 #[.pointer (some ⟨k, 0, none⟩)] w fun e w' => e = .returned (.int .i64 (unU zs b)) ∧ Scn w' k (strOfNums zs) (unE zs b) ∧ But (fun x => x = k) w w' ∧ w'.heap.size = w.heap.size := by
  have c1 := h.c1
  have f1 := h.fz 1
  have H1 := hid (stands_any 75 hb hl hbl h)
  have H2 := hid (stands_any 77 hb hl hbl h.drew.drew)
  have HE1 : Hid (Scn (w.setCell ⟨k, 1, none⟩ (.int .i64 ((b : Int) + 1))) k (strOfNums zs) (b + 1) ∧ But (fun x => x = k) w (w.setCell ⟨k, 1, none⟩ (.int .i64 ((b : Int) + 1))) ∧ (w.setCell ⟨k, 1, none⟩ (.int .i64 ((b : Int) + 1))).heap.size = w.heap.size) := by
    refine ⟨?_, set_but _ _ _ _ rfl, by simp [World.setCell]⟩
    have := h.set (b + 1)
    rwa [show ((b + 1 : Nat) : Int) = (b : Int) + 1 by omega] at this
  have HS := hid h
  have hlb : (b : Int) ≤ 16777216 := by omega
  clear hb h hbl
  generalize strOfNums zs = S at *
  by_cases q1 : zs[b]? = some 75
  · rw [decide_eq_true q1] at H1
    have e1 : unU zs b = 1024 := by unfold unU; rw [if_pos q1]
    have e2 : unE zs b = b + 1 := by unfold unE; rw [if_pos (.inl q1)]
    rw [e1, e2]
    clear e1 e2 q1
    go_enter Tryz.func180, Tryz.ntmps180
    go_wp2_with (go_at_call 185; refine Calls.mono H1.out ?_; rintro e w1 ⟨rfl, rfl⟩)
    go_ret
    exact ⟨rfl, HE1.out.1, HE1.out.2.1.drew.drew, HE1.out.2.2⟩
  · rw [decide_eq_false q1] at H1
    by_cases q2 : zs[b]? = some 77
    · rw [decide_eq_true q2] at H2
      have e1 : unU zs b = 1048576 := by unfold unU; rw [if_neg q1, if_pos q2]
      have e2 : unE zs b = b + 1 := by unfold unE; rw [if_pos (.inr q2)]
      rw [e1, e2]
      clear e1 e2 q1 q2
      go_enter Tryz.func180, Tryz.ntmps180
      go_wp2_with (go_at_call 185; first | (with_reducible refine Calls.mono H1.out ?_; rintro e w1 ⟨rfl, rfl⟩) | (with_reducible refine Calls.mono H2.out ?_; rintro e w1 ⟨rfl, rfl⟩))
      go_ret
      exact ⟨rfl, HE1.out.1, HE1.out.2.1.drew.drew.drew.drew, HE1.out.2.2⟩
    · rw [decide_eq_false q2] at H2
      have e1 : unU zs b = 1 := by unfold unU; rw [if_neg q1, if_neg q2]
      have e2 : unE zs b = b := by unfold unE; rw [if_neg (fun h => h.elim q1 q2)]
      rw [e1, e2]
      clear e1 e2 q1 q2
      go_enter Tryz.func180, Tryz.ntmps180
      go_wp2_with (go_at_call 185; first | (with_reducible refine Calls.mono H1.out ?_; rintro e w1 ⟨rfl, rfl⟩) | (with_reducible refine Calls.mono H2.out ?_; rintro e w1 ⟨rfl, rfl⟩))
      go_ret
      exact ⟨rfl, HS.out, (But.refl _ _).drew.drew.drew.drew, rfl⟩

end Go.Proofs.YtbllaacbeagljaaGreatDoor
