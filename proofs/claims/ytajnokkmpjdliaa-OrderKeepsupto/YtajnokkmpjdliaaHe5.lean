/-
  The heap's Push; heap.Push.
-/
import Derived.Test.YtajnokkmpjdliaaHe4
import Derived.Test.YtajnokkmpjdliaaLst0
import Derived.Lib.AppendZeros
namespace Go.Proofs.Ytajnokkmpjdliaa
open Go.RowKit

theorem step_append_run {ops : Array Oper} {o : Oper} {a : Act} {w : World} {K : Act → World → Prop} {Q : Exit → Act → World → Prop} {E : Prop} (hgd : o.guard = none) (s x : Operand) (t tn : TypeId)
    (ho : o.op = .call { callee := .builtin .append, args := #[s, x], argTypes := #[t, tn] }) (vs vx : Value) (hs : a.eval s = vs) (hx : a.eval x = vx)
    (v' : Value) (w' : World) (hr : (Builtin.append_ #[t, tn] o.type #[vs, vx]).run Try.prog w = .ok v' w') (h : K (a.put o.dst v') w') :
    if Region.wanted o (yielded ops a.tmps) = true then Oper.wp Try.prog o a w K Q else E := by
  have hw : Region.wanted o (yielded ops a.tmps) = true := by simp [Region.wanted, hgd]
  rw [if_pos hw]
  exact Lib.wp_append_run w s x t tn ho vs vx hs hx v' w' hr h

theorem own_frow {B : Nat} {w : World} {Lb : Nat} {v : Value} {l : List Int} (h : Hp B w Lb v l) : v.ownBlock ≠ some Lb := fun e => by
  obtain ⟨_, _, cur, hh⟩ := own_blk h.row e
  rw [h.box] at hh
  simp at hh
theorem ownBlock_slice (a : Option Addr) (n c : Nat) {g : Nat} (h : (Value.slice a n c).ownBlock = some g) : ∃ p, a = some p ∧ p.block = g := by
  cases a with
  | none => simp [Value.ownBlock] at h
  | some p => exact ⟨p, rfl, by simpa [Value.ownBlock] using h⟩

/-- an append to a row of one's own, in a box -/
theorem push_runs (T : TypeId) (hT : Try.prog.underlying T = some (.slice 3)) (B : Nat) (a : Option Addr) (M c : Nat) (l : List Int) (x : Int) (hM : l.length = M) (hl : M ≤ 1048576) (w : World) (hB : B ≤ w.heap.size) (h : w.ownsRow B 3 1 (.slice a M c) M (l.map (Value.int .i64))) :
    ∃ g c' w2, (Builtin.append_ #[T, T] T #[.slice a M c, .slice (some ⟨w.heap.size, 0, none⟩) 1 1]).run Try.prog (w.alloc (.cells #[.int .i64 x] 3)) = .ok (.slice (some ⟨g, 0, none⟩) (M + 1) c') w2 ∧
      w2.ownsRow B 3 1 (.slice (some ⟨g, 0, none⟩) (M + 1) c') (M + 1) ((l ++ [x]).map (Value.int .i64)) ∧ But (fun k => some k = (Value.slice a M c).ownBlock) w w2 ∧ ((Value.slice a M c).ownBlock = some g ∨ w.heap.size ≤ g) := by
  obtain ⟨i0, hi, hz0, hz1, hz2⟩ := info_parts info3
  have hA := below1 w (.cells #[.int .i64 x] 3)
  have h1 := own_next h hA
  obtain ⟨v', w2, hr, r1, r2, r3, r4⟩ := run_append_own_at (P := Try.prog) (w.alloc (.cells #[.int .i64 x] 3)) B T T 3 i0 _ 1 8 hT hi hz0 hz1 hz2 rfl (by decide) _ _ _ h1 ⟨w.heap.size, 0, none⟩ 1 1 [.int .i64 x] rfl (cell_one_new _ _ _) (by simp [Value.oneCell']) (by unfold maxLen; omega) (by omega) (by simp; omega)
  have e2 : l.map (Value.int .i64) ++ [Value.int .i64 x] = (l ++ [x]).map (Value.int .i64) := by simp
  rw [e2] at r1
  have hb : But (fun k => some k = (Value.slice a M c).ownBlock) w w2 := (But.of_below hA).trans ⟨r2.os, r2.tape, r2.output, r2.size, fun k hk hx => r2.block k hk hx⟩
  rcases own_form r1 with ⟨e, hn⟩ | ⟨g, c', rfl, hg⟩
  · omega
  · refine ⟨g, c', w2, hr, r1, hb, ?_⟩
    rcases r4 with r4 | r4
    · rw [hg] at r4; exact .inl r4.symm
    · rw [hg] at r4
      simp at r4
      right; omega

theorem ta3 (x : Int) (w : World) : Sem.run Try.prog (Instr.typeAssert (.iface 3 (.int .i64 x)) 20 3 false) w = .ok (.int .i64 x) w := by kernel_rfl
set_option maxRecDepth 100000 in
set_option maxHeartbeats 1000000 in
theorem Push61_any (B Lb : Nat) (a : Option Addr) (M c : Nat) (l : List Int) (x : Int) (hM : l.length = M) (hl : M ≤ 1048576) (w : World) (hB : B ≤ w.heap.size) (h : Hp B w Lb (.slice a M c) l) :
    Calls Try.prog 61 #[.pointer (some ⟨Lb, 0, none⟩), .iface 3 (.int .i64 x)] w fun e w' => e = .returned (.tuple #[]) ∧ ∃ g c', Hp B w' Lb (.slice (some ⟨g, 0, none⟩) (M + 1) c') (l ++ [x]) ∧ But (fun k => k = Lb ∨ some k = (Value.slice a M c).ownBlock) w w' ∧ ((Value.slice a M c).ownBlock = some g ∨ w.heap.size ≤ g) := by
  obtain ⟨PO, hPO⟩ : ∃ PO : Ending → World → Prop, PO = fun e w' => e = .returned (.tuple #[]) ∧ ∃ g c', Hp B w' Lb (.slice (some ⟨g, 0, none⟩) (M + 1) c') (l ++ [x]) ∧ But (fun k => k = Lb ∨ some k = (Value.slice a M c).ownBlock) w w' ∧ ((Value.slice a M c).ownBlock = some g ∨ w.heap.size ≤ g) := ⟨_, rfl⟩
  rw [← hPO]
  have hd0 : But (fun k => k = Lb ∨ some k = (Value.slice a M c).ownBlock) w w.drew := (But.refl _ _).drew
  obtain ⟨g, c', w2, hr, r1, r2, r3⟩ := push_runs 66 Try.underlying66 B a M c l x hM hl w.drew hB (by have := h.row; rwa [hM] at this)
  have hnb := own_frow h
  rw [← hM] at r2
  have hbx : w2.heap[Lb]? = some (.cells #[.slice a M c] 66 (0, 0)) := (r2.block Lb h.lt (fun e => hnb (by rw [hM] at e; exact e.symm))).trans h.box
  rw [hM] at r2
  have HR : Hid (w.drew.cell? ⟨Lb, 0, none⟩ = some (.slice a M c) ∧ (w.drew.alloc (.cells #[.int .i64 x] 3)).cell? ⟨Lb, 0, none⟩ = some (.slice a M c) ∧ (Builtin.append_ #[66, 66] 66 #[.slice a M c, .slice (some ⟨w.drew.heap.size, 0, none⟩) 1 1]).run Try.prog (w.drew.alloc (.cells #[.int .i64 x] 3)) = .ok (.slice (some ⟨g, 0, none⟩) (M + 1) c') w2 ∧
    w2.cell? ⟨Lb, 0, none⟩ = some (.slice a M c) ∧ w2.frozen? ⟨Lb, 0, none⟩ = false ∧ PO (.returned (.tuple #[])) (w2.setCell ⟨Lb, 0, none⟩ (.slice (some ⟨g, 0, none⟩) (M + 1) c'))) := by
    have hb3 : But (fun k => k = Lb) w2 (w2.setCell ⟨Lb, 0, none⟩ (.slice (some ⟨g, 0, none⟩) (M + 1) c')) := (But.refl (fun k => k = Lb) w2).setCell (p := ⟨Lb, 0, none⟩) rfl _
    refine ⟨h.cell, ((⟨h.box, h.row⟩ : Hp B w.drew Lb (.slice a M c) l).next (below1 _ _)).cell, hr, by simp [World.cell?, hbx], by simp [World.frozen?, hbx], ?_⟩
    rw [hPO]
    refine ⟨rfl, g, c', ⟨?_, ?_⟩, (hd0.trans (r2.mono fun _ _ e => .inr e)).trans (hb3.mono fun _ _ e => .inl e), r3⟩
    · simp only [World.setCell, Array.getElem?_modify]
      rw [hbx]
      simp
    · have hgl := (own_blk r1 (g := g) rfl)
      obtain ⟨_, hlt, cur, hh⟩ := hgl
      have hne : g ≠ Lb := fun e => by rw [e, hbx] at hh; simp at hh
      have := row_frame r1 (hb3.block g hlt hne)
      rw [List.length_append, List.length_singleton, hM]
      exact this
  clear h hr r1 r2 r3 hnb hbx hPO hM
  have hf9 := HR.out.2.2.2.2.1
  go_enter Try.func61, Try.ntmps61
  refine wp_region_last (S := (fun y => y.cell? ⟨Lb, 0, none⟩ = some (.slice a M c))) 9 9 (by kernel_rfl) (by kernel_rfl) (by kernel_rfl) HR.out.1 (fun hSS => ?_)
  refine wpAnyH_take (i := 0) (oi := ({ dst := some 4, op := Op.move (Operand.tmp 0), type := 65, pos := _, after := _, guard := none } : Oper)) (v := ?_) rfl (by kernel_rfl) (by kernel_rfl) (by kernel_rfl) (fun _ _ _ h => h) (Or.inl ⟨by rfl, ?_⟩) hSS ?_
  rotate_left
  · intro w9 hSw
    (try dsimp only at hSw)
    (try go_split_ands)
    first | (go_simp; done) | (go_simp; with_reducible rfl)
  try simp only [Act.put, List.setIfInBounds_toArray, List.set_cons_zero, List.set_cons_succ]
  refine wpAnyH_take (i := 1) (oi := ({ dst := some 5, op := Op.move (Operand.tmp 0), type := 65, pos := _, after := _, guard := none } : Oper)) (v := ?_) rfl (by kernel_rfl) (by kernel_rfl) (by kernel_rfl) (fun _ _ _ h => h) (Or.inl ⟨by rfl, ?_⟩) hSS ?_
  rotate_left
  · intro w9 hSw
    (try dsimp only at hSw)
    (try go_split_ands)
    first | (go_simp; done) | (go_simp; with_reducible rfl)
  try simp only [Act.put, List.setIfInBounds_toArray, List.set_cons_zero, List.set_cons_succ]
  refine wpAnyH_take (i := 2) (oi := ({ dst := some 6, op := Op.nilCheck (Operand.tmp 5), type := 0, pos := _, after := _, guard := none } : Oper)) (v := ?_) rfl (by kernel_rfl) (by kernel_rfl) (by kernel_rfl) (fun _ _ _ h => h) (Or.inl ⟨by rfl, ?_⟩) hSS ?_
  rotate_left
  · intro w9 hSw
    (try dsimp only at hSw)
    (try go_split_ands)
    first | (go_simp; done) | (go_simp; with_reducible rfl)
  try simp only [Act.put, List.setIfInBounds_toArray, List.set_cons_zero, List.set_cons_succ]
  refine wpAnyH_take (i := 3) (oi := ({ dst := some 7, op := Op.load 66 (Operand.tmp 6), type := 66, pos := _, after := _, guard := none } : Oper)) (v := ?_) rfl (by kernel_rfl) (by kernel_rfl) (by kernel_rfl) (fun _ _ _ h => h) (Or.inl ⟨by rfl, ?_⟩) hSS ?_
  rotate_left
  · intro w9 hSw
    (try dsimp only at hSw)
    (try go_split_ands)
    first | (go_simp; done) | (go_simp; with_reducible rfl)
  try simp only [Act.put, List.setIfInBounds_toArray, List.set_cons_zero, List.set_cons_succ]
  refine wpAnyH_take (i := 4) (oi := ({ dst := some 8, op := Op.move (Operand.tmp 1), type := 20, pos := _, after := _, guard := none } : Oper)) (v := ?_) rfl (by kernel_rfl) (by kernel_rfl) (by kernel_rfl) (fun _ _ _ h => h) (Or.inl ⟨by rfl, ?_⟩) hSS ?_
  rotate_left
  · intro w9 hSw
    (try dsimp only at hSw)
    (try go_split_ands)
    first | (go_simp; done) | (go_simp; with_reducible rfl)
  try simp only [Act.put, List.setIfInBounds_toArray, List.set_cons_zero, List.set_cons_succ]
  refine wpAnyH_take (i := 5) (oi := ({ dst := some 9, op := Op.typeAssert (Operand.tmp 8) 20 3 false, type := 3, pos := _, after := _, guard := none } : Oper)) (v := .int .i64 x) rfl (by kernel_rfl) (by kernel_rfl) (by kernel_rfl) (fun _ _ _ h => h) (Or.inl ⟨by rfl, ?_⟩) hSS ?_
  · intro w9 hSw
    (try dsimp only at hSw)
    (try go_split_ands)
    first | (go_simp; done) | (go_simp; simp [ta3]; done)
  try simp only [Act.put, List.setIfInBounds_toArray, List.set_cons_zero, List.set_cons_succ]
  refine wpAnyH_ready (rs := [6]) (by kernel_rfl) (by simp) (AllReadyH.cons (o := ({ dst := some 10, op := Op.buildSlice 66 1 #[(0, Operand.tmp 9)], type := 66, pos := _, after := _, guard := none } : Oper)) rfl (fun K9 hK9 => ?_) AllReadyH.nil)
  go_simp
  refine hK9.out _ _ HR.out.2.1 (fun hSS => ?_)
  clear hK9 K9
  try simp only [Act.put, List.setIfInBounds_toArray, List.set_cons_zero, List.set_cons_succ]
  refine wpAnyH_ready (rs := [7]) (by kernel_rfl) (by simp) (AllReadyH.cons (o := ({ dst := some 11, op := Op.call { callee := Callee.builtin Builtin.append, args := #[Operand.tmp 7, Operand.tmp 10], argTypes := #[66, 66] }, type := 66, pos := _, after := _, guard := none } : Oper)) rfl (fun K9 hK9 => ?_) AllReadyH.nil)
  refine step_append_run rfl _ _ _ _ (by rfl) _ _ (by rfl) (by rfl) _ _ (by exact HR.out.2.2.1) ?_
  refine hK9.out _ _ HR.out.2.2.2.1 (fun hSS => ?_)
  clear hK9 K9
  try simp only [Act.put, List.setIfInBounds_toArray, List.set_cons_zero, List.set_cons_succ]
  refine wpAnyH_take (i := 8) (oi := ({ dst := some 12, op := Op.nilCheck (Operand.tmp 4), type := 0, pos := _, after := _, guard := none } : Oper)) (v := ?_) rfl (by kernel_rfl) (by kernel_rfl) (by kernel_rfl) (fun _ _ _ h => h) (Or.inl ⟨by rfl, ?_⟩) hSS ?_
  rotate_left
  · intro w9 hSw
    (try dsimp only at hSw)
    (try go_split_ands)
    first | (go_simp; done) | (go_simp; with_reducible rfl)
  try simp only [Act.put, List.setIfInBounds_toArray, List.set_cons_zero, List.set_cons_succ]
  refine wpAnyH_done (by kernel_rfl) ?_ _
  refine last_step (L := 9) (o := ({ dst := none, op := Op.store 66 (Operand.tmp 12) (Operand.tmp 11), type := 0, pos := _, after := _, guard := none } : Oper)) rfl (fun K9 hK9 => ?_)
  go_simp
  refine hK9.out _ _ ?_
  clear hK9 K9
  try simp only [Act.put, List.setIfInBounds_toArray, List.set_cons_zero, List.set_cons_succ]
  go_end0
  exact HR.out.2.2.2.2.2

/-- what heap.Push leaves -/
def PuQ (B Lb : Nat) (v : Value) (l : List Int) (x : Int) (w : World) (e : Ending) (w' : World) : Prop := e = .returned (.tuple #[]) ∧ ∃ g c' m, Hp B w' Lb (.slice (some ⟨g, 0, none⟩) m.length c') m ∧ IsH m.length m ∧ m.Perm (x :: l) ∧ But (fun k => k = Lb ∨ some k = v.ownBlock) w w' ∧ (v.ownBlock = some g ∨ w.heap.size ≤ g)

set_option maxRecDepth 100000 in
set_option maxHeartbeats 1000000 in
theorem Push_any (B Lb : Nat) (a : Option Addr) (M c : Nat) (l : List Int) (x : Int) (hM : l.length = M) (hl : M + 1 ≤ 1048576) (w : World) (hB : B ≤ w.heap.size) (h : Hp B w Lb (.slice a M c) l) (hi : IsH M l) :
    Calls Try.prog 36 #[.iface 65 (.pointer (some ⟨Lb, 0, none⟩)), .iface 3 (.int .i64 x)] w (PuQ B Lb (.slice a M c) l x w) := by
  obtain ⟨PO, hPO⟩ : ∃ PO, PO = PuQ B Lb (.slice a M c) l x w := ⟨_, rfl⟩
  rw [← hPO]
  have e2 : wrap64 ((M : Int) + 1 - 1) = (M : Int) := by rw [w64 _ (by omega)]; omega
  have e3 : wrap64 ((M : Int)) = (M : Int) := w64 _ (by omega)
  have HS : Hid (Calls Try.prog 61 #[.pointer (some ⟨Lb, 0, none⟩), .iface 3 (.int .i64 x)] w fun e w1 => e = .returned (.tuple #[]) ∧ ∃ g c', w1.cell? ⟨Lb, 0, none⟩ = some (.slice (some ⟨g, 0, none⟩) (M + 1) c') ∧ (Calls Try.prog 41 #[.iface 65 (.pointer (some ⟨Lb, 0, none⟩)), .int .i64 (M : Int)] w1 fun e w2 => e = .returned (.tuple #[]) ∧ PO (.returned (.tuple #[])) w2)) := by
    refine (Push61_any B Lb a M c l x hM (by omega) w hB h).mono ?_
    rintro e w1 ⟨rfl, g, c', hp1, hb1, hg1⟩
    refine ⟨rfl, g, c', hp1.cell, ?_⟩
    obtain ⟨s, hs⟩ : ∃ s, s = l ++ [x] := ⟨_, rfl⟩
    rw [← hs] at hp1
    have hsl : s.length = M + 1 := by rw [hs]; simp [hM]
    rw [← hsl] at hp1
    have e9 : ∀ j, j < M → gt s j = gt l j := fun j hj => by
      rw [hs]
      unfold gt
      rw [List.getD_eq_getElem?_getD, List.getD_eq_getElem?_getD, List.getElem?_append_left (by omega)]
    refine (up_any B g c' M Lb s (by omega) (by omega) w1 hp1 (by rw [hsl]; exact UpH.start hi e9)).mono ?_
    rintro e w2 ⟨rfl, m, hm, hp2, hh2, hpm2, hb2⟩
    refine ⟨rfl, ?_⟩
    rw [hPO]
    refine ⟨rfl, g, c', m, ?_, ?_, ?_, ?_, hg1⟩
    · rw [hm]; exact hp2
    · rw [hm]; exact hh2
    · refine hpm2.trans ?_
      rw [hs]
      exact (List.perm_append_comm (l₁ := l) (l₂ := [x]))
    · refine ⟨hb2.os.trans hb1.os, hb2.tape.trans hb1.tape, hb2.output.trans hb1.output, Nat.le_trans hb1.size hb2.size, fun k hk hx => ?_⟩
      refine (hb2.block k (Nat.lt_of_lt_of_le hk hb1.size) (fun e => ?_)).trans (hb1.block k hk hx)
      rcases hg1 with hg1 | hg1
      · exact hx (.inr (by rw [e]; exact hg1.symm))
      · omega
  clear h hi hPO
  go_enter Try.func36, Try.ntmps36
  go_wp2_with fail
  rw [m61 _ IsM61]
  go_wp2_with fail
  go_at_call 61
  refine Calls.mono HS.out ?_
  rintro e w1 ⟨rfl, g, c', h1, h2⟩
  have H1 := hid h1
  have H2 := hid h2
  clear h1 h2 HS
  go_wp2_with fail
  rw [m33 _ IsM33, load66 _ _ _ _ H1.out]
  go_wp2_with fail
  go_at_call 33
  refine Calls.mono (Len_any _ _ _ _) ?_
  rintro e w0 ⟨rfl, hw0⟩
  subst hw0
  go_wp2_with fail
  go_at_call 41
  refine Calls.mono H2.out ?_
  rintro e w3 ⟨rfl, h3⟩
  have H3 := hid h3
  clear h3 H2
  go_wp2_with fail
  go_end0
  exact H3.out
end Go.Proofs.Ytajnokkmpjdliaa
