import Derived.Test.YtldlejpacgphmabGreatG25
import Derived.Test.YtldlejpacgphmabGreatG22
import Derived.Test.YtldlejpacgphmabGreatG00
import Derived.Test.YtldlejpacgphmabGreatG07
namespace Go.Proofs.YtldlejpacgphmabGreat
open Go.RowKit
theorem step_append_run {ops : Array Oper} {o : Oper} {a : Act} {w : World} {K : Act → World → Prop} {Q : Exit → Act → World → Prop} {E : Prop} (hgd : o.guard = none) (s x : Operand) (t tn : TypeId)
  (ho : o.op = .call { callee := .builtin .append, args := #[s, x], argTypes := #[t, tn] }) (vs vx : Value) (hs : a.eval s = vs) (hx : a.eval x = vx)
  (v' : Value) (w' : World) (hr : (Builtin.append_ #[t, tn] o.type #[vs, vx]).run Tryz.prog w = .ok v' w') (h : K (a.put o.dst v') w') :
  if Region.wanted o (yielded ops a.tmps) = true then Oper.wp Tryz.prog o a w K Q else E := by
 have hw : Region.wanted o (yielded ops a.tmps) = true := by simp [Region.wanted, hgd]
 rw [if_pos hw]
 exact Lib.wp_append_run w s x t tn ho vs vx hs hx v' w' hr h
structure Wb (w : World) (wb p c : Nat) (jv : Value) (g : Nat) (room lasted : Int) (off trying : Bool) (tried tl td : Value) : Prop where
 blk : w.heap[wb]? = some (.cells #[.pointer (some ⟨p, 0, none⟩), .pointer (some ⟨c, 0, none⟩), jv, .pointer (some ⟨g, 0, none⟩), .int .i64 room, .int .i64 lasted, .bool off, .bool trying, tried, tl, td] 50 (0, 0))
theorem Wb.lt {w : World} {wb p c : Nat} {jv : Value} {g : Nat} {room lasted : Int} {off trying : Bool} {tried tl td : Value} (h : Wb w wb p c jv g room lasted off trying tried tl td) : wb < w.heap.size := (Array.getElem?_eq_some_iff.1 h.blk).1
theorem Wb.cell {w : World} {wb p c : Nat} {jv : Value} {g : Nat} {room lasted : Int} {off trying : Bool} {tried tl td : Value} (h : Wb w wb p c jv g room lasted off trying tried tl td) (t : Nat) : w.cell? ⟨wb, t, none⟩ = #[.pointer (some ⟨p, 0, none⟩), .pointer (some ⟨c, 0, none⟩), jv, .pointer (some ⟨g, 0, none⟩), .int .i64 room, .int .i64 lasted, .bool off, .bool trying, tried, tl, td][t]? := by simp [World.cell?, h.blk]
theorem Wb.frozen {w : World} {wb p c : Nat} {jv : Value} {g : Nat} {room lasted : Int} {off trying : Bool} {tried tl td : Value} (h : Wb w wb p c jv g room lasted off trying tried tl td) (t : Nat) : w.frozen? ⟨wb, t, none⟩ = false := by simp [World.frozen?, h.blk]
theorem Wb.keep {w w' : World} {wb p c : Nat} {jv : Value} {g : Nat} {room lasted : Int} {off trying : Bool} {tried tl td : Value} (h : Wb w wb p c jv g room lasted off trying tried tl td) (hk : w'.heap[wb]? = w.heap[wb]?) : Wb w' wb p c jv g room lasted off trying tried tl td := ⟨hk.trans h.blk⟩
theorem owns_take {w : World} {B e n c k : Nat} {a : Option Addr} {xs : List Value} (h : w.ownsRow B e 1 (.slice a n c) n xs) (hk : k ≤ n) : w.ownsRow B e 1 (.slice a k c) k (xs.take k) := by
 obtain ⟨h1, h2⟩ := h
 refine ⟨by rw [List.length_take, h1]; omega, ?_⟩
 rcases h2 with ⟨e1, rfl⟩ | ⟨g, cap, cur, e1, hb, hg, hc1, hc2, hc3, hc4⟩
 ·have : k = 0 := by omega
  subst this
  exact .inl ⟨e1, rfl⟩
 ·simp only [Value.slice.injEq] at e1
  obtain ⟨rfl, _, rfl⟩ := e1
  refine .inr ⟨g, c, cur, rfl, hb, hg, by omega, hc2, hc3, ?_⟩
  rw [← hc4, List.take_take, Nat.min_eq_left (by omega), Nat.mul_one]
theorem copy_row {w : World} {ta : Option Addr} {n tc : Nat} {vs : List Value} (h : w.ownsRow 0 35 1 (.slice ta n tc) n vs) (h1 : ∀ u ∈ vs, u.oneCell' = true) (hn : n ≤ 1099511627776) : ∃ ta' tc' w', (Builtin.append_ #[99, 99] 99 #[.slice none 0 0, .slice ta n tc]).run Tryz.prog w = .ok (.slice ta' n tc') w' ∧ w'.ownsRow w.heap.size 35 1 (.slice ta' n tc') n vs ∧ w.grownBy w' none := by
 obtain ⟨i30, hi30, hz30, hs30, hb30⟩ := info_parts info30
 cases ta with
 | none =>
  obtain ⟨q1, q2⟩ := h
  rcases q2 with ⟨e1, rfl⟩ | ⟨g, cap, cur, e1, _⟩
  ·simp only [Value.slice.injEq] at e1
   obtain ⟨_, _, rfl⟩ := e1
   have : vs = [] := List.eq_nil_of_length_eq_zero (by simpa using q1)
   subst this
   exact ⟨none, 0, w, run_append_owned_none (P := Tryz.prog) (w := w) w.heap.size 99 99 35 i30 1 Tryz.underlying99 hi30 (.slice none 0 0) 0 [] (World.ownsRow_nil _ _ _ _), World.ownsRow_nil _ _ _ _, ⟨rfl, rfl, rfl, Nat.le_refl _, fun _ _ _ => rfl⟩⟩
  ·simp at e1
 | some ad =>
  have hl := h.1
  obtain ⟨v', w', hr, h2, h3, _, _⟩ := run_append_own_at (P := Tryz.prog) w w.heap.size 99 99 35 i30 (.slice none 0 0) 1 24 Tryz.underlying99 hi30 hz30 hs30 hb30 rfl (by decide) (.slice none 0 0) 0 [] (World.ownsRow_nil _ _ _ _) ad n tc vs (by simpa using hl) (fun j u hu => by
   rcases h.2 with ⟨e1, _⟩ | ⟨g, cap, cur, e1, _⟩
   ·simp at e1
   ·simp only [Value.slice.injEq, Option.some.injEq] at e1
    obtain ⟨rfl, _, _⟩ := e1
    exact World.ownsRow.cells h (g := g) rfl j u hu) h1 (by unfold maxLen; omega) (by omega) (Nat.le_refl _)
  obtain ⟨a', c', rfl, _⟩ := owns_slice h2
  simp only [Nat.zero_add, List.nil_append] at hr h2
  exact ⟨a', c', w', hr, h2, h3⟩
theorem LgW.one {X : Nat → Prop} {w : World} {g hb hc nb fr bl : Nat} {H : List Int} {ta : Option Addr} {tc : Nat} {vs : List Value} {Us : List (List Pm)} (h : LgW X w g hb hc nb fr bl H ta tc vs Us) : ∀ u ∈ vs, u.oneCell' = true := fun u hu => by
 obtain ⟨i, hi⟩ := List.mem_iff_getElem?.1 hu
 have hl : vs.length = Us.length := by have := h.row.1; simpa using this
 have hil := (List.getElem?_eq_some_iff.1 hi).1
 obtain ⟨a, cp, q, _⟩ := h.txn i _ (List.getElem?_eq_getElem (by omega))
 rw [hi] at q
 cases q
 rfl
set_option maxRecDepth 100000 in
set_option maxHeartbeats 4000000 in
theorem log_any {X : Nat → Prop} {w : World} {wb p c : Nat} {jv : Value} {g : Nat} {room lasted : Int} {off : Bool} {tried tl td : Value} {hb hc nb fr bl : Nat} {H : List Int} {ta : Option Addr} {tc : Nat} {vs : List Value} {Us : List (List Pm)} (hW : Wb w wb p c jv g room lasted off false tried tl td) (hL : LgW X w g hb hc nb fr bl H ta tc vs Us) (k : Nat) (hk : k ≤ Us.length) (hUs : Us.length ≤ 1099511627776) :
  Calls Tryz.prog 149 #[.pointer (some ⟨wb, 0, none⟩), .int .i64 (k : Int)] w fun e w' => ∃ g' ta' tc' vs', e = .returned (.pointer (some ⟨g', 0, none⟩)) ∧ (w.heap.size ≤ g' ∧ ∀ i, (Value.slice ta' (Us.take k).length tc').ownBlock = some i → w.heap.size ≤ i) ∧ LgW (fun k => X k ∧ k < w.heap.size) w' g' hb hc nb fr bl H ta' tc' vs' (Us.take k) ∧ Below w.heap.size w w' := by
 obtain ⟨PO, hPO⟩ : ∃ PO : Ending → World → Prop, PO = fun e w' => ∃ g' ta' tc' vs', e = .returned (.pointer (some ⟨g', 0, none⟩)) ∧ (w.heap.size ≤ g' ∧ ∀ i, (Value.slice ta' (Us.take k).length tc').ownBlock = some i → w.heap.size ≤ i) ∧ LgW (fun k => X k ∧ k < w.heap.size) w' g' hb hc nb fr bl H ta' tc' vs' (Us.take k) ∧ Below w.heap.size w w' := ⟨_, rfl⟩
 rw [← hPO]
 have k3 : w.cell? ⟨wb, 3, none⟩ = some (.pointer (some ⟨g, 0, none⟩)) := hW.cell 3
 have k7 : w.cell? ⟨wb, 7, none⟩ = some (.bool false) := hW.cell 7
 have c0 := hL.lg.c0
 have c1 := hL.lg.c1
 have c2 := hL.lg.c2
 have c3 := hL.lg.c3
 have hgl := hL.gl
 have hwl := hW.lt
 obtain ⟨L, hLe⟩ : ∃ L, L = 512 * nb := ⟨_, rfl⟩
 obtain ⟨N, hN⟩ : ∃ N, N = Us.length := ⟨_, rfl⟩
 obtain ⟨w1, hw1⟩ : ∃ w1, w1 = (w.alloc (.cells #[.slice (some ⟨hb, 0, none⟩) L hc, .int .i64 (fr : Int), .int .i64 (bl : Int), .slice none 0 0] 101)).drew := ⟨_, rfl⟩
 have b1 : Below w.heap.size w w1 := by rw [hw1]; exact ((Below.refl _ _).alloc (Nat.le_refl _) _).drew
 have z1 : w1.heap.size = w.heap.size + 1 := by rw [hw1]; simp
 have l1 : Lg w1 w.heap.size (some ⟨hb, 0, none⟩) nb hc fr bl none 0 0 := ⟨by rw [hw1, hLe]; exact Array.getElem?_push_size⟩
 have m3 := (b1.cell (p := ⟨wb, 3, none⟩) hwl).trans k3
 have m7 := (b1.cell (p := ⟨wb, 7, none⟩) hwl).trans k7
 have d3 := (b1.cell (p := ⟨g, 3, none⟩) hgl).trans c3
 have n3 := l1.c3
 have nf := l1.frozen 3
 obtain ⟨ta', tc', w2, hrun, hrow2, gr2⟩ := copy_row (w := w1.drew) (ta := ta) (n := Us.length) (tc := tc) (vs := vs) (owns_below hL.row ((b1.drew))) hL.one hUs
 have zd : w1.drew.heap.size = w1.heap.size := rfl
 rw [zd, z1] at hrow2
 have b2 : ∀ i, i < w1.heap.size → w2.heap[i]? = w1.heap[i]? := fun i hi => (gr2.block i hi (by simp)).trans rfl
 have z2 : w1.heap.size ≤ w2.heap.size := gr2.size
 have l2 : Lg w2 w.heap.size (some ⟨hb, 0, none⟩) nb hc fr bl none 0 0 := l1.keep (b2 _ (by omega))
 have f3 := (World.cell?_of_block (a := ⟨wb, 3, none⟩) (b2 wb (by omega))).trans m3
 have f7 := (World.cell?_of_block (a := ⟨wb, 7, none⟩) (b2 wb (by omega))).trans m7
 have h3 := (World.cell?_of_block (a := ⟨g, 3, none⟩) (b2 g (by omega))).trans d3
 have g3 := l2.c3
 have gf := l2.frozen 3
 obtain ⟨w3, hw3⟩ : ∃ w3, w3 = w2.setCell ⟨w.heap.size, 3, none⟩ (.slice ta' Us.length tc') := ⟨_, rfl⟩
 have b3 : ∀ i, i ≠ w.heap.size → w3.heap[i]? = w2.heap[i]? := fun i hi => by rw [hw3]; exact Below.heap_setCell _ _ _ _ hi
 have z3 : w3.heap.size = w2.heap.size := by rw [hw3]; simp
 have l3 : Lg w3 w.heap.size (some ⟨hb, 0, none⟩) nb hc fr bl ta' Us.length tc' := by rw [hw3]; exact l2.set _ _ _
 have f4 := (World.cell?_of_block (a := ⟨wb, 3, none⟩) (b3 wb (by omega))).trans f3
 have f47 := (World.cell?_of_block (a := ⟨wb, 7, none⟩) (b3 wb (by omega))).trans f7
 have h4 := (World.cell?_of_block (a := ⟨g, 3, none⟩) (b3 g (by omega))).trans h3
 have g4 := l3.c3
 have gf4 := l3.frozen 3
 have FIN : Hid (PO (.returned (.pointer (some ⟨w.heap.size, 0, none⟩))) (w3.setCell ⟨w.heap.size, 3, none⟩ (.slice ta' k tc'))) := by
  rw [hPO]
  have hkl : (Us.take k).length = k := by rw [List.length_take]; omega
  have bb : Below w.heap.size w w3 := by
   have q1 : Below w.heap.size w w2 := b1.trans (((Below.refl w1.heap.size w1).drew.grown gr2 (Nat.le_refl _) (fun k e => by cases e)).mono (by omega))
   rw [hw3]
   exact q1.setCell (Nat.le_refl _) _
  have b4 : Below w.heap.size w (w3.setCell ⟨w.heap.size, 3, none⟩ (.slice ta' k tc')) := bb.setCell (Nat.le_refl _) _
  have hblk : ∀ j, (Value.slice ta' (Us.take k).length tc').ownBlock = some j → w1.heap.size ≤ j := fun j e => by
   have e2 : (Value.slice ta' Us.length tc').ownBlock = some j := by
    cases ta' with
    | none => cases e
    | some a => exact e
   have := (World.ownsRow.lt hrow2 j e2).1
   omega
  refine ⟨w.heap.size, ta', tc', vs.take k, rfl, ⟨Nat.le_refl _, fun i e => by have := hblk i e; omega⟩, ?_⟩
  refine ⟨⟨?_, by simp; omega, fun q => by omega, hL.own.keep (b4.block hb hL.own.lt), hL.isb, ⟨fun q => hL.nh.1 q.1, by have := hL.own.lt; omega, fun q => by have := hblk hb q; have := hL.own.lt; omega⟩, ?_, fun j e => ⟨fun q => ?_, ?_⟩, fun i ps hi => ?_⟩, b4⟩
  ·rw [hkl]
   exact l3.set _ _ _
  ·rw [hkl]
   refine owns_setCell ?_ (fun e => ?_) _
   ·have r2 := owns_take hrow2 hk
    refine ⟨r2.1, ?_⟩
    rcases r2.2 with q | ⟨g9, cap9, cur9, e1, e2, e3, e4⟩
    ·exact .inl q
    ·exact .inr ⟨g9, cap9, cur9, e1, Nat.zero_le _, (b3 g9 (by omega)).trans e3, e4⟩
   ·have := hblk w.heap.size (by rw [hkl]; exact e)
    omega
  ·have := hblk j e
   omega
  ·have := hblk j e
   omega
  ·have hik : i < k := by have := (List.getElem?_eq_some_iff.1 hi).1; omega
   rw [List.getElem?_take_of_lt hik] at hi
   obtain ⟨a, cp, r1, r2, r3⟩ := hL.txn i ps hi
   refine ⟨a, cp, by rw [List.getElem?_take_of_lt hik]; exact r1, r2.but (But.of_below b4 (X := fun _ => False)) (fun _ _ q => q.elim) _ (fun j hj q => ?_), r3⟩
   rcases q with q | q | q
   ·exact .inl q.1
   ·omega
   ·have := hblk j q
    omega
 have hNc : Us.length ≤ tc' ∨ ta' = none := by
  rcases hrow2.2 with ⟨e, _⟩ | ⟨g9, cap9, cur9, e1, _, _, e4, _⟩
  ·simp only [Value.slice.injEq] at e
   exact .inr e.1
  ·simp only [Value.slice.injEq] at e1
   omega
 have hNn : ta' = none → Us.length = 0 ∧ tc' = 0 := fun q => by
  rcases hrow2.2 with ⟨e, e0⟩ | ⟨g9, cap9, cur9, e1, _⟩
  ·simp only [Value.slice.injEq] at e
   exact ⟨e0, e.2.2⟩
  ·simp only [Value.slice.injEq, q] at e1
   exact absurd e1.1 (by simp)
 have hNa : ∀ a, ta' = some a → ∃ tb, a = ⟨tb, 0, none⟩ := fun a q => by
  rcases hrow2.2 with ⟨e, e0⟩ | ⟨g9, cap9, cur9, e1, _⟩
  ·simp only [Value.slice.injEq, q] at e
   exact absurd e.1 (by simp)
  ·simp only [Value.slice.injEq, q] at e1
   exact ⟨g9, by injection e1.1⟩
 clear hrow2 gr2 b2 b3 l1 l2 l3 hL hW b1 hPO
 rw [← hLe] at c0
 rw [← hN] at c3 d3 h3 h4 g4 hrun hk hUs hw3 hNc hNn
 clear hLe hN
 have HW1 := hid hw1
 have HW3 := hid hw3
 clear hw1 hw3
 go_enter Tryz.func149, Tryz.ntmps149
 go_wp2_with fail
 refine wp_region_held_drew (S := fun w' => w'.cell? ⟨wb, 3, none⟩ = some (.pointer (some ⟨g, 0, none⟩)) ∧ w'.cell? ⟨g, 0, none⟩ = some (.slice (some ⟨hb, 0, none⟩) L hc) ∧ w'.cell? ⟨g, 1, none⟩ = some (.int .i64 (fr : Int)) ∧ w'.cell? ⟨g, 2, none⟩ = some (.int .i64 (bl : Int))) (by kernel_rfl) ⟨k3, c0, c1, c2⟩ (fun hSS => ?_)
 refine tk 0 (some 6) (.move (.tmp 0)) 28 none hSS ?_
 refine tk 1 (some 7) (.nilCheck (.tmp 6)) 0 none hSS ?_
 refine tk 2 (some 8) (.fieldAddr 50 (.tmp 7) 3) 0 none hSS ?_
 refine tk 3 (some 9) (.load 45 (.tmp 8)) 45 none hSS ?_
 try simp only [Act.put, zA, zB, zC]
 refine tk 4 (some 10) (.nilCheck (.tmp 9)) 0 none hSS ?_
 refine tk 5 (some 11) (.fieldAddr 101 (.tmp 10) 0) 0 none hSS ?_
 refine tk 6 (some 12) (.load 22 (.tmp 11)) 22 none hSS ?_
 refine tk 7 (some 13) (.move (.tmp 0)) 28 none hSS ?_
 try simp only [Act.put, zA, zB, zC]
 refine tk 8 (some 14) (.nilCheck (.tmp 13)) 0 none hSS ?_
 refine tk 9 (some 15) (.fieldAddr 50 (.tmp 14) 3) 0 none hSS ?_
 refine tk 10 (some 16) (.load 45 (.tmp 15)) 45 none hSS ?_
 refine tk 11 (some 17) (.nilCheck (.tmp 16)) 0 none hSS ?_
 try simp only [Act.put, zA, zB, zC]
 refine tk 12 (some 18) (.fieldAddr 101 (.tmp 17) 1) 0 none hSS ?_
 refine tk 13 (some 19) (.load 3 (.tmp 18)) 3 none hSS ?_
 refine tk 14 (some 20) (.move (.tmp 0)) 28 none hSS ?_
 refine tk 15 (some 21) (.nilCheck (.tmp 20)) 0 none hSS ?_
 try simp only [Act.put, zA, zB, zC]
 refine tk 16 (some 22) (.fieldAddr 50 (.tmp 21) 3) 0 none hSS ?_
 refine tk 17 (some 23) (.load 45 (.tmp 22)) 45 none hSS ?_
 refine tk 18 (some 24) (.nilCheck (.tmp 23)) 0 none hSS ?_
 refine tk 19 (some 25) (.fieldAddr 101 (.tmp 24) 2) 0 none hSS ?_
 try simp only [Act.put, zA, zB, zC]
 refine tk 20 (some 26) (.load 3 (.tmp 25)) 3 none hSS ?_
 refine tk 21 (some 27) (.build 101 #[(0, .tmp 12), (1, .tmp 19), (2, .tmp 26)]) 101 none hSS ?_
 try simp only [Act.put, zA, zB, zC]
 refine wpAnyH_ready (rs := [22]) (by kernel_rfl) (by simp) (AllReadyH.cons (o := ({ dst := some 28, op := Op.box 101 (Operand.tmp 27), type := 45, pos := _, after := _, guard := none } : Oper)) rfl (fun K9 hK9 => ?_) AllReadyH.nil)
 go_simp
 refine hK9.out _ _ ⟨(World.cell?_alloc_past _ _ _ hwl).trans k3, (World.cell?_alloc_past _ _ _ hgl).trans c0, (World.cell?_alloc_past _ _ _ hgl).trans c1, (World.cell?_alloc_past _ _ _ hgl).trans c2⟩ (fun hSS => ?_)
 clear hK9 K9
 try simp only [Act.put, zA, zB, zC]
 refine tk 23 (some 5) (.assign (.tmp 28)) 45 none hSS ?_
 try simp only [Act.put, zA, zB, zC]
 refine wpAnyH_done (by kernel_rfl) ?_ _
 rw [← HW1.out]
 clear c0 c1 c2 c3 k3 k7
 go_wp2_with fail
 refine wp_region_noPanic ?_
 refine wp_region_held_drew (S := fun w' => w'.cell? ⟨wb, 3, none⟩ = some (.pointer (some ⟨g, 0, none⟩)) ∧ w'.cell? ⟨g, 3, none⟩ = some (.slice ta N tc)) (by kernel_rfl) ⟨m3, d3⟩ (fun hSS => ?_)
 refine tk 0 (some 29) (.move (.tmp 5)) 45 none hSS ?_
 refine tk 1 (some 30) (.move (.tmp 5)) 45 none hSS ?_
 refine tk 2 (some 31) (.nilCheck (.tmp 30)) 0 none hSS ?_
 try simp only [Act.put, zA, zB, zC]
 refine tk 3 (some 32) (.fieldAddr 101 (.tmp 31) 3) 0 none hSS ?_
 refine tk 5 (some 34) (.move (.tmp 0)) 28 none hSS ?_
 refine tk 6 (some 35) (.nilCheck (.tmp 34)) 0 none hSS ?_
 refine tk 7 (some 36) (.fieldAddr 50 (.tmp 35) 3) 0 none hSS ?_
 try simp only [Act.put, zA, zB, zC]
 refine tk 8 (some 37) (.load 45 (.tmp 36)) 45 none hSS ?_
 refine tk 9 (some 38) (.nilCheck (.tmp 37)) 0 none hSS ?_
 refine tk 10 (some 39) (.fieldAddr 101 (.tmp 38) 3) 0 none hSS ?_
 refine tk 11 (some 40) (.load 99 (.tmp 39)) 99 none hSS ?_
 try simp only [Act.put, zA, zB, zC]
 refine wpAnyH_ready (rs := [4]) (by kernel_rfl) (by simp) (AllReadyH.cons (o := ({ dst := some 33, op := Op.load 99 (Operand.tmp 32), type := 99, pos := _, after := _, guard := none } : Oper)) rfl (fun K9 hK9 => ?_) AllReadyH.nil)
 go_simp
 refine hK9.out _ _ hSS (fun hSS => ?_)
 clear hK9 K9
 try simp only [Act.put, zA, zB, zC]
 refine wpAnyH_ready (rs := [12]) (by kernel_rfl) (by simp) (AllReadyH.cons (o := ({ dst := some 41, op := Op.call { callee := Callee.builtin Builtin.append, args := #[Operand.tmp 33, Operand.tmp 40], argTypes := #[99, 99] }, type := 99, pos := _, after := _, guard := none } : Oper)) rfl (fun K9 hK9 => ?_) AllReadyH.nil)
 refine step_append_run rfl _ _ _ _ (by rfl) _ _ (by rfl) (by rfl) _ _ (by exact hrun) ?_
 refine hK9.out _ _ ⟨f3, h3⟩ (fun hSS => ?_)
 clear hK9 K9
 try simp only [Act.put, zA, zB, zC]
 refine tk 13 (some 42) (.nilCheck (.tmp 29)) 0 none hSS ?_
 try simp only [Act.put, zA, zB, zC]
 refine tk 14 (some 43) (.fieldAddr 101 (.tmp 42) 3) 0 none hSS ?_
 try simp only [Act.put, zA, zB, zC]
 refine wpAnyH_ready (rs := [15]) (by kernel_rfl) (by simp) (AllReadyH.cons (o := ({ dst := none, op := Op.store 99 (Operand.tmp 43) (Operand.tmp 41), type := 0, pos := _, after := _, guard := none } : Oper)) rfl (fun K9 hK9 => ?_) AllReadyH.nil)
 go_simp
 refine hK9.out _ _ ⟨by rw [← HW3.out]; exact f4, by rw [← HW3.out]; exact h4⟩ (fun hSS => ?_)
 clear hK9 K9
 try simp only [Act.put, zA, zB, zC]
 rw [← HW3.out]
 refine wpAnyH_done (by kernel_rfl) (NoPanic.normal ?_) _
 clear m3 m7 d3 n3 nf f3 f7 h3 g3 gf hrun HW1 HW3
 cases ta' with
 | none =>
  obtain ⟨q1, q2⟩ := hNn rfl
  subst q1 q2
  have hk0 : k = 0 := by omega
  subst hk0
  clear hNn hNa hNc
  go_wp2
  exact FIN.out
 | some a =>
  obtain ⟨tb, rfl⟩ := hNa a rfl
  have hNt : N ≤ tc' := by
   rcases hNc with q | q
   ·exact q
   ·cases q
  have i1 : (k : Int) ≤ (N : Int) := by omega
  have i2 : ¬ (N : Int) < (k : Int) := by omega
  have i3 : (k : Int) ≤ (tc' : Int) := by omega
  clear hNn hNa hNc
  go_wp2
  exact FIN.out
open Go.RowKit
theorem plainT_take (Us : List (List Pm)) (n : Nat) : plainT (Us.take n) = (plainT Us).take n := by
 unfold plainT
 rw [List.map_take]
set_option maxRecDepth 100000 in
set_option maxHeartbeats 4000000 in
theorem opened_any {Z X : Nat → Prop} {w : World} {wb p0 c0 : Nat} {jv : Value} {g : Nat} {rm lasted : Int} {off : Bool} {tried tl td : Value} {hb hc nb fr bl : Nat} {H : List Int} {ta : Option Addr} {tc : Nat} {vs : List Value} {Us : List (List Pm)} (hW : Wb w wb p0 c0 jv g rm lasted off false tried tl td) (hL : LgW X w g hb hc nb fr bl H ta tc vs Us)
  {j c p room K : Nat} {d : Pd} {s : Js} (hJ : Jq Z w j c p room nb K fr bl d s) {n lo : Nat} (hOn : On d s nb fr bl lo (imgB H) (plainT (Us.take n))) (hn : n ≤ Us.length) (hla : lasted ≤ (n : Int)) (hX : ∀ k, k < w.heap.size → Z k → X k) (hlo : 16 ≤ bl) (hfit : fr + bl ≤ nb) (hUs : Us.length ≤ 1099511627776) (hK : K + nb < 4611686018427387904) :
  Calls Tryz.prog 96 #[.pointer (some ⟨wb, 0, none⟩), .pointer (some ⟨j, 0, none⟩)] w fun e w' => ∃ g' ta' tc' vs' Z', e = .returned (.tuple #[.pointer (some ⟨g', 0, none⟩), .bool true]) ∧ (w.heap.size ≤ g' ∧ ∀ i, (Value.slice ta' (Us.take n).length tc').ownBlock = some i → w.heap.size ≤ i) ∧ LgW (fun k => (X k ∧ k < w.heap.size) ∨ Z' k) w' g' hb hc nb fr bl H ta' tc' vs' (Us.take n) ∧ Jq Z' w' j c p room nb (K + nb) fr bl d s ∧ (∀ k, Z' k → k < w'.heap.size) ∧ Gr Z Z' w ∧ But Z w w' := by
 have hsq : s.seq = n := by
  have := hOn.sq
  rw [this]
  simp [plainT]
  omega
 have HS := hid (Seq_any hJ)
 rw [hOn.on, hsq] at HS
 simp only [Bool.false_eq_true, ↓reduceIte] at HS
 have hwl := hW.lt
 have k5 : w.cell? ⟨wb, 5, none⟩ = some (.int .i64 lasted) := hW.cell 5
 have HLog : Hid (∀ w', Below w.heap.size w w' → Calls Tryz.prog 149 #[.pointer (some ⟨wb, 0, none⟩), .int .i64 (n : Int)] w' fun e w'' => ∃ g' ta' tc' vs', e = .returned (.pointer (some ⟨g', 0, none⟩)) ∧ (w.heap.size ≤ g' ∧ ∀ i, (Value.slice ta' (Us.take n).length tc').ownBlock = some i → w.heap.size ≤ i) ∧ LgW (fun k => X k ∧ k < w.heap.size) w'' g' hb hc nb fr bl H ta' tc' vs' (Us.take n) ∧ Below w.heap.size w w'') := fun w' hb' => by
  refine Calls.mono (log_any (X := fun k => X k ∧ k < w.heap.size) (hW.keep (hb'.block wb hwl)) (hL.below hb' _ (fun k _ q => q.1)) n hn hUs) ?_
  rintro e w'' ⟨g', ta', tc', vs', rfl, h1, h2, h3⟩
  exact ⟨g', ta', tc', vs', rfl, ⟨Nat.le_trans hb'.size h1.1, fun i e => Nat.le_trans hb'.size (h1.2 i e)⟩, h2.below (Below.refl _ _) _ (fun k _ q => ⟨q, Nat.lt_of_lt_of_le q.2 hb'.size⟩), hb'.trans (h3.mono hb'.size)⟩
 have HHd : Hid (∀ (w' : World) (g' : Nat) (ta' : Option Addr) (tc' : Nat) (vs' : List Value), LgW (fun k => X k ∧ k < w.heap.size) w' g' hb hc nb fr bl H ta' tc' vs' (Us.take n) → Below w.heap.size w w' → Calls Tryz.prog 22 #[.pointer (some ⟨j, 0, none⟩), .pointer (some ⟨g', 0, none⟩)] w' fun e w'' => e = .returned (.bool true) ∧ ∃ Z', LgW (fun k => (X k ∧ k < w.heap.size) ∨ Z' k) w'' g' hb hc nb fr bl H ta' tc' vs' (Us.take n) ∧ Jq Z' w'' j c p room nb (K + nb) fr bl d s ∧ (∀ k, Z' k → k < w''.heap.size) ∧ Gr Z Z' w ∧ But Z w w'') := fun w' g' ta' tc' vs' hL' hb' => by
  have hJc := (hJ.cut).below hb'
  refine Calls.mono (holds_any hJc hOn hL' (fun k _ q => ⟨hX k q.2 q.1, q.2⟩) hlo hfit hK) ?_
  rintro e w'' ⟨rfl, ⟨Z', q1, q2⟩, q3⟩
  refine ⟨rfl, fun k => Z' k ∧ k < w''.heap.size, ?_, q1.cut, fun k q => q.2, fun k hk q => (q2 k (Nat.lt_of_lt_of_le hk hb'.size) q.1).1, ?_⟩
  ·refine hL'.but q3 (fun k _ q => ⟨hX k q.2 q.1, q.2⟩) _ (fun k hk q => ?_)
   rcases q with q | q
   ·exact q
   ·have := q2 k hk q.1
    exact ⟨hX k this.2 this.1, this.2⟩
  ·exact (But.of_below hb' (X := Z)).comp q3 (fun k hk q => q.1)
 have hla' : ¬ (n : Int) < lasted := by omega
 clear hW hL hJ hOn hX hsq hla
 go_enter Tryz.func96, Tryz.ntmps96
 go_wp2_with fail
 refine Calls.mono HS.out ?_
 rintro e w1 ⟨rfl, b1⟩
 have HL1 := hid (HLog.out w1 b1)
 have hz1 := b1.size
 clear HS b1 HLog
 go_wp2_with fail
 refine Calls.mono HL1.out ?_
 rintro e w2 ⟨g', ta', tc', vs', rfl, hg', hL2, b2⟩
 have HH2 := hid (HHd.out w2 g' ta' tc' vs' hL2 b2)
 have HNm := hid (num_any 0 w2)
 have d5 := (b2.cell (p := ⟨wb, 5, none⟩) hwl).trans k5
 have hg2 := hid hg'
 clear HL1 HHd hL2 b2 k5 hg'
 go_wp2_with fail
 refine Calls.mono HNm.out ?_
 rintro e w3 ⟨rfl, hw3⟩
 rw [hw3]
 clear hw3 HNm
 go_wp2_with fail
 refine Calls.mono HH2.out ?_
 rintro e w4 ⟨rfl, Z', r1, r2, r3, r4, r5⟩
 have FIN := hid (And.intro r1 (And.intro r2 (And.intro r3 (And.intro r4 r5))))
 clear r1 r2 r3 r4 r5 HH2 d5
 go_wp2
 go_ret2
 exact ⟨g', ta', tc', vs', Z', rfl, hg2.out, FIN.out.1, FIN.out.2.1, FIN.out.2.2.1, FIN.out.2.2.2.1, FIN.out.2.2.2.2⟩
open Go.RowKit
theorem Cq.new {w2 w3 : World} {B c p room nb : Nat} {I : List Int} {fu : Int} (hD : Dk (fun x => B ≤ x) w2 p I [] fu false nb) (hC : Cst (fun k => w2.heap.size ≤ k) w3 c p room 0 0 []) (hb : Below w2.heap.size w2 w3) (hB : B ≤ w2.heap.size) : Cq (fun k => B ≤ k ∧ k < w3.heap.size) w3 c p room nb 0 ⟨I, [], fu, false⟩ := by
 refine ⟨fun k => B ≤ k ∧ k < w2.heap.size, fun k => w2.heap.size ≤ k ∧ k < w3.heap.size, 0, 0, [], ⟨hC.cut, hD.cut.keep (fun k _ hk => hb.block k hk), fun k q q' => by omega⟩, fun k q => ⟨q.1, Nat.lt_of_lt_of_le q.2 hb.size⟩, fun k q => ⟨by omega, q.2⟩, fun k q => q.2, Good.nil _ _ _, ⟨by omega, by omega⟩, ⟨by omega, by omega⟩⟩
set_option maxRecDepth 100000 in
set_option maxHeartbeats 4000000 in
theorem probe_any {X : Nat → Prop} {w : World} {wb p0 c0 : Nat} {jv : Value} {g room : Nat} {lasted : Int} {off : Bool} {tried tl td : Value} {hb hc nb fr bl : Nat} {H : List Int} {ta : Option Addr} {tc : Nat} {vs : List Value} {Us : List (List Pm)} (hW : Wb w wb p0 c0 jv g (room : Int) lasted off false tried tl td) (hL : LgW X w g hb hc nb fr bl H ta tc vs Us) (r1 : 1 ≤ room) (r2 : room ≤ 4096)
  {ib ic : Nat} {I : List Int} (hI : Own w ib (512 * nb) ic I) (hIb : Pl.isB I) {d : Pd} {lo : Nat} (hC : Cut d nb fr bl lo (imgB H) (plainT Us)) (hP : ∀ x, x < nb → d.poss x (imgB I x)) (hla : lasted ≤ (lo : Int)) (hlo : 16 ≤ bl) (hfit : fr + bl ≤ nb) (hnb : nb ≤ 524288) (hUs : Us.length ≤ 1099511627776) :
  Calls Tryz.prog 37 #[.pointer (some ⟨wb, 0, none⟩), .slice (some ⟨ib, 0, none⟩) (512 * nb) ic] w fun e w' => e = .returned (.bool true) ∧ Below w.heap.size w w' := by
 have HCp := hid (CopyBytes_any (some ⟨ib, 0, none⟩) (512 * nb) ic I w (by omega) (by simp) (hI.rd hIb))
 have HOd : Hid (∀ (w1 : World) (g1 cp1 : Nat), Own w1 g1 (512 * nb) cp1 I → Calls Tryz.prog 38 #[.slice (some ⟨g1, 0, none⟩) (512 * nb) cp1] w1 fun e w' => ∃ p, e = .returned (.tuple #[.pointer (some ⟨p, 0, none⟩), .int .i64 0]) ∧ w1.heap.size ≤ p ∧ Dk (fun x => w1.heap.size ≤ x) w' p I [] (-1) false nb ∧ Below w1.heap.size w1 w') := fun w1 g1 cp1 ho => Open_ok ⟨g1, 0, none⟩ nb cp1 I w1 (by omega) hnb (ho.rd hIb)
 have HNm := hid (num_any 0)
 have HNw := hid (fun (w2 : World) (p : Nat) => CNew_ok (w := w2) p room r1 r2)
 have hwl := hW.lt
 have hgl := hL.gl
 have k3 : w.cell? ⟨wb, 3, none⟩ = some (.pointer (some ⟨g, 0, none⟩)) := hW.cell 3
 have k4 : w.cell? ⟨wb, 4, none⟩ = some (.int .i64 (room : Int)) := hW.cell 4
 have c1 := hL.lg.c1
 have c2 := hL.lg.c2
 have HOJ : Hid (∀ (w1 w2 w3 : World) (p c : Nat), Below w.heap.size w w1 → Below w1.heap.size w1 w2 → Below w2.heap.size w2 w3 → Dk (fun x => w1.heap.size ≤ x) w2 p I [] (-1) false nb → Cst (fun k => w2.heap.size ≤ k) w3 c p room 0 0 [] →
   Calls Tryz.prog 20 #[.pointer (some ⟨c, 0, none⟩), .int .i64 (fr : Int), .int .i64 (bl : Int)] w3.drew fun e w4 => ∃ j s d' n Z', e = .returned (.tuple #[.pointer (some ⟨j, 0, none⟩), .int .i64 0]) ∧ (Jq Z' w4 j c p room nb 0 fr bl d' s ∧ On d' s nb fr bl n (imgB H) (plainT (Us.take n)) ∧ n ≤ Us.length ∧ lasted ≤ (n : Int) ∧ Below w.heap.size w w4 ∧ (∀ k, k < w.heap.size → ¬ Z' k)) ∧ w.heap.size ≤ j ∧ w4.cell? ⟨wb, 3, none⟩ = some (.pointer (some ⟨g, 0, none⟩)) ∧ w4.cell? ⟨g, 1, none⟩ = some (.int .i64 (fr : Int)) ∧ w4.cell? ⟨g, 2, none⟩ = some (.int .i64 (bl : Int))) := fun w1 w2 w3 p c b1 b2 b3 hD hCs => by
  have s1 := b1.size
  have s2 := b2.size
  have s3 := b3.size
  have hq := (Cq.new hD hCs b3 s2).drew
  have hft := hq.fits
  refine Calls.mono (Open_any hq (fr : Int) (bl : Int) (by simp only [List.length_nil]; omega)) ?_
  intro e w4 hO
  obtain ⟨b4, jv, code, rfl, n, Z', d', n1, n2, gr, hcase⟩ := OpenP.cut hO hC hlo hfit hnb hP hft.1
  rcases hcase with ⟨_, h1, _⟩ | ⟨rfl, j, s, rfl, hj, hJ, hOn⟩
  ·exact absurd rfl h1
  ·have bb : Below w.heap.size w w4 := by
    have q : Below w.heap.size w w3 := (b1.trans (b2.mono s1)).trans (b3.mono (by omega))
    exact ((But.of_below q.drew (X := fun k => w.heap.size ≤ k)).comp b4 (fun k hk q => by omega)).below (Nat.le_refl _) (fun k hk q => by omega)
   refine ⟨j, s, d', n, Z', rfl, ⟨hJ, by rw [plainT_take]; exact hOn, by simpa [plainT] using n2, by omega, bb, fun k hk q => ?_⟩, by have : w3.heap.size ≤ j := hj; omega, (bb.cell (p := ⟨wb, 3, none⟩) hwl).trans k3, (bb.cell (p := ⟨g, 1, none⟩) hgl).trans c1, (bb.cell (p := ⟨g, 2, none⟩) hgl).trans c2⟩
   have := (gr k (by show k < w3.heap.size; omega) q).1
   omega
 have HOpd : Hid (∀ (w4 : World) (j c p n : Nat) (s : Js) (d' : Pd) (Z' : Nat → Prop), (Jq Z' w4 j c p room nb 0 fr bl d' s ∧ On d' s nb fr bl n (imgB H) (plainT (Us.take n)) ∧ n ≤ Us.length ∧ lasted ≤ (n : Int) ∧ Below w.heap.size w w4 ∧ (∀ k, k < w.heap.size → ¬ Z' k)) → Calls Tryz.prog 96 #[.pointer (some ⟨wb, 0, none⟩), .pointer (some ⟨j, 0, none⟩)] w4 fun e w5 => ∃ g', e = .returned (.tuple #[.pointer (some ⟨g', 0, none⟩), .bool true]) ∧ Below w.heap.size w w5) := fun w4 j c p n s d' Z' hq => by
  obtain ⟨hJ, hOn, hn, hl, bb, hz⟩ := hq
  refine Calls.mono (opened_any (X := fun k => (X k ∧ k < w.heap.size) ∨ w.heap.size ≤ k) (Z := Z') (hW.keep (bb.block wb hwl)) (hL.below bb _ (fun k hk q => by rcases q with q | q; exact q.1; omega)) hJ hOn hn hl (fun k _ q => .inr (Classical.byContradiction fun r => hz k (by omega) q)) hlo hfit hUs (by omega)) ?_
  rintro e w5 ⟨g', _, _, _, Z'', rfl, _, _, _, _, _, b5⟩
  exact ⟨g', rfl, ((But.of_below bb (X := fun k => w.heap.size ≤ k)).comp b5 (fun k hk q => absurd q (hz k hk))).below (Nat.le_refl _) (fun k hk q => by omega)⟩
 clear hW hL hI hIb hC hP hla
 obtain ⟨L, hLe⟩ : ∃ L, L = 512 * nb := ⟨_, rfl⟩
 rw [← hLe] at HCp HOd ⊢
 clear hLe
 go_enter Tryz.func37, Tryz.ntmps37
 go_wp2_with fail
 refine Calls.mono HCp.out ?_
 rintro e w1 ⟨g1, cp1, rfl, hg1, o1, b1⟩
 have HO1 := hid (HOd.out w1 g1 cp1 o1)
 have B1 := hid b1
 have hs1 := b1.size
 clear HCp HOd o1 b1
 go_wp2_with fail
 refine Calls.mono HO1.out ?_
 rintro e w2 ⟨p, rfl, hp, dk, b2⟩
 have B2 := hid b2
 have DK := hid dk
 have hs2 := b2.size
 have HN2 := hid (HNm.out w2)
 have m4 := ((B1.out.trans (b2.mono hs1)).cell (p := ⟨wb, 4, none⟩) hwl).trans k4
 have HW2 := hid (HNw.out w2 p)
 clear HO1 dk b2 k4 HNw
 go_wp2_with fail
 refine Calls.mono HN2.out ?_
 rintro e w9 ⟨rfl, hw9⟩
 rw [hw9]
 clear hw9 HN2
 go_wp2_with fail
 refine Calls.mono HW2.out ?_
 rintro e w3 ⟨c, rfl, hc3, cs, b3⟩
 have hs3 := b3.size
 have HOp := hid (HOJ.out w1 w2 w3 p c B1.out B2.out b3 DK.out cs)
 have HN3 := hid (HNm.out w3)
 have q3 : Below w.heap.size w w3 := (B1.out.trans (B2.out.mono hs1)).trans (b3.mono (by omega))
 have e3 := (q3.cell (p := ⟨wb, 3, none⟩) hwl).trans k3
 have h1 := (q3.cell (p := ⟨g, 1, none⟩) hgl).trans c1
 have h2 := (q3.cell (p := ⟨g, 2, none⟩) hgl).trans c2
 clear HW2 cs b3 HOJ DK B2 B1 q3 m4 k3 c1 c2
 go_wp2_with fail
 refine Calls.mono HN3.out ?_
 rintro e w9 ⟨rfl, hw9⟩
 rw [hw9]
 clear hw9 HN3
 go_wp2_with fail
 refine wp_region_held_drew (S := fun w' => w'.cell? ⟨wb, 3, none⟩ = some (.pointer (some ⟨g, 0, none⟩)) ∧ w'.cell? ⟨g, 1, none⟩ = some (.int .i64 (fr : Int)) ∧ w'.cell? ⟨g, 2, none⟩ = some (.int .i64 (bl : Int))) (by kernel_rfl) ⟨e3, h1, h2⟩ (fun hSS => ?_)
 refine tk 0 (some 43) (.move (.tmp 7)) 43 none hSS ?_
 refine tk 1 (some 44) (.move (.tmp 0)) 28 none hSS ?_
 refine tk 2 (some 45) (.nilCheck (.tmp 44)) 0 none hSS ?_
 refine tk 3 (some 46) (.fieldAddr 50 (.tmp 45) 3) 0 none hSS ?_
 try simp only [Act.put, zA, zB, zC]
 refine tk 4 (some 47) (.load 45 (.tmp 46)) 45 none hSS ?_
 refine tk 5 (some 48) (.nilCheck (.tmp 47)) 0 none hSS ?_
 refine tk 6 (some 49) (.fieldAddr 101 (.tmp 48) 1) 0 none hSS ?_
 refine tk 7 (some 50) (.load 3 (.tmp 49)) 3 none hSS ?_
 try simp only [Act.put, zA, zB, zC]
 refine tk 8 (some 51) (.move (.tmp 0)) 28 none hSS ?_
 refine tk 9 (some 52) (.nilCheck (.tmp 51)) 0 none hSS ?_
 refine tk 10 (some 53) (.fieldAddr 50 (.tmp 52) 3) 0 none hSS ?_
 refine tk 11 (some 54) (.load 45 (.tmp 53)) 45 none hSS ?_
 try simp only [Act.put, zA, zB, zC]
 refine tk 12 (some 55) (.nilCheck (.tmp 54)) 0 none hSS ?_
 refine tk 13 (some 56) (.fieldAddr 101 (.tmp 55) 2) 0 none hSS ?_
 refine tk 14 (some 57) (.load 3 (.tmp 56)) 3 none hSS ?_
 try simp only [Act.put, zA, zB, zC]
 refine wpAnyH_ready (rs := [15]) (by kernel_rfl) (by simp) (AllReadyH.cons (o := ({ dst := some 58, op := Op.call { callee := Callee.value (Operand.func 20), args := #[Operand.tmp 43, Operand.tmp 50, Operand.tmp 57], argTypes := #[43, 3, 3] }, type := 58, pos := _, after := _, guard := none } : Oper)) rfl (fun K9 hK9 => ?_) AllReadyH.nil)
 go_simp
 go_at_call 20
 refine Calls.mono HOp.out ?_
 rintro e w4 ⟨j, s, d', n, Z', rfl, FIN, hjp, f3, i1, i2⟩
 have HF := hid FIN
 clear FIN HOp
 refine hK9.out _ _ ⟨f3, i1, i2⟩ (fun hSS => ?_)
 clear hK9 K9
 try simp only [Act.put, zA, zB, zC]
 refine tk 16 (some 42) (.move (.tmp 58)) 58 none hSS ?_
 refine tk 17 (some 59) (.extract (.tmp 42) 0) 44 none hSS ?_
 try simp only [Act.put, zA, zB, zC]
 refine tk 18 (some 60) (.extract (.tmp 42) 1) 40 none hSS ?_
 refine tk 19 (some 9) (.assign (.tmp 59)) 44 none hSS ?_
 refine tk 20 (some 10) (.assign (.tmp 60)) 40 none hSS ?_
 try simp only [Act.put, zA, zB, zC]
 refine wpAnyH_done (by kernel_rfl) ?_ _
 have HN4 := hid (HNm.out w4)
 have HP4 := hid (HOpd.out w4 j c p n s d' Z' HF.out)
 clear HF HNm HOpd f3 i1 i2 e3 h1 h2 hSS
 go_wp2_with fail
 refine Calls.mono HN4.out ?_
 rintro e w9 ⟨rfl, hw9⟩
 rw [hw9]
 clear hw9 HN4
 go_wp2_with fail
 refine Calls.mono HP4.out ?_
 rintro e w5 ⟨g', rfl, b5⟩
 have FIN := hid b5
 clear b5 HP4
 go_wp2
 go_ret
 exact ⟨rfl, FIN.out⟩
open Go.RowKit
open Go.RowKit
open Go.RowKit
/-! ### the lender -/
def Lnd (w : World) (L : Nat) (bv : Value) (N : Int) : Prop := w.heap[L]? = some (.cells #[bv, .int .i64 N] 78 (0, 0))
theorem Lnd.lt {w : World} {L : Nat} {bv : Value} {N : Int} (h : Lnd w L bv N) : L < w.heap.size := (Array.getElem?_eq_some_iff.1 h).1
theorem Lnd.buf {w : World} {L : Nat} {bv : Value} {N : Int} (h : Lnd w L bv N) : w.cell? ⟨L, 0, none⟩ = some bv := by unfold Lnd at h; simp [World.cell?, h]
theorem Lnd.num {w : World} {L : Nat} {bv : Value} {N : Int} (h : Lnd w L bv N) : w.cell? ⟨L, 1, none⟩ = some (.int .i64 N) := by unfold Lnd at h; simp [World.cell?, h]
theorem Lnd.frozen {w : World} {L : Nat} {bv : Value} {N : Int} (h : Lnd w L bv N) (t : Nat) : w.frozen? ⟨L, t, none⟩ = false := by unfold Lnd at h; simp [World.frozen?, h]
theorem Lnd.of_block {w w' : World} {L : Nat} {bv : Value} {N : Int} (h : Lnd w L bv N) (hw : w'.heap[L]? = w.heap[L]?) : Lnd w' L bv N := by unfold Lnd at *; rw [hw]; exact h
theorem Lnd.setOther {w : World} {L : Nat} {bv : Value} {N : Int} (h : Lnd w L bv N) {p : Addr} (hp : L ≠ p.block) (u : Value) : Lnd (w.setCell p u) L bv N := h.of_block (Below.heap_setCell _ _ _ _ hp)
theorem Lnd.alloc {w : World} {L : Nat} {bv : Value} {N : Int} (h : Lnd w L bv N) (o : Obj) : Lnd (w.alloc o) L bv N := h.of_block (Below.heap_alloc _ _ _ h.lt)
theorem Lnd.setBuf {w : World} {L : Nat} {bv : Value} {N : Int} (h : Lnd w L bv N) (u : Value) : Lnd (w.setCell ⟨L, 0, none⟩ u) L u N := by
 unfold Lnd at *
 simp only [World.setCell, Array.getElem?_modify]
 rw [h]
 simp
theorem Lnd.setNum {w : World} {L : Nat} {bv : Value} {N : Int} (h : Lnd w L bv N) (u : Int) : Lnd (w.setCell ⟨L, 1, none⟩ (.int .i64 u)) L bv u := by
 unfold Lnd at *
 simp only [World.setCell, Array.getElem?_modify]
 rw [h]
 simp
def mk (i : Nat) : Int := (203 - 5 * (i : Int)) % 256
def lent (zs : List Int) : List Int := zs ++ (List.range (zs.length + 70)).map fun i => mk (zs.length + i)
theorem length_lent (zs : List Int) : (lent zs).length = 2 * zs.length + 70 := by simp [lent]; omega
theorem lent_lo {zs : List Int} {k : Nat} (h : k < zs.length) : (lent zs).getD k 0 = zs.getD k 0 := by
 simp [lent, h, List.getElem?_append_left]
theorem lent_hi {zs : List Int} {k : Nat} (h : zs.length ≤ k) (h2 : k < 2 * zs.length + 70) : (lent zs).getD k 0 = mk k := by
 have h3 : k - zs.length < zs.length + 70 := by omega
 simp [lent, List.getElem?_append_right h, h3]
 congr 1
 omega
set_option maxHeartbeats 400000 in
theorem mark_any (p : Value) (i : Nat) (w : World) (h : i ≤ 1073741824) :
  Calls Tryz.prog 189 #[p, .int .i64 (i : Int)] w fun e w' => e = .returned (.int .u8 (mk i)) ∧ w' = w := by
 go_enter Tryz.func189, Tryz.ntmps189
 go_wp2
 go_ret
 exact ⟨rfl, rfl⟩
end Go.Proofs.YtldlejpacgphmabGreat
