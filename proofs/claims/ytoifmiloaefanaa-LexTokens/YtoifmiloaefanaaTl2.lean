/-
  lex: Tokens.
-/
import Derived.Test.YtoifmiloaefanaaTl1
import Derived.RegionIn
namespace Go.Proofs.Ytoifmiloaefanaa
open Go.RowKit Go.Shelf

attribute [local go_sem] Oper.semAt_some

theorem wpListIn_append_run {F : Fence} {n : Nat} {P : Program} {w w' : World} {ops : Array Oper} {rest : List Oper} {o : Oper} {a : Act} {Q : Exit → Act → World → Prop} (hg : o.guard = none) (s x : Operand) (t : TypeId) (hop : o.op = Op.call { callee := Callee.builtin Builtin.append, args := #[s, x], argTypes := #[t, t] }) {v v1 v2 : Value} (hs : a.eval s = v) (hx : a.eval x = v1) (hrun : (Builtin.append_ #[t, t] o.type #[v, v1]).run P w = .ok v2 w') (hK : wpListIn F n P ops Q rest (a.put o.dst v2) w') : wpListIn F n P ops Q (o :: rest) a w := by
  refine wpListIn_plain hg fun K hK' => ?_
  unfold Oper.wpIn
  refine ⟨?_, ?_⟩
  · simp [Oper.about, hop, resolve, Target.leads, Sem.run_pure]
  · rw [Oper.semAt_plain F _ _ (by rw [hop]; intro c hc'; cases hc')]
    simp [execOp, hop, resolve, invoke, builtin, hs, hx, hrun, Result.andThen]
    exact hK' _ _ hK
theorem results_cells3 {P : Program} {fn : Func} {p q r : Tmp} {t1 t2 t3 : TypeId} (h : fn.results = #[.cell p t1, .cell q t2, .cell r t3]) (tmps : Array Value) (w : World) {b1 b2 b3 : Nat} {v1 v2 v3 : Value} (hp : tmps.getD p undef = .pointer (some ⟨b1, 0, none⟩)) (hq : tmps.getD q undef = .pointer (some ⟨b2, 0, none⟩)) (hr : tmps.getD r undef = .pointer (some ⟨b3, 0, none⟩)) (h1 : (loadVar t1 ⟨b1, 0, none⟩).run P w = .ok v1 w) (h2 : (loadVar t2 ⟨b2, 0, none⟩).run P w = .ok v2 w) (h3 : (loadVar t3 ⟨b3, 0, none⟩).run P w = .ok v3 w) : (results fn tmps).run P w = .ok (.tuple #[v1, v2, v3]) w := by
  have hp' := hp
  have hq' := hq
  have hr' := hr
  simp only [Array.getD_eq_getD_getElem?] at hp' hq' hr'
  simp only [results, h]
  simp [Sem.run_bind, hp', hq', hr', asAddr, h1, h2, h3]
theorem loadv_one {P : Program} {t b : Nat} {v : Value} {w : World} {d : TypeDesc} (hu : P.underlying t = some d) (hd : (match d with | .struct _ | .array _ _ => true | _ => false) = false) (hc : w.cell? ⟨b, 0, none⟩ = some v) : (loadVar t ⟨b, 0, none⟩).run P w = .ok v w := by
  have hr := fun W : World => run_underlying hu W
  simp only [loadVar, isAgg, Sem.run_bind, hr, Result.andThen]
  cases d <;> simp_all

/-- what Tokens answers -/
def TkQ (zs : List Int) (b : Nat) (w : World) (e : Ending) (w' : World) : Prop := ∃ u, e = .returned (.tuple #[u, .int .i64 ((lexP zs).2.1 : Int), .int .i64 (lexP zs).2.2]) ∧ OwT b w' u (lexP zs).1 ∧ Below b w w'

set_option maxRecDepth 100000 in
set_option maxHeartbeats 4000000 in
theorem Tokens_long (a : Option Addr) (n c : Nat) (zs : List Int) (w : World) (hn : 65536 < n) (hz : zs.length = n) :
    Calls Try.prog 5 #[.slice a n c] w (TkQ zs w.heap.size w) := by
  have hq : lexP zs = ([], 0, 180) := by unfold lexP; rw [if_pos (by omega)]
  obtain ⟨PO, hPO⟩ : ∃ PO, PO = TkQ zs w.heap.size w := ⟨_, rfl⟩
  rw [← hPO]
  obtain ⟨b, hb⟩ : ∃ b, w.heap.size = b := ⟨_, rfl⟩
  obtain ⟨w1, hw1⟩ : ∃ w1, w1 = ((w.alloc (.cells #[.slice none 0 0] 23)).alloc (.cells #[.int .i64 0] 3)).alloc (.cells #[.int .i64 180] 24) := ⟨_, rfl⟩
  have HF : Hid ((w1.cell? ⟨b, 0, none⟩ = some (.slice none 0 0) ∧ w1.cell? ⟨b + 1, 0, none⟩ = some (.int .i64 0) ∧ w1.cell? ⟨b + 2, 0, none⟩ = some (.int .i64 180)) ∧ PO (.returned (.tuple #[.slice none 0 0, .int .i64 0, .int .i64 180])) w1) := by
    have al : ∀ (u : World) (o : Obj), (u.alloc o).heap = u.heap.push o := fun _ _ => rfl
    refine ⟨⟨?_, ?_, ?_⟩, ?_⟩
    · refine (cell_of (t := 23) ?_).1
      rw [hw1]; simp only [al, Array.getElem?_push, Array.size_push, hb]; (try simp only [if_true]); repeat (first | rw [if_pos (by omega)] | rw [if_neg (by omega)])
    · refine (cell_of (t := 3) ?_).1
      rw [hw1]; simp only [al, Array.getElem?_push, Array.size_push, hb]; (try simp only [if_true]); repeat (first | rw [if_pos (by omega)] | rw [if_neg (by omega)])
    · refine (cell_of (t := 24) ?_).1
      rw [hw1]; simp only [al, Array.getElem?_push, Array.size_push, hb]; (try simp only [if_true]); repeat (first | rw [if_pos (by omega)] | rw [if_neg (by omega)])
    · rw [hPO]
      refine ⟨_, by rw [hq]; rfl, by rw [hq]; exact OwT.nil _ _, ?_⟩
      rw [hw1]
      exact (((Below.refl _ _).alloc (Nat.le_refl _) _).alloc (by simp) _).alloc (by simp; omega) _
  have hn' : (65536 : Int) < (n : Int) := by omega
  have HW1 := hid hw1
  clear hPO hq hz hw1
  go_enter Try.func5, Try.ntmps5
  go_wp2_with fail
  rw [← HW1.out]
  exact bodyPost_ret (results_cells3 rfl _ _ rfl rfl rfl (loadv_one Try.underlying23 rfl HF.out.1.1) (loadv_one Try.underlying3 rfl HF.out.1.2.1) (loadv_one Try.underlying24 rfl HF.out.1.2.2)) rfl HF.out.2

set_option maxRecDepth 100000 in
set_option maxHeartbeats 8000000 in
theorem Tokens_any (a : Option Addr) (n c : Nat) (zs : List Int) (w : World) (hn : n ≤ 65536) (hR : Rd w.heap.size w a n zs) :
    Calls Try.prog 5 #[.slice a n c] w (TkQ zs w.heap.size w) := by
  have hzl : zs.length = n := hR.1
  have hB : Pl.isB zs := hR.2.1
  have hlp : lexP zs = lexA zs 0 0 := by unfold lexP; rw [if_neg (by omega)]
  obtain ⟨PQ, hPQ⟩ : ∃ PQ, PQ = TkQ zs w.heap.size w := ⟨_, rfl⟩
  rw [← hPQ]
  obtain ⟨b, hb⟩ : ∃ b, w.heap.size = b := ⟨_, rfl⟩
  rw [hb] at hPQ
  have HPQ := hid hPQ
  obtain ⟨w1, hw1⟩ : ∃ w1, w1 = (((w.alloc (.cells #[.slice none 0 0] 23)).alloc (.cells #[.int .i64 0] 3)).alloc (.cells #[.int .i64 0] 24)).alloc (.cells #[.slice none 0 0] 23) := ⟨_, rfl⟩
  have s1 : w1.heap.size = b + 4 := by rw [hw1]; simp [hb]
  have bw1 : Below w.heap.size w w1 := by
    rw [hw1]
    exact ((((Below.refl _ _).alloc (Nat.le_refl _) _).alloc (by simp) _).alloc (by simp; omega) _).alloc (by simp; omega) _
  have hconv := conv_str (hR.below bw1) c
  obtain ⟨w2, hw2⟩ : ∃ w2, w2 = w1.alloc (.cells #[.string (strOfNums zs), .int .i64 0] 46) := ⟨_, rfl⟩
  have s2 : w2.heap.size = b + 5 := by rw [hw2]; simp [s1]
  have HL := hid (tokens14 (b + 4) w2)
  obtain ⟨w3, hw3⟩ : ∃ w3, w3 = w2.alloc (.cells #[.pointer (some ⟨b + 4, 0, none⟩)] 44) := ⟨_, rfl⟩
  have s3 : w3.heap.size = b + 6 := by rw [hw3]; simp [s2]
  rw [← hw3, s2] at HL
  have HS3 := hid s3
  have HIT := hid (toks_it 3 (by omega) (b + 4) (b + 5) (b + 6) zs hB (by omega) (TsI b w zs) (fun _ => TsX b w) w3 (by omega) (by omega) (by omega) (fun a pre W h => by
    obtain ⟨⟨v, q⟩, r⟩ := h
    exact ⟨q.q4 a rfl, (cell_of q.q5).1, q.sz⟩) (fun a c1 pre W W' h hbt h4 => by
    obtain ⟨⟨v, q⟩, r⟩ := h
    exact ⟨⟨v, q.keep hbt (fun x hx hne e => hne e) (fun x hx _ e => by omega) h4⟩, r⟩))
  have H0 : Hid (∀ o1 o2, TsI b w zs (some 0) [] ((w3.alloc o1).alloc o2)) := fun o1 o2 => by
    have bb : Below b w ((w3.alloc o1).alloc o2) := by
      rw [hw3, hw2, hw1, ← hb]
      exact (((((((((Below.refl _ _).alloc (Nat.le_refl _) _).alloc (by simp) _).alloc (by simp; omega) _).alloc (by simp; omega) _).alloc (by simp; omega) _).alloc (by simp; omega) _).alloc (by simp; omega) _).alloc (by simp; omega) _)
    have al : ∀ (u : World) (o : Obj), (u.alloc o).heap = u.heap.push o := fun _ _ => rfl
    have hz : ((w3.alloc o1).alloc o2).heap.size = b + 8 := by simp [s3]
    refine ⟨⟨.slice none 0 0, ?_, ?_, ?_, ?_, ?_, ?_, OwT.nil _ _, bb, by omega⟩, fun x hx => by cases hx⟩
    case refine_5 =>
      rintro a ⟨⟩
      unfold Scn
      rw [hw3, hw2, hw1]; simp only [al, Array.getElem?_push, Array.size_push, hb]; (try simp only [if_true]); repeat (first | rw [if_pos (by omega)] | rw [if_neg (by omega)])
      try rfl
    all_goals (rw [hw3, hw2, hw1]; simp only [al, Array.getElem?_push, Array.size_push, hb]; (try simp only [if_true]); repeat (first | rw [if_pos (by omega)] | rw [if_neg (by omega)]))
  have hn' : ¬ (65536 : Int) < (n : Int) := by omega
  have HW1 := hid hw1
  have HW2 := hid hw2
  rw [hw1] at hconv
  clear hPQ hw1 hw2 hw3 s1 s2 s3 bw1 hR
  refine (callsIn_wide (n := 5)).1 ?_
  refine callsIn_of_wp_marks Try.func5 rfl trivial ?_ rfl
  refine wpIn_wide.2 ?_
  simp only [Try.ntmps5, List.size_toArray, List.length_cons, List.length_nil, Nat.reduceAdd, Nat.reduceSub, Array.replicate_succ, Array.replicate_zero, List.push_toArray, List.append_toArray, List.nil_append, List.cons_append]
  go_wp2_with fail
  rw [← HW1.out, ← HW2.out]
  refine Calls.mono HL.out ?_
  rintro e w4 ⟨rfl, hw4⟩
  rw [hw4]
  clear HL hw4 HW1 HW2 hconv
  go_wp2_with fail
  simp only [Nat.add_assoc, Nat.reduceAdd]
  generalize strOfNums zs = S at *
  refine (wpIn_wide (n := 4)).1 ?_
  refine rfLawG (F := Fence.wide) (n := 4) rfl (by omega) (gf := 22) (lb := #[.pointer (some ⟨b + 5, 0, none⟩)]) rfl trivial (enters_of Try.func22 (by kernel_rfl) rfl) (fun _ => rfl) (TsI b w zs) (fun _ => TsX b w) ?hI ?hIx (some 0) H0.out (fun c0 pre x a' W => TsI b w zs c0 pre W ∧ ∃ T, TsA b x T W ∧ a' = { tmps := #[Value.slice a n c, undef, Value.pointer (some { block := b, off := 0 }), Value.pointer (some { block := b + 1, off := 0 }), Value.pointer (some { block := b + 2, off := 0 }), Value.pointer (some { block := b + 3, off := 0 }), Value.pointer (some { block := b + 4, off := 0 }), Value.pointer (some { block := T, off := 0 }), Value.int IntKind.i64 x.2, Value.slice a n c, Value.int IntKind.i64 (n : Int), Value.bool false, Value.slice a n c, Value.string S, Value.agg #[Value.string S, Value.int IntKind.i64 0], Value.pointer (some { block := b + 4, off := 0 }), Value.pointer (some { block := b + 4, off := 0 }), Value.func (Fn.func 22) #[] #[Value.pointer (some { block := b + 5, off := 0 })], tokV x.1, Value.int IntKind.i64 x.2, undef, undef, undef, undef, undef, undef, undef, undef, undef, undef], defers := [] }) ?hAx (by rw [HS3.out]; exact HIT.out) ?assign ?body ?done ?stop
  case hI => intro c0 pre W o _ q; rw [HS3.out]; exact q.put o
  case hIx => intro c0 c pre W o _ q; rw [HS3.out]; exact q.put o
  case hAx => rintro c0 pre x a' W o _ ⟨q, T, h1, h2⟩; rw [HS3.out]; exact ⟨q.put o, T, h1.put o, h2⟩
  case assign =>
    rintro l c0 pre ⟨⟨tk, tl, tn, ta⟩, ec⟩ W KK hlt' hE hi hlen hK
    rw [HS3.out] at hlt' hK
    have HK2 : Hid (∀ a' W', W' = W.alloc (.cells #[.int .i64 tk, .string (strOfNums tl), .int .i64 tn, .int .i64 ta] 29) → a' = (show Act from (fun (x : Tk × Int) (T : Nat) => { tmps := #[Value.slice a n c, undef, Value.pointer (some { block := b, off := 0 }), Value.pointer (some { block := b + 1, off := 0 }), Value.pointer (some { block := b + 2, off := 0 }), Value.pointer (some { block := b + 3, off := 0 }), Value.pointer (some { block := b + 4, off := 0 }), Value.pointer (some { block := T, off := 0 }), Value.int IntKind.i64 x.2, Value.slice a n c, Value.int IntKind.i64 (n : Int), Value.bool false, Value.slice a n c, Value.string S, Value.agg #[Value.string S, Value.int IntKind.i64 0], Value.pointer (some { block := b + 4, off := 0 }), Value.pointer (some { block := b + 4, off := 0 }), Value.func (Fn.func 22) #[] #[Value.pointer (some { block := b + 5, off := 0 })], tokV x.1, Value.int IntKind.i64 x.2, undef, undef, undef, undef, undef, undef, undef, undef, undef, undef], defers := [] }) (⟨tk, tl, tn, ta⟩, ec) W.heap.size) → KK a' W') := fun a' W' h1 h2 => by
      have b1 : Below W.heap.size W W' := by rw [h1]; exact below1 _ _
      refine hK a' W' (Dl2.of_below b1 hlt') ⟨?_, W.heap.size, ⟨by omega, by rw [h1]; exact heap_new _ _⟩, h2⟩
      obtain ⟨⟨v, q⟩, r⟩ := hi
      exact ⟨⟨v, q.same (But.of_below (X := fun _ => False) b1) (fun _ _ e => e) (fun _ _ _ e => e)⟩, r⟩
    clear HIT H0 hi hK
    unfold encT tokV
    unfold tokV at HK2
    simp only at HK2 ⊢
    generalize strOfNums tl = U at *
    gi_wp2
    exact HK2.out _ _ rfl rfl
  case body =>
    rintro l c0 pre ⟨⟨tk, tl, tn, ta⟩, ec⟩ a' W hlt' hE ⟨hi, T, hT, rfl⟩ hlen
    rw [HS3.out]
    obtain ⟨t0, t1, t2, t3⟩ := hT.cells
    by_cases hec : ec = 0
    · subst hec
      obtain ⟨pa, pn, pc, qa, qn, qc, W5, g0, g1, hrun, ⟨g3, g4⟩, q1, q2⟩ := hi.more ⟨tk, tl, tn, ta⟩ (by omega)
      have HRUN := hid hrun
      have Q1 := hid q1
      have Q2 := hid q2
      clear HIT H0 hi hT hrun q1 q2
      unfold tokV
      unfold cellsT at g0 HRUN
      simp only at t0 t1 t2 t3 g0 HRUN ⊢
      generalize strOfNums tl = U at *
      gi_wp2_with (gi_at_builtin; refine wpListIn_append_run rfl _ _ 23 rfl rfl rfl HRUN.out ?_)
      exact ⟨Q1.out, Q2.out⟩
    · obtain ⟨⟨⟨k0, z0⟩, ⟨k1, z1⟩, k2, z2⟩, q1, q2⟩ := hi.err (⟨tk, tl, tn, ta⟩, ec) hec
      have Q1 := hid q1
      have Q2 := hid q2
      clear HIT H0 hi hT q1 q2
      unfold tokV
      simp only at t0 t1 t2 t3 ⊢
      generalize strOfNums tl = U at *
      gi_wp2
      gi_region
      all_goals (gi_wp2; exact ⟨Q1.out, Q2.out⟩)
  case done =>
    rintro D c0 xs W hD hS hi hDk
    rw [HS3.out] at hD
    have HEnd : Hid (∃ v, (∃ a n c, v = .slice a n c) ∧ (W.cell? ⟨b + 3, 0, none⟩ = some v ∧ (W.cell? ⟨b, 0, none⟩ = some (.slice none 0 0) ∧ W.frozen? ⟨b, 0, none⟩ = false) ∧ (W.cell? ⟨b + 1, 0, none⟩ = some (.int .i64 0) ∧ W.frozen? ⟨b + 1, 0, none⟩ = false) ∧ (W.cell? ⟨b + 2, 0, none⟩ = some (.int .i64 0) ∧ W.frozen? ⟨b + 2, 0, none⟩ = false)) ∧
      (((W.setCell ⟨b, 0, none⟩ v).setCell ⟨b + 1, 0, none⟩ (.int .i64 0)).setCell ⟨b + 2, 0, none⟩ (.int .i64 0)).heap[D]? = some (.deferred (some [])) ∧
      (((((W.setCell ⟨b, 0, none⟩ v).setCell ⟨b + 1, 0, none⟩ (.int .i64 0)).setCell ⟨b + 2, 0, none⟩ (.int .i64 0)).putObj D (.deferred none)).cell? ⟨b, 0, none⟩ = some v ∧ ((((W.setCell ⟨b, 0, none⟩ v).setCell ⟨b + 1, 0, none⟩ (.int .i64 0)).setCell ⟨b + 2, 0, none⟩ (.int .i64 0)).putObj D (.deferred none)).cell? ⟨b + 1, 0, none⟩ = some (.int .i64 0) ∧ ((((W.setCell ⟨b, 0, none⟩ v).setCell ⟨b + 1, 0, none⟩ (.int .i64 0)).setCell ⟨b + 2, 0, none⟩ (.int .i64 0)).putObj D (.deferred none)).cell? ⟨b + 2, 0, none⟩ = some (.int .i64 0)) ∧
      PQ (.returned (.tuple #[v, .int .i64 0, .int .i64 0])) ((((W.setCell ⟨b, 0, none⟩ v).setCell ⟨b + 1, 0, none⟩ (.int .i64 0)).setCell ⟨b + 2, 0, none⟩ (.int .i64 0)).putObj D (.deferred none))) := by
      obtain ⟨⟨v, q⟩, r⟩ := hi
      have hz := q.sz
      obtain ⟨A1, hA1⟩ : ∃ A1, A1 = W.setCell ⟨b, 0, none⟩ v := ⟨_, rfl⟩
      obtain ⟨A2, hA2⟩ : ∃ A2, A2 = A1.setCell ⟨b + 1, 0, none⟩ (.int .i64 0) := ⟨_, rfl⟩
      obtain ⟨A3, hA3⟩ : ∃ A3, A3 = A2.setCell ⟨b + 2, 0, none⟩ (.int .i64 0) := ⟨_, rfl⟩
      obtain ⟨A4, hA4⟩ : ∃ A4, A4 = A3.putObj D (.deferred none) := ⟨_, rfl⟩
      refine ⟨v, by obtain ⟨a9, c9, e9⟩ := q.ow.form; exact ⟨a9, _, c9, e9⟩, ⟨(cell_of q.q3).1, cell_of q.q0, cell_of q.q1, cell_of q.q2⟩, ?_⟩
      rw [← hA1, ← hA2, ← hA3, ← hA4]
      have e1 : But (fun k => k = b) W A1 := by rw [hA1]; exact but_set W b 0 _
      have e2 : But (fun k => k = b + 1) A1 A2 := by rw [hA2]; exact but_set A1 (b + 1) 0 _
      have e3 : But (fun k => k = b + 2) A2 A3 := by rw [hA3]; exact but_set A2 (b + 2) 0 _
      have e4 : But (fun k => k = D) A3 A4 := by rw [hA4]; exact but_put A3 D _
      have f1 := e1.size
      have f2 := e2.size
      have f3 := e3.size
      have g0 : A4.heap[b]? = some (.cells #[v] 23 (0, 0)) := (e4.block b (by omega) (by omega)).trans ((e3.block b (by omega) (by omega)).trans ((e2.block b (by omega) (by omega)).trans (by rw [hA1]; exact set_of q.q0 _)))
      have g1 : A4.heap[b + 1]? = some (.cells #[.int .i64 0] 3 (0, 0)) := (e4.block _ (by omega) (by omega)).trans ((e3.block _ (by omega) (by omega)).trans (by rw [hA2]; exact set_of ((e1.block _ (by omega) (by omega)).trans q.q1) _))
      have g2 : A4.heap[b + 2]? = some (.cells #[.int .i64 0] 24 (0, 0)) := (e4.block _ (by omega) (by omega)).trans (by rw [hA3]; exact set_of ((e2.block _ (by omega) (by omega)).trans ((e1.block _ (by omega) (by omega)).trans q.q2)) _)
      refine ⟨(e3.block D (by omega) (by omega)).trans ((e2.block D (by omega) (by omega)).trans ((e1.block D (by omega) (by omega)).trans hDk)), ⟨(cell_of g0).1, (cell_of g1).1, (cell_of g2).1⟩, ?_⟩
      rw [HPQ.out]
      have hp : lexP zs = (xs.map Prod.fst, 0, 0) := by
        rw [hlp]
        rcases hS with ⟨a9, _, hg9, hs9⟩ | ⟨x, hx, hx0⟩
        · exact hg9.done hs9
        · exact absurd (r x hx) hx0
      unfold TkQ
      rw [hp]
      refine ⟨v, rfl, (q.ow.keep (w' := A4) fun g hg hgl => ?_).mono (show b ≤ b + 8 by omega), ?_⟩
      · exact (e4.block g (by omega) (by omega)).trans ((e3.block g (by omega) (by omega)).trans ((e2.block g (by omega) (by omega)).trans (e1.block g (by omega) (by omega))))
      · exact (((q.bel.trans (e1.below (by omega) (fun x hx e => by omega))).trans (e2.below (by omega) (fun x hx e => by omega))).trans (e3.below (by omega) (fun x hx e => by omega))).trans (e4.below (by omega) (fun x hx e => by omega))
    obtain ⟨v, ⟨pa, pn, pc, rfl⟩, ⟨c3, ⟨c0', f0⟩, ⟨c1, f1⟩, c2, f2⟩, e1, ⟨e2, e3, e5⟩, e4⟩ := HEnd.out
    have E1 := hid e1
    have E2 := hid e2
    have E3 := hid e3
    have E5 := hid e5
    have E4 := hid e4
    clear hi hDk hS hD HIT HEnd H0 e1 e2 e3 e4 e5
    go_wp2_with fail
    refine ⟨by simp, .inl ⟨_, _, rfl, run_takeDeferred E1.out, ?_⟩⟩
    exact ⟨_, results_cells3 rfl _ _ rfl rfl rfl (loadv_one Try.underlying23 rfl E2.out) (loadv_one Try.underlying3 rfl E3.out) (loadv_one Try.underlying24 rfl E5.out), E4.out⟩
  case stop =>
    rintro D c0 c pre W hD hSp hi hDk
    rw [HS3.out] at hD
    obtain ⟨h0, p0, x, h1, h3, h4, h5, h6, h7, h8⟩ := hi
    have e9 := but_put W D (.deferred none)
    obtain ⟨a9, p9, hp9, hg9, hs9⟩ := hSp
    have hpx : p0 = p9 ∧ x = itm zs a9 p9.length := by
      rw [h1] at hp9
      have := List.append_inj' hp9 rfl
      exact ⟨this.1, by simpa using this.2⟩
    obtain ⟨rfl, hx9⟩ := hpx
    have hst := hg9.stop hs9 (by rw [← hx9]; exact h3)
    rw [← hx9] at hst
    have HStp : Hid (((W.putObj D (.deferred none)).cell? ⟨b, 0, none⟩ = some (.slice none 0 0) ∧ (W.putObj D (.deferred none)).cell? ⟨b + 1, 0, none⟩ = some (.int .i64 x.1.a) ∧ (W.putObj D (.deferred none)).cell? ⟨b + 2, 0, none⟩ = some (.int .i64 x.2)) ∧ PQ (.returned (.tuple #[.slice none 0 0, .int .i64 x.1.a, .int .i64 x.2])) (W.putObj D (.deferred none))) := by
      refine ⟨⟨(cell_of ((e9.block _ (by omega) (by omega)).trans h4)).1, (cell_of ((e9.block _ (by omega) (by omega)).trans h5)).1, (cell_of ((e9.block _ (by omega) (by omega)).trans h6)).1⟩, ?_⟩
      rw [HPQ.out]
      unfold TkQ
      rw [hlp, hst.1, hst.2]
      exact ⟨_, rfl, OwT.nil _ _, h7.trans (e9.below (by omega) (fun x hx e => by omega))⟩
    obtain ⟨⟨e2, e3, e5⟩, e4⟩ := HStp.out
    have E1 := hid hDk
    have E2 := hid e2
    have E3 := hid e3
    have E5 := hid e5
    have E4 := hid e4
    subst h0
    clear h1 h3 h4 h5 h6 h7 h8 hDk hD HIT HStp H0 e2 e3 e4 e5 e9 hst hx9 hg9 hs9 hp9
    refine wpIn_wide.2 ?_
    go_wp2_with fail
    refine ⟨by simp, .inl ⟨_, _, rfl, run_takeDeferred E1.out, ?_⟩⟩
    exact ⟨_, results_cells3 rfl _ _ rfl rfl rfl (loadv_one Try.underlying23 rfl E2.out) (loadv_one Try.underlying3 rfl E3.out) (loadv_one Try.underlying24 rfl E5.out), E4.out⟩

end Go.Proofs.Ytoifmiloaefanaa
