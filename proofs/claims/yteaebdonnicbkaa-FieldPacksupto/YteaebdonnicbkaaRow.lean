/-
  Fields: rows of one's own, copied; the row that lends them (functions 55, 41).
-/
import Derived.Test.YteaebdonnicbkaaPkE
import Derived.Test.YteaebdonnicbkaaBk1
import Derived.Test.YteaebdonnicbkaaLend
namespace Go.Proofs.Yteaebdonnicbkaa
open Go.RowKit

/-! ### copy, whatever the elements' size -/
theorem run_copy_wide {P : Program} (w : World) (dT sT ty elem : TypeId) (g o dLen dCap : Nat) (a : Addr) (sLen sCap size : Nat) (cur : Array Value) (t : TypeId) (cs : List Value)
    (hu : P.underlying dT = some (.slice elem)) (hs : (P.info? elem).map (·.size) = some size)
    (hg : w.heap[g]? = some (.cells cur t (0, 0))) (hn : cs.length = Nat.min sLen dLen * size)
    (hsrc : ∀ j v, cs[j]? = some v → w.cell? (a.add j) = some v) (hfit : o + cs.length ≤ cur.size) (h1 : ∀ v ∈ cs, v.oneCell' = true) :
    (Builtin.copy_ #[dT, sT] ty #[.slice (some ⟨g, o, none⟩) dLen dCap, .slice (some a) sLen sCap]).run P w =
      .ok (goInt (Nat.min sLen dLen)) (w.setRow g (cur.toList.take o ++ cs ++ cur.toList.drop (o + cs.length)).toArray) := by
  have hl := run_loadCells_list (P := P) w a cs hsrc
  have hst := run_storeCells_at P g o t cs 0 cur w hg (by simpa using hfit) h1
  rw [hn] at hl
  cases hq : P.info? elem with
  | none => simp [hq] at hs
  | some i =>
    have hi : i.size = size := by simpa [hq] using hs
    simp [Builtin.copy_, run_underlying hu, Builtin.lenOf, Builtin.firstCells, sizeOf, typeInfo, hq, hi, hl, hst]
theorem wpList_copy_wide {P : Program} {w : World} {ops : Array Oper} {rest : List Oper} {o : Oper} {a : Act} {Q : Exit → Act → World → Prop} (hgd : o.guard = none) (d s : Operand) (dT sT : TypeId)
    (ho : o.op = .call { callee := .builtin .copy, args := #[d, s], argTypes := #[dT, sT] }) (elem : TypeId) (hu : P.underlying dT = some (.slice elem)) (size : Nat) (hsz : (P.info? elem).map (·.size) = some size)
    (g off dLen dCap : Nat) (ad : Addr) (sLen sCap : Nat) (hd : a.eval d = .slice (some ⟨g, off, none⟩) dLen dCap) (hs : a.eval s = .slice (some ad) sLen sCap)
    (cur : List Value) (t : TypeId) (hg : w.heap[g]? = some (.cells cur.toArray t (0, 0))) (cs : List Value) (hn : cs.length = Nat.min sLen dLen * size)
    (hsrc : ∀ j v, cs[j]? = some v → w.cell? (ad.add j) = some v) (hfit : off + cs.length ≤ cur.length) (h1 : ∀ v ∈ cs, v.oneCell' = true)
    (h : ∀ w', w'.heap[g]? = some (.cells (splice cur off cs).toArray t (0, 0)) → But (fun x => x = g) w w' → wpList P ops Q rest (a.put o.dst (goInt (Nat.min sLen dLen))) w') : wpList P ops Q (o :: rest) a w := by
  refine wpList_plain hgd fun K hK => ?_
  have hrun := run_copy_wide (P := P) w dT sT o.type elem g off dLen dCap ad sLen sCap size cur.toArray t cs hu hsz hg hn hsrc (by simpa using hfit) h1
  unfold Oper.wp
  simp [execOp, ho, resolve, invoke, builtin, hd, hs, hrun, Result.andThen]
  refine hK _ _ (h _ ?_ ?_)
  · have := setRow_heap w g cur.toArray (cur.take off ++ (cs ++ cur.drop (off + cs.length))).toArray t (0, 0) hg
    simpa [splice] using this
  · exact ⟨rfl, rfl, rfl, by simp [World.setRow], fun k _ hx => setRow_other w g k _ (by intro e; exact hx e)⟩

/-! ### fields -/
def OwF (B : Nat) (w : World) (o : Value) (n : Nat) (fs : List (Int × Int)) : Prop := w.ownsRow B 38 2 o n (flat fs)
theorem length_flat (fs : List (Int × Int)) : (flat fs).length = fs.length * 2 := by
  induction fs with
  | nil => rfl
  | cons f r ih => simp only [flat, List.flatMap_cons, List.length_append, List.length_cons, List.length_nil] at *; omega
theorem flat_one (fs : List (Int × Int)) : ∀ u ∈ flat fs, u.oneCell' = true := by
  intro u hu
  simp only [flat, List.mem_flatMap] at hu
  obtain ⟨f, _, hu⟩ := hu
  simp at hu
  rcases hu with rfl | rfl <;> rfl
theorem flat_append (fs gs : List (Int × Int)) : flat (fs ++ gs) = flat fs ++ flat gs := by simp [flat]
/-- fields that are read, in a block outside of X -/
def RFN (X : Nat → Prop) (w : World) (a : Option Addr) (m : Nat) (fs : List (Int × Int)) : Prop :=
  fs.length = m ∧ (∀ f ∈ fs, -9223372036854775808 ≤ f.2 ∧ f.2 ≤ 9223372036854775807) ∧ (m = 0 ∨ ∃ b off, a = some ⟨b, off, none⟩ ∧ b < w.heap.size ∧ ¬ X b ∧
    ∀ t, t < m → w.cell? ⟨b, off + t * 2, none⟩ = some (.int .i64 (fs.getD t (0, 0)).1) ∧ w.cell? ⟨b, off + t * 2 + 1, none⟩ = some (.int .i64 (fs.getD t (0, 0)).2))
theorem RFN.rd {X : Nat → Prop} {w : World} {a : Option Addr} {m : Nat} {fs : List (Int × Int)} (h : RFN X w a m fs) : RdF w.heap.size w a m fs := by
  obtain ⟨h1, h2, h3⟩ := h
  refine ⟨h1, h2, ?_⟩
  rcases h3 with h3 | ⟨b, off, h4, h5, h6, h7⟩
  · exact .inl h3
  · exact .inr ⟨b, off, h4, h5, h7⟩
theorem RFN.but {X : Nat → Prop} {w w' : World} {a : Option Addr} {m : Nat} {fs : List (Int × Int)} (h : RFN X w a m fs) (hb : But X w w') : RFN X w' a m fs := by
  obtain ⟨h1, h2, h3⟩ := h
  refine ⟨h1, h2, ?_⟩
  rcases h3 with h3 | ⟨b, off, h4, h5, h6, h7⟩
  · exact .inl h3
  · exact .inr ⟨b, off, h4, Nat.lt_of_lt_of_le h5 hb.size, h6, fun t ht => ⟨(hb.cell (by exact h5) (by exact h6)).trans (h7 t ht).1, (hb.cell (by exact h5) (by exact h6)).trans (h7 t ht).2⟩⟩
theorem RFN.mono {X Y : Nat → Prop} {w : World} {a : Option Addr} {m : Nat} {fs : List (Int × Int)} (h : RFN X w a m fs) (hX : ∀ k, k < w.heap.size → Y k → X k) : RFN Y w a m fs := by
  obtain ⟨h1, h2, h3⟩ := h
  refine ⟨h1, h2, ?_⟩
  rcases h3 with h3 | ⟨b, off, h4, h5, h6, h7⟩
  · exact .inl h3
  · exact .inr ⟨b, off, h4, h5, fun hy => h6 (hX b h5 hy), h7⟩
theorem RFN.of_rd {B : Nat} {X : Nat → Prop} {w : World} {a : Option Addr} {m : Nat} {fs : List (Int × Int)} (h : RdF B w a m fs) (hB : B ≤ w.heap.size) (hX : ∀ k, k < B → ¬ X k) : RFN X w a m fs := by
  obtain ⟨h1, h2, h3⟩ := h
  refine ⟨h1, h2, ?_⟩
  rcases h3 with h3 | ⟨b, off, h4, h5, h7⟩
  · exact .inl h3
  · exact .inr ⟨b, off, h4, by omega, hX b h5, h7⟩
theorem RFN.src {X : Nat → Prop} {w : World} {ad : Addr} {m : Nat} {fs : List (Int × Int)} (h : RFN X w (some ad) m fs) : ∀ j u, (flat fs)[j]? = some u → w.cell? (ad.add j) = some u := by
  obtain ⟨h1, _, h3⟩ := h
  intro j u hj
  have hjl := (List.getElem?_eq_some_iff.1 hj).1
  rw [length_flat] at hjl
  rcases h3 with h3 | ⟨b, off, h4, _, _, h7⟩
  · omega
  · cases h4
    obtain ⟨f1, f2⟩ := flat_get fs (j / 2) (by omega)
    obtain ⟨c1, c2⟩ := h7 (j / 2) (by omega)
    have hadd : (⟨b, off, none⟩ : Addr).add j = ⟨b, off + j, none⟩ := by unfold Addr.add; split <;> simp_all
    rw [hadd, ← hj]
    by_cases hp : j % 2 = 0
    · rw [show j / 2 * 2 = j by omega] at f1 c1
      rw [c1, f1]
    · rw [show j / 2 * 2 + 1 = j by omega] at f2
      rw [show off + j / 2 * 2 + 1 = off + j by omega] at c2
      rw [c2, f2]

/-- AN APPEND of whatever fields to fields of one's own -/
theorem wpF_any {ops : Array Oper} {rest : List Oper} {o : Oper} {a : Act} {Q : Exit → Act → World → Prop} {w : World} (hgd : o.guard = none) (s x : Operand)
    (ho : o.op = .call { callee := .builtin .append, args := #[s, x], argTypes := #[35, 35] }) (B : Nat) (v : Value) (n : Nat) (zs : List (Int × Int)) (hs : a.eval s = v) (hown : OwF B w v n zs)
    (X : Nat → Prop) (ad : Option Addr) (m c : Nat) (cs : List (Int × Int)) (hx : a.eval x = .slice ad m c) (hnil : ad = none → c = 0) (hR : RFN X w ad m cs)
    (h63 : n + m ≤ 4398046511104) (hbase : B ≤ w.heap.size)
    (h : ∀ v' w', OwF B w' v' (n + m) (zs ++ cs) → Below B w w' → (v ≠ .slice none 0 0 → v' ≠ .slice none 0 0) → wpList Try.prog ops Q rest (a.put o.dst v') w') :
    wpList Try.prog ops Q (o :: rest) a w := by
  obtain ⟨i38, hi38, hz38, hs38, hb38⟩ := info_parts info38
  have hl := hR.1
  cases ad with
  | none =>
    have hm0 : m = 0 := by rcases hR.2.2 with h3 | ⟨_, _, h3, _⟩; exact h3; cases h3
    subst hm0
    obtain rfl : cs = [] := List.length_eq_zero_iff.1 hl
    obtain rfl : c = 0 := hnil rfl
    refine wpList_append_own_none hgd s x 35 ho B 38 i38 2 Try.underlying35 hi38 v n (flat zs) hs hown hx ?_
    exact h v w (by rw [List.append_nil]; exact hown) (Below.refl _ _) (fun h => h)
  | some ad =>
    refine wpList_append_own _ hgd s x 35 ho B 38 i38 (.agg #[.int .i64 0, .int .i64 0]) 2 16 Try.underlying35 hi38 hz38 hs38 hb38 rfl (by decide) v n (flat zs) hs hown ad m c (flat cs) hx (by rw [length_flat, hl]) hR.src (flat_one _) (by unfold maxLen; omega) (by omega) hbase ?_
    intro v' w' ho' hg hnn
    rw [← flat_append] at ho'
    exact h v' w' ho' ((Below.refl _ _).grown hg hbase (fun k hk => (World.ownsRow.lt hown k hk).1)) (fun h e => h (hnn.1 e).1)
/-- AN APPEND of one field -/
theorem wpF_one {ops : Array Oper} {rest : List Oper} {o : Oper} {a : Act} {Q : Exit → Act → World → Prop} {w : World} (hgd : o.guard = none) (s x : Operand)
    (ho : o.op = .call { callee := .builtin .append, args := #[s, x], argTypes := #[35, 35] }) (B : Nat) (v : Value) (n : Nat) (zs : List (Int × Int)) (hs : a.eval s = v) (hown : OwF B w v n zs)
    (ad : Addr) (c : Nat) (X V : Int) (hx : a.eval x = .slice (some ad) 1 c) (hnews : ∀ j u, [Value.int .i64 X, .int .i64 V][j]? = some u → w.cell? (ad.add j) = some u)
    (h63 : n + 1 ≤ 4398046511104) (hbase : B ≤ w.heap.size)
    (h : ∀ g cap w', OwF B w' (.slice (some ⟨g, 0, none⟩) (n + 1) cap) (n + 1) (zs ++ [(X, V)]) → Below B w w' → wpList Try.prog ops Q rest (a.put o.dst (.slice (some ⟨g, 0, none⟩) (n + 1) cap)) w') :
    wpList Try.prog ops Q (o :: rest) a w := by
  obtain ⟨i38, hi38, hz38, hs38, hb38⟩ := info_parts info38
  refine wpList_append_lies _ hgd s x 35 ho B 38 i38 (.agg #[.int .i64 0, .int .i64 0]) 2 16 Try.underlying35 hi38 hz38 hs38 hb38 rfl (by decide) v n (flat zs) hs hown ad 1 c [.int .i64 X, .int .i64 V] hx rfl hnews (two_i64 X V) (by decide) (by unfold maxLen; omega) (by omega) hbase w.heap.size rfl ?_
  intro g cap w' ho' hg hlie _
  exact h g cap w' (by unfold OwF; rw [flat_snoc]; exact ho') ((Below.refl _ _).grown hg hbase (fun k hk => (World.ownsRow.lt hown k hk).1))
theorem OwF.form {B : Nat} {w : World} {v : Value} {n : Nat} {fs : List (Int × Int)} (h : OwF B w v n fs) (hv : v ≠ .slice none 0 0) : ∃ g cap, v = .slice (some ⟨g, 0, none⟩) n cap ∧ B ≤ g ∧ n ≤ cap := owns_form h hv
theorem OwF.len {B : Nat} {w : World} {v : Value} {n : Nat} {fs : List (Int × Int)} (h : OwF B w v n fs) : fs.length = n := by
  have := h.1
  rw [length_flat] at this
  omega
theorem OwF.below {B : Nat} {w w' : World} {o : Value} {n : Nat} {zs : List (Int × Int)} (h : OwF B w o n zs) (hb : Below w.heap.size w w') : OwF B w' o n zs := owns_below h hb
theorem OwF.alloc {B : Nat} {w : World} {o : Value} {n : Nat} {zs : List (Int × Int)} (h : OwF B w o n zs) (x : Obj) : OwF B (w.alloc x) o n zs := h.below ((Below.refl _ _).alloc (Nat.le_refl _) _)
/-- its cells -/
theorem OwF.src {B : Nat} {w : World} {g n cap : Nat} {fs : List (Int × Int)} (h : OwF B w (.slice (some ⟨g, 0, none⟩) n cap) n fs) : ∀ j u, (flat fs)[j]? = some u → w.cell? ((⟨g, 0, none⟩ : Addr).add j) = some u := by
  intro j u hj
  have hl := h.len
  have hjl := (List.getElem?_eq_some_iff.1 hj).1
  rw [length_flat] at hjl
  have e : (⟨g, 0, none⟩ : Addr).add j = ⟨g, j, none⟩ := by unfold Addr.add; split <;> simp_all
  rw [e, World.ownsRow.cellAt h j (by omega), ← hj]

/-- fields with marks behind them -/
def lentF (fs : List (Int × Int)) (k : Nat) : List (Int × Int) := fs ++ (List.range k).map fun i : Nat => (-7 - (i : Int), -8)
theorem lentF_zero (fs : List (Int × Int)) : lentF fs 0 = fs := by simp [lentF]
theorem lentF_succ (fs : List (Int × Int)) (k : Nat) : lentF fs (k + 1) = lentF fs k ++ [(-7 - (k : Int), -8)] := by simp [lentF, List.range_succ]
theorem length_lentF (fs : List (Int × Int)) (k : Nat) : (lentF fs k).length = fs.length + k := by simp [lentF]

set_option maxRecDepth 100000 in
set_option maxHeartbeats 400000 in
theorem behind_any (i : Int) (w : World) (h1 : -1073741824 ≤ i) (h2 : i ≤ 1073741824) :
    Calls Try.prog 55 #[.int .i64 i] w fun e w' => e = .returned (.agg #[.int .i64 (-7 - i), .int .i64 (-8)]) ∧ Below w.heap.size w w' := by
  have e : IntKind.i64.wrap (-7 - i) = -7 - i := by rw [IntKind.wrap_i64]; omega
  go_enter Try.func55, Try.ntmps55
  go_wp2_with fail
  exact bodyPost_ret (v := .agg #[.int .i64 (-7 - i), .int .i64 (-8)]) (by simp [results, Try.results55, go_sem]) rfl ⟨rfl, (Below.refl _ _).alloc (Nat.le_refl _) _⟩

end Go.Proofs.Yteaebdonnicbkaa
