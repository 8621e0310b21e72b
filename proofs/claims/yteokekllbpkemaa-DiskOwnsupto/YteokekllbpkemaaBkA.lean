/-
  THE BOOK: lists with spare room, and how they grow.
-/
import Derived.Test.YteokekllbpkemaaBk3
import Derived.ArgAppend
import Derived.OwnWalk
namespace Go.Proofs.Yteokekllbpkemaa
open Go.RowKit

theorem Own.cur {w : World} {g n cap : Nat} {zs : List Int} (h : Own w g n cap zs) : ∃ cur : Array Value, w.heap[g]? = some (.cells cur 5 (0, 0)) ∧ n ≤ cap ∧ cap ≤ maxLen ∧ cur.size = cap ∧ cur.toList.take n = zs.map (Value.int .u8) := by
  rcases h.2 with ⟨h1, _⟩ | ⟨g', cap', cur, hv, _, h2, h3, h4, h5, h6⟩
  · cases h1
  · cases hv
    exact ⟨cur, h2, h3, h4, by simpa using h5, by simpa using h6⟩
theorem Own.mk' {w : World} {g n cap : Nat} {zs : List Int} {cur : Array Value} (h2 : w.heap[g]? = some (.cells cur 5 (0, 0))) (h3 : n ≤ cap) (h4 : cap ≤ maxLen) (h5 : cur.size = cap) (h6 : cur.toList.take n = zs.map (Value.int .u8)) (hl : zs.length = n) : Own w g n cap zs :=
  ⟨by simp [hl], .inr ⟨g, cap, cur, rfl, Nat.le_refl _, h2, h3, h4, by simpa using h5, by simpa using h6⟩⟩
/-- the beginning of a list -/
theorem Own.pre {w : World} {g n cap m : Nat} {zs ys : List Int} (h : Own w g n cap zs) (hm : m ≤ n) (hy : zs.take m = ys) : Own w g m cap ys := by
  obtain ⟨cur, h2, h3, h4, h5, h6⟩ := h.cur
  have hl := h.len
  subst hy
  refine Own.mk' h2 (by omega) h4 h5 ?_ (by simp; omega)
  rw [List.map_take, ← h6, List.take_take, Nat.min_eq_left hm]
theorem Own.frozen {w : World} {g n cap : Nat} {zs : List Int} (h : Own w g n cap zs) (t : Nat) : w.frozen? ⟨g, t, none⟩ = false := by
  obtain ⟨cur, h2, _⟩ := h.cur
  simp [World.frozen?, h2]

/-- a list in a block of its own -/
def FO (w : World) (v : Value) (zs : List Int) (g : Nat) : Prop := ∃ c, v = .slice (some ⟨g, 0, none⟩) zs.length c ∧ Own w g zs.length c zs
theorem FO.ob {w : World} {v : Value} {zs : List Int} {g : Nat} (h : FO w v zs g) : v.ownBlock = some g := by obtain ⟨c, rfl, _⟩ := h; rfl
theorem FO.lt {w : World} {v : Value} {zs : List Int} {g : Nat} (h : FO w v zs g) : g < w.heap.size := by obtain ⟨c, _, h⟩ := h; exact h.lt
theorem FO.keep {w w' : World} {v : Value} {zs : List Int} {g : Nat} (h : FO w v zs g) (hk : w'.heap[g]? = w.heap[g]?) : FO w' v zs g := by obtain ⟨c, e, h⟩ := h; exact ⟨c, e, h.keep hk⟩
theorem FO.t5 {w : World} {v : Value} {zs : List Int} {g : Nat} (h : FO w v zs g) : T5 w g := by obtain ⟨c, _, h⟩ := h; exact h.t5
theorem FO.sl {R : Nat → Prop} {w : World} {v : Value} {zs : List Int} {g : Nat} (h : FO w v zs g) (hb : Pl.isB zs) (hr : R g) : Sl R w v zs := by obtain ⟨c, rfl, h⟩ := h; exact Sl.of_own h hb hr

/-- what an append does: in its room, or in a new block -/
def AppR (ai : Option Addr) (n ci m : Nat) (w : World) (g' cap' : Nat) (w' : World) : Prop :=
  (n + m ≤ ci ∧ ai = some ⟨g', 0, none⟩ ∧ cap' = ci ∧ But (fun x => x = g') w w') ∨ (ci < n + m ∧ w.heap.size ≤ g' ∧ Below w.heap.size w w')
theorem wpList_app {w : World} {ops : Array Oper} {rest : List Oper} {o : Oper} {a : Act} {Q : Exit → Act → World → Prop} (hgd : o.guard = none) (s x : Operand)
    (ho : o.op = .call { callee := .builtin .append, args := #[s, x], argTypes := #[22, 22] }) (ai : Option Addr) (n ci : Nat) (zs : List Int) (hs : a.eval s = .slice ai n ci) (hzl : zs.length = n) (hnil : ai = none → n = 0 ∧ ci = 0) (hL : ∀ b, ai = some b → ∃ g, b = ⟨g, 0, none⟩ ∧ Own w g n ci zs)
    (ad : Addr) (m c : Nat) (nw : List Int) (hx : a.eval x = .slice (some ad) m c) (hl : nw.length = m) (hnews : ∀ j u, (nw.map (Value.int .u8))[j]? = some u → w.cell? (ad.add j) = some u) (hm : 0 < m) (b1 : n + m ≤ maxLen) (b2 : n + m ≤ 140737488355328)
    (hK : ∀ g' cap' w', AppR ai n ci m w g' cap' w' → Own w' g' (n + m) cap' (zs ++ nw) → wpList Try.prog ops Q rest (a.put o.dst (.slice (some ⟨g', 0, none⟩) (n + m) cap')) w') : wpList Try.prog ops Q (o :: rest) a w := by
  obtain ⟨i5, hi5, hz5, hs5, hb5⟩ := info_parts info5
  have hone : ∀ u ∈ nw.map (Value.int .u8), u.oneCell' = true := by
    intro u hu
    simp at hu
    obtain ⟨_, _, rfl⟩ := hu
    rfl
  by_cases hr : n + m ≤ ci
  · cases ai with
    | none => obtain ⟨rfl, rfl⟩ := hnil rfl; omega
    | some b =>
      obtain ⟨g, rfl, hO⟩ := hL b rfl
      refine wpList_append_fits w hgd s x 22 ho g 5 i5 1 Try.underlying22 hi5 hs5 g n ci (zs.map (Value.int .u8)) hs hO ad m c (nw.map (Value.int .u8)) hx (by simp [hl]) hnews hone hr ?_
      intro w' h1 h2
      refine hK g ci w' (.inl ⟨hr, rfl, rfl, ⟨h2.os, h2.tape, h2.output, h2.size, fun k hk hx => h2.block k hk (fun e => hx (Option.some.inj e))⟩⟩) (Own.of (base := g) ?_)
      rw [List.map_append]
      exact h1
  · refine wpList_append_grows w hgd s x 22 ho 5 i5 (.int .u8 0) 1 1 Try.underlying22 hi5 hz5 hs5 hb5 rfl (by decide) ai n ci (zs.map (Value.int .u8)) hs hnil (by simp [hzl]) (fun b hb j u hu => ?_) ad m c (nw.map (Value.int .u8)) hx (by simp [hl]) hnews hone (by omega) b1 (by omega) ?_
    · obtain ⟨g, rfl, hO⟩ := hL b hb
      exact hO.src j u hu
    · intro v' w' h1 h2
      rcases h1.2 with ⟨_, h0⟩ | ⟨g, cap, cur, rfl, hge, h3⟩
      · omega
      · refine hK g cap w' (.inr ⟨by omega, hge, ⟨h2.os, h2.tape, h2.output, h2.size, fun k hk => h2.block k hk (by simp)⟩⟩) (Own.of (base := w.heap.size) ?_)
        rw [List.map_append]
        exact h1

/-- the list while it is grown: what lies in its own block -/
structure Gs (W0 w : World) (ai : Option Addr) (n ci : Nat) (zi mo : List Int) (k : Nat) : Prop where
  but : But (fun x => (Value.slice ai n ci).ownBlock = some x) W0 w
  len : zi.length = n
  nil : ai = none → n = 0 ∧ ci = 0
  cap : n ≤ ci
  lst : ∀ b, ai = some b → ∃ g, b = ⟨g, 0, none⟩ ∧ g < W0.heap.size ∧ Own w g (n + min k (ci - n)) ci (zi ++ mo.take (min k (ci - n)))
/-- a list that was grown by j places -/
def Vj (S : Nat) (w : World) (ai : Option Addr) (n ci : Nat) (zi : List Int) (j : Nat) (v : Value) (nw : List Int) : Prop :=
  (n + j ≤ ci ∧ v = .slice ai (n + j) ci) ∨ (ci < n + j ∧ ∃ G cap, v = .slice (some ⟨G, 0, none⟩) (n + j) cap ∧ S ≤ G ∧ Own w G (n + j) cap (zi ++ nw))
theorem Gs.start {W0 : World} {ai : Option Addr} {n ci : Nat} {zi : List Int} (mo : List Int) (hl : zi.length = n) (hnil : ai = none → n = 0 ∧ ci = 0) (hL : ∀ b, ai = some b → ∃ g, b = ⟨g, 0, none⟩ ∧ Own W0 g n ci zi) : Gs W0 W0 ai n ci zi mo 0 := by
  refine ⟨But.refl _ _, hl, hnil, ?_, fun b hb => ?_⟩
  · cases ai with
    | none => obtain ⟨rfl, rfl⟩ := hnil rfl; omega
    | some b => obtain ⟨g, _, h⟩ := hL b rfl; exact h.cap
  · obtain ⟨g, e, h⟩ := hL b hb
    exact ⟨g, e, h.lt, by simpa using h⟩
theorem Gs.below {W0 w w' : World} {ai : Option Addr} {n ci : Nat} {zi mo : List Int} {k : Nat} (h : Gs W0 w ai n ci zi mo k) (hb : Below w.heap.size w w') : Gs W0 w' ai n ci zi mo k :=
  ⟨h.but.trans (But.of_below hb), h.len, h.nil, h.cap, fun b e => by obtain ⟨g, e, l, o⟩ := h.lst b e; exact ⟨g, e, l, o.below hb⟩⟩
theorem Vj.below {S : Nat} {w w' : World} {ai : Option Addr} {n ci : Nat} {zi : List Int} {j : Nat} {v : Value} {nw : List Int} (h : Vj S w ai n ci zi j v nw) (hb : Below w.heap.size w w') : Vj S w' ai n ci zi j v nw :=
  h.imp id (fun ⟨l, G, cap, e, s, o⟩ => ⟨l, G, cap, e, s, o.below hb⟩)
theorem Vj.keep {S : Nat} {w w' : World} {ai : Option Addr} {n ci : Nat} {zi : List Int} {j : Nat} {v : Value} {nw : List Int} (h : Vj S w ai n ci zi j v nw) {X : Nat → Prop} (hb : But X w w') (hX : ∀ x, X x → x < S ∨ w.heap.size ≤ x) : Vj S w' ai n ci zi j v nw :=
  h.imp id (fun ⟨l, G, cap, e, s, o⟩ => ⟨l, G, cap, e, s, o.keep (hb.block G o.lt (fun hx => by have := hX G hx; have := o.lt; omega))⟩)
theorem Gs.at0 {W0 w : World} {ai : Option Addr} {n ci : Nat} {zi mo : List Int} {k : Nat} (h : Gs W0 w ai n ci zi mo k) : ∀ b, ai = some b → ∃ g, b = ⟨g, 0, none⟩ ∧ Own w g n ci zi := fun b e => by
  obtain ⟨g, e, _, o⟩ := h.lst b e
  exact ⟨g, e, o.pre (by omega) (by rw [← h.len]; simp)⟩
theorem Gs.ownlt {W0 w : World} {ai : Option Addr} {n ci : Nat} {zi mo : List Int} {k : Nat} (h : Gs W0 w ai n ci zi mo k) : ∀ x, (Value.slice ai n ci).ownBlock = some x → x < W0.heap.size ∨ w.heap.size ≤ x := fun x e => by
  cases ai with
  | none => cases e
  | some b =>
    obtain ⟨g, rfl, l, _⟩ := h.lst b rfl
    cases e
    exact .inl l
/-- behind an append to the list itself -/
theorem Gs.app {W0 w w' : World} {ai : Option Addr} {n ci : Nat} {zi mo : List Int} (h : Gs W0 w ai n ci zi mo 0) {m g' cap' : Nat} {nw : List Int} (hA : AppR ai n ci m w g' cap' w') (hO : Own w' g' (n + m) cap' (zi ++ nw)) :
    Gs W0 w' ai n ci zi mo 0 ∧ Vj W0.heap.size w' ai n ci zi m (.slice (some ⟨g', 0, none⟩) (n + m) cap') nw ∧ But (fun x => (Value.slice ai n ci).ownBlock = some x) w w' := by
  rcases hA with ⟨h1, rfl, rfl, h2⟩ | ⟨h1, h2, h3⟩
  · have hb : But (fun x => (Value.slice (some ⟨g', 0, none⟩) n cap').ownBlock = some x) w w' := h2.mono (fun x _ e => by rw [e]; rfl)
    refine ⟨⟨h.but.trans hb, h.len, h.nil, h.cap, fun b e => ?_⟩, .inl ⟨h1, rfl⟩, hb⟩
    obtain ⟨g, e2, l, _⟩ := h.lst b e
    cases e
    cases e2
    exact ⟨g', rfl, l, by simpa using hO.pre (m := n) (by omega) (ys := zi) (by rw [← h.len]; simp)⟩
  · refine ⟨h.below h3, .inr ⟨h1, g', cap', rfl, Nat.le_trans h.but.size h2, hO⟩, But.of_below h3⟩
/-- the list that grows, as it stands behind k places -/
theorem Gs.now {W0 w : World} {ai : Option Addr} {n ci : Nat} {zi mo : List Int} {k S : Nat} {v : Value} (h : Gs W0 w ai n ci zi mo k) (hv : Vj S w ai n ci zi k v (mo.take k)) :
    ∃ a' c', v = .slice a' (n + k) c' ∧ (a' = none → n + k = 0 ∧ c' = 0) ∧ (∀ b, a' = some b → ∃ g, b = ⟨g, 0, none⟩ ∧ Own w g (n + k) c' (zi ++ mo.take k)) ∧ ((n + k ≤ ci ∧ a' = ai ∧ c' = ci) ∨ (ci < n + k ∧ ∃ G, a' = some ⟨G, 0, none⟩ ∧ S ≤ G ∧ G < w.heap.size)) := by
  rcases hv with ⟨h1, rfl⟩ | ⟨h1, G, cap, rfl, h2, h3⟩
  · refine ⟨ai, ci, rfl, fun e => ?_, fun b e => ?_, .inl ⟨h1, rfl, rfl⟩⟩
    · obtain ⟨a1, a2⟩ := h.nil e
      omega
    · obtain ⟨g, e, _, o⟩ := h.lst b e
      rw [Nat.min_eq_left (by omega)] at o
      exact ⟨g, e, o⟩
  · exact ⟨_, cap, rfl, (fun e => by cases e), fun b e => by cases e; exact ⟨G, rfl, h3⟩, .inr ⟨h1, G, rfl, h2, h3.lt⟩⟩
theorem Gs.step {W0 w w' : World} {ai : Option Addr} {n ci : Nat} {zi mo : List Int} {k S : Nat} (h : Gs W0 w ai n ci zi mo k) (hS0 : W0.heap.size ≤ S) (hS1 : S ≤ w.heap.size) {a' : Option Addr} {c' g' cap' : Nat} {x : Int} (hc : (n + k ≤ ci ∧ a' = ai ∧ c' = ci) ∨ (ci < n + k ∧ ∃ G, a' = some ⟨G, 0, none⟩ ∧ S ≤ G ∧ G < w.heap.size)) (hA : AppR a' (n + k) c' 1 w g' cap' w') (hO : Own w' g' (n + k + 1) cap' ((zi ++ mo.take k) ++ [x])) (hx : mo.take (k + 1) = mo.take k ++ [x]) :
    Gs W0 w' ai n ci zi mo (k + 1) ∧ Vj S w' ai n ci zi (k + 1) (.slice (some ⟨g', 0, none⟩) (n + k + 1) cap') (mo.take (k + 1)) ∧ But (fun x => (Value.slice ai n ci).ownBlock = some x ∨ S ≤ x) w w' := by
  rw [List.append_assoc, ← hx] at hO
  have hs := h.but.size
  have stay : ∀ w', But (fun x => W0.heap.size ≤ x) w w' → ci ≤ n + k → Gs W0 w' ai n ci zi mo (k + 1) := fun w' hb hle => by
    refine ⟨⟨hb.os.trans h.but.os, hb.tape.trans h.but.tape, hb.output.trans h.but.output, Nat.le_trans hs hb.size, fun y hy hn => (hb.block y (by omega) (by omega)).trans (h.but.block y hy hn)⟩, h.len, h.nil, h.cap, fun b e => ?_⟩
    obtain ⟨g, e, l, o⟩ := h.lst b e
    rw [Nat.min_eq_right (by omega)] at o
    rw [Nat.min_eq_right (by omega)]
    exact ⟨g, e, l, o.keep (hb.block g o.lt (by omega))⟩
  rcases hA with ⟨h1, e1, e2, h2⟩ | ⟨h1, h2, h3⟩
  · rcases hc with ⟨h4, e4, e5⟩ | ⟨h4, G, e4, h5, h6⟩
    · rw [e4] at e1
      subst e5
      subst e2
      have hb : But (fun x => (Value.slice ai n cap').ownBlock = some x) w w' := h2.mono (fun x _ e => by rw [e, e1]; rfl)
      refine ⟨⟨h.but.trans hb, h.len, h.nil, h.cap, fun b e => ?_⟩, .inl ⟨by omega, by rw [e1]; rfl⟩, hb.mono (fun x _ q => .inl q)⟩
      obtain ⟨g, e3, l, _⟩ := h.lst b e
      rw [e1] at e
      cases e
      cases e3
      rw [Nat.min_eq_left (by omega)]
      exact ⟨g', rfl, l, hO⟩
    · rw [e4] at e1
      cases e1
      exact ⟨stay w' (h2.mono (fun x _ e => by rw [e]; exact Nat.le_trans hS0 h5)) (by omega), .inr ⟨by omega, g', cap', rfl, h5, hO⟩, h2.mono (fun x _ e => .inr (by rw [e]; exact h5))⟩
  · have hle : ci ≤ n + k := by
      rcases hc with ⟨h4, e4, e5⟩ | ⟨h4, _⟩
      · omega
      · omega
    exact ⟨stay w' (But.of_below h3) hle, .inr ⟨by omega, g', cap', rfl, Nat.le_trans hS1 h2, hO⟩, But.of_below h3⟩
/-- what a grown list holds in the end -/
theorem Vj.sl {W0 w : World} {ai : Option Addr} {n ci : Nat} {zi mo : List Int} {T j S : Nat} {v : Value} {nw : List Int} (h : Gs W0 w ai n ci zi mo T) (hv : Vj S w ai n ci zi j v nw) (hS : W0.heap.size ≤ S) (hj : j ≤ T) (hT : T ≤ mo.length) (hl : nw.length = j) (hz : Pl.isB zi) (hm : Pl.isB mo) (hw : Pl.isB nw) {R : Nat → Prop} (h1 : ∀ x, (Value.slice ai n ci).ownBlock = some x → R x) (h2 : ∀ x, W0.heap.size ≤ x → T5 w x → R x) :
    ∃ z, z.length = n + j ∧ Sl R w v z ∧ (nw = mo.take j → z = zi ++ nw) := by
  rcases hv with ⟨a1, rfl⟩ | ⟨a1, G, cap, rfl, a2, a3⟩
  · have hlz : (zi ++ mo.take j).length = n + j := by simp [h.len]; omega
    have hbz : Pl.isB (zi ++ mo.take j) := fun z hzz => by
      rcases List.mem_append.1 hzz with q | q
      · exact hz z q
      · exact hm z (List.mem_of_mem_take q)
    refine ⟨zi ++ mo.take j, hlz, ?_, fun e => by rw [e]⟩
    cases ai with
    | none =>
      obtain ⟨rfl, rfl⟩ := h.nil rfl
      obtain rfl : j = 0 := by omega
      have e0 : zi ++ mo.take 0 = [] := List.length_eq_zero_iff.1 hlz
      rw [e0]
      exact ⟨Pl.isB_nil, none, 0, rfl, fun _ => rfl, .inl rfl⟩
    | some b =>
      obtain ⟨g, rfl, _, o⟩ := h.lst b rfl
      have hjm : j ≤ min T (ci - n) := by omega
      refine Sl.of_own (o.pre (m := n + j) (by omega) ?_) hbz (h1 g rfl)
      rw [List.take_append, h.len, List.take_of_length_le (by have := h.len; omega), Nat.add_sub_cancel_left, List.take_take, Nat.min_eq_left hjm]
  · refine ⟨zi ++ nw, by simp [h.len, hl], Sl.of_own a3 (fun z hzz => (List.mem_append.1 hzz).elim (hz z) (hw z)) (h2 G (Nat.le_trans hS a2) a3.t5), fun _ => rfl⟩

end Go.Proofs.Yteokekllbpkemaa
