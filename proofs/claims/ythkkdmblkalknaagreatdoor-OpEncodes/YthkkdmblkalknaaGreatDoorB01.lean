import Derived.Test.YthkkdmblkalknaaGreatDoorB00
import Derived.Test.YthkkdmblkalknaaGreatDoorA13
/-
  Operations that are read outside of a set of blocks; the tray.
-/
namespace Go.Proofs.YthkkdmblkalknaaGreatDoor
open Go.RowKit

def OpN (X : Nat → Prop) (w : World) (b off : Nat) (o : PO) : Prop := ∃ a c, OpC w b off o a c ∧ RdN X w a o.da.length o.da ∧ (a = none → c = 0)
/-- operations that are read, in blocks outside of X -/
def RdON (X : Nat → Prop) (w : World) (x : Option Addr) (os : List PO) : Prop :=
  (∀ o ∈ os, okO o) ∧ (os = [] ∨ ∃ b off, x = some ⟨b, off, none⟩ ∧ b < w.heap.size ∧ ¬ X b ∧ ∀ t (h : t < os.length), OpN X w b (off + t * 6) os[t])
theorem RdON.rd {X : Nat → Prop} {w : World} {x : Option Addr} {os : List PO} (h : RdON X w x os) : RdO w.heap.size w x os := by
  refine ⟨h.1, ?_⟩
  rcases h.2 with e | ⟨b, off, rfl, hl, _, hc⟩
  · exact .inl e
  · exact .inr ⟨b, off, rfl, hl, fun t ht => by obtain ⟨a, c, h1, h2, h3⟩ := hc t ht; exact ⟨a, c, h1, h2.rd, h3⟩⟩
theorem RdON.but {X : Nat → Prop} {w w' : World} {x : Option Addr} {os : List PO} (h : RdON X w x os) (hb : But X w w') : RdON X w' x os := by
  refine ⟨h.1, ?_⟩
  rcases h.2 with e | ⟨b, off, rfl, hl, hx, hc⟩
  · exact .inl e
  · exact .inr ⟨b, off, rfl, Nat.lt_of_lt_of_le hl hb.size, hx, fun t ht => by obtain ⟨a, c, h1, h2, h3⟩ := hc t ht; exact ⟨a, c, h1.keep (hb.block b hl hx), h2.but hb, h3⟩⟩
theorem RdON.mono {X Y : Nat → Prop} {w : World} {x : Option Addr} {os : List PO} (h : RdON X w x os) (hX : ∀ k, k < w.heap.size → Y k → X k) : RdON Y w x os := by
  refine ⟨h.1, ?_⟩
  rcases h.2 with e | ⟨b, off, rfl, hl, hx, hc⟩
  · exact .inl e
  · exact .inr ⟨b, off, rfl, hl, fun hy => hx (hX b hl hy), fun t ht => by obtain ⟨a, c, h1, h2, h3⟩ := hc t ht; exact ⟨a, c, h1, h2.mono hX, h3⟩⟩
theorem RdON.of_rd {B : Nat} {X : Nat → Prop} {w : World} {x : Option Addr} {os : List PO} (h : RdO B w x os) (hB : B ≤ w.heap.size) (hX : ∀ k, k < B → ¬ X k) : RdON X w x os := by
  refine ⟨h.1, ?_⟩
  rcases h.2 with e | ⟨b, off, rfl, hl, hc⟩
  · exact .inl e
  · exact .inr ⟨b, off, rfl, by omega, hX b hl, fun t ht => by obtain ⟨a, c, h1, h2, h3⟩ := hc t ht; exact ⟨a, c, h1, RdN.of_rd h2 hB hX, h3⟩⟩
/-- operations of one's own, as they are read -/
theorem OwL.rdn {B : Nat} {X : Nat → Prop} {w : World} {v : Value} {os : List PO} {vs : List Value} (h : OwL B w v os vs) (hok : ∀ o ∈ os, okO o) (hb : ∀ o ∈ os, Pl.isB o.da) (hX : ∀ k, B ≤ k → k < w.heap.size → ¬ X k) :
    ∃ a c, v = .slice a os.length c ∧ os.length ≤ c ∧ RdON X w a os ∧ (a = none → c = 0) := by
  have hlen := h.len
  rcases h.row.2 with ⟨e, q⟩ | ⟨g, cap, cur, e, hbg, hh, r1, r2, r3⟩
  · have : os = [] := List.eq_nil_of_length_eq_zero q
    subst this
    exact ⟨none, 0, by simpa using e, Nat.le_refl _, ⟨hok, .inl rfl⟩, fun _ => rfl⟩
  · subst e
    have hg := own_blk h.row (g := g) rfl
    refine ⟨some ⟨g, 0, none⟩, cap, rfl, r1, ⟨hok, ?_⟩, fun e => by cases e⟩
    refine .inr ⟨g, 0, rfl, hg.2.1, hX g hg.1 hg.2.1, fun t ht => ?_⟩
    have hd := h.dat t ht
    obtain ⟨a, c, hv⟩ := hd.form
    have hdb := hd.base
    have hdl := hd.lt
    rw [hv] at hd hdb hdl
    obtain ⟨a', c', hv', _, hR, hn⟩ := hd.rd (hb _ (List.getElem_mem ht))
    simp only [Value.slice.injEq] at hv'
    obtain ⟨rfl, _, rfl⟩ := hv'
    refine ⟨a, c, ?_, ?_, hn⟩
    · rw [Nat.zero_add]
      exact ⟨h.at t ht 0 (by omega) _ (by simp [cells6]), h.at t ht 1 (by omega) _ (by simp [cells6]), h.at t ht 2 (by omega) _ (by simp [cells6]), h.at t ht 3 (by omega) _ (by simp [cells6]), h.at t ht 4 (by omega) _ (by simp [cells6]), h.at t ht 5 (by omega) _ (by simp [cells6, hv])⟩
    · refine ⟨hR.1, hR.2.1, ?_⟩
      rcases hd.2 with ⟨e, q⟩ | ⟨g2, cap2, cur2, e, _, _⟩
      · exact .inl (by simpa using q)
      · cases e
        rcases hR.2.2 with q | ⟨b, off, e, hbl, hc⟩
        · exact .inl q
        · cases e
          exact .inr ⟨g2, 0, rfl, hdl g2 rfl, hX g2 (hdb g2 rfl) (hdl g2 rfl), hc⟩

/-! ### rows of operations -/
def isSl (v : Value) : Prop := ∃ a n c, v = .slice a n c
theorem flatO_one : ∀ (os : List PO) (vs : List Value), (∀ v ∈ vs, isSl v) → ∀ u ∈ flatO os vs, u.oneCell' = true
  | [], _, _, u, hu => by simp [flatO] at hu
  | _ :: _, [], _, u, hu => by simp [flatO] at hu
  | o :: os, v :: vs, h, u, hu => by
    simp only [flatO, List.mem_append] at hu
    rcases hu with hu | hu
    · obtain ⟨a, n, c, e⟩ := h v (by simp)
      subst e
      simp only [cells6, List.mem_cons, List.not_mem_nil, or_false] at hu
      rcases hu with rfl | rfl | rfl | rfl | rfl | rfl <;> rfl
    · exact flatO_one os vs (fun v hv => h v (by simp [hv])) u hu
/-- the cells that are read, in a row -/
theorem rd_vals {X : Nat → Prop} {w : World} {b : Nat} : ∀ (os : List PO) (off : Nat), (∀ t (h : t < os.length), OpN X w b (off + t * 6) os[t]) →
    ∃ vs : List Value, vs.length = os.length ∧ (∀ v ∈ vs, isSl v) ∧ ∀ j u, (flatO os vs)[j]? = some u → w.cell? ⟨b, off + j, none⟩ = some u
  | [], off, _ => ⟨[], rfl, fun v hv => (by cases hv), fun j u h => by simp [flatO] at h⟩
  | o :: os, off, h => by
    obtain ⟨vs, h1, h2, h3⟩ := rd_vals os (off + 6) (fun t ht => by
      have := h (t + 1) (by simpa using ht)
      rw [show off + (t + 1) * 6 = off + 6 + t * 6 by omega] at this
      exact this)
    obtain ⟨a, c, hc, _, _⟩ := h 0 (by simp)
    refine ⟨.slice a o.da.length c :: vs, by simp [h1], fun v hv => ?_, fun j u hu => ?_⟩
    · rcases List.mem_cons.1 hv with rfl | hv
      · exact ⟨_, _, _, rfl⟩
      · exact h2 v hv
    · simp only [flatO] at hu
      by_cases hj : j < 6
      · rw [List.getElem?_append_left (by simpa [cells6] using hj)] at hu
        simp only [Nat.zero_mul, Nat.add_zero, List.getElem_cons_zero] at hc
        have hj' : j = 0 ∨ j = 1 ∨ j = 2 ∨ j = 3 ∨ j = 4 ∨ j = 5 := by omega
        rcases hj' with rfl | rfl | rfl | rfl | rfl | rfl <;> simp [cells6] at hu <;> subst hu
        · exact hc.o0
        · exact hc.o1
        · exact hc.o2
        · exact hc.o3
        · exact hc.o4
        · exact hc.o5
      · rw [List.getElem?_append_right (by simp [cells6]; omega)] at hu
        have := h3 (j - 6) u (by simpa [cells6] using hu)
        rw [show off + 6 + (j - 6) = off + j by omega] at this
        exact this
/-- all operations of a list are appended to a row -/
theorem app_ops {X : Nat → Prop} {B : Nat} {w : World} {v : Value} {x : Option Addr} {c : Nat} {os : List PO} (h0 : w.ownsRow B 29 6 v 0 []) (hR : RdON X w x os) (hx : x = none → c = 0) (hl : os.length ≤ 16777216) (hw : B ≤ w.heap.size) :
    ∃ v' w' vs, (Builtin.append_ #[22, 22] 22 #[v, .slice x os.length c]).run Tryz.prog w = .ok v' w' ∧ w'.ownsRow B 29 6 v' os.length (flatO os vs) ∧ vs.length = os.length ∧ (∀ u ∈ vs, isSl u) ∧ Gr w w' v v' := by
  obtain ⟨i0, hi, hz0, hz1, hz2⟩ := info_parts info29
  have key : ∀ (ad : Addr) (vs : List Value), vs.length = os.length → (∀ v ∈ vs, isSl v) → (∀ j u, (flatO os vs)[j]? = some u → w.cell? (ad.add j) = some u) →
      ∃ v' w' vs, (Builtin.append_ #[22, 22] 22 #[v, .slice (some ad) os.length c]).run Tryz.prog w = .ok v' w' ∧ w'.ownsRow B 29 6 v' os.length (flatO os vs) ∧ vs.length = os.length ∧ (∀ u ∈ vs, isSl u) ∧ Gr w w' v v' := by
    intro ad vs e1 e2 e3
    obtain ⟨v', w', hr, h2, h3, _, h5⟩ := run_append_own_at (P := Tryz.prog) w B 22 22 29 i0 _ 6 80 Tryz.underlying22 hi hz0 hz1 hz2 rfl (by decide) v 0 [] h0 ad os.length c (flatO os vs) (flatO_len os vs e1) e3 (flatO_one os vs e2) (by unfold maxLen; omega) (by omega) hw
    rw [Nat.zero_add, List.nil_append] at h2
    exact ⟨v', w', vs, hr, h2, e1, e2, ⟨h3.os, h3.tape, h3.output, h3.size, h3.block, h5.elim .inl fun e => .inr ⟨_, e, Nat.le_refl _⟩⟩⟩
  rcases hR.2 with e | ⟨b, off, rfl, _, _, hc⟩
  · subst e
    cases x with
    | none =>
      rw [hx rfl]
      exact ⟨v, w, [], run_append_owned_none w B 22 22 29 i0 6 Tryz.underlying22 hi _ _ _ h0, h0, rfl, fun u hu => (by cases hu), Gr.refl _ _⟩
    | some ad => exact key ad [] rfl (fun u hu => (by cases hu)) (fun j u hu => by simp [flatO] at hu)
  · obtain ⟨vs, e1, e2, e3⟩ := rd_vals os off hc
    exact key _ vs e1 e2 (fun j u hu => by rw [Addr.add_lit]; exact e3 j u hu)
/-- one more -/
theorem app_op1 {B : Nat} {w : World} {v : Value} {n : Nat} {xs : List Value} (h : w.ownsRow B 29 6 v n xs) (o : PO) (a : Option Addr) (m c : Nat) {g : Nat} (hg : w.heap[g]? = some (.cells (cells6 o (.slice a m c)).toArray 29 (0, 0))) (hl : n ≤ 268435456) (hw : B ≤ w.heap.size) :
    ∃ v' w', (Builtin.append_ #[22, 22] 22 #[v, .slice (some ⟨g, 0, none⟩) 1 1]).run Tryz.prog w = .ok v' w' ∧ w'.ownsRow B 29 6 v' (n + 1) (xs ++ cells6 o (.slice a m c)) ∧ Gr w w' v v' := by
  obtain ⟨i0, hi, hz0, hz1, hz2⟩ := info_parts info29
  obtain ⟨v', w', hr, h2, h3, _, h5⟩ := run_append_own_at (P := Tryz.prog) w B 22 22 29 i0 _ 6 80 Tryz.underlying22 hi hz0 hz1 hz2 rfl (by decide) v n xs h ⟨g, 0, none⟩ 1 1 (cells6 o (.slice a m c)) rfl (fun j u hu => by
    rw [Addr.add_lit, Nat.zero_add]
    simp only [World.cell?, hg]
    simpa using hu) (fun u hu => by simp only [cells6, List.mem_cons, List.not_mem_nil, or_false] at hu; rcases hu with rfl | rfl | rfl | rfl | rfl | rfl <;> rfl) (by unfold maxLen; omega) (by omega) hw
  exact ⟨v', w', hr, h2, ⟨h3.os, h3.tape, h3.output, h3.size, h3.block, h5.elim .inl fun e => .inr ⟨_, e, Nat.le_refl _⟩⟩⟩
/-- the operations behind a list -/
def bh (i : Nat) : PO := ⟨-71 - (i : Int), cE, cE, 0, 0, []⟩
def bhs (n : Nat) : List Value := (List.range n).flatMap fun i => cells6 (bh i) (.slice none 0 0)
theorem bhs_succ (n : Nat) : bhs (n + 1) = bhs n ++ cells6 (bh n) (.slice none 0 0) := by simp [bhs, List.range_succ]
theorem bhs_len (n : Nat) : (bhs n).length = 6 * n := by
  induction n with
  | zero => rfl
  | succ n ih => rw [bhs_succ, List.length_append, ih]; simp [cells6]; omega
theorem bhs_at (n i : Nat) (hi : i < n) (k : Nat) (hk : k < 6) : (bhs n)[6 * i + k]? = (cells6 (bh i) (.slice none 0 0))[k]? := by
  induction n with
  | zero => omega
  | succ n ih =>
    rw [bhs_succ]
    by_cases h : i < n
    · rw [List.getElem?_append_left (by rw [bhs_len]; omega)]
      exact ih h
    · have e : i = n := by omega
      subst e
      rw [List.getElem?_append_right (by rw [bhs_len]; omega), bhs_len, show 6 * i + k - 6 * i = k by omega]
theorem bhs_one (n : Nat) : ∀ u ∈ bhs n, u.oneCell' = true := by
  intro u hu
  simp only [bhs, List.mem_flatMap] at hu
  obtain ⟨i, _, hu⟩ := hu
  simp only [cells6, List.mem_cons, List.not_mem_nil, or_false] at hu
  rcases hu with rfl | rfl | rfl | rfl | rfl | rfl <;> rfl

/-! ### the tray -/
/-- a tray in block T; κ: which block is whose; ls: the lenders and their buffers -/
structure TS (w : World) (T : Nat) (κ : Nat → Nat) (lv dv : Value) (ls : List (Nat × Value)) : Prop where
  blk : w.heap[T]? = some (.cells #[lv, dv] 48 (0, 0))
  kT : κ T = 1
  cut : ∀ x, w.heap.size ≤ x → κ x = 0
  lst : lv = .slice none 0 0 ∨ ∃ G M cs, lv = .slice (some ⟨G, 0, none⟩) M M ∧ κ G = 2 ∧ w.heap[G]? = some (.cells cs 29 (0, 0)) ∧ cs.size = 6 * M ∧ M ≤ 134217728
  dat : w.ownsRow 0 69 1 dv ls.length (ls.map fun p => .pointer (some ⟨p.1, 0, none⟩))
  dk : ∀ g, dv.ownBlock = some g → κ g = 3
  ten : ∀ i (h : i < ls.length), κ ls[i].1 = 10 + 2 * i ∧ LS w ls[i].1 ls[i].2 ∧ ∀ g, ls[i].2.ownBlock = some g → κ g = 11 + 2 * i
theorem TS.lt {w : World} {T : Nat} {κ : Nat → Nat} {lv dv : Value} {ls : List (Nat × Value)} (h : TS w T κ lv dv ls) : T < w.heap.size := (Array.getElem?_eq_some_iff.1 h.blk).1
/-- what no tray's block is written by leaves it as it is -/
theorem TS.keep {w w' : World} {T : Nat} {κ : Nat → Nat} {lv dv : Value} {ls : List (Nat × Value)} (h : TS w T κ lv dv ls) {X : Nat → Prop} (hb : But X w w') (hX : ∀ x, κ x ≠ 0 → ¬ X x) : TS w' T κ lv dv ls where
  blk := (hb.block T h.lt (hX T (by rw [h.kT]; omega))).trans h.blk
  kT := h.kT
  cut x hx := h.cut x (Nat.le_trans hb.size hx)
  lst := by
    rcases h.lst with e | ⟨G, M, cs, h1, h2, h3, h4⟩
    · exact .inl e
    · exact .inr ⟨G, M, cs, h1, h2, (hb.block G (Array.getElem?_eq_some_iff.1 h3).1 (hX G (by omega))).trans h3, h4⟩
  dat := own_keep h.dat fun g hg => hb.block g (own_blk h.dat hg).2.1 (hX g (by rw [h.dk g hg]; omega))
  dk := h.dk
  ten i hi := by
    obtain ⟨h1, h2, h3⟩ := h.ten i hi
    refine ⟨h1, h2.but hb (fun x hx => hX x ?_), h3⟩
    rcases hx with rfl | hx
    · omega
    · rw [h3 x hx]; omega
theorem LS.of_lent {w : World} {L G M n : Nat} {zs : List Int} (h : Lent w L G M n zs) : LS w L (.slice (some ⟨G, 0, none⟩) M M) := by
  obtain ⟨ys, h1, h2, _⟩ := h.buf
  exact ⟨⟨_, h.num⟩, .inr ⟨G, M, ys, rfl, h.ne, h1, h2, h.small⟩⟩

end Go.Proofs.YthkkdmblkalknaaGreatDoor
/-
  The tray while a list is lent: its steps in plain words.
-/
namespace Go.Proofs.YthkkdmblkalknaaGreatDoor
open Go.RowKit

/-- what is lent of an operation's data -/
def Lt (w : World) (p : Nat × Value) (o : PO) (v : Value) : Prop := ∃ G M, p.2 = .slice (some ⟨G, 0, none⟩) M M ∧ Lent w p.1 G M o.da.length o.da ∧ v = .slice (some ⟨G, 0, none⟩) o.da.length (2 * o.da.length + 70)
theorem Lt.keep {X : Nat → Prop} {w w' : World} {p : Nat × Value} {o : PO} {v : Value} (h : Lt w p o v) (hb : But X w w') (h1 : ¬ X p.1) (h2 : ∀ g, p.2.ownBlock = some g → ¬ X g) : Lt w' p o v := by
  obtain ⟨G, M, e, hL, hv⟩ := h
  exact ⟨G, M, e, hL.but hb h1 (h2 G (by rw [e]; rfl)), hv⟩
theorem flatO_setv : ∀ (os : List PO) (vs : List Value), vs.length = os.length → ∀ (t : Nat), t < os.length → ∀ (u : Value), flatO os (vs.set t u) = (flatO os vs).set (t * 6 + 5) u
  | [], _, _, t, ht, _ => by simp at ht
  | _ :: _, [], h, _, _, _ => by simp at h
  | p :: os, x :: vs, h, 0, _, u => by
    simp [flatO, cells6]
  | p :: os, x :: vs, h, t + 1, ht, u => by
    have ih := flatO_setv os vs (by simpa using h) t (by simpa using ht) u
    simp only [List.set_cons_succ, flatO, ih]
    rw [List.set_append_right _ _ (by simp [cells6]; omega), show (t + 1) * 6 + 5 - (cells6 p x).length = t * 6 + 5 by simp [cells6]; omega]

/-- within the first loop -/
structure L1 (w0 : World) (κ0 : Nat → Nat) (T : Nat) (os : List PO) (lv fv : Value) (wr : World) (r : Nat) (dv : Value) (κ : Nat → Nat) (ls : List (Nat × Value)) (vs : List Value) : Prop where
  ts : TS wr T κ lv dv ls
  ext : ∀ x, x < w0.heap.size → κ x = κ0 x
  but : But (fun x => κ0 x ≠ 0) w0 wr
  row : wr.ownsRow w0.heap.size 29 6 fv os.length (flatO os vs)
  fk : ∀ g, fv.ownBlock = some g → κ g = 0
  vl : vs.length = os.length
  sl : ∀ u ∈ vs, isSl u
  rl : r ≤ ls.length
  ro : r ≤ os.length
  lt : ∀ i (h : i < r), Lt wr (ls[i]'(by omega)) (os[i]'(by omega)) (vs[i]'(by omega))
theorem but_of_gr {w w' : World} {v v' : Value} (h : Gr w w' v v') : But (fun x => v.ownBlock = some x) w w' := ⟨h.os, h.tape, h.output, h.size, fun k hk hn => h.block k hk (fun e => hn e.symm)⟩
theorem L1.drew {w0 : World} {κ0 : Nat → Nat} {T : Nat} {os : List PO} {lv fv : Value} {wr : World} {r : Nat} {dv : Value} {κ : Nat → Nat} {ls : List (Nat × Value)} {vs : List Value} (h : L1 w0 κ0 T os lv fv wr r dv κ ls vs) : L1 w0 κ0 T os lv fv wr.drew r dv κ ls vs :=
  ⟨h.ts.keep (X := fun _ => False) ((But.refl _ _).drew) (fun _ _ h => h), h.ext, h.but.drew, own_keep h.row fun _ _ => rfl, h.fk, h.vl, h.sl, h.rl, h.ro, fun i hi => (h.lt i hi).keep (X := fun _ => False) ((But.refl _ _).drew) (fun h => h) (fun _ _ h => h)⟩
/-- at its start -/
theorem L1.start {X : Nat → Prop} {w w' : World} {κ : Nat → Nat} {T : Nat} {lv dv v fv : Value} {ls : List (Nat × Value)} {os : List PO} {vs : List Value} (h : TS w T κ lv dv ls) (hv : ∀ g, v.ownBlock = some g → w.heap.size ≤ g) {w1 : World} (h1 : But X w w1) (hX : ∀ x, ¬ X x) (hg : Gr w1 w' v fv) (hr : w'.ownsRow w.heap.size 29 6 fv os.length (flatO os vs)) (hl : vs.length = os.length) (hs : ∀ u ∈ vs, isSl u) : L1 w κ T os lv fv w' 0 dv κ ls vs := by
  have hb : But (fun x => w.heap.size ≤ x) w w' := (h1.mono (fun k _ hx => absurd hx (hX k))).comp (but_of_gr hg) (fun x hx e => hv x e)
  refine ⟨h.keep hb (fun x hx hle => hx (h.cut x hle)), fun _ _ => rfl, hb.mono (fun k hk hle => by omega), hr, fun g hg' => h.cut g (own_blk hr hg').1, hl, hs, Nat.zero_le _, Nat.zero_le _, fun i hi => by omega⟩

theorem info69 : (Tryz.prog.info? 69).map (fun i => (i.zero, i.size, i.bytes)) = some (some (.pointer none), 1, 8) := by kernel_rfl
theorem app_ptr {w : World} {v : Value} {n : Nat} {xs : List Value} (h : w.ownsRow 0 69 1 v n xs) (L : Nat) {g : Nat} (hg : w.heap[g]? = some (.cells #[.pointer (some ⟨L, 0, none⟩)] 69 (0, 0))) (hl : n ≤ 268435456) :
    ∃ v' w', (Builtin.append_ #[46, 46] 46 #[v, .slice (some ⟨g, 0, none⟩) 1 1]).run Tryz.prog w = .ok v' w' ∧ w'.ownsRow 0 69 1 v' (n + 1) (xs ++ [.pointer (some ⟨L, 0, none⟩)]) ∧ Gr w w' v v' := by
  obtain ⟨i0, hi, hz0, hz1, hz2⟩ := info_parts info69
  obtain ⟨v', w', hr, h2, h3, _, h5⟩ := run_append_own_at (P := Tryz.prog) w 0 46 46 69 i0 _ 1 8 Tryz.underlying46 hi hz0 hz1 hz2 rfl (by decide) v n xs h ⟨g, 0, none⟩ 1 1 [.pointer (some ⟨L, 0, none⟩)] rfl (fun j u hu => by
    rw [Addr.add_lit, Nat.zero_add]
    simp only [World.cell?, hg]
    simpa using hu) (fun u hu => by simp only [List.mem_cons, List.not_mem_nil, or_false] at hu; subst hu; rfl) (by unfold maxLen; omega) (by omega) (Nat.zero_le _)
  exact ⟨v', w', hr, h2, ⟨h3.os, h3.tape, h3.output, h3.size, h3.block, h5.elim .inl fun e => .inr ⟨_, e, Nat.le_refl _⟩⟩⟩
/-- one lender more -/
theorem L1.grow {w0 : World} {κ0 : Nat → Nat} {T : Nat} {os : List PO} {lv fv : Value} {wr : World} {r : Nat} {dv : Value} {κ : Nat → Nat} {ls : List (Nat × Value)} {vs : List Value} (h : L1 w0 κ0 T os lv fv wr r dv κ ls vs) (hr : ls.length = r) (hbig : os.length ≤ 16777216) :
    ∃ dv' w3 κ', (Builtin.append_ #[46, 46] 46 #[dv, .slice (some ⟨wr.heap.size + 1, 0, none⟩) 1 1]).run Tryz.prog ((wr.alloc (.cells #[.slice none 0 0, .int .i64 0] 71)).alloc (.cells #[.pointer (some ⟨wr.heap.size, 0, none⟩)] 69)) = .ok dv' w3 ∧
      (w3.cell? ⟨T, 1, none⟩ = some dv ∧ w3.frozen? ⟨T, 1, none⟩ = false) ∧ L1 w0 κ0 T os lv fv (w3.setCell ⟨T, 1, none⟩ dv') r dv' κ' (ls ++ [(wr.heap.size, .slice none 0 0)]) vs := by
  obtain ⟨W1, hW1⟩ : ∃ W1, W1 = wr.alloc (.cells #[.slice none 0 0, .int .i64 0] 71) := ⟨_, rfl⟩
  obtain ⟨W2, hW2⟩ : ∃ W2, W2 = W1.alloc (.cells #[.pointer (some ⟨wr.heap.size, 0, none⟩)] 69) := ⟨_, rfl⟩
  have z1 : W1.heap.size = wr.heap.size + 1 := by rw [hW1]; simp
  have z2 : W2.heap.size = wr.heap.size + 2 := by rw [hW2]; simp [z1]
  have b2 : But (fun _ => False) wr W2 := by rw [hW2, hW1]; exact ((But.refl _ _).alloc _).alloc _
  have n2 : W2.heap[wr.heap.size + 1]? = some (.cells #[.pointer (some ⟨wr.heap.size, 0, none⟩)] 69 (0, 0)) := by rw [hW2, ← z1]; exact heap_new _ _
  have n1 : W2.heap[wr.heap.size]? = some (.cells #[.slice none 0 0, .int .i64 0] 71 (0, 0)) := by
    rw [hW2, Below.heap_alloc _ _ _ (by rw [z1]; omega), hW1]
    exact heap_new _ _
  have hts := h.ts
  obtain ⟨dv', w3, hrun, hrow, hg⟩ := app_ptr (own_keep hts.dat fun g hg => b2.block g (own_blk hts.dat hg).2.1 (fun h => h)) wr.heap.size n2 (by have := h.ro; omega)
  rw [← hW1, ← hW2]
  have b3 : But (fun x => dv.ownBlock = some x) W2 w3 := but_of_gr hg
  have hT := hts.lt
  have nT : dv.ownBlock ≠ some T := fun e => by have := hts.dk T e; rw [hts.kT] at this; omega
  have hown : ∀ x, dv'.ownBlock = some x → (dv.ownBlock = some x ∨ wr.heap.size + 2 ≤ x) := by
    intro x hx
    rcases hg.own with e | ⟨g, e, hge⟩
    · exact .inl (by rw [← e]; exact hx)
    · rw [hx] at e
      simp at e
      exact .inr (by omega)
  have b4 : But (fun x => κ x ≠ 0) wr w3 := (b2.mono (fun _ _ h => h.elim)).comp b3 (fun x _ e => by rw [hts.dk x e]; omega)
  have tb : w3.heap[T]? = some (.cells #[lv, dv] 48 (0, 0)) := ((b3.block T (by rw [z2]; omega) nT).trans (b2.block T hT (fun h => h))).trans hts.blk
  refine ⟨dv', w3, fun x => if x = wr.heap.size then 10 + 2 * r else if dv'.ownBlock = some x then 3 else κ x, hrun, ⟨by simp [World.cell?, tb], by simp [World.frozen?, tb]⟩, ?_⟩
  have b5 : But (fun x => x = T) w3 (w3.setCell ⟨T, 1, none⟩ dv') := (But.refl (fun x => x = T) w3).setCell (p := ⟨T, 1, none⟩) rfl _
  have b6 : But (fun x => κ x ≠ 0) wr (w3.setCell ⟨T, 1, none⟩ dv') := b4.comp b5 (fun x _ e => by subst e; rw [hts.kT]; omega)
  have kold : ∀ x, κ x ≠ 0 → κ x ≠ 3 → (if x = wr.heap.size then 10 + 2 * r else if dv'.ownBlock = some x then 3 else κ x) = κ x := by
    intro x h0 h3
    have hlt : x < wr.heap.size := by
      refine Nat.lt_of_not_le fun hle => h0 (hts.cut x hle)
    rw [if_neg (by omega), if_neg (fun e => ?_)]
    rcases hown x e with e | e
    · exact h3 (hts.dk x e)
    · omega
  have kzero : ∀ x, x < wr.heap.size → κ x = 0 → (if x = wr.heap.size then 10 + 2 * r else if dv'.ownBlock = some x then 3 else κ x) = 0 := by
    intro x hx h0
    rw [if_neg (by omega), if_neg (fun e => ?_)]
    · exact h0
    · rcases hown x e with e | e
      · have := hts.dk x e; omega
      · omega
  have s5 := b5.size
  have s3 := hg.size
  have keepLt : ∀ (X : Nat → Prop) (i : Nat) (hi : i < ls.length), (∀ x, X x → κ x = 3 ∨ κ x = 1) → (¬ X ls[i].1) ∧ ∀ g, ls[i].2.ownBlock = some g → ¬ X g := by
    intro X i hi hX
    obtain ⟨q1, _, q3⟩ := hts.ten i hi
    exact ⟨fun hx => by rcases hX _ hx with e | e <;> omega, fun g hg hx => by have := q3 g hg; rcases hX _ hx with e | e <;> omega⟩
  have b7 : But (fun x => dv.ownBlock = some x ∨ x = T) wr (w3.setCell ⟨T, 1, none⟩ dv') := ((b2.mono (fun _ _ h => h.elim)).comp (b3.mono (Y := fun x => dv.ownBlock = some x ∨ x = T) (fun _ _ h => .inl h)) (fun x _ h => h)).comp b5 (fun x _ e => .inr e)
  have hX7 : ∀ x, (dv.ownBlock = some x ∨ x = T) → κ x = 3 ∨ κ x = 1 := fun x hx => hx.elim (fun e => .inl (hts.dk x e)) (fun e => .inr (by rw [e]; exact hts.kT))
  refine ⟨⟨?_, kold T (by rw [hts.kT]; omega) (by rw [hts.kT]; omega) |>.trans hts.kT, fun x hx => ?_, ?_, ?_, fun g hg' => ?_, fun i hi => ?_⟩, fun x hx => ?_, h.but.comp b6 (fun x hx hk => by rw [← h.ext x hx]; exact hk), own_keep h.row fun g hg' => ?_, fun g hg' => ?_, h.vl, h.sl, by simp; omega, h.ro, fun i hi => ?_⟩
  · simp only [World.setCell, Array.getElem?_modify, tb]
    simp
  · rw [if_neg (by omega), if_neg (fun e => by have := (own_blk hrow e).2.1; omega)]
    exact hts.cut x (by omega)
  · rcases hts.lst with e | ⟨G, M, cs, e1, e2, e3, e4⟩
    · exact .inl e
    · exact .inr ⟨G, M, cs, e1, (kold G (by omega) (by omega)).trans e2, (b7.block G (Array.getElem?_eq_some_iff.1 e3).1 (fun hx => by rcases hX7 G hx with e | e <;> omega)).trans e3, e4⟩
  · have := own_keep hrow (w' := w3.setCell ⟨T, 1, none⟩ dv') fun g hg' => b5.block g (own_blk hrow hg').2.1 (fun e => by
      rcases hown g hg' with e' | e'
      · exact nT (e ▸ e')
      · omega)
    rw [List.length_append, List.map_append]
    exact this
  · by_cases e : g = wr.heap.size
    · rcases hown g hg' with e' | e'
      · have := (own_blk hts.dat e').2.1; omega
      · omega
    · rw [if_neg e, if_pos hg']
  · by_cases hlt : i < ls.length
    · obtain ⟨q1, q2, q3⟩ := hts.ten i hlt
      simp only [List.getElem_append_left hlt]
      refine ⟨(kold _ (by omega) (by omega)).trans q1, q2.but b7 (fun x hx hX => ?_), fun g hg' => (kold g (by rw [q3 g hg']; omega) (by rw [q3 g hg']; omega)).trans (q3 g hg')⟩
      rcases hx with rfl | hx
      · rcases hX7 _ hX with e | e <;> omega
      · have := q3 x hx
        rcases hX7 _ hX with e | e <;> omega
    · have e : i = ls.length := by simp at hi; omega
      subst e
      simp only [List.getElem_append_right (Nat.le_refl _), Nat.sub_self, List.getElem_cons_zero]
      refine ⟨by simp [hr], ⟨⟨0, ?_⟩, .inl rfl⟩, fun g hg' => by cases hg'⟩
      unfold Lnd
      rw [b5.block _ (by omega) (by omega), b3.block _ (by omega) (fun e => by have := (own_blk hts.dat e).2.1; omega)]
      exact n1
  · rw [← h.ext x hx]
    have hle := h.but.size
    rw [if_neg (by omega)]
    by_cases e : dv'.ownBlock = some x
    · rw [if_pos e]
      rcases hown x e with e' | e'
      · exact (hts.dk x e').symm
      · omega
    · rw [if_neg e]
  · exact b6.block g (own_blk h.row hg').2.1 (fun hk => hk (h.fk g hg'))
  · exact kzero g (own_blk h.row hg').2.1 (h.fk g hg')
  · have hlt : i < ls.length := by omega
    simp only [List.getElem_append_left hlt]
    obtain ⟨q1, q2⟩ := keepLt _ i hlt hX7
    exact (h.lt i hi).keep b7 q1 q2

end Go.Proofs.YthkkdmblkalknaaGreatDoor
/-
  The tray: the data of one operation are lent.
-/
namespace Go.Proofs.YthkkdmblkalknaaGreatDoor
open Go.RowKit

theorem RdON.ext {κ0 κ : Nat → Nat} {w0 wr : World} {x : Option Addr} {os : List PO} (h : RdON (fun x => κ0 x ≠ 0) w0 x os) (hb : But (fun x => κ0 x ≠ 0) w0 wr) (he : ∀ x, x < w0.heap.size → κ x = κ0 x) : RdON (fun x => κ x ≠ 0) wr x os :=
  (h.mono (fun k hk hx => by rw [← he k hk]; exact hx)).but (hb.mono (fun k hk hx => by rw [he k hk]; exact hx))
theorem map_set_same (ls : List (Nat × Value)) (r : Nat) (hr : r < ls.length) : (ls.map fun p => Value.pointer (some ⟨p.1, 0, none⟩)).set r (.pointer (some ⟨ls[r].1, 0, none⟩)) = ls.map fun p => Value.pointer (some ⟨p.1, 0, none⟩) := by
  apply List.ext_getElem
  · simp
  · intro i h1 h2
    by_cases e : r = i
    · subst e; simp
    · simp [List.getElem_set_ne e]
/-- within the first loop: the call, and the store behind it -/
theorem L1.lend {w0 : World} {κ0 : Nat → Nat} {T : Nat} {os : List PO} {lv : Value} {fb cap : Nat} {wr : World} {r : Nat} {dv : Value} {κ : Nat → Nat} {ls : List (Nat × Value)} {vs : List Value} (h : L1 w0 κ0 T os lv (.slice (some ⟨fb, 0, none⟩) os.length cap) wr r dv κ ls vs) (hr : r < os.length) (hl : r < ls.length)
    (a : Option Addr) (c : Nat) (hR : RdN (fun x => κ x ≠ 0) wr a os[r].da.length os[r].da) (hn : os[r].da.length ≤ 16777216) :
    Calls Tryz.prog 60 #[.pointer (some ⟨ls[r].1, 0, none⟩), .slice a os[r].da.length c] wr fun e w2 => ∃ G, e = .returned (.slice (some ⟨G, 0, none⟩) os[r].da.length (2 * os[r].da.length + 70)) ∧
      (∃ u, w2.cell? ⟨fb, r * 6 + 5, none⟩ = some u) ∧ w2.frozen? ⟨fb, r * 6 + 5, none⟩ = false ∧
      ∃ κ' ls' vs', r < ls'.length ∧ L1 w0 κ0 T os lv (.slice (some ⟨fb, 0, none⟩) os.length cap) (w2.setCell ⟨fb, r * 6 + 5, none⟩ (.slice (some ⟨G, 0, none⟩) os[r].da.length (2 * os[r].da.length + 70))) (r + 1) dv κ' ls' vs' := by
  have hts := h.ts
  obtain ⟨t1, t2, t3⟩ := hts.ten r hl
  have hX : ∀ x, XL ls[r].1 ls[r].2 x → κ x = 10 + 2 * r ∨ κ x = 11 + 2 * r := fun x hx => hx.elim (fun e => .inl (by rw [e]; exact t1)) (fun e => .inr (t3 x e))
  refine (Lend_any ls[r].1 ls[r].2 a os[r].da.length c os[r].da wr hn t2 (hR.mono (fun k _ hk => by rcases hX k hk with e | e <;> omega))).mono ?_
  rintro e w2 ⟨G, M, rfl, hL, hG, hb⟩
  have hGlt : G < w2.heap.size := by obtain ⟨ys, hB, _⟩ := hL.buf; exact hB.lt
  have hGk : κ G = 11 + 2 * r ∨ (wr.heap.size ≤ G ∧ κ G = 0) := hG.elim (fun e => .inl (t3 G e)) (fun e => .inr ⟨e, hts.cut G e⟩)
  have hfb := own_blk h.row (g := fb) rfl
  have hfk : κ fb = 0 := h.fk fb rfl
  have row2 : w2.ownsRow w0.heap.size 29 6 (.slice (some ⟨fb, 0, none⟩) os.length cap) os.length (flatO os vs) := own_keep h.row fun g hg => by
    cases hg
    exact hb.block fb hfb.2.1 (fun hx => by rcases hX fb hx with e | e <;> omega)
  have nGf : G ≠ fb := fun e => by subst e; rcases hGk with e | e <;> omega
  obtain ⟨_, _, cur, hcur⟩ := own_blk row2 (g := fb) rfl
  have cell2 : w2.cell? ⟨fb, r * 6 + 5, none⟩ = some (vs[r]'(by rw [h.vl]; exact hr)) := by
    have := World.ownsRow.cells (g := fb) row2 rfl (r * 6 + 5) (vs[r]'(by rw [h.vl]; exact hr)) (by rw [flatO_at os vs h.vl r hr 5 (by omega)]; rfl)
    rw [Addr.add_lit, Nat.zero_add] at this
    exact this
  refine ⟨G, rfl, ⟨_, cell2⟩, by simp [World.frozen?, hcur], fun x => if x = G then 11 + 2 * r else κ x, ls.set r (ls[r].1, .slice (some ⟨G, 0, none⟩) M M), vs.set r (.slice (some ⟨G, 0, none⟩) os[r].da.length (2 * os[r].da.length + 70)), by simpa using hl, ?_⟩
  have kold : ∀ x, κ x ≠ 0 → κ x ≠ 11 + 2 * r → (if x = G then 11 + 2 * r else κ x) = κ x := fun x h0 h1 => by
    by_cases e : x = G
    · subst e
      rcases hGk with e | e <;> omega
    · rw [if_neg e]
  have bw : But (fun x => κ x ≠ 0) wr w2 := hb.mono (fun k _ hk => by rcases hX k hk with e | e <;> omega)
  have s2 := hb.size
  have ts2 : TS w2 T (fun x => if x = G then 11 + 2 * r else κ x) lv dv (ls.set r (ls[r].1, .slice (some ⟨G, 0, none⟩) M M)) := by
    refine ⟨(hb.block T hts.lt (fun hx => by have := hts.kT; rcases hX T hx with e | e <;> omega)).trans hts.blk, (kold T (by rw [hts.kT]; omega) (by rw [hts.kT]; omega)).trans hts.kT, fun x hx => ?_, ?_, ?_, fun g hg => (kold g (by rw [hts.dk g hg]; omega) (by rw [hts.dk g hg]; omega)).trans (hts.dk g hg), fun i hi => ?_⟩
    · rw [if_neg (by omega)]
      exact hts.cut x (by omega)
    · rcases hts.lst with e | ⟨G', M', cs, e1, e2, e3, e4⟩
      · exact .inl e
      · exact .inr ⟨G', M', cs, e1, (kold G' (by omega) (by omega)).trans e2, (hb.block G' (Array.getElem?_eq_some_iff.1 e3).1 (fun hx => by rcases hX G' hx with e | e <;> omega)).trans e3, e4⟩
    · have := own_keep hts.dat (w' := w2) fun g hg => hb.block g (own_blk hts.dat hg).2.1 (fun hx => by have := hts.dk g hg; rcases hX g hx with e | e <;> omega)
      rw [List.length_set, List.map_set]
      rw [map_set_same ls r hl]
      exact this
    · rw [List.length_set] at hi
      by_cases e : r = i
      · subst e
        simp only [List.getElem_set_self]
        refine ⟨(kold _ (by omega) (by omega)).trans t1, LS.of_lent hL, fun g hg => ?_⟩
        cases hg
        rw [if_pos rfl]
      · simp only [List.getElem_set_ne e]
        obtain ⟨q1, q2, q3⟩ := hts.ten i hi
        refine ⟨(kold _ (by omega) (by omega)).trans q1, q2.but hb (fun x hx hX' => ?_), fun g hg => (kold g (by rw [q3 g hg]; omega) (by rw [q3 g hg]; omega)).trans (q3 g hg)⟩
        rcases hx with rfl | hx
        · rcases hX _ hX' with e' | e' <;> omega
        · have := q3 x hx
          rcases hX _ hX' with e' | e' <;> omega
  have b3 : But (fun x => x = fb) w2 (w2.setCell ⟨fb, r * 6 + 5, none⟩ (.slice (some ⟨G, 0, none⟩) os[r].da.length (2 * os[r].da.length + 70))) := (But.refl (fun x => x = fb) w2).setCell (p := ⟨fb, r * 6 + 5, none⟩) rfl _
  have kfb : (if fb = G then 11 + 2 * r else κ fb) = 0 := by rw [if_neg (Ne.symm nGf)]; exact hfk
  have st := (World.ownsRow.stored row2 (r * 6 + 5) (.slice (some ⟨G, 0, none⟩) os[r].da.length (2 * os[r].da.length + 70))).1
  refine ⟨ts2.keep b3 (fun x hx e => by subst e; exact hx kfb), fun x hx => ?_, (h.but.comp bw (fun x hx hk => by rw [← h.ext x hx]; exact hk)).comp b3 (fun x hx e => by have := hfb.1; omega), ?_, fun g hg => by cases hg; exact kfb, by rw [List.length_set]; exact h.vl, fun u hu => ?_, by rw [List.length_set]; omega, hr, fun i hi => ?_⟩
  · rw [← h.ext x hx]
    have := h.but.size
    by_cases e : x = G
    · subst e
      rw [if_pos rfl]
      rcases hGk with e | e
      · exact e.symm
      · omega
    · rw [if_neg e]
  · rw [flatO_setv os vs h.vl r hr]
    exact st
  · rcases List.mem_or_eq_of_mem_set hu with h1 | rfl
    · exact h.sl u h1
    · exact ⟨_, _, _, rfl⟩
  · by_cases e : r = i
    · subst e
      simp only [List.getElem_set_self]
      exact ⟨G, M, rfl, hL.but b3 (fun e => by rw [e] at t1; omega) nGf, rfl⟩
    · simp only [List.getElem_set_ne e]
      have hil : i < ls.length := by omega
      obtain ⟨q1, q2, q3⟩ := hts.ten i hil
      have hLt := h.lt i (by omega)
      refine (hLt.keep hb (fun hx => ?_) (fun g hg hx => ?_)).keep b3 (fun e => ?_) (fun g hg e => ?_)
      · rcases hX _ hx with e' | e' <;> omega
      · have := q3 g hg
        rcases hX _ hx with e' | e' <;> omega
      · rw [e] at q1; omega
      · have := q3 g hg
        rw [e] at this; omega

end Go.Proofs.YthkkdmblkalknaaGreatDoor
