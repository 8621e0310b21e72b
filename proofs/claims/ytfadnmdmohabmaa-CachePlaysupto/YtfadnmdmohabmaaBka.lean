/-
  CopyBytes.
-/
import Derived.Test.YtfadnmdmohabmaaCbb
import Derived.Test.YtfadnmdmohabmaaRfb
import Derived.Deep.AppendLies
import Derived.Deep.QuietTactic
import Derived.BigQuiet
namespace Go.Proofs.Ytfadnmdmohabmaa
open Go.RowKit

set_option maxHeartbeats 400000 in
theorem CopyBytes_any (a : Option Addr) (n c : Nat) (zs : List Int) (w : World) (hn : n ≤ 140737488351232) (hnil : a = none → c = 0) (hR : Rd w.heap.size w a n zs) :
    Calls Try.prog 87 #[.slice a n c] w fun e w' => ∃ g cap, e = .returned (.slice (some ⟨g, 0, none⟩) n cap) ∧ w.heap.size ≤ g ∧ Own w' g n cap zs ∧ Below w.heap.size w w' := by
  obtain ⟨i0, hi, hz0, hz1, hz2⟩ := info_parts info5
  have hb : Below w.heap.size w (w.alloc (.cells #[] 5)) := (Below.refl _ _).alloc (Nat.le_refl _) _
  have h0 : (w.alloc (.cells #[] 5)).ownsRow w.heap.size 5 1 (.slice (some ⟨w.heap.size, 0, none⟩) 0 0) 0 [] := World.ownsRow_lit w #[] 0 (Nat.le_refl _) (by decide) rfl
  have hR2 := hR.below hb
  have hl := hR.1
  cases a with
  | none =>
    obtain ⟨h1, h2, h3⟩ := hR
    have hn0 : n = 0 := by rcases h3 with h3 | ⟨_, _, h3, _⟩; exact h3; cases h3
    subst hn0
    obtain rfl : zs = [] := List.length_eq_zero_iff.1 h1
    obtain rfl : c = 0 := hnil rfl
    have hO : Own (w.alloc (.cells #[] 5)) w.heap.size 0 0 [] := Own.of h0
    go_enter Try.func87, Try.ntmps87
    go_wp2_with (at_builtin; refine wpList_append_own_none rfl _ _ 34 rfl w.heap.size 5 i0 1 Try.underlying34 hi _ 0 [] rfl h0 rfl ?_)
    go_ret
    exact ⟨_, _, rfl, Nat.le_refl _, hO, hb⟩
  | some ad =>
    have hsrc : ∀ j u, (zs.map (Value.int .u8))[j]? = some u → (w.alloc (.cells #[] 5)).cell? (ad.add j) = some u := by
      by_cases h0 : n = 0
      · intro j u h
        rw [h0] at hl
        obtain rfl : zs = [] := List.length_eq_zero_iff.1 hl
        simp at h
      · obtain ⟨ad', e, h⟩ := hR2.src (by omega)
        cases e
        exact h
    go_enter Try.func87, Try.ntmps87
    go_wp2_with (at_builtin; refine wpList_append_own _ rfl _ _ 34 rfl w.heap.size 5 i0 (.int .u8 0) 1 1 Try.underlying34 hi hz0 hz1 hz2 rfl (by decide) _ 0 [] rfl h0 ad n c (zs.map (Value.int .u8)) rfl (by rw [List.length_map, hl, Nat.mul_one]) hsrc (u8_one _) (by unfold maxLen; omega) (by omega) (by simp) ?_)
    intro v' w1 hown hgrow hnn
    obtain ⟨g, cap, rfl, hg, _⟩ := owns_form hown hnn
    have HO := hid (Own.of hown)
    have hb1 : Below w.heap.size w w1 := hb.grown hgrow (by simp) (fun k h => by cases h; exact Nat.le_refl _)
    clear hown hgrow hnn
    go_wp2
    go_ret
    exact ⟨g, cap, rfl, hg, HO.out, hb1⟩

end Go.Proofs.Ytfadnmdmohabmaa

/-
  Rows apart: what the Book needs.
-/
namespace Go.Proofs.Ytfadnmdmohabmaa
open Go.RowKit

/-- no block is both's -/
def Dj (v u : Value) : Prop := ∀ g, v.ownBlock = some g → u.ownBlock ≠ some g
theorem dj_ne {v u : Value} (h : Dj v u) : u.ownBlock = none ∨ u.ownBlock ≠ v.ownBlock := by
  cases hv : v.ownBlock with
  | none => cases hu : u.ownBlock with
    | none => exact .inl rfl
    | some g => exact .inr (by simp)
  | some g => exact .inr (h g hv)
theorem dj_symm {v u : Value} (h : Dj v u) : Dj u v := fun g hu hv => h g hv hu
theorem dj_new {w : World} {base e size n : Nat} {v u : Value} {xs : List Value} {g m cap : Nat} (hd : Dj v u) (hu : w.ownsRow base e size u n xs) (hl : v.ownBlock = some g ∨ g = w.heap.size) : Dj (.slice (some ⟨g, 0, none⟩) m cap) u := by
  intro g' hg' hu'
  cases hg'
  rcases hl with hl | hl
  · exact hd g hl hu'
  · have := (World.ownsRow.lt hu g hu').2
    omega

end Go.Proofs.Ytfadnmdmohabmaa

/-
  THE BOOK: its state. 'marked'.
-/
namespace Go.Proofs.Ytfadnmdmohabmaa
open Go.RowKit

/-! ### marked -/
def mkd (mark : Int) (i : Nat) : Int := (mark + 7 * (i : Int) + 1) % 256
def markL (k : Nat) (mark : Int) : List Int := (List.range k).map fun i => mkd mark i
theorem length_markL (k : Nat) (mark : Int) : (markL k mark).length = k := by simp [markL]
theorem markL_getD {k i : Nat} (mark : Int) (h : i < k) : (markL k mark).getD i 0 = mkd mark i := by simp [markL, h]
theorem isB_markL (k : Nat) (mark : Int) : Pl.isB (markL k mark) := by
  intro z hz
  simp only [markL, List.mem_map] at hz
  obtain ⟨i, _, rfl⟩ := hz
  unfold mkd
  omega
theorem markL_set {k i : Nat} (mark : Int) (h : i < k) {ys : List Int} (hl : ys.length = k) (ht : ys.take i = (markL k mark).take i) : (ys.set i (mkd mark i)).take (i + 1) = (markL k mark).take (i + 1) :=
  take_set (by omega) (by rw [length_markL]; exact h) ht (markL_getD mark h).symm

set_option maxHeartbeats 400000 in
theorem marked_any (k : Nat) (mark : Int) (w : World) (hk : k ≤ 1073741824) (h0 : -1073741824 ≤ mark) (h1 : mark ≤ 1073741824) :
    Calls Try.prog 93 #[.int .i64 (k : Int), .int .i64 mark] w fun e w' => e = .returned (.slice (some ⟨w.heap.size, 0, none⟩) k k) ∧ Blk .u8 5 w' w.heap.size (markL k mark) ∧ w'.heap.size = w.heap.size + 1 ∧ Below w.heap.size w w' := by
  have hmk := make_u8 k (by omega)
  have HB0 := hid (Blk.new (k := .u8) (e := 5) w (zeros k))
  have Hb0 := hid ((Below.refl w.heap.size w).alloc (Nat.le_refl _) (.cells ((zeros k).map (Value.int .u8)).toArray 5))
  go_enter Try.func93, Try.ntmps93
  go_wp2
  go_loopw [6] (fun i wt => ∃ (j : Nat) (ys : List Int), j ≤ k ∧ i = .int .i64 (j : Int) ∧ Blk .u8 5 wt w.heap.size ys ∧ ys.length = k ∧ ys.take j = (markL k mark).take j ∧ wt.heap.size = w.heap.size + 1 ∧ Below w.heap.size w wt) (fun i _ => k - (intOf i).toNat)
  case atStart => exact ⟨0, zeros k, Nat.zero_le _, rfl, HB0.out, length_zeros k, rfl, by simp, Hb0.out⟩
  case round =>
    clear HB0 Hb0 hmk
    obtain ⟨j, ys, hj, rfl, hB, hl, ht, hs, hb⟩ := hrel
    by_cases hjk : j < k
    · have hc := hB.cell j (by omega)
      have hf := hB.frozen j
      have HB := hid (hB.set j (mkd mark j))
      have HT := hid (markL_set mark hjk hl ht)
      have Hl := hid hl
      have Hs := hid hs
      have Hb := hid (hb.setCell (p := ⟨w.heap.size, j, none⟩) (Nat.le_refl _) (.int .u8 (mkd mark j)))
      generalize ys.getD j 0 = old at *
      clear hB ht hl hs hb
      go_wp2
      go_roundw
      case rel => exact ⟨j + 1, _, by omega, by go_num, HB.out, by simpa using Hl.out, HT.out, by simpa [World.setCell] using Hs.out, Hb.out⟩
      case measure => simp [intOf]; omega
    · have e : ys = markL k mark := by
        rw [List.take_of_length_le (by omega), List.take_of_length_le (by rw [length_markL]; omega)] at ht
        exact ht
      have HB := hid (e ▸ hB)
      have Hs := hid hs
      clear hB ht hl e hs
      go_wp2
      go_ret
      exact ⟨rfl, HB.out, Hs.out, hb⟩

/-! ### lists of bytes that lie in settled blocks -/
/-- a block of bytes, none of them frozen -/
def T5 (w : World) (g : Nat) : Prop := ∃ cur, w.heap[g]? = some (.cells cur 5 (0, 0))
theorem T5.lt {w : World} {g : Nat} (h : T5 w g) : g < w.heap.size := by obtain ⟨cur, h⟩ := h; exact (Array.getElem?_eq_some_iff.1 h).1
theorem T5.blk {w : World} {g : Nat} {zs : List Int} (h : Blk .u8 5 w g zs) : T5 w g := ⟨_, h⟩
theorem T5.keep {w w' : World} {g : Nat} (h : T5 w g) (hk : w'.heap[g]? = w.heap[g]?) : T5 w' g := by obtain ⟨cur, h⟩ := h; exact ⟨cur, by rw [hk]; exact h⟩
/-- a row of another type is another block -/
theorem T5.ne_row {w : World} {g base e size n : Nat} {v : Value} {xs : List Value} (h : T5 w g) (hr : w.ownsRow base e size v n xs) (he : e ≠ 5) : v.ownBlock ≠ some g := by
  intro hv
  obtain ⟨cur, h⟩ := h
  rcases hr.2 with ⟨h1, _⟩ | ⟨g', cap, cur', h1, _, hh, _⟩
  · rw [h1] at hv; cases hv
  · rw [h1] at hv
    cases hv
    rw [h] at hh
    simp at hh
    exact he hh.2.symm

/-- the slice v holds zs, in a block of R (or it is empty) -/
def Sl (R : Nat → Prop) (w : World) (v : Value) (zs : List Int) : Prop :=
  Pl.isB zs ∧ ∃ a c, v = .slice a zs.length c ∧ (a = none → c = 0) ∧ (zs.length = 0 ∨ ∃ g, a = some ⟨g, 0, none⟩ ∧ R g ∧ ∀ t, t < zs.length → w.cell? ⟨g, t, none⟩ = some (.int .u8 (zs.getD t 0)))
theorem Sl.keep {R : Nat → Prop} {w w' : World} {v : Value} {zs : List Int} (h : Sl R w v zs) (hk : ∀ g, R g → w'.heap[g]? = w.heap[g]?) : Sl R w' v zs := by
  obtain ⟨h1, a, c, h2, h3, h4⟩ := h
  refine ⟨h1, a, c, h2, h3, ?_⟩
  rcases h4 with h4 | ⟨g, h4, h5, h6⟩
  · exact .inl h4
  · exact .inr ⟨g, h4, h5, fun t ht => (World.cell?_of_block (w := w) (hk g h5)).trans (h6 t ht)⟩
theorem Sl.mono {R R' : Nat → Prop} {w : World} {v : Value} {zs : List Int} (h : Sl R w v zs) (hr : ∀ g, R g → R' g) : Sl R' w v zs := by
  obtain ⟨h1, a, c, h2, h3, h4⟩ := h
  exact ⟨h1, a, c, h2, h3, h4.imp id fun ⟨g, q1, q2, q3⟩ => ⟨g, q1, hr g q2, q3⟩⟩
theorem Sl.rd {R : Nat → Prop} {w : World} {v : Value} {zs : List Int} (h : Sl R w v zs) (hT : ∀ g, R g → T5 w g) : ∃ a c, v = .slice a zs.length c ∧ (a = none → c = 0) ∧ Rd w.heap.size w a zs.length zs := by
  obtain ⟨h1, a, c, h2, h3, h4⟩ := h
  refine ⟨a, c, h2, h3, rfl, h1, ?_⟩
  rcases h4 with h4 | ⟨g, rfl, h5, h6⟩
  · exact .inl h4
  · exact .inr ⟨g, 0, rfl, (hT g h5).lt, fun t ht => by rw [Nat.zero_add]; exact h6 t ht⟩
theorem Sl.of_blk {R : Nat → Prop} {w : World} {g : Nat} {zs : List Int} (h : Blk .u8 5 w g zs) (hb : Pl.isB zs) (hr : R g) (c : Nat) : Sl R w (.slice (some ⟨g, 0, none⟩) zs.length c) zs :=
  ⟨hb, _, c, rfl, (fun h => by cases h), .inr ⟨g, rfl, hr, fun t ht => h.cell t ht⟩⟩
theorem Sl.of_own {R : Nat → Prop} {w : World} {g n cap : Nat} {zs : List Int} (h : Own w g n cap zs) (hb : Pl.isB zs) (hr : R g) : Sl R w (.slice (some ⟨g, 0, none⟩) n cap) zs := by
  have hl := h.len
  subst hl
  exact ⟨hb, _, cap, rfl, (fun h => by cases h), .inr ⟨g, rfl, hr, fun t ht => h.cell t ht⟩⟩
theorem Own.t5 {w : World} {g n cap : Nat} {zs : List Int} (h : Own w g n cap zs) : T5 w g := by
  rcases h.2 with ⟨h1, _⟩ | ⟨g', cap', cur, h1, _, hh, _⟩
  · cases h1
  · simp at h1
    obtain ⟨rfl, _⟩ := h1
    exact ⟨cur, hh⟩

/-! ### the book's own block -/
/-- the other cells of the desk -/
structure Oth where
  d : Value
  c0 : Value
  c1 : Value
  r : Value
  x0 : Value
  x1 : Value
  y0 : Value
  y1 : Value
  y2 : Value
  y3 : Value
  y4 : Value
  y5 : Value
  y6 : Value
  y7 : Value
  u0 : Value
  u1 : Value
  n : Value
variable {ω : Oth}
def Bkb (ω : Oth) (w : World) (b : Nat) (cnt tot : Int) (bad : Bool) (fr he ma ke wa : Value) : Prop := w.heap[b]? = some (.cells #[ω.d, ω.c0, ω.c1, ω.r, ω.x0, ω.x1, .int .i64 cnt, .int .i64 tot, .bool bad, fr, he, ma, ke, wa, ω.y0, ω.y1, ω.y2, ω.y3, ω.y4, ω.y5, ω.y6, ω.y7, ω.u0, ω.u1, ω.n] 52 (0, 0))
theorem Bkb.lt {w : World} {b : Nat} {cnt tot : Int} {bad : Bool} {fr he ma ke wa : Value} (h : Bkb ω w b cnt tot bad fr he ma ke wa) : b < w.heap.size := (Array.getElem?_eq_some_iff.1 h).1
theorem Bkb.cell {w : World} {b : Nat} {cnt tot : Int} {bad : Bool} {fr he ma ke wa : Value} (h : Bkb ω w b cnt tot bad fr he ma ke wa) (t : Nat) : w.cell? ⟨b, t, none⟩ = #[ω.d, ω.c0, ω.c1, ω.r, ω.x0, ω.x1, .int .i64 cnt, .int .i64 tot, .bool bad, fr, he, ma, ke, wa, ω.y0, ω.y1, ω.y2, ω.y3, ω.y4, ω.y5, ω.y6, ω.y7, ω.u0, ω.u1, ω.n][t]? := by
  unfold Bkb at h
  simp [World.cell?, h]
theorem Bkb.frozen {w : World} {b : Nat} {cnt tot : Int} {bad : Bool} {fr he ma ke wa : Value} (h : Bkb ω w b cnt tot bad fr he ma ke wa) (t : Nat) : w.frozen? ⟨b, t, none⟩ = false := by
  unfold Bkb at h
  simp [World.frozen?, h]
theorem Bkb.of_block {w w' : World} {b : Nat} {cnt tot : Int} {bad : Bool} {fr he ma ke wa : Value} (h : Bkb ω w b cnt tot bad fr he ma ke wa) (hw : w'.heap[b]? = w.heap[b]?) : Bkb ω w' b cnt tot bad fr he ma ke wa := by unfold Bkb at *; rw [hw]; exact h
theorem Bkb.set {w : World} {b : Nat} {cnt tot : Int} {bad : Bool} {fr he ma ke wa : Value} (h : Bkb ω w b cnt tot bad fr he ma ke wa) (t : Nat) (v : Value) : (w.setCell ⟨b, t, none⟩ v).heap[b]? = some (.cells (#[ω.d, ω.c0, ω.c1, ω.r, ω.x0, ω.x1, .int .i64 cnt, .int .i64 tot, .bool bad, fr, he, ma, ke, wa, ω.y0, ω.y1, ω.y2, ω.y3, ω.y4, ω.y5, ω.y6, ω.y7, ω.u0, ω.u1, ω.n].setIfInBounds t v) 52 (0, 0)) := by
  unfold Bkb at h
  simp only [World.setCell, Array.getElem?_modify]
  rw [h]
  simp
theorem Bkb.ne_row {w : World} {b : Nat} {cnt tot : Int} {bad : Bool} {fr he ma ke wa : Value} (h : Bkb ω w b cnt tot bad fr he ma ke wa) {base e size n : Nat} {v : Value} {xs : List Value} (hr : w.ownsRow base e size v n xs) (he' : e ≠ 52) : v.ownBlock ≠ some b := by
  intro hv
  unfold Bkb at h
  rcases hr.2 with ⟨h1, _⟩ | ⟨g', cap, cur', h1, _, hh, _⟩
  · rw [h1] at hv; cases hv
  · rw [h1] at hv
    cases hv
    rw [h] at hh
    simp at hh
    exact he' hh.2.symm
theorem Bkb.ne_t5 {w : World} {b : Nat} {cnt tot : Int} {bad : Bool} {fr he ma ke wa : Value} (h : Bkb ω w b cnt tot bad fr he ma ke wa) {g : Nat} (hg : T5 w g) : g ≠ b := by
  intro e
  subst e
  obtain ⟨cur, hh⟩ := hg
  unfold Bkb at h
  rw [h] at hh
  simp at hh

end Go.Proofs.Ytfadnmdmohabmaa

/-
  THE BOOK: untouched, same.
-/
namespace Go.Proofs.Ytfadnmdmohabmaa
open Go.RowKit

variable {ω : Oth}

/-- a row of n slices of bytes, each with what it holds -/
structure RS (S : Nat → Prop) (B : Nat) (w : World) (row : Value) (n : Nat) (vs : List Value) (Z : Nat → List Int) : Prop where
  own : w.ownsRow B 34 1 row n vs
  sl : ∀ i, i < n → Sl S w (vs.getD i (.bool false)) (Z i)
theorem RS.keep {S : Nat → Prop} {B : Nat} {w w' : World} {row : Value} {n : Nat} {vs : List Value} {Z : Nat → List Int} (h : RS S B w row n vs Z) (ho : w'.ownsRow B 34 1 row n vs) (hk : ∀ g, S g → w'.heap[g]? = w.heap[g]?) : RS S B w' row n vs Z := ⟨ho, fun i hi => (h.sl i hi).keep hk⟩
theorem RS.but {X S : Nat → Prop} {B : Nat} {w w' : World} {row : Value} {n : Nat} {vs : List Value} {Z : Nat → List Int} (h : RS S B w row n vs Z) (hb : But X w w') (hS : ∀ g, S g → g < w.heap.size ∧ ¬ X g) (hr : ∀ g, row.ownBlock = some g → ¬ X g) : RS S B w' row n vs Z := by
  refine h.keep ?_ (fun g hg => hb.block g (hS g hg).1 (hS g hg).2)
  obtain ⟨h1, h2⟩ := h.own
  refine ⟨h1, ?_⟩
  rcases h2 with h2 | ⟨g, cap, cur, rfl, hg, hh, r⟩
  · exact .inl h2
  · exact .inr ⟨g, cap, cur, rfl, hg, by rw [hb.block g (Array.getElem?_eq_some_iff.1 hh).1 (hr g rfl)]; exact hh, r⟩
/-- the row's shape, and its cells -/
theorem RS.form {S : Nat → Prop} {B : Nat} {w : World} {row : Value} {n : Nat} {vs : List Value} {Z : Nat → List Int} (h : RS S B w row n vs Z) :
    ∃ a c, row = .slice a n c ∧ (n = 0 ∨ ∃ g, a = some ⟨g, 0, none⟩ ∧ g < w.heap.size ∧ ∀ i, i < n → w.cell? ⟨g, i, none⟩ = some (vs.getD i (.bool false))) := by
  have hl : vs.length = n := by simpa using h.own.1
  rcases h.own.2 with ⟨h1, h2⟩ | ⟨g, cap, cur, h1, _⟩
  · subst h2; exact ⟨none, 0, h1, .inl rfl⟩
  · subst h1
    refine ⟨_, cap, rfl, .inr ⟨g, rfl, (World.ownsRow.lt h.own g rfl).2, fun i hi => ?_⟩⟩
    rw [World.ownsRow.cellAt h.own i (by omega)]
    simp [show i < vs.length by omega]

set_option maxRecDepth 100000 in
set_option maxHeartbeats 2000000 in
theorem same_any (S : Nat → Prop) (B b : Nat) (cnt tot : Int) (bad : Bool) (fr he ma ke wa : Value) (n : Nat) (kv wv : List Value) (Z : Nat → List Int) (w : World) (hn : n ≤ 134217728)
    (hb : Bkb ω w b cnt tot bad fr he ma ke wa) (hK : RS S B w ke n kv Z) (hW : RS S B w wa n wv Z) (hT : ∀ g, S g → T5 w g) :
    Calls Try.prog 26 #[.pointer (some ⟨b, 6, none⟩)] w fun e w' => e = .returned (.bool true) ∧ But (fun _ => False) w w' := by
  obtain ⟨a1, c1, rfl, f1⟩ := hK.form
  obtain ⟨a2, c2, rfl, f2⟩ := hW.form
  go_enter Try.func26, Try.ntmps26
  go_wp2
  go_loopw [3] (fun i wt => ∃ k : Nat, k ≤ n ∧ i = .int .i64 (k : Int) ∧ But (fun _ => False) w wt) (fun i _ => n - (intOf i).toNat)
  case atStart => exact ⟨0, Nat.zero_le _, rfl, But.refl _ _⟩
  case round =>
    obtain ⟨k, hk, rfl, hbt⟩ := hrel
    have hb' := hb.of_block (hbt.block b hb.lt (fun h => h))
    have b6 := hb'.cell 12
    have b7 := hb'.cell 13
    simp only [List.getElem?_toArray, List.getElem?_cons_succ, List.getElem?_cons_zero] at b6 b7
    by_cases hkn : k < n
    · obtain ⟨g1, rfl, l1, q1⟩ := f1.resolve_left (by omega)
      obtain ⟨g2, rfl, l2, q2⟩ := f2.resolve_left (by omega)
      have q1' := (hbt.cell (p := ⟨g1, k, none⟩) l1 (fun h => h)).trans (q1 k hkn)
      have q2' := (hbt.cell (p := ⟨g2, k, none⟩) l2 (fun h => h)).trans (q2 k hkn)
      have hT' : ∀ g, S g → T5 wr g := fun g hg => (hT g hg).keep (hbt.block g (hT g hg).lt (fun h => h))
      have s1 := (hK.sl k hkn).keep (w' := wr) (fun g hg => hbt.block g (hT g hg).lt (fun h => h))
      have s2 := (hW.sl k hkn).keep (w' := wr) (fun g hg => hbt.block g (hT g hg).lt (fun h => h))
      obtain ⟨a3, c3, e3, _, r3⟩ := s1.rd hT'
      obtain ⟨a4, c4, e4, _, r4⟩ := s2.rd hT'
      rw [e3] at q1'
      rw [e4] at q2'
      have v3 : ∀ q, (convert 34 9 (.slice a3 (Z k).length c3)).run Try.prog (wr.drewN q) = .ok (.string (strOfNums (Z k))) (wr.drewN q) := fun q => conv_str (w := wr.drewN q) r3 c3
      have v4 : ∀ q, (convert 34 9 (.slice a4 (Z k).length c4)).run Try.prog (wr.drewN q) = .ok (.string (strOfNums (Z k))) (wr.drewN q) := fun q => conv_str (w := wr.drewN q) r4 c4
      have hk1 : (k : Int) < (n : Int) := by omega
      clear s1 s2 e3 e4 r3 r4 hT' q1 q2 hT hK hW f1 f2 hb'
      generalize strOfNums (Z k) = st at *
      generalize (Z k).length = m at *
      go_wp2_with fail
      go_quiet (fail)
      go_wp2
      go_roundw
      case rel => exact ⟨k + 1, by omega, by go_num, hbt.drewN _⟩
      case measure => simp [intOf]; omega
    · clear hK hW hT f1 f2
      go_wp2
      go_ret
      exact ⟨rfl, hbt⟩

set_option maxRecDepth 100000 in
set_option maxHeartbeats 4000000 in
theorem untouched_any (S : Nat → Prop) (B b : Nat) (cnt tot : Int) (fr he ma ke wa : Value) (n : Nat) (fv hv : List Value) (Z : Nat → List Int) (w : World) (hn : n ≤ 134217728)
    (hb : Bkb ω w b cnt tot false fr he ma ke wa) (hF : RS S B w fr n fv Z) (hH : RS S B w he n hv Z) (hT : ∀ g, S g → T5 w g) :
    Calls Try.prog 25 #[.pointer (some ⟨b, 6, none⟩)] w fun e w' => e = .returned (.tuple #[]) ∧ But (fun x => x = b) w w' ∧ Bkb ω w' b cnt tot false fr he ma ke wa := by
  obtain ⟨a1, c1, rfl, f1⟩ := hF.form
  obtain ⟨a2, c2, rfl, f2⟩ := hH.form
  have nS : ∀ g, S g → g ≠ b := fun g hg => hb.ne_t5 (hT g hg)
  have nF := hb.ne_row hF.own (by decide)
  have nH := hb.ne_row hH.own (by decide)
  go_enter Try.func25, Try.ntmps25
  go_wp2
  go_loopw [2] (fun i wt => ∃ k : Nat, k ≤ n ∧ i = .int .i64 (k : Int) ∧ But (fun x => x = b) w wt ∧ Bkb ω wt b cnt tot false (.slice a1 n c1) (.slice a2 n c2) ma ke wa) (fun i _ => n - (intOf i).toNat)
  case atStart => exact ⟨0, Nat.zero_le _, rfl, But.refl _ _, hb⟩
  case round =>
    obtain ⟨k, hk, rfl, hbt, hb'⟩ := hrel
    have b2 := hb'.cell 8
    have b3 := hb'.cell 9
    have b4 := hb'.cell 10
    have fz := hb'.frozen 8
    simp only [List.getElem?_toArray, List.getElem?_cons_succ, List.getElem?_cons_zero] at b2 b3 b4
    by_cases hkn : k < n
    · obtain ⟨g1, rfl, l1, q1⟩ := f1.resolve_left (by omega)
      obtain ⟨g2, rfl, l2, q2⟩ := f2.resolve_left (by omega)
      have q1' := (hbt.cell (p := ⟨g1, k, none⟩) l1 (fun h => nF (by rw [← h]; rfl))).trans (q1 k hkn)
      have q2' := (hbt.cell (p := ⟨g2, k, none⟩) l2 (fun h => nH (by rw [← h]; rfl))).trans (q2 k hkn)
      have hkeep : ∀ g, S g → wr.heap[g]? = w.heap[g]? := fun g hg => hbt.block g (hT g hg).lt (nS g hg)
      have hT' : ∀ g, S g → T5 wr g := fun g hg => (hT g hg).keep (hkeep g hg)
      have s1 := (hF.sl k hkn).keep (w' := wr) hkeep
      have s2 := (hH.sl k hkn).keep (w' := wr) hkeep
      obtain ⟨a3, c3, e3, _, r3⟩ := s1.rd hT'
      obtain ⟨a4, c4, e4, _, r4⟩ := s2.rd hT'
      rw [e3] at q1'
      rw [e4] at q2'
      have v3 : (convert 34 9 (.slice a3 (Z k).length c3)).run Try.prog wr.drew = .ok (.string (strOfNums (Z k))) wr.drew := conv_str (w := wr.drew) r3 c3
      have v4 : (convert 34 9 (.slice a4 (Z k).length c4)).run Try.prog wr.drew = .ok (.string (strOfNums (Z k))) wr.drew := conv_str (w := wr.drew) r4 c4
      have hk1 : (k : Int) < (n : Int) := by omega
      have Hset := hid (hb'.set 8 (.bool false))
      have Hbt := hid (hbt.setCell (p := ⟨b, 8, none⟩) rfl (.bool false))
      clear s1 s2 e3 e4 r3 r4 hT' hkeep q1 q2 hT hF hH f1 f2 hb' nS nF nH hbt
      generalize strOfNums (Z k) = st at *
      generalize (Z k).length = m at *
      go_wp2_with fail
      go_region
      all_goals go_wp2
      all_goals
        go_roundw
        case rel => exact ⟨k + 1, by omega, by go_num, Hbt.out.drew, Hset.out⟩
        case measure => simp [intOf]; omega
    · clear hF hH hT f1 f2 nS nF nH
      go_wp2
      go_end0
      exact ⟨rfl, hbt, hb'⟩

end Go.Proofs.Ytfadnmdmohabmaa
