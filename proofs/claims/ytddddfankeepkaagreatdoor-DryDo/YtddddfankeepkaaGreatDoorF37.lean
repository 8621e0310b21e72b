import Derived.Test.YtddddfankeepkaaGreatDoorF31
namespace Go.Proofs.YtddddfankeepkaaGreatDoor
open Go.RowKit
def NoX (X : Nat → Prop) (a : Option Addr) (rs : List Rg) : Prop := rs = [] ∨ ∀ ad, a = some ad → ¬ X ad.block
def RdVX (X : Nat → Prop) (B : Nat) (w : World) (a : Option Addr) (vs : List PV) : Prop :=
 vs = [] ∨ ∃ b off, a = some ⟨b, off, none⟩ ∧ b < B ∧ ¬ X b ∧ ∀ (j : Nat) (hj : j < vs.length), ∃ a' c', VolC w b (off + j * 7) vs[j] a' c' ∧ RdR B w a' vs[j].mp ∧ (a' = none → c' = 0) ∧ NoX X a' vs[j].mp
theorem RdVX.rdV {X : Nat → Prop} {B : Nat} {w : World} {a : Option Addr} {vs : List PV} (h : RdVX X B w a vs) : RdV B w a vs := by
 rcases h with h | ⟨b, off, e, hb, _, hc⟩
 ·exact .inl h
 ·exact .inr ⟨b, off, e, hb, fun j hj => by
   obtain ⟨a', c', h1, h2, h3, _⟩ := hc j hj
   exact ⟨a', c', h1, h2, h3⟩⟩
theorem RdVX.of {X : Nat → Prop} {B : Nat} {w : World} {a : Option Addr} {vs : List PV} (h : RdV B w a vs) (hX : ∀ q, X q → B ≤ q) : RdVX X B w a vs := by
 rcases h with h | ⟨b, off, e, hb, hc⟩
 ·exact .inl h
 ·refine .inr ⟨b, off, e, hb, fun q => by have := hX _ q; omega, fun j hj => ?_⟩
  obtain ⟨a', c', h1, h2, h3⟩ := hc j hj
  refine ⟨a', c', h1, h2, h3, ?_⟩
  rcases h2 with h2 | ⟨b2, off2, e2, hb2, _⟩
  ·exact .inl h2
  ·refine .inr fun ad had q => ?_
   rw [e2] at had
   cases had
   have := hX _ q
   dsimp only at this
   omega
theorem RdR.but {X : Nat → Prop} {B B' : Nat} {w w' : World} {a : Option Addr} {rs : List Rg} (h : RdR B w a rs) (hn : NoX X a rs) (hB : B ≤ B') (hw : ∀ q, q < B → ¬ X q → w'.heap[q]? = w.heap[q]?) : RdR B' w' a rs := by
 rcases h with h | ⟨b, off, e, hb, hc⟩
 ·exact .inl h
 ·rcases hn with h | hn
  ·exact .inl h
  ·refine .inr ⟨b, off, e, by omega, fun j hj => ?_⟩
   have := hw b hb (hn _ e)
   obtain ⟨h1, h2⟩ := hc j hj
   exact ⟨by simpa only [World.cell?, this] using h1, by simpa only [World.cell?, this] using h2⟩
theorem RdVX.but {X : Nat → Prop} {B B' : Nat} {w w' : World} {a : Option Addr} {vs : List PV} (h : RdVX X B w a vs) (hB : B ≤ B') (hw : ∀ q, q < B → ¬ X q → w'.heap[q]? = w.heap[q]?) : RdVX X B' w' a vs := by
 rcases h with h | ⟨b, off, e, hb, hn, hc⟩
 ·exact .inl h
 ·refine .inr ⟨b, off, e, by omega, hn, fun j hj => ?_⟩
  obtain ⟨a', c', ⟨h0, h1, h2, h3, h4, h5, h6⟩, hR, h8, h9⟩ := hc j hj
  have := hw b hb hn
  refine ⟨a', c', ⟨?_, ?_, ?_, ?_, ?_, ?_, ?_⟩, hR.but h9 hB hw, h8, h9⟩
  ·simpa only [World.cell?, this] using h0
  ·simpa only [World.cell?, this] using h1
  ·simpa only [World.cell?, this] using h2
  ·simpa only [World.cell?, this] using h3
  ·simpa only [World.cell?, this] using h4
  ·simpa only [World.cell?, this] using h5
  ·simpa only [World.cell?, this] using h6
theorem RdVX.below {X : Nat → Prop} {B : Nat} {w w' : World} {a : Option Addr} {vs : List PV} (h : RdVX X B w a vs) (hb : Below B w w') : RdVX X B w' a vs := h.but (Nat.le_refl _) (fun q hq _ => hb.block q hq)
theorem RdVX.mono {X : Nat → Prop} {B B' : Nat} {w : World} {a : Option Addr} {vs : List PV} (h : RdVX X B w a vs) (hB : B ≤ B') : RdVX X B' w a vs := h.but hB (fun _ _ _ => rfl)
structure ShV (X : Nat → Prop) (B : Nat) (w : World) (v : Value) (vs : List PV) (us : List Value) : Prop where
 len : us.length = vs.length
 row : w.ownsRow B 38 7 v vs.length (flatV vs us)
 dat : ∀ i (h : i < vs.length), ∃ a c, us[i]'(by omega) = .slice a vs[i].mp.length c ∧ RdR B w a vs[i].mp ∧ (a = none → c = 0) ∧ NoX X a vs[i].mp
theorem ShV.nil (X : Nat → Prop) (B : Nat) (w : World) : ShV X B w (.slice none 0 0) [] [] := ⟨rfl, ⟨rfl, .inl ⟨rfl, rfl⟩⟩, fun i h => by simp at h⟩
theorem ShV.next {X : Nat → Prop} {B : Nat} {w w' : World} {v : Value} {vs : List PV} {us : List Value} (h : ShV X B w v vs us) (hB : B ≤ w.heap.size) (hb : Below w.heap.size w w') : ShV X B w' v vs us :=
 ⟨h.len, own_next h.row hb, fun i hi => by
  obtain ⟨a, c, e, hR, hn, hx⟩ := h.dat i hi
  exact ⟨a, c, e, hR.below (hb.mono hB), hn, hx⟩⟩
theorem ShV.rd {X : Nat → Prop} {B : Nat} {w : World} {v : Value} {vs : List PV} {us : List Value} (h : ShV X B w v vs us) (hB : B ≤ w.heap.size) (hX : ∀ q, X q → q < B) : ∃ a c, v = .slice a vs.length c ∧ RdVX X w.heap.size w a vs ∧ (a = none → c = 0) := by
 rcases own_form h.row with ⟨rfl, hn⟩ | ⟨g, c, rfl, hg⟩
 ·exact ⟨none, 0, by rw [hn], .inl (List.eq_nil_of_length_eq_zero hn), fun _ => rfl⟩
 ·refine ⟨_, c, rfl, .inr ⟨g, 0, rfl, (own_blk h.row hg).2.1, fun q => by have := hX _ q; have := (own_blk h.row hg).1; omega, fun j hj => ?_⟩, fun h => by cases h⟩
  obtain ⟨a', c', e, hR, hn, hx⟩ := h.dat j hj
  have k := World.ownsRow.cells h.row hg
  have kk : ∀ i, i < 7 → ∀ u, (cells7 vs[j] (us[j]'(by have := h.len; omega)))[i]? = some u → w.cell? ⟨g, 0 + j * 7 + i, none⟩ = some u := fun i hi u hu => by
   have := k (j * 7 + i) u (by rw [flatV_at vs us h.len j hj i hi]; exact hu)
   rw [Addr.add_lit] at this
   simpa [Nat.add_assoc] using this
  rw [e] at kk
  exact ⟨a', c', ⟨kk 0 (by omega) _ rfl, kk 1 (by omega) _ rfl, kk 2 (by omega) _ rfl, kk 3 (by omega) _ rfl, kk 4 (by omega) _ rfl, kk 5 (by omega) _ rfl, kk 6 (by omega) _ rfl⟩, hR.mono hB, hn, hx⟩
theorem ShV.push {X : Nat → Prop} {B : Nat} {w : World} {v : Value} {vs : List PV} {us : List Value} (ty : TypeId) (h : ShV X B w v vs us) (o : PV) (a : Option Addr) (c : Nat) (hd : RdR B w a o.mp) (hn : a = none → c = 0) (hx : NoX X a o.mp) {g : Nat} (hg : w.heap[g]? = some (.cells (cells7 o (.slice a o.mp.length c)).toArray 38 (0, 0))) (hl : vs.length ≤ 16777216) (hw : B ≤ w.heap.size) :
  ∃ v' w', (Builtin.append_ #[22, 22] ty #[v, .slice (some ⟨g, 0, none⟩) 1 1]).run Tryz.prog w = .ok v' w' ∧ ShV X B w' v' (vs ++ [o]) (us ++ [.slice a o.mp.length c]) ∧ Below B w w' := by
 obtain ⟨i0, hi, hz0, hz1, hz2⟩ := info_parts info30
 obtain ⟨v', w', hr, h2, h3, _, h5⟩ := run_append_own_at (P := Tryz.prog) w B 22 ty 38 i0 _ 7 80 Tryz.underlying22 hi hz0 hz1 hz2 rfl (by decide) v vs.length (flatV vs us) h.row ⟨g, 0, none⟩ 1 1 (cells7 o (.slice a o.mp.length c)) rfl (fun j u hu => by
  rw [Addr.add_lit, Nat.zero_add]
  simp only [World.cell?, hg]
  simpa using hu) (fun u hu => by simp only [cells7, List.mem_cons, List.not_mem_nil, or_false] at hu; rcases hu with rfl | rfl | rfl | rfl | rfl | rfl | rfl <;> rfl) (by unfold maxLen; omega) (by omega) hw
 have hB : Below B w w' := ⟨h3.os, h3.tape, h3.output, h3.size, fun k hk => h3.block k (by omega) (fun e => by have := (own_blk h.row e.symm).1; omega)⟩
 refine ⟨v', w', hr, ⟨by simp [h.len], ?_, fun i hi => ?_⟩, hB⟩
 ·rw [flatV_app vs us o _ h.len, List.length_append]
  exact h2
 ·by_cases he : i < vs.length
  ·simp only [List.getElem_append_left he]
   rw [List.getElem_append_left (by have := h.len; omega)]
   obtain ⟨a1, c1, e, hR, h0, h2⟩ := h.dat i he
   exact ⟨a1, c1, e, hR.below hB, h0, h2⟩
  ·simp only [List.length_append, List.length_cons, List.length_nil] at hi
   have e : i = vs.length := by omega
   subst e
   refine ⟨a, c, ?_, ?_, hn, ?_⟩
   ·rw [List.getElem_append_right (by rw [h.len]; exact Nat.le_refl _)]
    simp [h.len]
   ·simp only [List.getElem_append_right (Nat.le_refl _), Nat.sub_self, List.getElem_cons_zero]
    exact hd.below hB
   ·simp only [List.getElem_append_right (Nat.le_refl _), Nat.sub_self, List.getElem_cons_zero]
    exact hx
theorem er_step {l : List PV} {i k : Nat} (hi : i < l.length) (h : i ≠ k) : (l.take (i + 1)).eraseIdx k = (l.take i).eraseIdx k ++ [l[i]] := by
 rw [List.take_succ_eq_append_getElem hi]
 have hl : (l.take i).length = i := by rw [List.length_take]; omega
 by_cases c : k < i
 ·rw [List.eraseIdx_append_of_lt_length (by omega)]
 ·rw [List.eraseIdx_append_of_length_le (by omega), hl, List.eraseIdx_of_length_le (l := [l[i]]) (show [l[i]].length ≤ k - i by simp only [List.length_cons, List.length_nil]; omega), List.eraseIdx_of_length_le (l := l.take i) (show (l.take i).length ≤ k by omega)]
theorem er_same {l : List PV} {k : Nat} (hk : k < l.length) : (l.take (k + 1)).eraseIdx k = (l.take k).eraseIdx k := by
 rw [List.take_succ_eq_append_getElem hk]
 have hl : (l.take k).length = k := by rw [List.length_take]; omega
 rw [List.eraseIdx_append_of_length_le (by omega), hl, Nat.sub_self, List.eraseIdx_of_length_le (l := l.take k) (show (l.take k).length ≤ k by omega)]
 simp
theorem er_len (l : List PV) (i k : Nat) : ((l.take i).eraseIdx k).length ≤ l.length := by
 have h1 := List.length_eraseIdx_le (l.take i) k
 have h2 : (l.take i).length ≤ l.length := by rw [List.length_take]; omega
 omega
theorem heap7 (w : World) (v : PV) (u : Value) : (w.alloc (.cells #[.string v.nm, .int .i64 v.id, .int .i64 v.sz, .int .i64 v.og, .int .i64 v.kd, .bool v.pt, u] 38)).heap[w.heap.size]? = some (.cells (cells7 v u).toArray 38 (0, 0)) := heap_new _ _
set_option maxRecDepth 100000 in
set_option maxHeartbeats 8000000 in
theorem without_any (X : Nat → Prop) (a : Option Addr) (c k : Nat) (vs : List PV) (w : World) (hl : vs.length ≤ 16777215) (hR : RdVX X w.heap.size w a vs) :
  Calls Tryz.prog 43 #[.slice a vs.length c, .int .i64 (k : Int)] w fun e w' => ∃ v, e = .returned v ∧ (∃ us, ShV X w.heap.size w' v (vs.eraseIdx k) us) ∧ Below w.heap.size w w' := by
 have HR := hid hR
 obtain ⟨n, hn⟩ : ∃ n, n = vs.length := ⟨_, rfl⟩
 have HN := hid hn
 have hn16 : n ≤ 16777215 := by omega
 have HO0 : Hid (ShV X w.heap.size w (.slice none 0 0) ((vs.take 0).eraseIdx k) []) := hid (by simpa using ShV.nil _ _ _)
 have HB0 := hid (Below.refl w.heap.size w)
 rw [← hn]
 clear hR hn hl
 go_enter Tryz.func43, Tryz.ntmps43
 go_wp2
 go_loopw [5, 6] (fun ov iv wr => ∃ (i : Nat) (v : Value) (us : List Value), i ≤ n ∧ v = ov ∧ iv = .int .i64 (i : Int) ∧ ShV X w.heap.size wr v ((vs.take i).eraseIdx k) us ∧ Below w.heap.size w wr) (fun _ iv _ => n - (intOf iv).toNat)
 case atStart => exact ⟨0, _, _, Nat.zero_le _, rfl, rfl, HO0.out, HB0.out⟩
 case round =>
  obtain ⟨i, v, us, hi, rfl, rfl, hO, hb⟩ := hrel
  by_cases hlt : i < n
  ·have hl1 : (i : Int) < (n : Int) := by omega
   have hil : i < vs.length := by have := HN.out; omega
   by_cases hik : i = k
   ·have hik' : (i : Int) = (k : Int) := by omega
    have hik2 : ((i : Int) != (k : Int)) = false := by rw [hik']; simp
    have HE : Hid (ShV X w.heap.size wr v ((vs.take (i + 1)).eraseIdx k) us) := hid (by subst hik; rw [er_same hil]; exact hO)
    have HBb := hid hb
    clear hO hb hik'
    go_wp2_with fail
    go_roundw
    case rel => exact ⟨i + 1, _, us, by omega, rfl, by go_num, HE.out, HBb.out⟩
    case measure => simp [intOf]; omega
   ·have hik' : ¬ (i : Int) = (k : Int) := by omega
    obtain ⟨g, off, rfl, hgl, _, hc⟩ := (HR.out.below hb).resolve_left (fun e => by rw [e] at hil; simp at hil)
    obtain ⟨ma, mc, ⟨c0, c1, c2, c3, c4, c5, c6⟩, hRm, hmn, hmx⟩ := hc i hil
    obtain ⟨y, hy⟩ : ∃ y, y = vs[i] := ⟨_, rfl⟩
    have HY := hid hy
    rw [← hy] at c0 c1 c2 c3 c4 c5 c6 hRm hmx
    obtain ⟨W1, hW1⟩ : ∃ W1, W1 = wr.alloc (.cells #[.string y.nm, .int .i64 y.id, .int .i64 y.sz, .int .i64 y.og, .int .i64 y.kd, .bool y.pt, .slice ma y.mp.length mc] 38) := ⟨_, rfl⟩
    have hb1 : Below wr.heap.size wr W1 := by rw [hW1]; exact below1 _ _
    have hg1 : W1.heap[wr.heap.size]? = some (.cells (cells7 y (.slice ma y.mp.length mc)).toArray 38 (0, 0)) := by rw [hW1]; exact heap7 _ _ _
    have hel := er_len vs i k
    obtain ⟨v', w2, hr, hO2, hb2⟩ := (hO.next hb.size hb1).push 22 y ma mc (hRm.below (hb1.mono hb.size)) hmn hmx hg1 (by have := HN.out; omega) (Nat.le_trans hb.size hb1.size)
    have HE : Hid (ShV X w.heap.size w2 v' ((vs.take (i + 1)).eraseIdx k) (us ++ [.slice ma y.mp.length mc])) := hid (by rw [er_step hil hik, ← HY.out]; exact hO2)
    have HB2 : Hid (Below w.heap.size w w2) := hid ((hb.trans (hb1.mono hb.size)).trans hb2)
    have HW1 := hid hW1
    clear hO hb hb1 hW1 hO2 hb2 hc hgl hRm hmn hmx hg1 hel hy
    go_wp2_with (first | (rw [← HW1.out]; at_builtin; refine Lib.wpList_append_run _ rfl _ _ _ _ rfl _ _ rfl rfl _ _ hr ?_) | (at_builtin; refine Lib.wpList_append_run _ rfl _ _ _ _ rfl _ _ rfl rfl _ _ hr ?_))
    go_roundw
    case rel => exact ⟨i + 1, _, _, by omega, rfl, by go_num, HE.out, HB2.out⟩
    case measure => simp [intOf]; omega
  ·have ein : i = n := by omega
   have hl1 : ¬ (i : Int) < (n : Int) := by omega
   have HE : Hid (∃ v', Ending.returned v = .returned v' ∧ (∃ us, ShV X w.heap.size wr v' (vs.eraseIdx k) us) ∧ Below w.heap.size w wr) := hid ⟨v, rfl, ⟨us, by have := hO; rw [ein, HN.out, List.take_length] at this; exact this⟩, hb⟩
   clear hO hb ein
   go_wp2
   go_ret
   exact HE.out
end Go.Proofs.YtddddfankeepkaaGreatDoor
namespace Go.Proofs.YtddddfankeepkaaGreatDoor
open Go.RowKit
def anL (l : List PV) (x : PV) : Bool := l.any (fun u => Op.bytesLess x.nm.toList u.nm.toList)
theorem lp1 : ∀ (l : List PV) (u x : PV), anL l x = true → ladP (l ++ [u]) x = ladP l x ++ [u]
 | [], u, x, h => by simp [anL] at h
 | v :: l, u, x, h => by
  show ladP (v :: (l ++ [u])) x = _
  unfold ladP
  by_cases e : Op.bytesLess x.nm.toList v.nm.toList = true
  ·rw [if_pos e, if_pos e]; rfl
  ·rw [if_neg e, if_neg e, lp1 l u x (by unfold anL at h ⊢; simpa [e] using h)]; rfl
theorem lp2 : ∀ (l : List PV) (x : PV), anL l x = false → ladP l x = l ++ [x]
 | [], x, _ => rfl
 | v :: l, x, h => by
  have e : ¬ Op.bytesLess x.nm.toList v.nm.toList = true := by intro e; simp [anL, e] at h
  unfold ladP
  rw [if_neg e, lp2 l x (by unfold anL at h ⊢; simp only [List.any_cons, Bool.or_eq_false_iff] at h; exact h.2)]
  rfl
theorem lp3 : ∀ (l : List PV) (u x : PV), anL l x = false → Op.bytesLess x.nm.toList u.nm.toList = true → ladP (l ++ [u]) x = l ++ [x] ++ [u]
 | [], u, x, _, h => by
  show ladP [u] x = _
  unfold ladP
  rw [if_pos h]; rfl
 | v :: l, u, x, h, h2 => by
  have e : ¬ Op.bytesLess x.nm.toList v.nm.toList = true := by intro e; simp [anL, e] at h
  show ladP (v :: (l ++ [u])) x = _
  unfold ladP
  rw [if_neg e, lp3 l u x (by unfold anL at h ⊢; simp only [List.any_cons, Bool.or_eq_false_iff] at h; exact h.2) h2]
  rfl
theorem anL_app (l : List PV) (u x : PV) : anL (l ++ [u]) x = (anL l x || Op.bytesLess x.nm.toList u.nm.toList) := by unfold anL; simp
def ldQ (l : List PV) (x : PV) : List PV := if anL l x = true then ladP l x else l
theorem ldQ_len (l : List PV) (x : PV) : (ldQ l x).length ≤ l.length + 1 := by
 have h : ∀ l : List PV, (ladP l x).length = l.length + 1 := by
  intro l
  induction l with
  | nil => rfl
  | cons v l ih =>
   unfold ladP
   split
   ·simp
   ·simp [ih]
 unfold ldQ
 split
 ·rw [h]; omega
 ·omega
theorem ldQ_t {l : List PV} {u x : PV} (h : anL l x = true) : ldQ (l ++ [u]) x = ldQ l x ++ [u] ∧ anL (l ++ [u]) x = true := by
 have e : anL (l ++ [u]) x = true := by rw [anL_app, h]; rfl
 unfold ldQ
 rw [if_pos e, if_pos h, lp1 l u x h]
 exact ⟨rfl, e⟩
theorem ldQ_f {l : List PV} {u x : PV} (h : anL l x = false) (h2 : Op.bytesLess x.nm.toList u.nm.toList = false) : ldQ (l ++ [u]) x = ldQ l x ++ [u] ∧ anL (l ++ [u]) x = false := by
 have e : anL (l ++ [u]) x = false := by rw [anL_app, h, h2]; rfl
 unfold ldQ
 rw [if_neg (by rw [e]; simp), if_neg (by rw [h]; simp)]
 exact ⟨rfl, e⟩
theorem ldQ_n {l : List PV} {u x : PV} (h : anL l x = false) (h2 : Op.bytesLess x.nm.toList u.nm.toList = true) : ldQ (l ++ [u]) x = ldQ l x ++ [x] ++ [u] ∧ anL (l ++ [u]) x = true := by
 have e : anL (l ++ [u]) x = true := by rw [anL_app, h, h2]; rfl
 unfold ldQ
 rw [if_pos e, if_neg (by rw [h]; simp), lp3 l u x h h2]
 exact ⟨rfl, e⟩
def VsQ (X : Nat → Prop) (w : World) (vs : List PV) (e : Ending) (w' : World) : Prop := ∃ a c, e = .returned (.slice a vs.length c) ∧ RdVX X w'.heap.size w' a vs ∧ (a = none → c = 0) ∧ Below w.heap.size w w'
theorem VsQ.of {X : Nat → Prop} {B : Nat} {w w' : World} {vs : List PV} {us : List Value} {v : Value} (h : ShV X B w' v vs us) (hB : B ≤ w'.heap.size) (hX : ∀ q, X q → q < B) (hb : Below w.heap.size w w') : VsQ X w vs (.returned v) w' := by
 obtain ⟨a, c, rfl, h1, h2⟩ := h.rd hB hX
 exact ⟨a, c, rfl, h1, h2, hb⟩
set_option maxRecDepth 100000 in
set_option maxHeartbeats 8000000 in
theorem laid_any (X : Nat → Prop) (a : Option Addr) (c : Nat) (vs : List PV) (y : PV) (ya : Option Addr) (yc : Nat) (w : World) (hl : vs.length ≤ 16777000) (hX : ∀ q, X q → q < w.heap.size) (hR : RdVX X w.heap.size w a vs) (hy : RdR w.heap.size w ya y.mp) (hyn : ya = none → yc = 0) (hyx : NoX X ya y.mp) :
  Calls Tryz.prog 40 #[.slice a vs.length c, volA y ya yc] w fun e w' => VsQ X w (ladP vs y) e w' := by
 obtain ⟨P, hP⟩ : ∃ P, P = w.heap.size := ⟨_, rfl⟩
 obtain ⟨W0, hW0⟩ : ∃ W0, W0 = w.alloc (.cells #[.string y.nm, .int .i64 y.id, .int .i64 y.sz, .int .i64 y.og, .int .i64 y.kd, .bool y.pt, .slice ya y.mp.length yc] 38) := ⟨_, rfl⟩
 have b0 : Below w.heap.size w W0 := by rw [hW0]; exact below1 _ _
 have hV : VoB W0 P y (.slice ya y.mp.length yc) := by rw [hW0, hP]; exact heap_new _ _
 have HR := hid ((hR.below b0).mono b0.size)
 have HY := hid ((hy.below b0).mono b0.size)
 have HB0 := hid b0
 have HV := hid hV
 have HP := hid hP.symm
 have HW0 := hid hW0
 obtain ⟨n, hn⟩ : ∃ n, n = vs.length := ⟨_, rfl⟩
 have HN := hid hn
 have hn16 : n ≤ 16777000 := by omega
 have HO0 : Hid (ShV X W0.heap.size W0 (.slice none 0 0) (ldQ (vs.take 0) y) []) := hid (ShV.nil _ _ _)
 have HBl0 := hid (Below.refl W0.heap.size W0)
 have HFIN : Hid (∀ v us W9, ShV X W0.heap.size W9 v (ladP vs y) us → Below W0.heap.size W0 W9 → VsQ X w (ladP vs y) (.returned v) W9) := hid (fun v us W9 h1 h2 => VsQ.of h1 h2.size (fun q hq => by have := hX q hq; have := b0.size; omega) (b0.trans (h2.mono b0.size)))
 rw [← hn]
 clear hR hn hl hy b0 hV hW0 hP
 dsimp only [volA]
 go_enter Tryz.func40, Tryz.ntmps40
 go_wp2_with fail
 rw [← HW0.out, HP.out]
 go_loopw [5, 6, 7] (fun ov bv iv wr => ∃ (i : Nat) (v : Value) (us : List Value), i ≤ n ∧ v = ov ∧ bv = .bool (anL (vs.take i) y) ∧ iv = .int .i64 (i : Int) ∧ ShV X W0.heap.size wr v (ldQ (vs.take i) y) us ∧ Below W0.heap.size W0 wr) (fun _ _ iv _ => n - (intOf iv).toNat)
 case atStart => exact ⟨0, _, _, Nat.zero_le _, rfl, rfl, rfl, HO0.out, HBl0.out⟩
 case round =>
  obtain ⟨i, v, us, hi, rfl, rfl, rfl, hO, hb⟩ := hrel
  by_cases hlt : i < n
  ·have hl1 : (i : Int) < (n : Int) := by omega
   have hil : i < vs.length := by have := HN.out; omega
   have htk : vs.take (i + 1) = vs.take i ++ [vs[i]] := List.take_succ_eq_append_getElem hil
   have hlen : (ldQ (vs.take i) y).length ≤ 16777001 := by have := ldQ_len (vs.take i) y; have h2 : (vs.take i).length ≤ i := (by rw [List.length_take]; omega); omega
   obtain ⟨g, off, rfl, hgl, _, hc⟩ := (HR.out.below hb).resolve_left (fun e => by rw [e] at hil; simp at hil)
   obtain ⟨ma, mc, hVC, hRm, hmn, hmx⟩ := hc i hil
   obtain ⟨u, hu⟩ : ∃ u, u = vs[i] := ⟨_, rfl⟩
   rw [← hu] at hVC hRm htk hmx
   obtain ⟨⟨p0, p1, p2, p3, p4, p5, p6⟩, _⟩ := (HV.out.keep (hb.block _ HV.out.lt)).cs
   have hVC0 := hVC
   obtain ⟨c0, c1, c2, c3, c4, c5, c6⟩ := hVC
   obtain ⟨U, hU⟩ : ∃ U, U = wr.drewN 0 := ⟨_, rfl⟩
   clear hc hu
   cases hbv : anL (vs.take i) y
   ·have hlen2 := hlen
    cases hlt2 : Op.bytesLess y.nm.toList u.nm.toList
    ·obtain ⟨e1, e2⟩ := ldQ_f (u := u) hbv hlt2
     rw [← htk] at e1 e2
     have HE1 := hid e1
     have HE2 := hid e2
     have HO := hid hO
     have HBb := hid hb
     have HVC := hid hVC0
     have HRm := hid hRm
     have HGL := hid hgl
     clear e1 e2 hO hb hVC0 hRm htk hU hgl
     go_wp2_with fail
     go_quiet (fail)
     generalize hU : wr.drewN _ = U
     have hbU : Below wr.heap.size wr U := by rw [← hU]; exact below_drewN _ _ _
     have hbW : Below W0.heap.size W0 U := HBb.out.trans (hbU.mono HBb.out.size)
     have hO := HO.out.next HBb.out.size hbU
     obtain ⟨c0, c1, c2, c3, c4, c5, c6⟩ := HVC.out.below (hbU.mono HBb.out.size) HGL.out
     have hRu := HRm.out.below (hbU.mono HBb.out.size)
     obtain ⟨X1, hX1⟩ : ∃ X, X = U.alloc (.cells #[.string u.nm, .int .i64 u.id, .int .i64 u.sz, .int .i64 u.og, .int .i64 u.kd, .bool u.pt, .slice ma u.mp.length mc] 38) := ⟨_, rfl⟩
     have hbX1 : Below U.heap.size U X1 := by rw [hX1]; exact below1 _ _
     have hgX1 : X1.heap[U.heap.size]? = some (.cells (cells7 u (.slice ma u.mp.length mc)).toArray 38 (0, 0)) := by rw [hX1]; exact heap7 _ _ _
     obtain ⟨v1, Y1, hr1, hO1, hbY1⟩ := (hO.next hbW.size hbX1).push 22 u ma mc (hRu.below (hbX1.mono hbW.size)) hmn hmx hgX1 (by omega) (Nat.le_trans hbW.size hbX1.size)
     have hb1 : Below W0.heap.size W0 Y1 := (hbW.trans (hbX1.mono hbW.size)).trans hbY1
     have HX1 := hid hX1
     have HQ : Hid (ShV X W0.heap.size Y1 v1 (ldQ (vs.take (i + 1)) y) (us ++ [.slice ma u.mp.length mc])) := hid (by rw [HE1.out]; exact hO1)
     have HQb := hid hb1
     clear hO hbW hbU hX1 hbX1 hgX1 hO1 hbY1 hb1 hRu hU
     go_wp2_with (first | (rw [← HX1.out]; at_builtin; refine Lib.wpList_append_run _ rfl _ _ _ _ rfl _ _ rfl rfl _ _ hr1 ?_) | (at_builtin; refine Lib.wpList_append_run _ rfl _ _ _ _ rfl _ _ rfl rfl _ _ hr1 ?_))
     go_roundw
     case rel => exact ⟨i + 1, _, _, by omega, rfl, by rw [HE2.out], by go_num, HQ.out, HQb.out⟩
     case measure => simp [intOf]; omega
    ·obtain ⟨e1, e2⟩ := ldQ_n (u := u) hbv hlt2
     rw [← htk] at e1 e2
     have HE1 := hid e1
     have HE2 := hid e2
     have HO := hid hO
     have HBb := hid hb
     have HVC := hid hVC0
     have HRm := hid hRm
     have HGL := hid hgl
     clear e1 e2 hO hb hVC0 hRm htk hU hgl
     go_wp2_with fail
     go_quiet (fail)
     generalize hU : wr.drewN _ = U
     have hbU : Below wr.heap.size wr U := by rw [← hU]; exact below_drewN _ _ _
     have hbW : Below W0.heap.size W0 U := HBb.out.trans (hbU.mono HBb.out.size)
     have hO := HO.out.next HBb.out.size hbU
     obtain ⟨⟨p0, p1, p2, p3, p4, p5, p6⟩, _⟩ := (HV.out.keep (hbW.block _ HV.out.lt)).cs
     have hYu := HY.out.below hbW
     obtain ⟨X1, hX1⟩ : ∃ X, X = U.alloc (.cells #[.string y.nm, .int .i64 y.id, .int .i64 y.sz, .int .i64 y.og, .int .i64 y.kd, .bool y.pt, .slice ya y.mp.length yc] 38) := ⟨_, rfl⟩
     have hbX1 : Below U.heap.size U X1 := by rw [hX1]; exact below1 _ _
     have hgX1 : X1.heap[U.heap.size]? = some (.cells (cells7 y (.slice ya y.mp.length yc)).toArray 38 (0, 0)) := by rw [hX1]; exact heap7 _ _ _
     obtain ⟨v1, Y1, hr1, hO1, hbY1⟩ := (hO.next hbW.size hbX1).push 22 y ya yc (hYu.below (hbX1.mono hbW.size)) hyn hyx hgX1 (by omega) (Nat.le_trans hbW.size hbX1.size)
     have hb1 : Below W0.heap.size W0 Y1 := (hbW.trans (hbX1.mono hbW.size)).trans hbY1
     have HX1 := hid hX1
     obtain ⟨c0, c1, c2, c3, c4, c5, c6⟩ := HVC.out.below ((hbU.mono HBb.out.size).trans ((hbX1.mono hbW.size).trans hbY1)) HGL.out
     have hRu := HRm.out.below ((hbU.mono HBb.out.size).trans ((hbX1.mono hbW.size).trans hbY1))
     obtain ⟨X2, hX2⟩ : ∃ X, X = Y1.alloc (.cells #[.string u.nm, .int .i64 u.id, .int .i64 u.sz, .int .i64 u.og, .int .i64 u.kd, .bool u.pt, .slice ma u.mp.length mc] 38) := ⟨_, rfl⟩
     have hbX2 : Below Y1.heap.size Y1 X2 := by rw [hX2]; exact below1 _ _
     have hgX2 : X2.heap[Y1.heap.size]? = some (.cells (cells7 u (.slice ma u.mp.length mc)).toArray 38 (0, 0)) := by rw [hX2]; exact heap7 _ _ _
     obtain ⟨v2, Y2, hr2, hO2, hbY2⟩ := (hO1.next hb1.size hbX2).push 22 u ma mc (hRu.below (hbX2.mono hb1.size)) hmn hmx hgX2 (by simp only [List.length_append, List.length_cons, List.length_nil]; omega) (Nat.le_trans hb1.size hbX2.size)
     have hb2 : Below W0.heap.size W0 Y2 := (hb1.trans (hbX2.mono hb1.size)).trans hbY2
     have HX2 := hid hX2
     have HQ : Hid (ShV X W0.heap.size Y2 v2 (ldQ (vs.take (i + 1)) y) (us ++ [.slice ya y.mp.length yc] ++ [.slice ma u.mp.length mc])) := hid (by rw [HE1.out]; exact hO2)
     have HQb := hid hb2
     clear hO hbW hbU hX1 hbX1 hgX1 hO1 hbY1 hb1 hRu hU hX2 hbX2 hgX2 hO2 hbY2 hb2 hYu
     go_wp2_with (first | (rw [← HX1.out]; at_builtin; refine Lib.wpList_append_run _ rfl _ _ _ _ rfl _ _ rfl rfl _ _ hr1 ?_) | (rw [← HX2.out]; at_builtin; refine Lib.wpList_append_run _ rfl _ _ _ _ rfl _ _ rfl rfl _ _ hr2 ?_))
     go_roundw
     case rel => exact ⟨i + 1, _, _, by omega, rfl, by rw [HE2.out], by go_num, HQ.out, HQb.out⟩
     case measure => simp [intOf]; omega
   ·obtain ⟨e1, e2⟩ := ldQ_t (u := u) hbv
    rw [← htk] at e1 e2
    have HE1 := hid e1
    have HE2 := hid e2
    have HO := hid hO
    have HBb := hid hb
    have HVC := hid hVC0
    have HRm := hid hRm
    have HGL := hid hgl
    clear e1 e2 hO hb hVC0 hRm htk hU hgl
    go_wp2_with fail
    go_quiet (fail)
    generalize hU : wr.drewN _ = U
    have hbU : Below wr.heap.size wr U := by rw [← hU]; exact below_drewN _ _ _
    have hbW : Below W0.heap.size W0 U := HBb.out.trans (hbU.mono HBb.out.size)
    have hO := HO.out.next HBb.out.size hbU
    obtain ⟨c0, c1, c2, c3, c4, c5, c6⟩ := HVC.out.below (hbU.mono HBb.out.size) HGL.out
    have hRu := HRm.out.below (hbU.mono HBb.out.size)
    obtain ⟨X1, hX1⟩ : ∃ X, X = U.alloc (.cells #[.string u.nm, .int .i64 u.id, .int .i64 u.sz, .int .i64 u.og, .int .i64 u.kd, .bool u.pt, .slice ma u.mp.length mc] 38) := ⟨_, rfl⟩
    have hbX1 : Below U.heap.size U X1 := by rw [hX1]; exact below1 _ _
    have hgX1 : X1.heap[U.heap.size]? = some (.cells (cells7 u (.slice ma u.mp.length mc)).toArray 38 (0, 0)) := by rw [hX1]; exact heap7 _ _ _
    obtain ⟨v1, Y1, hr1, hO1, hbY1⟩ := (hO.next hbW.size hbX1).push 22 u ma mc (hRu.below (hbX1.mono hbW.size)) hmn hmx hgX1 (by omega) (Nat.le_trans hbW.size hbX1.size)
    have hb1 : Below W0.heap.size W0 Y1 := (hbW.trans (hbX1.mono hbW.size)).trans hbY1
    have HX1 := hid hX1
    have HQ : Hid (ShV X W0.heap.size Y1 v1 (ldQ (vs.take (i + 1)) y) (us ++ [.slice ma u.mp.length mc])) := hid (by rw [HE1.out]; exact hO1)
    have HQb := hid hb1
    clear hO hbW hbU hX1 hbX1 hgX1 hO1 hbY1 hb1 hRu hU
    go_wp2_with (first | (rw [← HX1.out]; at_builtin; refine Lib.wpList_append_run _ rfl _ _ _ _ rfl _ _ rfl rfl _ _ hr1 ?_) | (at_builtin; refine Lib.wpList_append_run _ rfl _ _ _ _ rfl _ _ rfl rfl _ _ hr1 ?_))
    go_roundw
    case rel => exact ⟨i + 1, _, _, by omega, rfl, by rw [HE2.out], by go_num, HQ.out, HQb.out⟩
    case measure => simp [intOf]; omega
  ·have ein : i = n := by omega
   have hl1 : ¬ (i : Int) < (n : Int) := by omega
   have hO : ShV X W0.heap.size wr v (ldQ vs y) us := by have := hO; rw [ein, HN.out, List.take_length] at this; exact this
   have hA : anL (vs.take i) y = anL vs y := by rw [ein, HN.out, List.take_length]
   rw [hA]
   clear hA ein
   cases hbv : anL vs y
   ·have hlen : (ldQ vs y).length ≤ 16777001 := by have := ldQ_len vs y; have := HN.out; omega
    have hE : ladP vs y = ldQ vs y ++ [y] := by unfold ldQ; rw [if_neg (by rw [hbv]; simp)]; exact lp2 vs y hbv
    obtain ⟨⟨p0, p1, p2, p3, p4, p5, p6⟩, _⟩ := (HV.out.keep (hb.block _ HV.out.lt)).cs
    have hYu := HY.out.below hb
    obtain ⟨X1, hX1⟩ : ∃ X, X = wr.alloc (.cells #[.string y.nm, .int .i64 y.id, .int .i64 y.sz, .int .i64 y.og, .int .i64 y.kd, .bool y.pt, .slice ya y.mp.length yc] 38) := ⟨_, rfl⟩
    have hbX1 : Below wr.heap.size wr X1 := by rw [hX1]; exact below1 _ _
    have hgX1 : X1.heap[wr.heap.size]? = some (.cells (cells7 y (.slice ya y.mp.length yc)).toArray 38 (0, 0)) := by rw [hX1]; exact heap7 _ _ _
    obtain ⟨v1, Y1, hr1, hO1, hbY1⟩ := (hO.next hb.size hbX1).push 22 y ya yc (hYu.below (hbX1.mono hb.size)) hyn hyx hgX1 (by omega) (Nat.le_trans hb.size hbX1.size)
    have hb1 : Below W0.heap.size W0 Y1 := (hb.trans (hbX1.mono hb.size)).trans hbY1
    have HX1 := hid hX1
    have HQ := hid (HFIN.out v1 _ Y1 (by rw [hE]; exact hO1) hb1)
    clear hO hb hX1 hbX1 hgX1 hO1 hbY1 hb1 hYu hE hbv
    go_wp2_with (first | (rw [← HX1.out]; at_builtin; refine Lib.wpList_append_run _ rfl _ _ _ _ rfl _ _ rfl rfl _ _ hr1 ?_) | (at_builtin; refine Lib.wpList_append_run _ rfl _ _ _ _ rfl _ _ rfl rfl _ _ hr1 ?_))
    go_ret
    exact HQ.out
   ·have hE : ladP vs y = ldQ vs y := by unfold ldQ; rw [if_pos hbv]
    have HQ := hid (HFIN.out v us wr (by rw [hE]; exact hO) hb)
    clear hO hb hE hbv
    go_wp2
    go_ret
    exact HQ.out
end Go.Proofs.YtddddfankeepkaaGreatDoor
