import Derived.Test.YtldlejpacgphmabGreatG40
import Derived.Test.YtldlejpacgphmabGreatG36
import Derived.Test.YtldlejpacgphmabGreatG35
namespace Go.Proofs.YtldlejpacgphmabGreat
open Go.RowKit
theorem Bok.new {w : World} {b B : Nat} (h : w.heap[b]? = some (.cells #[.int .i64 0, .int .i64 0, .bool false, .slice none 0 0, .slice none 0 0, .slice none 0 0, .slice none 0 0, .slice none 0 0] 34 (0, 0))) (hB : B ≤ b) : Bok B (fun x => x = b) w b 0 0 0 := by
 refine ⟨fun _ => False, .slice none 0 0, .slice none 0 0, .slice none 0 0, .slice none 0 0, .slice none 0 0, 0, [], [], [], [], [], fun _ => [], fun _ => [], ⟨by omega, rfl, (fun i h => by omega), (fun i h => by omega), ⟨h, hB, World.ownsRow_nil _ _ _ _, World.ownsRow_nil _ _ _ _, World.ownsRow_nil _ _ _ _, ⟨World.ownsRow_nil _ _ _ _, fun i h => by omega⟩, ⟨World.ownsRow_nil _ _ _ _, fun i h => by omega⟩, dj_nil _, dj_nil _, dj_nil _, dj_nil _, dj_nil _, dj_nil _, fun g h => h.elim⟩,
  ⟨fun i h => by omega, fun i j g h => by omega⟩, (fun i h => by omega), fun x q => ?_⟩⟩
 rcases q with q | q | q | q | q | q | q | q
 ·exact q
 ·cases q
 ·cases q
 ·cases q
 ·cases q
 ·cases q
 ·exact q.elim
 ·obtain ⟨j, hj, _⟩ := q
  omega
open Go.RowKit
theorem Bok.cut {B : Nat} {X : Nat → Prop} {w : World} {b cnt tot nK : Nat} (h : Bok B X w b cnt tot nK) : Bok B (fun x => X x ∧ x < w.heap.size) w b cnt tot nK := by
 obtain ⟨R, fr, he, ma, ke, wa, n, fv, hv, ms, kv, wv, K, Z, h⟩ := h
 refine ⟨R, fr, he, ma, ke, wa, n, fv, hv, ms, kv, wv, K, Z, ⟨h.hn, h.hml, h.hms, h.hZ, h.bk, h.fs, h.hd, fun x hx => ⟨h.xx x hx, ?_⟩⟩⟩
 rcases hx with q | q | q | q | q | q | q | ⟨j, hj, q⟩
 ·rw [q]; exact h.bk.blk.lt
 ·exact (World.ownsRow.lt h.bk.oF x q).2
 ·exact (World.ownsRow.lt h.bk.oH x q).2
 ·exact (World.ownsRow.lt h.bk.oM x q).2
 ·exact (World.ownsRow.lt h.bk.rK.own x q).2
 ·exact (World.ownsRow.lt h.bk.rW.own x q).2
 ·exact (h.bk.rT x q).lt
 ·exact (h.fs.own hj q).1.lt
theorem Below.ofBut {B : Nat} {Y : Nat → Prop} {w0 w w' : World} (hb : Below B w0 w) (h : But Y w w') (hY : ∀ k, Y k → B ≤ k) (hB : B = w0.heap.size) : Below B w0 w' := by
 have hs := hb.size
 have h1 : But (fun k => B ≤ k) w0 w := ⟨hb.os, hb.tape, hb.output, hb.size, fun k _ q => hb.block k (by omega)⟩
 exact (h1.comp h (fun k _ r => hY k r)).below (by omega) (fun k hk r => by omega)
theorem Wx.beside {X0 Z : Nat → Prop} {w : World} {wb p c j g room nb fr bl K lasted : Nat} {tried tl td : Value} {hb hc : Nat} {H : List Int} {ta : Option Addr} {tc : Nat} {vs : List Value} {Us : List (List Pm)} {Ls : List Ln} {n1 : Nat} {cs : List Value} {d : Pd} {s : Js} (h : Wx X0 Z w wb p c j g room nb fr bl K lasted tried tl td hb hc H ta tc vs Us Ls n1 cs d s) {w' : World} {Y X1 : Nat → Prop} (hb' : But Y w w') (hY : ∀ k, k < w.heap.size → Y k → X0 k) (hd : ∀ k, Mu Z wb tl td Ls g (.slice ta Us.length tc) k → ¬ X0 k) (hx : ∀ k, k < w.heap.size → X1 k → X0 k) (hx2 : ∀ k, X1 k → k < w'.heap.size) : Wx X1 Z w' wb p c j g room nb fr bl K lasted tried tl td hb hc H ta tc vs Us Ls n1 cs d s := by
 have hn : ∀ k, k < w.heap.size → Mu Z wb tl td Ls g (.slice ta Us.length tc) k → ¬ Y k := fun k hk q r => hd k q (hY k hk r)
 exact ⟨h.wd.keep (hb'.block wb h.wd.lt (hn wb h.wd.lt (.inl (.inr (.inl rfl))))), h.lg.but hb' (fun k hk q => .inr (hY k hk q)) _ (fun k hk q => q.imp id (hx k hk)), h.jq.but hb' (fun k hk q => hn k hk (.inl (.inl q))), h.fu, h.tr.but hb' (fun k hk q => hn k hk (.inl (.inr (.inr (.inr q))))), owns_keep h.ls (fun k e => hb'.block k (World.ownsRow.lt h.ls k e).2 (hn k (World.ownsRow.lt h.ls k e).2 (.inl (.inr (.inr (.inl e)))))), h.n1, h.nl, h.zw, h.zt, h.tw, h.lt, fun k q => Nat.lt_of_lt_of_le (h.zb k q) hb'.size, h.lo, h.fit, h.r1, h.r2, hx2⟩
theorem WD.beside {X0 W : Nat → Prop} {w : World} {wb room nb fr bl K lasted : Nat} {H : List Int} {Us : List (List Pm)} (h : WD X0 W w wb room nb fr bl K lasted H Us) {w' : World} {Y X1 : Nat → Prop} (hb' : But Y w w') (hY : ∀ k, k < w.heap.size → Y k → X0 k) (hd : ∀ k, W k → ¬ X0 k) (hx : ∀ k, k < w.heap.size → X1 k → X0 k) (hx2 : ∀ k, X1 k → k < w'.heap.size) : WD X1 W w' wb room nb fr bl K lasted H Us := by
 obtain ⟨Z, p, c, j, g, tried, tl, td, hb, hc, ta, tc, vs, Ls, n1, cs, d, s, h, hOn, hW⟩ := h
 subst hW
 exact ⟨Z, p, c, j, g, tried, tl, td, hb, hc, ta, tc, vs, Ls, n1, cs, d, s, h.beside hb' hY hd hx hx2, hOn, rfl⟩
def OW (X0 W : Nat → Prop) (w : World) (v : Value) (K : Nat) : Prop :=
 (v = .pointer none ∧ (∀ k, ¬ W k) ∧ ∀ k, X0 k → k < w.heap.size) ∨ ∃ wb room nb fr bl lasted H Us, v = .pointer (some ⟨wb, 0, none⟩) ∧ WD X0 W w wb room nb fr bl K lasted H Us
theorem OW.lt {X0 W : Nat → Prop} {w : World} {v : Value} {K : Nat} (h : OW X0 W w v K) {k : Nat} (hk : W k) : k < w.heap.size := by
 rcases h with ⟨_, h, _⟩ | ⟨wb, room, nb, fr, bl, lasted, H, Us, _, h⟩
 ·exact absurd hk (h k)
 ·exact h.lt hk
theorem OW.beside {X0 W : Nat → Prop} {w : World} {v : Value} {K : Nat} (h : OW X0 W w v K) {w' : World} {Y X1 : Nat → Prop} {K1 : Nat} (hb' : But Y w w') (hY : ∀ k, k < w.heap.size → Y k → X0 k) (hd : ∀ k, W k → ¬ X0 k) (hx : ∀ k, k < w.heap.size → X1 k → X0 k) (hx2 : ∀ k, X1 k → k < w'.heap.size) (hK : K ≤ K1) : OW X1 W w' v K1 := by
 rcases h with ⟨e, h, _⟩ | ⟨wb, room, nb, fr, bl, lasted, H, Us, e, h⟩
 ·exact .inl ⟨e, h, hx2⟩
 ·exact .inr ⟨wb, room, nb, fr, bl, lasted, H, Us, e, (h.beside hb' hY hd hx hx2).monoK hK⟩
structure Duo (B : Nat) (w : World) (va vb : Value) (Wa Wb : Nat → Prop) (K : Nat) (X : Nat → Prop) : Prop where
 a : OW (fun k => Wb k ∨ X k) Wa w va K
 b : OW (fun k => Wa k ∨ X k) Wb w vb K
 ab : ∀ k, Wa k → ¬ Wb k
 ax : ∀ k, Wa k → ¬ X k
 bx : ∀ k, Wb k → ¬ X k
 la : ∀ k, Wa k → B ≤ k
 lb : ∀ k, Wb k → B ≤ k
 lx : ∀ k, X k → B ≤ k ∧ k < w.heap.size
theorem Duo.swap {B : Nat} {w : World} {va vb : Value} {Wa Wb : Nat → Prop} {K : Nat} {X : Nat → Prop} (h : Duo B w va vb Wa Wb K X) : Duo B w vb va Wb Wa K X :=
 ⟨h.b, h.a, fun k q r => h.ab k r q, h.bx, h.ax, h.lb, h.la, h.lx⟩
theorem Duo.step {B : Nat} {w : World} {va vb : Value} {Wa Wb : Nat → Prop} {K : Nat} {X : Nat → Prop} (h : Duo B w va vb Wa Wb K X) {w' : World} {Wc X1 : Nat → Prop} {K1 : Nat} (hB : B ≤ w.heap.size) (hb' : But Wa w w') (ha : OW (fun k => Wb k ∨ X1 k) Wc w' va K1) (hg : ∀ k, k < w.heap.size → Wc k → Wa k) (hK : K ≤ K1) (hX : ∀ k, k < w.heap.size → X1 k → X k) (hX2 : ∀ k, X1 k → k < w'.heap.size ∧ ¬ Wc k) : Duo B w' va vb Wc Wb K1 X1 := by
 have hs := hb'.size
 refine ⟨ha, h.b.beside hb' (fun k _ q => .inl q) (fun k q r => r.elim (fun r => h.ab k r q) (h.bx k q)) (fun k hk q => q.imp (hg k hk) (hX k hk)) (fun k q => q.elim (fun q => ha.lt q) (fun q => (hX2 k q).1)) hK, fun k q r => ?_, fun k q r => (hX2 k r).2 q, fun k q r => h.bx k q (hX k (h.b.lt q) r), fun k q => ?_, h.lb, fun k q => ⟨?_, (hX2 k q).1⟩⟩
 ·exact h.ab k (hg k (h.b.lt r) q) r
 ·rcases Nat.lt_or_ge k w.heap.size with hk | hk
  ·exact h.la k (hg k hk q)
  ·omega
 ·rcases Nat.lt_or_ge k w.heap.size with hk | hk
  ·exact (h.lx k (hX k hk q)).1
  ·omega
theorem Duo.other {B : Nat} {w : World} {va vb : Value} {Wa Wb : Nat → Prop} {K : Nat} {X : Nat → Prop} (h : Duo B w va vb Wa Wb K X) {w' : World} {Y X1 : Nat → Prop} (hB : B ≤ w.heap.size) (hb' : But Y w w') (hY : ∀ k, k < w.heap.size → Y k → X k) (hX : ∀ k, k < w.heap.size → X1 k → X k) (hX2 : ∀ k, X1 k → k < w'.heap.size) : Duo B w' va vb Wa Wb K X1 := by
 have hs := hb'.size
 refine ⟨h.a.beside hb' (fun k hk q => .inr (hY k hk q)) (fun k q r => r.elim (h.ab k q) (h.ax k q)) (fun k hk q => q.imp id (hX k hk)) (fun k q => q.elim (fun q => by have := h.b.lt q; omega) (hX2 k)) (Nat.le_refl _), h.b.beside hb' (fun k hk q => .inr (hY k hk q)) (fun k q r => r.elim (fun r => h.ab k r q) (h.bx k q)) (fun k hk q => q.imp id (hX k hk)) (fun k q => q.elim (fun q => by have := h.a.lt q; omega) (hX2 k)) (Nat.le_refl _), h.ab, fun k q r => h.ax k q (hX k (h.a.lt q) r), fun k q r => h.bx k q (hX k (h.b.lt q) r), h.la, h.lb, fun k q => ⟨?_, hX2 k q⟩⟩
 rcases Nat.lt_or_ge k w.heap.size with hk | hk
 ·exact (h.lx k (hX k hk q)).1
 ·omega
theorem Duo.below {B : Nat} {w : World} {va vb : Value} {Wa Wb : Nat → Prop} {K : Nat} {X : Nat → Prop} (h : Duo B w va vb Wa Wb K X) {w' : World} (hB : B ≤ w.heap.size) (hb' : Below w.heap.size w w') : Duo B w' va vb Wa Wb K X :=
 h.other hB (But.of_below hb' (X := fun _ => False)) (fun _ _ q => q.elim) (fun _ _ q => q) (fun k q => Nat.lt_of_lt_of_le (h.lx k q).2 hb'.size)
theorem Duo.begun {B : Nat} {w2 w3 w4 : World} {va vb : Value} {Wa Wb : Nat → Prop} (hB : B ≤ w2.heap.size) (ha : OW (fun _ => False) Wa w2 va 0) (b3 : Below w2.heap.size w2 w3) (hb : OW Wa Wb w3 vb 0) (la : ∀ k, Wa k → B ≤ k) (lb : ∀ k, Wb k → w2.heap.size ≤ k) (b4 : Below w3.heap.size w3 w4) (h4 : w3.heap.size < w4.heap.size) : Duo B w4 va vb Wa Wb 0 (fun x => x = w3.heap.size) := by
 have s3 := b3.size
 have b24 : Below w2.heap.size w2 w4 := b3.trans (b4.mono s3)
 refine ⟨ha.beside (But.of_below b24 (X := fun _ => False)) (fun _ _ q => q.elim) (fun _ _ q => q) (fun k hk q => q.elim (fun q => by have := lb k q; omega) (fun q => by omega)) (fun k q => q.elim (fun q => by have := hb.lt q; omega) (fun q => by omega)) (Nat.le_refl _), hb.beside (But.of_below b4 (X := fun _ => False)) (fun _ _ q => q.elim) (fun k q r => by have := lb k q; have := ha.lt r; omega) (fun k hk q => q.elim id (fun q => by omega)) (fun k q => q.elim (fun q => by have := ha.lt q; omega) (fun q => by omega)) (Nat.le_refl _), fun k q r => by have := lb k r; have := ha.lt q; omega, fun k q r => by have := ha.lt q; omega, fun k q r => by have := hb.lt q; omega, la, fun k q => by have := lb k q; omega, fun k q => ⟨by omega, by omega⟩⟩
theorem WD.read {X0 W : Nat → Prop} {w : World} {wb room nb fr bl K lasted : Nat} {H : List Int} {Us : List (List Pm)} (h : WD X0 W w wb room nb fr bl K lasted H Us) (hK : K < 4611686018427387904) (at_ : Int) : ∃ j, w.cell? ⟨wb, 2, none⟩ = some (.pointer (some ⟨j, 0, none⟩)) ∧ ∀ w1, Below w.heap.size w w1 →
  Calls Tryz.prog 13 #[.pointer (some ⟨j, 0, none⟩), .int .i64 at_] w1 fun e w' => ∃ al cl zs code W', e = .returned (.tuple #[.slice al zs.length cl, .int .i64 code]) ∧ zs.length ≤ 512 ∧ Pl.isB zs ∧ ((al = none ∧ zs = [] ∧ cl = 0) ∨ ∃ g, al = some ⟨g, 0, none⟩ ∧ Own w' g zs.length cl zs ∧ w1.heap.size ≤ g ∧ ¬ W' g) ∧ But W w1 w' ∧ w'.cell? ⟨wb, 2, none⟩ = some (.pointer (some ⟨j, 0, none⟩)) ∧ (∀ k, k < w1.heap.size → W' k → W k) ∧ ∀ X1 : Nat → Prop, (∀ k, k < w1.heap.size → X1 k → X0 k) → (∀ k, X1 k → k < w'.heap.size) → WD X1 W' w' wb room nb fr bl (K + 1) lasted H Us := by
 obtain ⟨Z, p, c, j, g, tried, tl, td, hb, hc, ta, tc, vs, Ls, n1, cs, d, s, h0, hOn, hW⟩ := h
 refine ⟨j, h0.wd.cell 2, fun w1 b1 => ?_⟩
 have h := h0.below b1
 have hpl := hOn.puts h.lo h.fit h.nb
 have hnb9 := h.nb
 rcases homeC_cases nb fr bl at_ with hh | hh
 ·have hne : homeC nb fr bl at_ ≠ 0 := by rw [hh]; decide
  refine Calls.mono (Read_far h.jq h.fit hOn.on at_ hne) ?_
  rintro e w' ⟨rfl, b⟩
  refine ⟨none, 0, [], homeC nb fr bl at_, W, rfl, by simp, Pl.isB_nil, .inl ⟨rfl, rfl, rfl⟩, But.of_below b, (h.below b).wd.cell 2, fun _ _ q => q, fun X1 hx hx2 => ?_⟩
  have hy := h.below b
  refine ⟨Z, p, c, j, g, tried, tl, td, hb, hc, ta, tc, vs, Ls, n1, cs, d, s, ⟨hy.wd, h.lg.but (But.of_below b (X := fun _ => False)) (fun _ _ q => q.elim) _ (fun k hk q => q.imp id (hx k hk)), hy.jq.monoK (by omega), hy.fu, hy.tr, hy.ls, hy.n1, hy.nl, hy.zw, hy.zt, hy.tw, hy.lt, hy.zb, hy.lo, hy.fit, hy.r1, hy.r2, hx2⟩, hOn, hW⟩
 ·obtain ⟨x, rfl⟩ : ∃ x : Nat, at_ = (x : Int) := by
   unfold homeC at hh
   refine ⟨at_.toNat, ?_⟩
   have : ¬ at_ < 0 := fun q => by rw [if_pos (by omega)] at hh; cases hh
   omega
  have hxn : x < nb := by
   unfold homeC at hh
   have : ¬ (nb : Int) ≤ (x : Int) := fun q => by rw [if_pos (by omega)] at hh; cases hh
   omega
  refine Calls.mono (Read_home h.jq h.fit hOn.on (by omega) hK x hxn hh) ?_
  rintro e w' ⟨g2, cp, rfl, hg2, ho, hib, ⟨Z', J, gr, nz⟩, b⟩
  have hs := b.size
  have hol := ho.lt
  have hlen := ho.len
  have hcut := J.cut
  refine ⟨some ⟨g2, 0, none⟩, cp, jread d s x, 0, Mu (fun k => Z' k ∧ k < w'.heap.size) wb tl td Ls g (.slice ta Us.length tc), by rw [hlen], by omega, hib, .inr ⟨g2, rfl, by rw [hlen]; exact ho, hg2, fun q => ?_⟩, b.mono (fun k _ q => by rw [hW]; exact .inl (.inl q)), (h.wd.keep (b.block wb h.wd.lt h.zw)).cell 2, fun k hk q => ?_, fun X1 hx hx2 => ?_⟩
  ·rcases q with (q | q | q) | q | q
   ·exact nz q.1
   ·have := h.wd.lt; omega
   ·have := h.tlt q; omega
   ·have := h.lg.gl; omega
   ·have := (World.ownsRow.lt h.lg.row _ q).2; omega
  ·rw [hW]
   rcases q with (q | q) | q
   ·exact .inl (.inl (gr k hk q.1))
   ·exact .inl (.inr q)
   ·exact .inr q
  ·have hwl := h.wd.lt
   refine ⟨fun k => Z' k ∧ k < w'.heap.size, p, c, j, g, tried, tl, td, hb, hc, ta, tc, vs, Ls, n1, cs, d, s, ⟨h.wd.keep (b.block wb hwl h.zw), h.lg.but b (fun _ _ q => .inl (.inl q)) _ (fun k hk q => q.imp (fun q => q.elim (fun q => .inl (gr k hk q.1)) .inr) (hx k hk)), hcut, h.fu, h.tr.but b (fun k _ q r => h.zt k (.inr q) r), owns_keep h.ls (fun k e => b.block k (World.ownsRow.lt h.ls k e).2 (h.zt k (.inl e))), h.n1, h.nl, fun q => h.zw (gr wb hwl q.1), fun k q r => h.zt k q (gr k (h.tlt q) r.1), h.tw, h.lt, fun k q => q.2, h.lo, h.fit, h.r1, h.r2, hx2⟩, hOn, rfl⟩
def Out (B : Nat) (NX : Nat → Prop) (w : World) (al : Option Addr) (cl : Nat) (zs : List Int) : Prop := (al = none ∧ zs = [] ∧ cl = 0) ∨ ∃ g, al = some ⟨g, 0, none⟩ ∧ Own w g zs.length cl zs ∧ ¬ NX g ∧ B ≤ g
theorem Out.lt {B : Nat} {NX : Nat → Prop} {w : World} {al : Option Addr} {cl : Nat} {zs : List Int} (h : Out B NX w al cl zs) {k : Nat} (hk : (Value.slice al zs.length cl).ownBlock = some k) : k < w.heap.size ∧ B ≤ k ∧ ¬ NX k := by
 rcases h with ⟨rfl, rfl, rfl⟩ | ⟨g, rfl, h1, h2, h3⟩
 ·cases hk
 ·have e : g = k := by injection hk
  subst e
  exact ⟨h1.lt, h3, h2⟩
theorem Out.but {B : Nat} {NX NX' Y : Nat → Prop} {w w' : World} {al : Option Addr} {cl : Nat} {zs : List Int} (h : Out B NX w al cl zs) (hb : But Y w w') (hY : ∀ k, (Value.slice al zs.length cl).ownBlock = some k → ¬ Y k) (hN : ∀ k, (Value.slice al zs.length cl).ownBlock = some k → ¬ NX' k) : Out B NX' w' al cl zs := by
 rcases h with h | ⟨g, rfl, h1, h2, h3⟩
 ·exact .inl h
 ·exact .inr ⟨g, rfl, h1.keep (hb.block g h1.lt (hY g rfl)), hN g rfl, h3⟩
set_option maxHeartbeats 1000000 in
theorem Duo.twice {B : Nat} {w : World} {vb : Value} {Wa Wb : Nat → Prop} {K : Nat} {X : Nat → Prop} {b cnt tot nK wb : Nat} {w0 : World} (h : Duo B w (.pointer (some ⟨wb, 0, none⟩)) vb Wa Wb K X) (hBk : Bok B X w b cnt tot nK) (hbt : Below B w0 w) (hB : B = w0.heap.size) (hK : K + 2 < 4611686018427387904) (hnK : nK ≤ 33554432) (hc : cnt ≤ 4194304) (ht : tot + 1024 ≤ 1073741754) (at_ m1 m2 : Int) (hm : 0 ≤ m1 ∧ m1 ≤ 268435456) (hm2 : 0 ≤ m2 ∧ m2 ≤ 268435456) {ab : Nat} (hab : ab < w.heap.size) (nab : ¬ Wa ab ∧ ¬ X ab) :
  ∃ j, w.cell? ⟨wb, 2, none⟩ = some (.pointer (some ⟨j, 0, none⟩)) ∧ Calls Tryz.prog 13 #[.pointer (some ⟨j, 0, none⟩), .int .i64 at_] w.drew fun e w4 => ∃ al n cl code, e = .returned (.tuple #[.slice al n cl, .int .i64 code]) ∧ w4.cell? ⟨wb, 2, none⟩ = some (.pointer (some ⟨j, 0, none⟩)) ∧ w4.cell? ⟨ab, 1, none⟩ = w.cell? ⟨ab, 1, none⟩ ∧
   Calls Tryz.prog 13 #[.pointer (some ⟨j, 0, none⟩), .int .i64 at_] w4.drew fun e w5 => ∃ al2 n2 cl2 code2, e = .returned (.tuple #[.slice al2 n2 cl2, .int .i64 code2]) ∧ w5.cell? ⟨wb, 2, none⟩ = some (.pointer (some ⟨j, 0, none⟩)) ∧ w5.cell? ⟨ab, 1, none⟩ = w.cell? ⟨ab, 1, none⟩ ∧
    Calls Tryz.prog 14 #[.pointer (some ⟨b, 0, none⟩), .slice al n cl, .int .i64 m1] w5 fun e w6 => e = .returned (.tuple #[]) ∧
     Calls Tryz.prog 14 #[.pointer (some ⟨b, 0, none⟩), .slice al2 n2 cl2, .int .i64 m2] w6 fun e w7 => e = .returned (.tuple #[]) ∧ Below B w0 w7 ∧ ∃ Wc X' nK' tot', nK' ≤ nK + 30 ∧ tot' ≤ tot + 1024 ∧ Duo B w7 (.pointer (some ⟨wb, 0, none⟩)) vb Wc Wb (K + 2) X' ∧ Bok B X' w7 b (cnt + 2) tot' nK' := by
 have hs0 := hbt.size
 have hBw : B ≤ w.heap.size := by omega
 obtain ⟨wb', room, nb, fr, bl, lasted, H, Us, ev, hWD⟩ : ∃ wb' room nb fr bl lasted H Us, (Value.pointer (some ⟨wb, 0, none⟩)) = .pointer (some ⟨wb', 0, none⟩) ∧ WD (fun k => Wb k ∨ X k) Wa w wb' room nb fr bl K lasted H Us := by
  rcases h.a with ⟨e, _⟩ | e
  ·cases e
  ·exact e
 obtain rfl : wb = wb' := by injection ev with e; injection e with e; injection e
 obtain ⟨j, hj, hRd⟩ := hWD.read (by omega) at_
 refine ⟨j, hj, Calls.mono (hRd w.drew (Below.refl _ _).drew) ?_⟩
 rintro e w4 ⟨al, cl, zs, code, W4, rfl, hz4, ib4, hl4, b4, hj4, g4, hW4⟩
 have s4 := b4.size
 have d4 : But Wa w w4 := (But.of_below (Below.refl w.heap.size w).drew (X := Wa)).comp b4 (fun _ _ q => q)
 have s4' : w.heap.size ≤ w4.heap.size := s4
 refine ⟨al, zs.length, cl, code, rfl, hj4, d4.cell (p := ⟨ab, 1, none⟩) hab nab.1, ?_⟩
 have o4 : Out B X w4 al cl zs := by
  rcases hl4 with e | ⟨g, rfl, e1, e2, e3⟩
  ·exact .inl e
  ·exact .inr ⟨g, rfl, e1, fun q => by have := (h.lx g q).2; have : w.heap.size ≤ g := e2; omega, by have : w.heap.size ≤ g := e2; omega⟩
 have n4 : ∀ k, (Value.slice al zs.length cl).ownBlock = some k → w.heap.size ≤ k ∧ ¬ W4 k := fun k e => by
  rcases hl4 with ⟨rfl, rfl, rfl⟩ | ⟨g, rfl, e1, e2, e3⟩
  ·cases e
  ·have : g = k := by injection e
   subst this
   exact ⟨e2, e3⟩
 have D4 : Duo B w4 (.pointer (some ⟨wb, 0, none⟩)) vb W4 Wb (K + 1) (fun k => X k ∨ (Value.slice al zs.length cl).ownBlock = some k) := by
  refine h.step hBw d4 (.inr ⟨wb, room, nb, fr, bl, lasted, H, Us, rfl, hW4 _ (fun k hk q => ?_) (fun k q => ?_)⟩) g4 (by omega) (fun k hk q => ?_) (fun k q => ⟨?_, ?_⟩)
  ·rcases q with q | q | q
   ·exact .inl q
   ·exact .inr q
   ·have := (n4 k q).1
    have hk' : k < w.heap.size := hk
    omega
  ·rcases q with q | q | q
   ·have := h.b.lt q; omega
   ·have := (h.lx k q).2; omega
   ·exact (o4.lt q).1
  ·rcases q with q | q
   ·exact q
   ·have := (n4 k q).1; omega
  ·rcases q with q | q
   ·have := (h.lx k q).2; omega
   ·exact (o4.lt q).1
  ·rcases q with q | q
   ·exact fun r => h.ax k (g4 k (h.lx k q).2 r) q
   ·exact (n4 k q).2
 have K4 : Bok B X w4 b cnt tot nK := hBk.but d4 (fun k _ q r => h.ax k r q)
 have nab4 : ¬ W4 ab := fun q => nab.1 (g4 ab hab q)
 have bt4 : Below B w0 w4 := Below.ofBut hbt d4 h.la hB
 clear hWD hRd hW4 hl4
 obtain ⟨wb', room, nb, fr, bl, lasted, H, Us, ev, hWD⟩ : ∃ wb' room nb fr bl lasted H Us, (Value.pointer (some ⟨wb, 0, none⟩)) = .pointer (some ⟨wb', 0, none⟩) ∧ WD (fun k => Wb k ∨ X k ∨ (Value.slice al zs.length cl).ownBlock = some k) W4 w4 wb' room nb fr bl (K + 1) lasted H Us := by
  rcases D4.a with ⟨e, _⟩ | e
  ·cases e
  ·exact e
 obtain rfl : wb = wb' := by injection ev with e; injection e with e; injection e
 obtain ⟨j2, hj2, hRd⟩ := hWD.read (by omega) at_
 obtain rfl : j = j2 := by
  rw [hj4] at hj2
  injection hj2 with e; injection e with e; injection e with e; injection e
 refine Calls.mono (hRd w4.drew (Below.refl _ _).drew) ?_
 rintro e w5 ⟨al2, cl2, zs2, code2, W5, rfl, hz5, ib5, hl5, b5, hj5, g5, hW5⟩
 have s5 := b5.size
 have d5 : But W4 w4 w5 := (But.of_below (Below.refl w4.heap.size w4).drew (X := W4)).comp b5 (fun _ _ q => q)
 have s5' : w4.heap.size ≤ w5.heap.size := s5
 refine ⟨al2, zs2.length, cl2, code2, rfl, hj5, (d5.cell (p := ⟨ab, 1, none⟩) (by show ab < _; omega) nab4).trans (d4.cell (p := ⟨ab, 1, none⟩) hab nab.1), ?_⟩
 have n5 : ∀ k, (Value.slice al2 zs2.length cl2).ownBlock = some k → w4.heap.size ≤ k ∧ ¬ W5 k := fun k e => by
  rcases hl5 with ⟨rfl, rfl, rfl⟩ | ⟨g, rfl, e1, e2, e3⟩
  ·cases e
  ·have : g = k := by injection e
   subst this
   exact ⟨e2, e3⟩
 have o5 : Out B (fun k => X k ∨ (Value.slice al zs.length cl).ownBlock = some k) w5 al2 cl2 zs2 := by
  rcases hl5 with e | ⟨g, rfl, e1, e2, e3⟩
  ·exact .inl e
  ·have e2' : w4.heap.size ≤ g := e2
   exact .inr ⟨g, rfl, e1, fun q => q.elim (fun q => by have := (h.lx g q).2; omega) (fun q => by have := (o4.lt q).1; omega), by omega⟩
 have D5 : Duo B w5 (.pointer (some ⟨wb, 0, none⟩)) vb W5 Wb (K + 1 + 1) (fun k => (X k ∨ (Value.slice al zs.length cl).ownBlock = some k) ∨ (Value.slice al2 zs2.length cl2).ownBlock = some k) := by
  refine D4.step (by omega) d5 (.inr ⟨wb, room, nb, fr, bl, lasted, H, Us, rfl, hW5 _ (fun k hk q => ?_) (fun k q => ?_)⟩) g5 (by omega) (fun k hk q => ?_) (fun k q => ⟨?_, ?_⟩)
  ·rcases q with q | q | q
   ·exact .inl q
   ·exact .inr q
   ·have := (n5 k q).1
    have hk' : k < w4.heap.size := hk
    omega
  ·rcases q with q | q | q
   ·have := D4.b.lt q; omega
   ·have := (D4.lx k q).2; omega
   ·exact (o5.lt q).1
  ·rcases q with q | q
   ·exact q
   ·have := (n5 k q).1; omega
  ·rcases q with q | q
   ·have := (D4.lx k q).2; omega
   ·exact (o5.lt q).1
  ·rcases q with q | q
   ·exact fun r => D4.ax k (g5 k (D4.lx k q).2 r) q
   ·exact (n5 k q).2
 have K5 : Bok B X w5 b cnt tot nK := K4.but d5 (fun k _ q r => D4.ax k r (.inl q))
 have o45 : Out B X w5 al cl zs := o4.but d5 (fun k e q => (fun r => r.elim) (D4.ax k q (.inr e))) (fun k e => (o4.lt e).2.2)
 have bt5 : Below B w0 w5 := Below.ofBut bt4 d5 D4.la hB
 have hs5 := bt5.size
 refine Calls.mono (Own_any B X w5 b cnt tot nK al cl zs m1 (by omega) (by omega) (by omega) (by omega) (by omega) hm.1 hm.2 K5 ib4 o45) ?_
 rintro e w6 ⟨rfl, nK6, hn6, K6, b6⟩
 refine ⟨rfl, ?_⟩
 have s6 := b6.size
 have o56 : Out B (fun x => (X x ∨ (Value.slice al zs.length cl).ownBlock = some x ∨ w5.heap.size ≤ x) ∧ x < w6.heap.size) w6 al2 cl2 zs2 := o5.but b6 (fun k e q => (o5.lt e).2.2 q) (fun k e q => by
  rcases q.1 with r | r | r
  ·exact (o5.lt e).2.2 (.inl r)
  ·exact (o5.lt e).2.2 (.inr r)
  ·have := (o5.lt e).1; omega)
 have bt6 : Below B w0 w6 := Below.ofBut bt5 b6 (fun k q => q.elim (fun q => (h.lx k q).1) (fun q => (o4.lt q).2.1)) hB
 have D6 : Duo B w6 (.pointer (some ⟨wb, 0, none⟩)) vb W5 Wb (K + 1 + 1) (fun k => ((X k ∨ (Value.slice al zs.length cl).ownBlock = some k ∨ w5.heap.size ≤ k) ∨ (Value.slice al2 zs2.length cl2).ownBlock = some k) ∧ k < w6.heap.size) := by
  refine D5.other (by omega) b6 (fun k _ q => .inl q) (fun k hk q => ?_) (fun k q => q.2)
  rcases q.1 with (r | r | r) | r
  ·exact .inl (.inl r)
  ·exact .inl (.inr r)
  ·omega
  ·exact .inr r
 have hs6 := bt6.size
 refine Calls.mono (Own_any B _ w6 b (cnt + 1) (tot + zs.length) nK6 al2 cl2 zs2 m2 (by omega) (by omega) (by omega) (by omega) (by omega) hm2.1 hm2.2 K6.cut ib5 o56) ?_
 rintro e w7 ⟨rfl, nK7, hn7, K7, b7⟩
 have s7 := b7.size
 refine ⟨rfl, Below.ofBut bt6 b7 (fun k q => ?_) hB, W5, fun k => (((X k ∨ (Value.slice al zs.length cl).ownBlock = some k ∨ w5.heap.size ≤ k) ∨ (Value.slice al2 zs2.length cl2).ownBlock = some k) ∨ w6.heap.size ≤ k) ∧ k < w7.heap.size, nK7, tot + zs.length + zs2.length, by omega, by omega, ?_, (K7.mono (fun k q => ?_)).cut⟩
 ·rcases q with q | q
  ·rcases q.1 with r | r | r
   ·exact (h.lx k r).1
   ·exact (o4.lt r).2.1
   ·omega
  ·exact (o5.lt q).2.1
 ·refine D6.other (by omega) b7 (fun k hk q => ⟨?_, hk⟩) (fun k hk q => ⟨?_, hk⟩) (fun k q => q.2)
  ·exact q.imp (fun q => q.1) id
  ·rcases q.1 with r | r
   ·exact r
   ·omega
 ·rcases q with q | q | q
  ·exact .inl (.inl q.1)
  ·exact .inl (.inr q)
  ·exact .inr q
theorem Duo.sure2 {B : Nat} {w w0 : World} {Wa Wb : Nat → Prop} {K : Nat} {X : Nat → Prop} {b cnt tot nK wa wb : Nat} (h : Duo B w (.pointer (some ⟨wa, 0, none⟩)) (.pointer (some ⟨wb, 0, none⟩)) Wa Wb K X) (hBk : Bok B X w b cnt tot nK) (hbt : Below B w0 w) (hB : B = w0.heap.size) (hK : K + 524288 < 4611686018427387904) :
  ∃ ja ga jb gb, (w.cell? ⟨wa, 2, none⟩ = some (.pointer (some ⟨ja, 0, none⟩)) ∧ w.cell? ⟨wa, 3, none⟩ = some (.pointer (some ⟨ga, 0, none⟩)) ∧ w.cell? ⟨wb, 2, none⟩ = some (.pointer (some ⟨jb, 0, none⟩)) ∧ w.cell? ⟨wb, 3, none⟩ = some (.pointer (some ⟨gb, 0, none⟩))) ∧
   Calls Tryz.prog 22 #[.pointer (some ⟨ja, 0, none⟩), .pointer (some ⟨ga, 0, none⟩)] w.drew fun e w8 => e = .returned (.bool true) ∧ (w8.cell? ⟨wa, 2, none⟩ = some (.pointer (some ⟨ja, 0, none⟩)) ∧ w8.cell? ⟨wa, 3, none⟩ = some (.pointer (some ⟨ga, 0, none⟩)) ∧ w8.cell? ⟨wb, 2, none⟩ = some (.pointer (some ⟨jb, 0, none⟩)) ∧ w8.cell? ⟨wb, 3, none⟩ = some (.pointer (some ⟨gb, 0, none⟩))) ∧
    Calls Tryz.prog 22 #[.pointer (some ⟨jb, 0, none⟩), .pointer (some ⟨gb, 0, none⟩)] w8 fun e w9 => e = .returned (.bool true) ∧ (w9.cell? ⟨wa, 2, none⟩ = some (.pointer (some ⟨ja, 0, none⟩)) ∧ w9.cell? ⟨wa, 3, none⟩ = some (.pointer (some ⟨ga, 0, none⟩)) ∧ w9.cell? ⟨wb, 2, none⟩ = some (.pointer (some ⟨jb, 0, none⟩)) ∧ w9.cell? ⟨wb, 3, none⟩ = some (.pointer (some ⟨gb, 0, none⟩))) ∧ Bok B X w9 b cnt tot nK ∧ Below B w0 w9 := by
 have hopen : ∀ {X0 W : Nat → Prop} {w1 : World} {x : Nat}, OW X0 W w1 (.pointer (some ⟨x, 0, none⟩)) K → ∃ room nb fr bl lasted H Us, WD X0 W w1 x room nb fr bl K lasted H Us := fun {X0 W w1 x} h => by
  rcases h with ⟨e, _⟩ | ⟨x', room, nb, fr, bl, lasted, H, Us, e, h⟩
  ·cases e
  ·obtain rfl : x = x' := by injection e with e; injection e with e; injection e
   exact ⟨room, nb, fr, bl, lasted, H, Us, h⟩
 obtain ⟨roa, nba, fra, bla, laa, Ha, Ua, hWa⟩ := hopen h.a
 obtain ⟨_, wal, ja, ga, ta, tc, _, a2, a3, _, _, _, hHa⟩ := hWa.looks (by have := hWa.log.1; omega)
 have hBb := h.b
 obtain ⟨rob, nbb, frb, blb, lab, Hb, Ub, hWb⟩ := hopen hBb
 obtain ⟨_, wbl, jb, gb, tab, tcb, _, c2, c3, _⟩ := hWb.looks (by have := hWb.log.1; omega)
 have wbin : Wb wb := hWb.wb_in
 have wain : Wa wa := hWa.wb_in
 refine ⟨ja, ga, jb, gb, ⟨a2, a3, c2, c3⟩, Calls.mono (hHa w.drew (Below.refl _ _).drew) ?_⟩
 rintro e w8 ⟨rfl, r2, r3, b8⟩
 have d8 : But Wa w w8 := b8
 have nb8 : ¬ Wa wb := fun q => h.ab wb q wbin
 have e2 := (d8.cell (p := ⟨wb, 2, none⟩) wbl nb8).trans c2
 have e3 := (d8.cell (p := ⟨wb, 3, none⟩) wbl nb8).trans c3
 refine ⟨rfl, ⟨r2, r3, e2, e3⟩, ?_⟩
 have hOb8 := hBb.beside (X1 := fun _ => False) (K1 := K) d8 (fun k _ q => .inl q) (fun k q r => r.elim (fun r => h.ab k r q) (h.bx k q)) (fun _ _ q => q.elim) (fun _ q => q.elim) (Nat.le_refl _)
 obtain ⟨rob8, nbb8, frb8, blb8, lab8, Hb8, Ub8, hWb8⟩ := hopen hOb8
 obtain ⟨_, wbl8, jb8, gb8, tab8, tcb8, _, f2, f3, _, _, _, hHb⟩ := hWb8.looks (by have := hWb8.log.1; omega)
 obtain rfl : jb = jb8 := by
  rw [e2] at f2
  injection f2 with e; injection e with e; injection e with e; injection e
 obtain rfl : gb = gb8 := by
  rw [e3] at f3
  injection f3 with e; injection e with e; injection e with e; injection e
 have s8 := d8.size
 refine Calls.mono (hHb w8 (Below.refl _ _)) ?_
 rintro e w9 ⟨rfl, t2, t3, b9⟩
 have na9 : ¬ Wb wa := h.ab wa wain
 refine ⟨rfl, ⟨(b9.cell (p := ⟨wa, 2, none⟩) (by show wa < _; omega) na9).trans r2, (b9.cell (p := ⟨wa, 3, none⟩) (by show wa < _; omega) na9).trans r3, t2, t3⟩, (hBk.but d8 (fun k _ q r => h.ax k r q)).but b9 (fun k _ q r => h.bx k r q), Below.ofBut (Below.ofBut hbt d8 h.la hB) b9 h.lb hB⟩
theorem Duo.sure1 {B : Nat} {w w0 : World} {vb : Value} {Wa Wb : Nat → Prop} {K : Nat} {X : Nat → Prop} {b cnt tot nK wa : Nat} (h : Duo B w (.pointer (some ⟨wa, 0, none⟩)) vb Wa Wb K X) (hBk : Bok B X w b cnt tot nK) (hbt : Below B w0 w) (hB : B = w0.heap.size) (hK : K + 524288 < 4611686018427387904) :
  ∃ ja ga, (w.cell? ⟨wa, 2, none⟩ = some (.pointer (some ⟨ja, 0, none⟩)) ∧ w.cell? ⟨wa, 3, none⟩ = some (.pointer (some ⟨ga, 0, none⟩))) ∧
   Calls Tryz.prog 22 #[.pointer (some ⟨ja, 0, none⟩), .pointer (some ⟨ga, 0, none⟩)] w.drew fun e w8 => e = .returned (.bool true) ∧ (w8.cell? ⟨wa, 2, none⟩ = some (.pointer (some ⟨ja, 0, none⟩)) ∧ w8.cell? ⟨wa, 3, none⟩ = some (.pointer (some ⟨ga, 0, none⟩))) ∧ Bok B X w8 b cnt tot nK ∧ Below B w0 w8 := by
 obtain ⟨roa, nba, fra, bla, laa, Ha, Ua, hWa⟩ : ∃ room nb fr bl lasted H Us, WD (fun k => Wb k ∨ X k) Wa w wa room nb fr bl K lasted H Us := by
  rcases h.a with ⟨e, _⟩ | ⟨x', room, nb, fr, bl, lasted, H, Us, e, h⟩
  ·cases e
  ·obtain rfl : wa = x' := by injection e with e; injection e with e; injection e
   exact ⟨room, nb, fr, bl, lasted, H, Us, h⟩
 obtain ⟨_, wal, ja, ga, ta, tc, _, a2, a3, _, _, _, hHa⟩ := hWa.looks (by have := hWa.log.1; omega)
 refine ⟨ja, ga, ⟨a2, a3⟩, Calls.mono (hHa w.drew (Below.refl _ _).drew) ?_⟩
 rintro e w8 ⟨rfl, r2, r3, b8⟩
 have d8 : But Wa w w8 := b8
 exact ⟨rfl, ⟨r2, r3⟩, hBk.but d8 (fun k _ q r => h.ax k r q), Below.ofBut hbt d8 h.la hB⟩
open Go.RowKit Go.Deep
theorem ask_nilJ (w : World) : Calls Tryz.prog 54 #[.pointer none] w fun e w' => e = .returned (.int .i64 1) ∧ w' = w := by
 go_enter Tryz.func54, Tryz.ntmps54
 go_wp2
 go_ret
 exact ⟨rfl, rfl⟩
theorem Read_nilJ (x : Int) (w : World) : Calls Tryz.prog 13 #[.pointer none, .int .i64 x] w fun e w' => e = .returned (.tuple #[.slice none 0 0, .int .i64 1]) ∧ w' = w := by
 go_enter Tryz.func13, Tryz.ntmps13
 go_wp2_with fail
 refine Calls.mono (ask_nilJ w) ?_
 rintro e w9 ⟨rfl, hw9⟩
 rw [hw9]
 go_wp2
 go_ret2
 exact ⟨rfl, rfl⟩
theorem Seq_nilJ (w : World) : Calls Tryz.prog 16 #[.pointer none] w fun e w' => e = .returned (.tuple #[.int .i64 0, .int .i64 1]) ∧ w' = w := by
 go_enter Tryz.func16, Tryz.ntmps16
 go_wp2_with fail
 refine Calls.mono (ask_nilJ w) ?_
 rintro e w9 ⟨rfl, hw9⟩
 rw [hw9]
 go_wp2
 go_ret2
 exact ⟨rfl, rfl⟩
theorem Append_nilJ (w : World) : Calls Tryz.prog 17 #[.pointer none, .slice none 0 0] w fun e w' => e = .returned (.int .i64 1) ∧ w' = w := by
 go_enter Tryz.func17, Tryz.ntmps17
 go_wp2_with fail
 refine Calls.mono (ask_nilJ w) ?_
 rintro e w9 ⟨rfl, hw9⟩
 rw [hw9]
 go_wp2
 go_ret
 exact ⟨rfl, rfl⟩
theorem Flush_nilJ (w : World) : Calls Tryz.prog 18 #[.pointer none] w fun e w' => e = .returned (.int .i64 1) ∧ w' = w := by
 go_enter Tryz.func18, Tryz.ntmps18
 go_wp2_with fail
 refine Calls.mono (ask_nilJ w) ?_
 rintro e w9 ⟨rfl, hw9⟩
 rw [hw9]
 go_wp2
 go_ret
 exact ⟨rfl, rfl⟩
theorem Check_nilJ (w : World) : Calls Tryz.prog 19 #[.pointer none] w fun e w' => e = .returned (.int .i64 1) ∧ w' = w := by
 go_enter Tryz.func19, Tryz.ntmps19
 go_wp2_with fail
 refine Calls.mono (ask_nilJ w) ?_
 rintro e w9 ⟨rfl, hw9⟩
 rw [hw9]
 go_wp2
 go_ret
 exact ⟨rfl, rfl⟩
theorem lay_nilJ (a b : Int) (w : World) : Calls Tryz.prog 68 #[.pointer none, .agg #[.int .i64 a, .int .i64 b]] w fun e w' => e = .returned (.tuple #[.pointer none, .int .i64 1]) ∧ Below w.heap.size w w' := by
 have hb : Below w.heap.size w (w.alloc (.cells #[.int .i64 a, .int .i64 b] 118)) := (Below.refl _ _).alloc (Nat.le_refl _) _
 have HB := hid hb
 clear hb
 go_enter Tryz.func68, Tryz.ntmps68
 go_wp2
 go_ret2
 exact ⟨rfl, HB.out⟩
theorem Open_nilJ (a b : Int) (w : World) : Calls Tryz.prog 20 #[.pointer none, .int .i64 a, .int .i64 b] w fun e w' => e = .returned (.tuple #[.pointer none, .int .i64 1]) ∧ Below w.heap.size w w' := by
 go_enter Tryz.func20, Tryz.ntmps20
 go_wp2_with fail
 refine Calls.mono (lay_nilJ a b w) ?_
 rintro e w9 ⟨rfl, hb⟩
 have HB := hid hb
 clear hb
 go_wp2
 go_ret2
 exact ⟨rfl, HB.out⟩
theorem Format_nilJ (a b : Int) (w : World) : Calls Tryz.prog 21 #[.pointer none, .int .i64 a, .int .i64 b] w fun e w' => e = .returned (.int .i64 1) ∧ Below w.heap.size w w' := by
 go_enter Tryz.func21, Tryz.ntmps21
 go_wp2_with fail
 refine Calls.mono (lay_nilJ a b w) ?_
 rintro e w9 ⟨rfl, hb⟩
 have HB := hid hb
 clear hb
 go_wp2
 go_ret
 exact ⟨rfl, HB.out⟩
theorem settle_book (B : Nat) (X : Nat → Prop) (w : World) (b cnt tot nK : Nat) (hB : B ≤ w.heap.size) (hnK : nK ≤ 33554432) (hc : cnt ≤ 4194304) (ht : tot ≤ 1073741754) (h : Bok B X w b cnt tot nK) :
  Calls Tryz.prog 15 #[.pointer (some ⟨b, 0, none⟩)] w fun e w' => e = .returned (.bool true) ∧ ∃ nK', nK' ≤ nK + 45 ∧ Bok B (fun x => X x ∨ w.heap.size ≤ x) w' b (cnt + 3) tot nK' ∧ But X w w' := by
 obtain ⟨PO, hPO⟩ : ∃ PO : Ending → World → Prop, PO = fun e w' => e = .returned (.bool true) ∧ ∃ nK', nK' ≤ nK + 45 ∧ Bok B (fun x => X x ∨ w.heap.size ≤ x) w' b (cnt + 3) tot nK' ∧ But X w w' := ⟨_, rfl⟩
 rw [← hPO]
 have H1 := hid (OwnNil B X w b cnt tot nK 1 hB (by omega) (by omega) ht (by omega) (by omega) h)
 have HP : Hid (∀ w', (∃ nK', nK' ≤ nK + 45 ∧ Bok B (fun x => X x ∨ w.heap.size ≤ x) w' b (cnt + 3) tot nK' ∧ But X w w') → PO (.returned (.bool true)) w') := fun w' q => by rw [hPO]; exact ⟨rfl, q⟩
 have HN := hid (And.intro hB (And.intro hnK (And.intro hc ht)))
 clear h hPO hB hnK hc ht
 go_enter Tryz.func15, Tryz.ntmps15
 go_wp2_with fail
 refine Calls.mono H1.out ?_
 rintro e w1 ⟨rfl, n1, h1, h2, h3⟩
 obtain ⟨hB, hnK, hc, ht⟩ := HN.out
 have s1 := h3.size
 have H2 := hid (OwnNil B _ w1 b (cnt + 1) tot n1 2 (by omega) (by omega) (by omega) ht (by omega) (by omega) h2)
 have K1 := hid (And.intro h1 h3)
 clear h1 h2 h3 hB hnK hc ht s1 H1
 go_wp2_with fail
 refine Calls.mono H2.out ?_
 rintro e w2 ⟨rfl, n2, h1, h2, h3⟩
 obtain ⟨hB, hnK, hc, ht⟩ := HN.out
 have s1 := K1.out.2.size
 have s2 := h3.size
 have h1' := K1.out.1
 have H3 := hid (OwnNil B _ w2 b (cnt + 1 + 1) tot n2 3 (by omega) (by omega) (by omega) ht (by omega) (by omega) h2)
 have K2 : Hid (n2 ≤ nK + 30 ∧ But X w w2) := ⟨by omega, K1.out.2.comp h3 (fun k hk q => q.elim id (fun q => by omega))⟩
 clear h1 h2 h3 hB hnK hc ht s1 s2 h1' H2
 go_wp2_with fail
 refine Calls.mono H3.out ?_
 rintro e w3 ⟨rfl, n3, h1, h2, h3⟩
 obtain ⟨hB, hnK, hc, ht⟩ := HN.out
 have s1 := K1.out.2.size
 have s2 := K2.out.2.size
 have s3 := h3.size
 have h1' := K2.out.1
 have h4 : Bok B (fun x => X x ∨ w.heap.size ≤ x) w3 b (cnt + 3) tot n3 := h2.mono (fun x q => by
  rcases q with ((q | q) | q) | q
  ·exact .inl q
  ·exact .inr q
  ·exact .inr (by omega)
  ·exact .inr (by omega))
 have H4 := hid (Holds_any B _ w3 b (cnt + 3) tot n3 (by omega) h4)
 have K3 : Hid (n3 ≤ nK + 45 ∧ But X w w3) := ⟨by omega, K2.out.2.comp h3 (fun k hk q => by
  rcases q with (q | q) | q
  ·exact q
  ·omega
  ·omega)⟩
 clear h1 h2 h3 h4 hB hnK hc ht s1 s2 s3 h1' H3
 go_wp2_with fail
 refine Calls.mono H4.out ?_
 rintro e w4 ⟨rfl, h1, h2⟩
 have FIN := hid (HP.out w4 ⟨n3, K3.out.1, h1, K3.out.2.comp h2 (fun k hk q => q.elim id (fun q => by omega))⟩)
 clear h1 h2 H4
 go_wp2
 exact FIN.out
end Go.Proofs.YtldlejpacgphmabGreat
