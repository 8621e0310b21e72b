/-
  LexTokens: a round's chain of calls.
-/
import Derived.Test.YtoifmiloaefanaaOw0
import Derived.Test.YtoifmiloaefanaaTu0
import Derived.Test.YtoifmiloaefanaaLS
import Derived.Test.YtoifmiloaefanaaRe4
namespace Go.Proofs.Ytoifmiloaefanaa
open Go.RowKit

theorem Shf.but {κ : Nat → Nat} {B s : Nat} {mk tot : Int} {fs : List (Value × List Tk)} {fv hv kv wv : Value} {hs xs ys : List Value} {Ms : List (List Tk)} {w w' : World} {X : Nat → Prop} (h : Shf κ B s mk tot fs fv hv kv wv hs xs ys Ms w) (b : But X w w') (hx : ∀ g, X g → κ g = 0) : Shf κ B s mk tot fs fv hv kv wv hs xs ys Ms w' := by
  have e := Ext.refl κ w.heap.size
  have z := b.size
  have o : ∀ t, t ≠ 0 → ∀ g, κ g = t → ¬ X g := fun t ht g hg hX => by have := hx g hX; omega
  exact ⟨(b.block s h.lt (o 1 (by decide) s h.ks)).trans h.sb, h.ks, h.fr.keep b (o 2 (by decide)) (by decide) e, h.hr.keep b (o 3 (by decide)) (by decide) e, h.kr.keep b (o 4 (by decide)) (by decide) e, h.wr.keep b (o 5 (by decide)) (by decide) e, fun i hi => ⟨(h.fl i hi).1.keep b (o (10 + i) (by omega)) (by omega) e, (h.fl i hi).2⟩, h.hl, fun i hi h' => (h.hk i hi h').keep b (o 6 (by decide)) e, h.xl, h.yl, fun i hi h1 h2 => ⟨(h.kk i hi h1 h2).1.keep b (o 6 (by decide)) e, (h.kk i hi h1 h2).2.keep b (o 6 (by decide)) e⟩, fun g hg => ⟨(h.cut g hg).1, by have := (h.cut g hg).2; omega⟩, h.bd, by have := h.bw; omega⟩
theorem SH.but {κ : Nat → Nat} {B s N : Nat} {w w' : World} {X : Nat → Prop} (h : SH κ B s N w) (b : But X w w') (hx : ∀ g, X g → κ g = 0) : SH κ B s N w' := by
  obtain ⟨mk, T, fs, fv, hv, kv, wv, hs, xs, ys, Ms, h, r⟩ := h
  exact ⟨mk, T, fs, fv, hv, kv, wv, hs, xs, ys, Ms, h.but b hx, r⟩
theorem SH.next {κ : Nat → Nat} {B s N : Nat} {w w' : World} (h : SH κ B s N w) (b : Below w.heap.size w w') : SH κ B s N w' := h.but (X := fun _ => False) (But.of_below b) (fun _ e => e.elim)
theorem SH.cut {κ : Nat → Nat} {B s N : Nat} {w : World} (h : SH κ B s N w) (g : Nat) (hg : κ g ≠ 0) : B ≤ g ∧ g < w.heap.size := by
  obtain ⟨mk, T, fs, fv, hv, kv, wv, hs, xs, ys, Ms, h, r⟩ := h
  exact h.cut g hg
theorem SH.new {κ : Nat → Nat} {B s N : Nat} {w : World} (h : SH κ B s N w) {g : Nat} (hg : w.heap.size ≤ g) : κ g = 0 := by
  by_cases q : κ g = 0
  · exact q
  · have := (h.cut g q).2; omega
theorem SH.bw {κ : Nat → Nat} {B s N : Nat} {w : World} (h : SH κ B s N w) : B ≤ w.heap.size := by
  obtain ⟨mk, T, fs, fv, hv, kv, wv, hs, xs, ys, Ms, h, r⟩ := h
  exact h.bw
theorem SH.holds {κ : Nat → Nat} {B s N : Nat} {w : World} (h : SH κ B s N w) : Calls Try.prog 13 #[.pointer (some ⟨s, 0, none⟩)] w fun e w' => e = .returned (.bool true) ∧ Below w.heap.size w w' := by
  obtain ⟨mk, T, fs, fv, hv, kv, wv, hs, xs, ys, Ms, h, hh, r⟩ := h
  exact h.holds hh
theorem owT_but {B : Nat} {w w' : World} {v : Value} {L : List Tk} {X : Nat → Prop} (h : OwT B w v L) (hb : But X w w') (hx : ∀ g, v.ownBlock = some g → ¬ X g) : OwT B w' v L := own_keep h fun g hg => hb.block g (own_blk h hg).2.1 (hx g hg)
theorem owT_next {B : Nat} {w w' : World} {v : Value} {L : List Tk} (h : OwT B w v L) (hb : Below w.heap.size w w') : OwT B w' v L := own_keep h fun g hg => hb.block g (own_blk h hg).2.1
theorem Num_any (x : Int) (w : World) : Calls Try.prog 6 #[.int .i64 x] w fun e w' => e = .returned (.int .i64 x) ∧ w' = w := by
  go_enter Try.func6, Try.ntmps6
  go_wp2
  go_ret
  exact ⟨rfl, rfl⟩
theorem Turned_all (a : Option Addr) (n c : Nat) (t : Int) (zs : List Int) (w : World) (hn : n ≤ 16777216) (hnil : a = none → n = 0 ∧ c = 0) (hR : Rd w.heap.size w a n zs) :
    Calls Try.prog 7 #[.slice a n c, .int .i64 t] w fun e w' => ∃ a1 c1 ys, e = .returned (.slice a1 n c1) ∧ n ≤ c1 ∧ RdN (fun x => x < w.heap.size) w' a1 n ys ∧ Below w.heap.size w w' := by
  cases a with
  | none =>
    obtain ⟨rfl, rfl⟩ := hnil rfl
    refine (Turned_nil t w).mono ?_
    rintro e w' ⟨rfl, rfl⟩
    exact ⟨none, 0, [], rfl, Nat.le_refl _, ⟨rfl, Pl.isB_nil, .inl rfl⟩, Below.refl _ _⟩
  | some ad =>
    refine (Turned_any ad n c t zs w hn hR).mono ?_
    rintro e w' ⟨g, ys, rfl, hg, hl, hB, hk, b⟩
    refine ⟨_, n, ys, rfl, Nat.le_refl _, ?_, b⟩
    have := RdN.of_blk (X := fun x => x < w.heap.size) hk hB (by omega)
    rw [hl] at this
    exact this
/-- what stands at the head of a round -/
def LtI (W : World) (L s t : Nat) (w : World) : Prop := ∃ κ bv, SH κ W.heap.size s (2 * t) w ∧ LS w L bv ∧ (∀ x, XL L bv x → κ x = 0 ∧ W.heap.size ≤ x) ∧ Below W.heap.size W w
/-- the calls of a round -/
def LtC (s L : Nat) (a : Option Addr) (n c : Nat) (tv : Int) (w : World) (Q : World → Prop) : Prop :=
  Calls Try.prog 7 #[.slice a n c, .int .i64 tv] w fun e w1 => ∃ a1 c1, e = .returned (.slice a1 n c1) ∧
  Calls Try.prog 8 #[.pointer (some ⟨L, 0, none⟩), .slice a1 n c1] w1 fun e w2 => ∃ G, e = .returned (.slice (some ⟨G, 0, none⟩) n (2 * n + 70)) ∧
  Calls Try.prog 5 #[.slice (some ⟨G, 0, none⟩) n (2 * n + 70)] w2 fun e w3 => ∃ (ua : Option Addr) (uc m p : Nat) (x : Int), e = .returned (.tuple #[.slice ua m uc, .int .i64 (p : Int), .int .i64 x]) ∧
  Calls Try.prog 5 #[.slice (some ⟨G, 0, none⟩) n (2 * n + 70)] w3 fun e w4 => ∃ (va : Option Addr) (vc : Nat), e = .returned (.tuple #[.slice va m vc, .int .i64 (p : Int), .int .i64 x]) ∧
  Calls Try.prog 9 #[.slice a1 n c1] w4 fun e w5 => ∃ (ya : Option Addr) (yc : Nat), e = .returned (.tuple #[.slice ya m yc, .int .i64 (p : Int), .int .i64 x]) ∧
  Calls Try.prog 10 #[.pointer (some ⟨L, 0, none⟩), .slice a1 n c1] w5 fun e w6 => e = .returned (.bool true) ∧
  Calls Try.prog 11 #[.slice ua m uc, .slice ya m yc] w6 fun e w7 => e = .returned (.bool true) ∧
  Calls Try.prog 11 #[.slice va m vc, .slice ya m yc] w7 fun e w8 => e = .returned (.bool true) ∧
  Calls Try.prog 12 #[.pointer (some ⟨s, 0, none⟩), .slice ua m uc] w8 fun e w9 => e = .returned (.bool true) ∧
  Calls Try.prog 12 #[.pointer (some ⟨s, 0, none⟩), .slice va m vc] w9 fun e w10 => e = .returned (.bool true) ∧ Q w10
theorem ltC_any {W w : World} {L s t : Nat} {a : Option Addr} {n c : Nat} {zs : List Int} (hn : n ≤ 16777216) (hnil : a = none → n = 0 ∧ c = 0) (hR : Rd W.heap.size W a n zs) (h : LtI W L s t w) (ht : t ≤ 3) (tv : Int) : LtC s L a n c tv w (LtI W L s (t + 1)) := by
  obtain ⟨κ, bv, hS, hL, hx, hb⟩ := h
  have z0 := hb.size
  refine (Turned_all a n c tv zs w hn hnil ((hR.below hb).mono z0)).mono ?_
  rintro e w1 ⟨a1, c1, ys, rfl, hc1, hr1, b1⟩
  have z1 := b1.size
  have hS1 := hS.next b1
  have hL1 : LS w1 L bv := hL.but (X := fun _ => False) (But.of_below b1) (fun _ _ e => e)
  refine ⟨a1, c1, rfl, (Lend_any L bv a1 n c1 ys w1 hn hL1 (hr1.mono (fun k _ hk => hL.there hk))).mono ?_⟩
  rintro e w2 ⟨G, M, rfl, hl2, hG, b2⟩
  have z2 := b2.size
  have hS2 := hS1.but b2 (fun g hg => (hx g hg).1)
  have rY1 : RdN (fun x => x < w.heap.size ∨ w1.heap.size ≤ x) w1 a1 n ys := hr1.mono (fun k hk hY => hY.elim id (fun q => by omega))
  have rY2 := rY1.but (b2.mono (fun g _ hg => .inl (hL.there hg)))
  have kG : κ G = 0 := hG.elim (fun e => (hx G (.inr e)).1) (fun e => hS1.new e)
  have kL : κ L = 0 := (hx L (.inl rfl)).1
  have lL : L < w.heap.size := hL.lt
  have gG : W.heap.size ≤ G := hG.elim (fun e => (hx G (.inr e)).2) (fun e => by omega)
  have gL : W.heap.size ≤ L := (hx L (.inl rfl)).2
  have lG : G < w2.heap.size := by obtain ⟨_, hB, _⟩ := hl2.buf; exact hB.lt
  have yG : G < w.heap.size ∨ w1.heap.size ≤ G := hG.imp (fun e => hL.there (.inr e)) id
  have hyl := rY2.1
  have hyb := rY2.2.1
  refine ⟨G, rfl, (Tokens_all _ n _ ys w2 (hl2.rd hyl hyb)).mono ?_⟩
  rintro e w3 ⟨u, rfl, hu, b3⟩
  have z3 := b3.size
  have hl3 := hl2.below b3
  obtain ⟨ua, uc, rfl⟩ := hu.form
  have hfew := lexP_few ys
  obtain ⟨ts, hts⟩ : ∃ ts, ts = (lexP ys).1 := ⟨_, rfl⟩
  rw [← hts] at hu hfew
  refine ⟨ua, uc, ts.length, (lexP ys).2.1, (lexP ys).2.2, by rw [← hts], (Tokens_all _ n _ ys w3 (hl3.rd hyl hyb)).mono ?_⟩
  rintro e w4 ⟨v, rfl, hv, b4⟩
  have z4 := b4.size
  have hl4 := hl3.below b4
  rw [← hts] at hv
  obtain ⟨va, vc, rfl⟩ := hv.form
  have rY3 := rY2.but (But.of_below b3)
  have rY4 := rY3.but (But.of_below b4)
  refine ⟨va, vc, rfl, (rTokens_all a1 n c1 ys w4 hc1 rY4.rd).mono ?_⟩
  rintro e w5 ⟨y, rfl, hy, b5⟩
  have z5 := b5.size
  have hl5 := hl4.below b5
  rw [← hts] at hy
  obtain ⟨ya, yc, rfl⟩ := hy.form
  have rY5 := rY4.but (But.of_below b5)
  have hS5 := ((hS2.next b3).next b4).next b5
  refine ⟨ya, yc, rfl, (Back_any L G M a1 n c1 ys w5 hn hl5 (rY5.mono (fun k _ hk => hk.elim (fun e => .inl (by omega)) (fun e => by rw [e]; exact yG)))).mono ?_⟩
  rintro e w6 ⟨rfl, hL6, b6⟩
  have z6 := b6.size
  have hS6 := hS5.but b6 (fun g hg => by rw [hg]; exact kG)
  have uB : ∀ g, (Value.slice ua ts.length uc).ownBlock = some g → w2.heap.size ≤ g ∧ g < w3.heap.size := fun g hg => ⟨(own_blk hu hg).1, (own_blk hu hg).2.1⟩
  have vB : ∀ g, (Value.slice va ts.length vc).ownBlock = some g → w3.heap.size ≤ g ∧ g < w4.heap.size := fun g hg => ⟨(own_blk hv hg).1, (own_blk hv hg).2.1⟩
  have yB : ∀ g, (Value.slice ya ts.length yc).ownBlock = some g → w4.heap.size ≤ g := fun g hg => (own_blk hy hg).1
  have hu6 := owT_but (owT_next (owT_next hu b4) b5) b6 (fun g hg e => by have := uB g hg; omega)
  have hv6 := owT_but (owT_next hv b5) b6 (fun g hg e => by have := vB g hg; omega)
  have hy6 := owT_but hy b6 (fun g hg e => by have := yB g hg; omega)
  refine ⟨rfl, (SameTokens_yes ua ya ts.length uc yc ts w6 rfl (hu6.rd rfl) (hy6.rd rfl) (by omega)).mono ?_⟩
  rintro e w7 ⟨rfl, b7⟩
  have z7 := b7.size
  refine ⟨rfl, (SameTokens_yes va ya ts.length vc yc ts w7 rfl ((hv6.rd rfl).next b7) ((hy6.rd rfl).next b7) (by omega)).mono ?_⟩
  rintro e w8 ⟨rfl, b8⟩
  have z8 := b8.size
  have hS8 := (hS6.next b7).next b8
  have hu8 := owT_next (owT_next hu6 b7) b8
  have hv8 := owT_next (owT_next hv6 b7) b8
  have hB2 := hS2.bw
  refine ⟨rfl, (Own_any (ownC_any hS8 (by omega) (hu8.mono hB2) (fun g hg => hS2.new (uB g hg).1) hfew) (by omega)).mono ?_⟩
  rintro e w9 ⟨rfl, κ', hS9, b9, o9⟩
  have z9 := b9.size
  have kv0 : ∀ g, (Value.slice va ts.length vc).ownBlock = some g → κ g = 0 := fun g hg => hS2.new (by have := vB g hg; omega)
  have kz9 : ∀ g, g < w8.heap.size → κ g = 0 → (Value.slice ua ts.length uc).ownBlock ≠ some g → κ' g = 0 := fun g hg h1 h2 => by
    by_cases q : κ' g = 0
    · exact q
    · exact ((o9 g hg q).elim (fun e => e h1) h2).elim
  have vu : ∀ g, (Value.slice va ts.length vc).ownBlock = some g → (Value.slice ua ts.length uc).ownBlock ≠ some g := fun g hg hg2 => by have := vB g hg; have := uB g hg2; omega
  have hv9 := owT_but hv8 b9 (fun g hg hX => hX.elim (fun q => q (kv0 g hg)) (vu g hg))
  refine ⟨rfl, (Own_any (ownC_any hS9 (by omega) (hv9.mono (by omega)) (fun g hg => kz9 g (by have := vB g hg; omega) (kv0 g hg) (vu g hg)) hfew) (by omega)).mono ?_⟩
  rintro e w10 ⟨rfl, κ2, hS10, b10, o10⟩
  have kz10 : ∀ g, g < w9.heap.size → κ' g = 0 → (Value.slice va ts.length vc).ownBlock ≠ some g → κ2 g = 0 := fun g hg h1 h2 => by
    by_cases q : κ2 g = 0
    · exact q
    · exact ((o10 g hg q).elim (fun e => e h1) h2).elim
  -- the lender's two blocks are none of these
  have old : ∀ x, XL L (.slice (some ⟨G, 0, none⟩) M M) x → κ x = 0 ∧ x < w2.heap.size ∧ W.heap.size ≤ x := fun x hx => by
    rcases hx with rfl | hx
    · exact ⟨kL, by omega, gL⟩
    · simp [Value.ownBlock] at hx
      subst hx
      exact ⟨kG, lG, gG⟩
  have nu : ∀ x, x < w2.heap.size → (Value.slice ua ts.length uc).ownBlock ≠ some x := fun x hx e => by have := uB x e; omega
  have nv : ∀ x, x < w2.heap.size → (Value.slice va ts.length vc).ownBlock ≠ some x := fun x hx e => by have := vB x e; omega
  have hL8 : LS w8 L (.slice (some ⟨G, 0, none⟩) M M) := (hL6.but (X := fun _ => False) (But.of_below b7) (fun _ _ e => e)).but (X := fun _ => False) (But.of_below b8) (fun _ _ e => e)
  have hL9 := hL8.but b9 (fun x hx hX => hX.elim (fun q => q (old x hx).1) (nu x (old x hx).2.1))
  have k9 : ∀ x, XL L (.slice (some ⟨G, 0, none⟩) M M) x → κ' x = 0 := fun x hx => kz9 x (by have := (old x hx).2.1; omega) (old x hx).1 (nu x (old x hx).2.1)
  have hL10 := hL9.but b10 (fun x hx hX => hX.elim (fun q => q (k9 x hx)) (nv x (old x hx).2.1))
  refine ⟨rfl, κ2, _, by rw [show 2 * (t + 1) = 2 * t + 1 + 1 by omega]; exact hS10, hL10, fun x hx => ⟨kz10 x (by have := (old x hx).2.1; omega) (k9 x hx) (nv x (old x hx).2.1), (old x hx).2.2⟩, ?_⟩
  have c1 : Below W.heap.size W w1 := hb.trans (b1.mono z0)
  have c2 : Below W.heap.size w1 w2 := b2.below (by omega) (fun k hk hX => by have := (hx k hX).2; omega)
  have c6 : Below W.heap.size w5 w6 := b6.below (by omega) (fun k hk hX => by omega)
  have c9 : Below W.heap.size w8 w9 := b9.below (by omega) (fun k hk hX => hX.elim (fun q => by have := (hS8.cut k q).1; omega) (fun q => by have := uB k q; omega))
  have c10 : Below W.heap.size w9 w10 := b10.below (by omega) (fun k hk hX => hX.elim (fun q => by have := (hS9.cut k q).1; omega) (fun q => by have := vB k q; omega))
  exact ((((((((c1.trans c2).trans (b3.mono (by omega))).trans (b4.mono (by omega))).trans (b5.mono (by omega))).trans c6).trans (b7.mono (by omega))).trans (b8.mono (by omega))).trans c9).trans c10

end Go.Proofs.Ytoifmiloaefanaa
