import Derived.Test.YtldlejpacgphmaaGreatG42
import Derived.Test.YtldlejpacgphmaaGreatG41
import Derived.Test.YtldlejpacgphmaaGreatG16
import Derived.ProofKit
import Derived.OpenShut
import Derived.SizedLaws
import Derived.Deep.SlicePairs
namespace Go.Proofs.YtldlejpacgphmaaGreat
open Go.RowKit Go.Deep
theorem begun_at {w : World} (a : Option Addr) (L hcap : Nat) (H : List Int) (frI blI rI : Int) (hL : L ≤ 1073741823) (hnil : a = none → hcap = 0) (hR : Rd w.heap.size w a L H) :
  Calls Tryz.prog 10 #[.agg #[.slice a L hcap, .int .i64 frI, .int .i64 blI, .int .i64 rI]] w fun e w' => Below w.heap.size w w' ∧ (e = .returned (.tuple #[.pointer none, .bool true]) ∨ ∃ (wb room nb fr bl : Nat) (W : Nat → Prop), frI = (fr : Int) ∧ blI = (bl : Int) ∧ e = .returned (.tuple #[.pointer (some ⟨wb, 0, none⟩), .bool true]) ∧ WD W w' wb room nb fr bl 0 0 H [] ∧ ∀ k, W k → w.heap.size ≤ k) := by
 by_cases hbad : openBad L
 ·refine Calls.mono (begun_short a L hcap H frI blI rI (by omega) hbad hnil hR) ?_
  rintro e w' ⟨rfl, b⟩
  exact ⟨b, .inl rfl⟩
 ·obtain ⟨nb, hnbe, n1, hnb⟩ : ∃ nb, L = 512 * nb ∧ 1 ≤ nb ∧ nb ≤ 524288 := by
   unfold openBad at hbad
   exact ⟨L / 512, by omega, by omega, by omega⟩
  subst hnbe
  by_cases hz : placeC nb frI blI = 0
  ·obtain ⟨f, b, rfl, rfl, hlo, hfit⟩ := placeC_zero hz
   refine Calls.mono (begun_ok a hcap H nb f b rI n1 hnb hlo hfit hnil hR) ?_
   rintro e w' ⟨wb, room, W, rfl, q1, q2, q3⟩
   exact ⟨q3, .inr ⟨wb, room, nb, f, b, W, rfl, rfl, rfl, q1, q2⟩⟩
  ·refine Calls.mono (begun_off a hcap H nb frI blI rI n1 hnb hz hnil hR) ?_
   rintro e w' ⟨rfl, b⟩
   exact ⟨b, .inl rfl⟩
theorem home_read {Z0 Z : Nat → Prop} {w1 wr : World} {c p room nb K B1 i m cc : Nat} {a : Option Addr} {d : Pd} (hi : i < nb) (hm : m = 512 * i) (hrow : wr.ownsRow B1 5 1 (.slice a m cc) m ((catZ d.read i).map (Value.int .u8))) (hq : Cq Z wr c p room nb (K + i) d) (hpl : d.puts.length ≤ 1073741824) (hK : K + i < 4611686018427387904) (hon : d.off = false) (hnb : nb ≤ 524288) (hG : Gr Z0 Z w1) (hbt : But Z0 w1 wr) (hh : ∀ x, (Value.slice a m cc).ownBlock = some x → ¬ Z x) (hB1 : B1 = w1.heap.size) :
  Calls Tryz.prog 28 #[.pointer (some ⟨c, 0, none⟩), .int .i64 (i : Int)] wr fun e w' => ∃ g2 cp2, e = .returned (.tuple #[.slice (some ⟨g2, 0, none⟩) 512 cp2, .int .i64 0]) ∧ ∃ a' m' cc' w3, (Builtin.append_ #[22, 22] 22 #[.slice a m cc, .slice (some ⟨g2, 0, none⟩) 512 cp2]).run Tryz.prog w' = .ok (.slice a' m' cc') w3 ∧ m' = 512 * (i + 1) ∧ w3.ownsRow B1 5 1 (.slice a' m' cc') m' ((catZ d.read (i + 1)).map (Value.int .u8)) ∧
   ∃ Z', Cq Z' w3 c p room nb (K + (i + 1)) d ∧ Gr Z0 Z' w1 ∧ But Z0 w1 w3 ∧ (∀ x, (Value.slice a' m' cc').ownBlock = some x → ¬ Z' x) := by
 refine Calls.mono (Cq.cread hq hpl hK hon i hi) ?_
 rintro e w' ⟨g2, cp2, rfl, hg2, o2, ⟨Z2, k1, k2, k3⟩, k4⟩
 refine ⟨g2, cp2, rfl, ?_⟩
 have hs := k4.size
 have hs1 := hbt.size
 have hrow2 := owns_keep hrow (fun k e => k4.block k (World.ownsRow.lt hrow k e).2 (hh k e))
 obtain ⟨a', cc', w3, r1, r2, r3, r4⟩ := grow_at hrow2 (b := g2) (off := 0) (m := 512) (cp := cp2) (body := d.read i) o2.len (fun t ht => by rw [Nat.zero_add]; exact o2.cell t ht) (by omega) (by omega) (by omega)
 have hs3 := r3.size
 have hhZ : ∀ x, (Value.slice a m cc).ownBlock = some x → x < wr.heap.size ∧ ¬ (Z2 x ∧ x < w'.heap.size) := fun x e => by
  have hl := (World.ownsRow.lt hrow x e).2
  exact ⟨hl, fun r => hh x e (k2 x hl r.1)⟩
 refine ⟨a', m + 512, cc', w3, r1, by omega, r2, fun k => Z2 k ∧ k < w'.heap.size, k1.cut.but r3 (fun x _ r e => (hhZ x e).2 r), fun k hk r => hG k hk (k2 k (by omega) r.1), ?_, fun x e r => ?_⟩
 ·have hb1 : But Z0 w1 w' := hbt.comp k4 (fun k hk q => hG k hk q)
  exact hb1.comp r3 (fun k hk e => by have := (World.ownsRow.lt hrow k e).1; omega)
 ·rcases r4 with r4 | r4
  ·rw [r4] at e
   exact (hhZ x e).2 r
  ·rw [r4] at e
   injection e with e
   omega
theorem Wx.formatAt {Z : Nat → Prop} {w : World} {wb p c j g room nb fr bl K lasted : Nat} {tried tl td : Value} {hb hc : Nat} {H : List Int} {ta : Option Addr} {tc : Nat} {vs : List Value} {Us : List (List Pm)} {Ls : List Ln} {n1 : Nat} {cs : List Value} {d : Pd} {s : Js} (h : Wx Z w wb p c j g room nb fr bl K lasted tried tl td hb hc H ta tc vs Us Ls n1 cs d s) (hOn : On d s nb fr bl lasted (imgB H) (plainT Us)) {w2 : World} {Z2 : Nat → Prop} {K2 : Nat} {k : Int} (b2 : But Z w w2) (q1 : Cq Z2 w2 c p room nb K2 ⟨d.img, d.puts, k, false⟩) (g2 : Gr Z Z2 w) (f2 : Nat) (hf2 : f2 + bl ≤ nb) (mask : Int) (hv rv : Value) :
  Calls Tryz.prog 29 #[.pointer (some ⟨c, 0, none⟩), .int .i64 (f2 : Int), .int .i64 (bl : Int)] w2 fun e w3 => ∃ code, e = .returned (.int .i64 code) ∧ But (fun k => Z2 k ∧ k < w2.heap.size) w2 w3 ∧ (k = -1 → code = 0) ∧
    ((code = 24 ∧ Calls Tryz.prog 12 #[.pointer (some ⟨wb, 0, none⟩), .int .u64 mask] w3 fun e w4 => ∃ ib ic, e = .returned (.tuple #[.slice (some ⟨ib, 0, none⟩) (512 * nb) ic, .bool true]) ∧ Below w3.heap.size w3 w4 ∧ ∀ w5, Below w4.heap.size w4 w5 → Calls Tryz.prog 39 #[.pointer (some ⟨wb, 0, none⟩), .slice (some ⟨ib, 0, none⟩) (512 * nb) ic, .int .i64 (f2 : Int), .agg #[hv, .int .i64 (fr : Int), .int .i64 (bl : Int), rv]] w5 fun e w6 => e = .returned (.bool true) ∧ Below w5.heap.size w5 w6) ∨
    (code = 0 ∧ ∃ Z3 d3, Cq Z3 w3 c p room nb K2 d3 ∧ Gr Z2 Z3 w2 ∧ d3.off = false ∧ d3.puts = [] ∧ On d3 (beginS noS) nb f2 bl 0 d.read [])) := by
 have hpl := hOn.puts h.lo h.fit h.nb
 have hnb9 := h.nb
 have hlo9 := h.lo
 have hus := (hOn.us h.lo h.fit h.nb).2
 have s2 := b2.size
 have hfit2 : (⟨d.img, d.puts, k, false⟩ : Pd).Fits nb := h.jq.fits.1
 refine Calls.mono (Format_any q1.cut (f2 : Int) (bl : Int) (by show d.puts.length + nb + nb + 8 ≤ _; omega)) ?_
 rintro e w3 ⟨code, d', rfl, ⟨Z3, r1, r2⟩, b3, hcase⟩
 have b13 : But Z w w3 := b2.comp b3 (fun x hx q => g2 x hx q.1)
 have hlc : layC ⟨d.img, d.puts, k, false⟩ nb (f2 : Int) (bl : Int) = 0 := by
  unfold layC
  rw [if_neg (by simp)]
  exact placeC_ok h.lo hf2 h.nb
 rcases hcase with ⟨k1, _⟩ | ⟨_, f', b', ef, eb, hb1, hb2, hrun⟩
 ·exact absurd hlc k1
 have ef' : f' = f2 := by omega
 have eb' : b' = bl := by omega
 subst ef' eb'
 refine ⟨code, rfl, b3, fun hk => ?_, ?_⟩
 ·subst hk
  have := (Pd.runs_free (d := ⟨d.img, d.puts, -1, false⟩) rfl rfl (formatCmds f' b')).1
  rw [hrun] at this
  exact this
 rcases (⟨d.img, d.puts, k, false⟩ : Pd).runs_code (formatCmds f' b') with ⟨c0, c1⟩ | ⟨c0, c1⟩
 ·rw [hrun] at c0 c1
  simp only at c0 c1
  subst c0
  have hon := format_on (d := ⟨d.img, d.puts, k, false⟩) hb1 hb2 hfit2 rfl (by rw [hrun])
  have hpe : d'.puts = [] := by
   have hx : ((⟨d.img, d.puts, k, false⟩ : Pd).runs (formatCmds f' b')).1 = 0 := by rw [hrun]
   have e9 : formatCmds f' b' = (wipes f' b' f' 1 ++ [.fl] ++ wipes f' b' (f' + 1) (b' - 1) ++ [.fl] ++ [.wr f' (headZ f' b' (noS.life + 1) noS.seq)]) ++ [.fl] := rfl
   rw [e9] at hx
   have := Pd.runs_fl_puts hx
   rw [← e9, hrun] at this
   exact this
  rw [hrun] at hon
  refine .inr ⟨rfl, Z3, d', r1, fun x hx q => (r2 x (by omega) q).1, c1 (by first | rfl | trivial), hpe, hon⟩
 ·have hhalf := format_half (d := ⟨d.img, d.puts, k, false⟩) hb2 (by omega) hfit2
  have hpu := (⟨d.img, d.puts, k, false⟩ : Pd).runs_puts (formatCmds f' b')
  have hfl : (formatCmds f' b').length ≤ nb + 8 := by
   simp [formatCmds, wipes]
   omega
  rw [hrun] at c0 c1 hhalf hpu
  simp only at c0 c1 hhalf hpu
  subst c0
  have wd3 := h.wd.keep (b13.block wb h.wd.lt h.zw)
  have hL3 := h.lg.but b13 (fun _ _ q => .inl q) (fun x => Z x ∨ x = wb ∨ TB tl td Ls x) (fun _ _ q => q)
  refine .inl ⟨rfl, Calls.mono (left_any wd3 hL3.lg r1.dk r1.fits.1 (by omega) mask) ?_⟩
  rintro e w4 ⟨ib, ic, I, rfl, _, oI, iI, hposs, _, b4⟩
  refine ⟨ib, ic, rfl, b4, fun w5 b5 => ?_⟩
  have hu := hhalf (imgB I) (fun x _ => hposs x)
  exact half_any ((wd3.keep (b4.block wb wd3.lt)).keep (b5.block wb (by have := wd3.lt; have := b4.size; omega))) ((hL3.below b4 _ (fun _ _ q => q)).below b5 _ (fun _ _ q => q)) h.r1 h.r2 (oI.keep (b5.block ib oI.lt)) iI (hOn.cut h.lo h.fit h.nb) (Int.le_refl _) h.lo h.fit h.nb hus f' hb2 (fun e => by subst e; exact hu) hv rv
def AnewP (B : Nat) (w0 : World) (wb p c room nb fr bl K2 hb2 hc2 : Nat) (Hm : List Int) (f2 : Nat) (mask : Int) (hv rv : Value) (k : Int) (w2 : World) : Prop :=
 Below B w0 w2 ∧ w2.cell? ⟨wb, 0, none⟩ = some (.pointer (some ⟨p, 0, none⟩)) ∧ w2.cell? ⟨wb, 1, none⟩ = some (.pointer (some ⟨c, 0, none⟩)) ∧
 Calls Tryz.prog 29 #[.pointer (some ⟨c, 0, none⟩), .int .i64 (f2 : Int), .int .i64 (bl : Int)] w2.drew fun e w3 => ∃ code, e = .returned (.int .i64 code) ∧ Below B w0 w3 ∧ w3.cell? ⟨wb, 0, none⟩ = some (.pointer (some ⟨p, 0, none⟩)) ∧ w3.cell? ⟨wb, 1, none⟩ = some (.pointer (some ⟨c, 0, none⟩)) ∧ (k = -1 → code = 0) ∧
  ((code = 24 ∧ Calls Tryz.prog 12 #[.pointer (some ⟨wb, 0, none⟩), .int .u64 mask] w3 fun e w4 => ∃ ib ic, e = .returned (.tuple #[.slice (some ⟨ib, 0, none⟩) (512 * nb) ic, .bool true]) ∧ Below w3.heap.size w3 w4 ∧ ∀ w5, Below w4.heap.size w4 w5 → Calls Tryz.prog 39 #[.pointer (some ⟨wb, 0, none⟩), .slice (some ⟨ib, 0, none⟩) (512 * nb) ic, .int .i64 (f2 : Int), .agg #[hv, .int .i64 (fr : Int), .int .i64 (bl : Int), rv]] w5 fun e w6 => e = .returned (.bool true) ∧ Below w5.heap.size w5 w6) ∨
  (code = 0 ∧ Calls Tryz.prog 38 #[.pointer (some ⟨p, 0, none⟩), .int .i64 (-1)] w3 fun e w4 => e = .returned (.int .i64 0) ∧ Below B w0 w4 ∧ w4.cell? ⟨wb, 1, none⟩ = some (.pointer (some ⟨c, 0, none⟩)) ∧
    Calls Tryz.prog 27 #[.pointer (some ⟨c, 0, none⟩), .int .i64 (f2 : Int), .int .i64 (bl : Int)] w4.drew fun e w5 => ∃ j', e = .returned (.tuple #[.pointer (some ⟨j', 0, none⟩), .int .i64 0]) ∧ Below B w0 w5 ∧ B ≤ wb ∧ wb < w5.heap.size ∧ w5.cell? ⟨wb, 1, none⟩ = some (.pointer (some ⟨c, 0, none⟩)) ∧ (∃ v, w5.cell? ⟨wb, 2, none⟩ = some v) ∧ (∃ v, w5.cell? ⟨wb, 3, none⟩ = some v) ∧ (∃ v, w5.cell? ⟨wb, 5, none⟩ = some v) ∧ (∀ t, w5.frozen? ⟨wb, t, none⟩ = false) ∧ ∃ W', WD W' (anewW w5 wb j' nb f2 bl hb2 hc2) wb room nb f2 bl K2 0 Hm [] ∧ ∀ k, W' k → B ≤ k))
theorem Below.ofBut {B : Nat} {Y : Nat → Prop} {w0 w w' : World} (hb : Below B w0 w) (h : But Y w w') (hY : ∀ k, Y k → B ≤ k) (hB : B = w0.heap.size) : Below B w0 w' := by
 have hs := hb.size
 have h1 : But (fun k => B ≤ k) w0 w := ⟨hb.os, hb.tape, hb.output, hb.size, fun k _ q => hb.block k (by omega)⟩
 exact (h1.comp h (fun k _ r => hY k r)).below (by omega) (fun k hk r => by omega)
theorem Wx.anewP {Z : Nat → Prop} {w : World} {wb p c j g room nb fr bl K lasted : Nat} {tried tl td : Value} {hb hc : Nat} {H : List Int} {ta : Option Addr} {tc : Nat} {vs : List Value} {Us : List (List Pm)} {Ls : List Ln} {n1 : Nat} {cs : List Value} {d : Pd} {s : Js} (h : Wx Z w wb p c j g room nb fr bl K lasted tried tl td hb hc H ta tc vs Us Ls n1 cs d s) (hOn : On d s nb fr bl lasted (imgB H) (plainT Us)) {B : Nat} {w0 : World} (hB : B = w0.heap.size) (hZB : ∀ k, Z k → B ≤ k) (hTB : ∀ k, TB tl td Ls k → B ≤ k) (hwB : B ≤ wb) {w2 : World} {Z2 : Nat → Prop} {K2 : Nat} {k : Int} (b2 : But Z w w2) (hbt : Below B w0 w2) (q1 : Cq Z2 w2 c p room nb K2 ⟨d.img, d.puts, k, false⟩) (g2 : Gr Z Z2 w) {hb2 hc2 : Nat} (ow : Own w2 hb2 (512 * nb) hc2 (catZ d.read nb)) (nz : ¬ Z2 hb2) (hbw : w.heap.size ≤ hb2) (_hwB2 : B ≤ w.heap.size) (f2 : Nat) (hf2 : f2 + bl ≤ nb) (mask : Int) (hv rv : Value) :
  AnewP B w0 wb p c room nb fr bl K2 hb2 hc2 (catZ d.read nb) f2 mask hv rv k w2 := by
 have hs2 := b2.size
 have hwl := h.wd.lt
 have wd2 := h.wd.keep (b2.block wb hwl h.zw)
 have hrl : ∀ x, x < nb → (d.read x).length = 512 ∧ Pl.isB (d.read x) := fun x hx => Pd.read_len h.jq.toCq x hx
 have hZ2B : ∀ k, Z2 k → B ≤ k := fun k q => by
  rcases Nat.lt_or_ge k w.heap.size with hk | hk
  ·exact hZB k (g2 k hk q)
  ·omega
 refine ⟨hbt, wd2.cell 0, wd2.cell 1, ?_⟩
 have bd : But Z w w2.drew := b2.comp (But.of_below ((Below.refl w2.heap.size w2).drew) (X := fun _ => False)) (fun _ _ q => q.elim)
 refine Calls.mono (h.formatAt hOn bd q1.drew g2 f2 hf2 mask hv rv) ?_
 rintro e w3 ⟨code, rfl, b3, hk, hcase⟩
 have hs3 : w2.heap.size ≤ w3.heap.size := b3.size
 have b3' : But (fun k => Z2 k ∧ k < w2.heap.size) w2 w3 := (But.of_below ((Below.refl w2.heap.size w2).drew)).comp b3 (fun _ _ q => q)
 have hbt3 : Below B w0 w3 := Below.ofBut hbt b3' (fun k q => hZ2B k q.1) hB
 have b13 : But Z w w3 := b2.comp b3' (fun x hx q => g2 x hx q.1)
 have wd3 := h.wd.keep (b13.block wb hwl h.zw)
 refine ⟨code, rfl, hbt3, wd3.cell 0, wd3.cell 1, hk, ?_⟩
 rcases hcase with hcase | ⟨hc0, Z3, d3, q3, g3, ho3, hp3, on3⟩
 ·exact .inl hcase
 refine .inr ⟨hc0, ?_⟩
 have hreq : d.read = imgB (catZ d.read nb) := read_cat h.jq.fits.1 (fun x hx => (hrl x hx).1)
 rw [hreq] at on3
 have g13 : Gr Z Z3 w := fun x hx q => g2 x hx (g3 x (by show x < w2.heap.size; omega) q)
 have ow3 : Own w3 hb2 (512 * nb) hc2 (catZ d.read nb) := ow.keep (b3'.block hb2 ow.lt (fun q => nz q.1))
 have nz3 : ¬ Z3 hb2 := fun q => nz (g3 hb2 ow.lt q)
 have hZ3B : ∀ k, Z3 k → B ≤ k := fun k q => by
  rcases Nat.lt_or_ge k w.heap.size with hk | hk
  ·exact hZB k (g13 k hk q)
  ·omega
 have hlt := fun k (q : TB tl td Ls k) => h.tlt q
 refine Calls.mono (h.anew b13 q3 g13 ho3 hp3 f2 hf2 on3 ow3 (isB_catZ (fun x hx => (hrl x hx).2)) nz3 (by omega) (fun q => by have := hlt _ q; omega)) ?_
 rintro e w4 ⟨rfl, b4, hO⟩
 have hs4 := b4.size
 have nzw3 : ¬ Z3 wb := fun q => h.zw (g13 wb hwl q)
 have wd4 := wd3.keep (b4.block wb wd3.lt (fun q => nzw3 q.1))
 refine ⟨rfl, Below.ofBut hbt3 b4 (fun k q => hZ3B k q.1) hB, wd4.cell 1, ?_⟩
 refine Calls.mono hO ?_
 rintro e w5 ⟨j', rfl, b5, W', hWD, hW'⟩
 have hs5 := b5.size
 have wd5 := wd3.keep (b5.block wb wd3.lt (fun q => nzw3 q.1))
 refine ⟨j', rfl, Below.ofBut hbt3 b5 (fun k q => hZ3B k q.1) hB, hwB, wd5.lt, wd5.cell 1, ⟨_, wd5.cell 2⟩, ⟨_, wd5.cell 3⟩, ⟨_, wd5.cell 5⟩, wd5.frozen, W', hWD, fun k q => ?_⟩
 rcases Nat.lt_or_ge k w3.heap.size with hk | hk
 ·rcases hW' k hk q with q | q | q
  ·exact hZ3B k q
  ·omega
  ·exact hTB k q
 ·omega
end Go.Proofs.YtldlejpacgphmaaGreat
namespace Go.Proofs.YtldlejpacgphmaaGreat
open Go.ChangeShapes Go.WideShapes Go.ChangeAt Go.RowKit Go.Deep
theorem rd_of_open {W : World} {x : Addr} {len cap : Nat} {zs : List Int} (hl : len ≤ cap) (hz : zs.length = cap) (hcell : ∀ i, i < zs.length → W.cell? (x.add i) = some (.int .u8 (zs.getD i 0))) (hwz : ∀ n ∈ zs, (Lit.int .u8 n).wf = true) :
  Rd W.heap.size W (some x) len (zs.take len) := by
 refine ⟨by simp; omega, fun z hzm => ?_, ?_⟩
 ·have := bounds_u8 (hwz z (List.mem_of_mem_take hzm))
  omega
 ·by_cases h0 : len = 0
  ·exact .inl h0
  ·obtain ⟨b, off, spot⟩ := x
   have hc := hcell 0 (by omega)
   have hspot : spot = none := by simpa [Addr.add] using World.cell?_spot hc
   subst hspot
   have hadd : ∀ t, (⟨b, off, none⟩ : Addr).add t = ⟨b, off + t, none⟩ := fun t => by unfold Addr.add; split <;> simp_all
   refine .inr ⟨b, off, rfl, World.block_lt_of_cell? W ⟨b, off, none⟩ (by rw [hadd] at hc; exact hc), fun t ht => ?_⟩
   rw [← hadd, hcell t (by omega), List.getD_eq_getElem?_getD, List.getD_eq_getElem?_getD, List.getElem?_take_of_lt ht]
theorem bulk_one {H : Type} (d : DataW H) : 1 ≤ Rows.uptoBulk d := by
 cases d with
 | lit l => cases l <;> simp [Rows.uptoBulk]
 | nil => simp [Rows.uptoBulk]
 | ptr d => simp [Rows.uptoBulk]
 | slice elems spare => simp [Rows.uptoBulk]
 | agg parts => simp [Rows.uptoBulk]
 | iface t d => simp [Rows.uptoBulk]
 | map entries => simp [Rows.uptoBulk]
 | held h => simp [Rows.uptoBulk]
theorem bulk_len {H : Type} (l : List (DataW H)) : l.length ≤ Rows.uptoBulkAll l := by
 induction l with
 | nil => simp [Rows.uptoBulkAll]
 | cons x r ih => have := bulk_one x; simp only [Rows.uptoBulkAll, List.length_cons]; omega
theorem bulk_mem {H : Type} {d : DataW H} {l : List (DataW H)} (h : d ∈ l) : Rows.uptoBulk d ≤ Rows.uptoBulkAll l := by
 induction l with
 | nil => cases h
 | cons x r ih =>
  simp only [Rows.uptoBulkAll]
  cases List.mem_cons.1 h with
  | inl e => subst e; omega
  | inr e => have := ih e; omega
theorem bulk_slice {H : Type} (elems spare : List (DataW H)) : elems.length ≤ Rows.uptoBulk (.slice elems spare) := by
 have h1 := bulk_len elems
 simp only [Rows.uptoBulk]
 omega
set_option maxRecDepth 100000 in
theorem bulk_bound {H : Type} {l : List (DataW H)} (hk : Rows.uptoSmall H l = true) : Rows.uptoBulkAll l ≤ 1048576 := of_decide_eq_true hk
theorem spot_none {W : World} {x : Addr} {v : Value} (h : W.cell? (x.add 0) = some v) : ∃ b off, x = ⟨b, off, none⟩ := by
 obtain ⟨b, off, spot⟩ := x
 have hspot : spot = none := by simpa [Addr.add] using World.cell?_spot h
 subst hspot
 exact ⟨b, off, rfl⟩
theorem add_plain (b off t : Nat) : (⟨b, off, none⟩ : Addr).add t = ⟨b, off + t, none⟩ := by unfold Addr.add; split <;> simp_all
theorem open_bc {H : Type} {enc : TypeId × Value → H} {W : World} {v : Value} {fuel : Nat} {x : DataW H × List MemPlace} (hf : DataW.trod enc Tryz.prog W 0 (fun _ => true) true fuel 22 [v] = some x) :
  ∃ a n c zs, v = .slice a n c ∧ Rd W.heap.size W a n zs ∧ n ≤ Rows.uptoBulk x.1 ∧ (a = none → c = 0) := by
 rcases open_ints Tryz.underlying22 Tryz.underlying5 (by kernel_rfl) hf with ⟨hcs, hx⟩ | ⟨x', l, c, zs, hcs, hp, hl, hm, hz, hx, hcell, hwz⟩
 ·simp at hcs
  subst hcs
  exact ⟨none, 0, 0, [], rfl, ⟨rfl, Pl.isB_nil, .inl rfl⟩, by omega, fun _ => rfl⟩
 ·simp at hcs
  subst hcs
  have hz' : zs.length = c := by simpa using hz
  refine ⟨some x', l, c, zs.take l, rfl, rd_of_open hl hz' hcell hwz, ?_, fun q => by cases q⟩
  rw [hx]
  have := bulk_slice (H := H) (lits .u8 (zs.take l)) (lits .u8 (zs.drop l))
  simp only [lits, List.length_map, List.length_take] at this
  simp only [lits]
  omega
theorem open_two {H : Type} {enc : TypeId × Value → H} {P : Program} {w : World} {base : Nat} {spare : Nat → Bool} {held : Bool} {t e : TypeId} {f0 f1 : Field} {fuel : Nat} {cs : List Value} {x : DataW H × List MemPlace}
  (ht : P.underlying t = some (.slice e)) (he : P.underlying e = some (.struct #[f0, f1])) (ce : P.cellsOf e = 2) (o0 : f0.offset = 0) (o1 : f1.offset = 1) (c0 : P.cellsOf f0.type = 1) (c1 : P.cellsOf f1.type = 1)
  (h : DataW.trod enc P w base spare held fuel t cs = some x) :
  (cs = [.slice none 0 0] ∧ x = (.nil, [])) ∨
  ∃ (a : Addr) (len cap m n : Nat) (D : Nat → DataW H), cs = [.slice (some a) len cap] ∧ len ≤ cap ∧ m = (if spare a.block then cap else len) ∧ x.1 = .slice ((List.range len).map D) ((List.range (m - len)).map fun j => D (len + j)) ∧
   ∀ i, i < m → ∃ (v0 v1 : Value) (y0 y1 : DataW H × List MemPlace), w.cell? (a.add (i * 2)) = some v0 ∧ w.cell? (a.add (i * 2 + 1)) = some v1 ∧
    DataW.trod enc P w base spare held (n - 1) f0.type [v0] = some y0 ∧ DataW.trod enc P w base spare held (n - 1) f1.type [v1] = some y1 ∧ D i = .agg [y0.1, y1.1] := by
 rcases open_slice ht h with h0 | ⟨a, len, cap, m, n, D, Pl, rfl, hb, hl, hm, hmm, rfl, hx⟩
 ·exact Or.inl h0
 refine .inr ⟨a, len, cap, m, n, D, rfl, hl, hmm, rfl, ?_⟩
 intro i hi
 obtain ⟨cs', h1, h2⟩ := hx i hi
 rw [ce] at h1
 obtain ⟨_, hlen, hcell⟩ := World.cells?_some h1
 obtain ⟨xs, k, hk, hxy, _, hxl, hf⟩ := DataW.trod_struct he h2
 have hk' : k = n - 1 := by omega
 subst hk'
 match xs, hxl, cs', hlen with
 | [y0, y1], _, [v0, v1], _ =>
  have g0 := hf 0 f0 rfl
  have g1 := hf 1 f1 rfl
  simp [o0, o1, c0, c1] at g0 g1
  have e0 := hcell 0 (by omega)
  have e1 := hcell 1 (by omega)
  rw [add_add] at e0 e1
  simp only [Prod.mk.injEq] at hxy
  exact ⟨v0, v1, y0, y1, by simpa using e0, by simpa using e1, g0, g1, by simpa using hxy.1⟩
theorem open_puts {H : Type} {enc : TypeId × Value → H} {W : World} {v : Value} {fuel : Nat} {x : DataW H × List MemPlace} (hf : DataW.trod enc Tryz.prog W 0 (fun _ => true) true fuel 30 [v] = some x) :
  ∃ a c ps, v = .slice a ps.length c ∧ RdP (fun _ => False) W a ps ∧ ps.length ≤ Rows.uptoBulk x.1 ∧ (∀ p ∈ ps, p.data.length ≤ Rows.uptoBulk x.1 ∧ (p.ad = none → p.cap = 0)) ∧ (a = none → c = 0) := by
 rcases open_two Tryz.underlying30 Tryz.underlying68 (by kernel_rfl) rfl rfl (by kernel_rfl) (by kernel_rfl) hf with ⟨hcs, hx⟩ | ⟨x1, len, c, m, n, D, hcs, hl, hmm, hx, hall⟩
 ·simp at hcs
  subst hcs
  exact ⟨none, 0, [], rfl, ⟨(fun p hp => by cases hp), .inl rfl⟩, by simp, (fun p hp => by cases hp), fun _ => rfl⟩
 ·simp at hcs
  subst hcs
  have hm' : m = c := by simpa using hmm
  subst hm'
  have hsum : len ≤ Rows.uptoBulk x.1 ∧ ∀ i, i < len → Rows.uptoBulk (D i) ≤ Rows.uptoBulk x.1 := by
   rw [hx]
   have h1 := bulk_slice (H := H) ((List.range len).map D) ((List.range (m - len)).map fun j => D (len + j))
   simp only [List.length_map, List.length_range] at h1
   refine ⟨h1, fun i hi => ?_⟩
   have := bulk_mem (d := D i) (l := (List.range len).map D) (List.mem_map.2 ⟨i, List.mem_range.2 hi, rfl⟩)
   simp only [Rows.uptoBulk]
   omega
  have each : ∀ i, i < len → ∃ q : Pm, (W.cell? (x1.add (i * 2)) = some (.int .i64 q.at_) ∧ W.cell? (x1.add (i * 2 + 1)) = some (.slice q.ad q.data.length q.cap)) ∧ Rd W.heap.size W q.ad q.data.length q.data ∧ q.data.length ≤ Rows.uptoBulk x.1 ∧ (q.ad = none → q.cap = 0) := by
   intro i hi
   obtain ⟨v0, v1, y0, y1, e0, e1, t0, t1, hD⟩ := hall i (by omega)
   obtain ⟨q0, eq0, _, _⟩ := DataW.trod_int Tryz.underlying3 t0
   simp at eq0
   subst eq0
   obtain ⟨aa, nn, cc, zs, rfl, hR, hn, hz⟩ := open_bc t1
   have hb := hsum.2 i hi
   rw [hD] at hb
   simp only [Rows.uptoBulk, Rows.uptoBulkAll] at hb
   have hzl : zs.length = nn := hR.1
   subst hzl
   exact ⟨⟨q0, aa, cc, zs⟩, ⟨e0, e1⟩, hR, by show zs.length ≤ _; omega, hz⟩
  have : Inhabited Pm := ⟨⟨0, none, 0, []⟩⟩
  obtain ⟨q, hq⟩ := choose_lt each
  have hlen : ((List.range len).map q).length = len := by simp
  refine ⟨some x1, m, (List.range len).map q, by rw [hlen], ⟨fun p hp => ?_, ?_⟩, by rw [hlen]; exact hsum.1, fun p hp => ?_, fun e => by cases e⟩
  ·obtain ⟨i, hi, rfl⟩ := List.mem_map.1 hp
   obtain ⟨r1, r2, r3⟩ := (hq i (List.mem_range.1 hi)).2.1
   exact ⟨r1, r2, r3.imp id (fun ⟨b, o, s1, s2, s3⟩ => ⟨b, o, s1, s2, fun h => h, s3⟩)⟩
  ·by_cases h0 : len = 0
   ·subst h0; exact .inl rfl
   ·obtain ⟨b, off, rfl⟩ := spot_none (by have := (hq 0 (by omega)).1.1; simpa using this)
    refine .inr ⟨b, off, rfl, ?_, fun h => h, fun i d hi => ?_⟩
    ·have := (hq 0 (by omega)).1.1
     rw [add_plain] at this
     exact World.block_lt_of_cell? W ⟨b, off, none⟩ (by simpa using this)
    ·have hil : i < len := by have := (List.getElem?_eq_some_iff.1 hi).1; simpa using this
     have hd : d = q i := by
      rw [List.getElem?_map, List.getElem?_range hil] at hi
      simpa using hi.symm
     subst hd
     have hh := (hq i hil).1
     simp only [add_plain, ← Nat.add_assoc] at hh
     exact hh
  ·obtain ⟨i, hi, rfl⟩ := List.mem_map.1 hp
   exact (hq i (List.mem_range.1 hi)).2.2
end Go.Proofs.YtldlejpacgphmaaGreat
namespace Go.Proofs.YtldlejpacgphmaaGreat
open Go.ChangeShapes Go.WideShapes Go.ChangeAt Go.RowKit Go.Deep
structure Ac where
 kd : Int
 at_ : Int
 a0 : Option Addr
 cp : Nat
 ps : List Pm
 keep : Int
 fz : Int
 again : Int
def RdA (B : Nat) (w : World) (a : Option Addr) (As : List Ac) : Prop :=
 As = [] ∨ ∃ b off, a = some ⟨b, off, none⟩ ∧ b < B ∧ ∀ t q, As[t]? = some q → w.cell? ⟨b, off + t * 6, none⟩ = some (.int .i64 q.kd) ∧ w.cell? ⟨b, off + t * 6 + 1, none⟩ = some (.int .i64 q.at_) ∧ w.cell? ⟨b, off + t * 6 + 2, none⟩ = some (.slice q.a0 q.ps.length q.cp) ∧ w.cell? ⟨b, off + t * 6 + 3, none⟩ = some (.int .u64 q.keep) ∧ w.cell? ⟨b, off + t * 6 + 4, none⟩ = some (.int .i64 q.fz) ∧ w.cell? ⟨b, off + t * 6 + 5, none⟩ = some (.int .i64 q.again)
theorem RdA.below {B : Nat} {w w' : World} {a : Option Addr} {As : List Ac} (h : RdA B w a As) (hb : Below B w w') : RdA B w' a As := by
 refine h.imp id (fun ⟨b, o, e, l, q⟩ => ⟨b, o, e, l, fun t d hd => ?_⟩)
 obtain ⟨q0, q1, q2, q3, q4, q5⟩ := q t d hd
 exact ⟨(hb.cell (p := ⟨b, _, none⟩) l).trans q0, (hb.cell (p := ⟨b, _, none⟩) l).trans q1, (hb.cell (p := ⟨b, _, none⟩) l).trans q2, (hb.cell (p := ⟨b, _, none⟩) l).trans q3, (hb.cell (p := ⟨b, _, none⟩) l).trans q4, (hb.cell (p := ⟨b, _, none⟩) l).trans q5⟩
theorem open_six {H : Type} {enc : TypeId × Value → H} {P : Program} {w : World} {base : Nat} {spare : Nat → Bool} {held : Bool} {t e : TypeId} {f0 f1 f2 f3 f4 f5 : Field} {fuel : Nat} {cs : List Value} {x : DataW H × List MemPlace}
  (ht : P.underlying t = some (.slice e)) (he : P.underlying e = some (.struct #[f0, f1, f2, f3, f4, f5])) (ce : P.cellsOf e = 6) (o0 : f0.offset = 0) (o1 : f1.offset = 1) (o2 : f2.offset = 2) (o3 : f3.offset = 3) (o4 : f4.offset = 4) (o5 : f5.offset = 5) (c0 : P.cellsOf f0.type = 1) (c1 : P.cellsOf f1.type = 1) (c2 : P.cellsOf f2.type = 1) (c3 : P.cellsOf f3.type = 1) (c4 : P.cellsOf f4.type = 1) (c5 : P.cellsOf f5.type = 1)
  (h : DataW.trod enc P w base spare held fuel t cs = some x) :
  (cs = [.slice none 0 0] ∧ x = (.nil, [])) ∨
  ∃ (a : Addr) (len cap m n : Nat) (D : Nat → DataW H), cs = [.slice (some a) len cap] ∧ len ≤ cap ∧ m = (if spare a.block then cap else len) ∧ x.1 = .slice ((List.range len).map D) ((List.range (m - len)).map fun j => D (len + j)) ∧
   ∀ i, i < m → ∃ (v0 v1 v2 v3 v4 v5 : Value) (y0 y1 y2 y3 y4 y5 : DataW H × List MemPlace), w.cell? (a.add (i * 6)) = some v0 ∧ w.cell? (a.add (i * 6 + 1)) = some v1 ∧ w.cell? (a.add (i * 6 + 2)) = some v2 ∧ w.cell? (a.add (i * 6 + 3)) = some v3 ∧ w.cell? (a.add (i * 6 + 4)) = some v4 ∧ w.cell? (a.add (i * 6 + 5)) = some v5 ∧
    DataW.trod enc P w base spare held (n - 1) f0.type [v0] = some y0 ∧ DataW.trod enc P w base spare held (n - 1) f1.type [v1] = some y1 ∧ DataW.trod enc P w base spare held (n - 1) f2.type [v2] = some y2 ∧ DataW.trod enc P w base spare held (n - 1) f3.type [v3] = some y3 ∧ DataW.trod enc P w base spare held (n - 1) f4.type [v4] = some y4 ∧ DataW.trod enc P w base spare held (n - 1) f5.type [v5] = some y5 ∧ D i = .agg [y0.1, y1.1, y2.1, y3.1, y4.1, y5.1] := by
 rcases open_slice ht h with h0 | ⟨a, len, cap, m, n, D, Pl, rfl, hb, hl, hm, hmm, rfl, hx⟩
 ·exact Or.inl h0
 refine .inr ⟨a, len, cap, m, n, D, rfl, hl, hmm, rfl, ?_⟩
 intro i hi
 obtain ⟨cs', h1, h2⟩ := hx i hi
 rw [ce] at h1
 obtain ⟨_, hlen, hcell⟩ := World.cells?_some h1
 obtain ⟨xs, k, hk, hxy, _, hxl, hf⟩ := DataW.trod_struct he h2
 have hk' : k = n - 1 := by omega
 subst hk'
 match xs, hxl, cs', hlen with
 | [y0, y1, y2, y3, y4, y5], _, [v0, v1, v2, v3, v4, v5], _ =>
  have g0 := hf 0 f0 rfl
  have g1 := hf 1 f1 rfl
  have g2 := hf 2 f2 rfl
  have g3 := hf 3 f3 rfl
  have g4 := hf 4 f4 rfl
  have g5 := hf 5 f5 rfl
  simp [o0, o1, o2, o3, o4, o5, c0, c1, c2, c3, c4, c5] at g0 g1 g2 g3 g4 g5
  have e0 := hcell 0 (by omega)
  have e1 := hcell 1 (by omega)
  have e2 := hcell 2 (by omega)
  have e3 := hcell 3 (by omega)
  have e4 := hcell 4 (by omega)
  have e5 := hcell 5 (by omega)
  rw [add_add] at e0 e1 e2 e3 e4 e5
  simp only [Prod.mk.injEq] at hxy
  exact ⟨v0, v1, v2, v3, v4, v5, y0, y1, y2, y3, y4, y5, by simpa using e0, by simpa using e1, by simpa using e2, by simpa using e3, by simpa using e4, by simpa using e5, g0, g1, g2, g3, g4, g5, by simpa using hxy.1⟩
theorem open_acts {H : Type} {enc : TypeId × Value → H} {W : World} {v : Value} {fuel : Nat} {x : DataW H × List MemPlace} (hf : DataW.trod enc Tryz.prog W 0 (fun _ => true) true fuel 25 [v] = some x) :
  ∃ a c As, v = .slice a As.length c ∧ RdA W.heap.size W a As ∧ As.length ≤ Rows.uptoBulk x.1 ∧ ∀ q ∈ As, RdP (fun _ => False) W q.a0 q.ps ∧ q.ps.length ≤ Rows.uptoBulk x.1 ∧ (∀ p ∈ q.ps, p.data.length ≤ Rows.uptoBulk x.1 ∧ (p.ad = none → p.cap = 0)) := by
 rcases open_six Tryz.underlying25 Tryz.underlying33 (by kernel_rfl) rfl rfl rfl rfl rfl rfl (by kernel_rfl) (by kernel_rfl) (by kernel_rfl) (by kernel_rfl) (by kernel_rfl) (by kernel_rfl) hf with ⟨hcs, hx⟩ | ⟨x1, len, c, m, n, D, hcs, hl, hmm, hx, hall⟩
 ·simp at hcs
  subst hcs
  exact ⟨none, 0, [], rfl, .inl rfl, by simp, fun p hp => by cases hp⟩
 ·simp at hcs
  subst hcs
  have hm' : m = c := by simpa using hmm
  subst hm'
  have hsum : len ≤ Rows.uptoBulk x.1 ∧ ∀ i, i < len → Rows.uptoBulk (D i) ≤ Rows.uptoBulk x.1 := by
   rw [hx]
   have h1 := bulk_slice (H := H) ((List.range len).map D) ((List.range (m - len)).map fun j => D (len + j))
   simp only [List.length_map, List.length_range] at h1
   refine ⟨h1, fun i hi => ?_⟩
   have := bulk_mem (d := D i) (l := (List.range len).map D) (List.mem_map.2 ⟨i, List.mem_range.2 hi, rfl⟩)
   simp only [Rows.uptoBulk]
   omega
  have each : ∀ i, i < len → ∃ q : Ac, (W.cell? (x1.add (i * 6)) = some (.int .i64 q.kd) ∧ W.cell? (x1.add (i * 6 + 1)) = some (.int .i64 q.at_) ∧ W.cell? (x1.add (i * 6 + 2)) = some (.slice q.a0 q.ps.length q.cp) ∧ W.cell? (x1.add (i * 6 + 3)) = some (.int .u64 q.keep) ∧ W.cell? (x1.add (i * 6 + 4)) = some (.int .i64 q.fz) ∧ W.cell? (x1.add (i * 6 + 5)) = some (.int .i64 q.again)) ∧ RdP (fun _ => False) W q.a0 q.ps ∧ q.ps.length ≤ Rows.uptoBulk x.1 ∧ (∀ p ∈ q.ps, p.data.length ≤ Rows.uptoBulk x.1 ∧ (p.ad = none → p.cap = 0)) := by
   intro i hi
   obtain ⟨v0, v1, v2, v3, v4, v5, y0, y1, y2, y3, y4, y5, e0, e1, e2, e3, e4, e5, t0, t1, t2, t3, t4, t5, hD⟩ := hall i (by omega)
   obtain ⟨q0, eq0, _, _⟩ := DataW.trod_int Tryz.underlying3 t0
   obtain ⟨q1, eq1, _, _⟩ := DataW.trod_int Tryz.underlying3 t1
   obtain ⟨q3, eq3, _, _⟩ := DataW.trod_int Tryz.underlying31 t3
   obtain ⟨q4, eq4, _, _⟩ := DataW.trod_int Tryz.underlying3 t4
   obtain ⟨q5, eq5, _, _⟩ := DataW.trod_int Tryz.underlying3 t5
   simp at eq0 eq1 eq3 eq4 eq5
   subst eq0 eq1 eq3 eq4 eq5
   obtain ⟨aa, cc, ps, rfl, hR, hn, hpd, _⟩ := open_puts t2
   have hb := hsum.2 i hi
   rw [hD] at hb
   simp only [Rows.uptoBulk, Rows.uptoBulkAll] at hb
   exact ⟨⟨q0, q1, aa, cc, ps, q3, q4, q5⟩, ⟨e0, e1, e2, e3, e4, e5⟩, hR, by show ps.length ≤ _; omega, fun p hp => ⟨by have := (hpd p hp).1; omega, (hpd p hp).2⟩⟩
  have : Inhabited Ac := ⟨⟨0, 0, none, 0, [], 0, 0, 0⟩⟩
  obtain ⟨q, hq⟩ := choose_lt each
  have hlen : ((List.range len).map q).length = len := by simp
  refine ⟨some x1, m, (List.range len).map q, by rw [hlen], ?_, by rw [hlen]; exact hsum.1, fun p hp => ?_⟩
  ·by_cases h0 : len = 0
   ·subst h0; exact .inl rfl
   ·obtain ⟨b, off, rfl⟩ := spot_none (by have := (hq 0 (by omega)).1.1; simpa using this)
    refine .inr ⟨b, off, rfl, ?_, fun i d hi => ?_⟩
    ·have := (hq 0 (by omega)).1.1
     rw [add_plain] at this
     exact World.block_lt_of_cell? W ⟨b, off, none⟩ (by simpa using this)
    ·have hil : i < len := by have := (List.getElem?_eq_some_iff.1 hi).1; simpa using this
     have hd : d = q i := by
      rw [List.getElem?_map, List.getElem?_range hil] at hi
      simpa using hi.symm
     subst hd
     have hh := (hq i hil).1
     simp only [add_plain, ← Nat.add_assoc] at hh
     exact hh
  ·obtain ⟨i, hi, rfl⟩ := List.mem_map.1 hp
   exact (hq i (List.mem_range.1 hi)).2
end Go.Proofs.YtldlejpacgphmaaGreat
