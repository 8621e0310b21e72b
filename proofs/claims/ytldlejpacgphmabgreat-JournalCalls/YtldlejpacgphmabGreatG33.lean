import Derived.Test.YtldlejpacgphmabGreatG31
import Derived.Test.YtldlejpacgphmabGreatG22
namespace Go.Proofs.YtldlejpacgphmabGreat
open Go.RowKit
variable {X0 : Nat → Prop}
theorem low_eq (x : Int) : bits .and .i64 x 9223372036854775807 = x % 9223372036854775808 := by
 show IntKind.i64.wrap ((BitVec.ofInt 64 x &&& BitVec.ofInt 64 9223372036854775807).toNat : Int) = _
 rw [BitVec.toNat_and, show (BitVec.ofInt 64 9223372036854775807).toNat = 2 ^ 63 - 1 from by decide, Nat.and_two_pow_sub_one_eq_mod, BitVec.toNat_ofInt, IntKind.wrap_i64]
 omega
set_option maxHeartbeats 400000 in
theorem low_any (x : Int) (w : World) : Calls Tryz.prog 40 #[.int .i64 x] w fun e w' => ∃ y : Nat, e = .returned (.int .i64 (y : Int)) ∧ (y : Int) ≤ 9223372036854775807 ∧ w' = w ∧ (y : Int) = x % 9223372036854775808 := by
 obtain ⟨y, hy⟩ : ∃ y : Nat, (y : Int) = x % 9223372036854775808 := ⟨(x % 9223372036854775808).toNat, by omega⟩
 have hb : bits .and .i64 x 9223372036854775807 = (y : Int) := by rw [low_eq, hy]
 have hle : (y : Int) ≤ 9223372036854775807 := by omega
 go_enter Tryz.func40, Tryz.ntmps40
 go_wp2
 go_ret
 exact ⟨y, by rw [hy]; rfl, hle, rfl, hy⟩
theorem OpenP.anew {Z : Nat → Prop} {w : World} {c p room nb K f b : Nat} {d : Pd} {s : Js} {lo : Nat} {home : Nat → List Int} {Ts : List Tn} {e : Ending} {w' : World} (H : OpenP Z w c p room nb K d (f : Int) (b : Int) e w') (h : On d s nb f b lo home Ts) (hfu : d.fu = -1) (hf : d.Fits nb) (hlo : 16 ≤ b) (hfit : f + b ≤ nb) (hnb : nb ≤ 524288) :
  But Z w w' ∧ ∃ j Z' d' s', e = .returned (.tuple #[.pointer (some ⟨j, 0, none⟩), .int .i64 0]) ∧ w.heap.size ≤ j ∧ Gr Z Z' w ∧ d'.fu = -1 ∧ Jq Z' w' j c p room nb K f b d' s' ∧ On d' s' nb f b Ts.length home Ts := by
 have hset := h.settle hf hlo hfit hnb
 obtain ⟨q, base, ts, k, hn⟩ := h.nm
 obtain ⟨h1, h2, h3⟩ := hn.again hnb hfit
 obtain ⟨b1, jv, code, rfl, kk⟩ := H
 have hlc : layC d nb (f : Int) (b : Int) = 0 := by
  unfold layC
  rw [h.on, if_neg (by simp)]
  exact placeC_ok hlo hfit hnb
 refine ⟨b1, ?_⟩
 rcases kk with ⟨k1, _⟩ | ⟨_, f', b', ef, eb, _, _, kk⟩
 ·exact absurd hlc k1
 ·have ef' : f' = f := by omega
  have eb' : b' = b := by omega
  subst ef' eb'
  rcases kk with ⟨_, _, k | ⟨l', q', k1, k2⟩, _⟩ | ⟨l', q', k1, k2, k3, Z', k4, k5⟩
  ·rw [h1] at k; cases k
  ·rw [h1] at k1
   cases k1
   rw [h2] at k2
   exact absurd h3 k2
  ·rw [h1] at k1
   cases k1
   rw [h2] at k3 k5
   obtain ⟨f1, _, f3⟩ := Pd.runs_free h.on hfu (settleCmds nb f' b' s)
   rcases k5 with ⟨k6, _⟩ | ⟨k6, j, k7, k8, k9⟩
   ·exact absurd (k3.trans f1) k6
   ·subst k6 k7
    exact ⟨j, Z', _, _, rfl, k8, k4, f3, k9, (hset.1 f1).1⟩
set_option maxRecDepth 100000 in
set_option maxHeartbeats 4000000 in
theorem begun_ok {w : World} (a : Option Addr) (hcap : Nat) (H : List Int) (nb fr bl : Nat) (rI : Int) (n1 : 1 ≤ nb) (hnb : nb ≤ 524288) (hlo : 16 ≤ bl) (hfit : fr + bl ≤ nb) (hnil : a = none → hcap = 0) (hR : Rd w.heap.size w a (512 * nb) H) (hX0 : ∀ k, X0 k → k < w.heap.size) :
  Calls Tryz.prog 10 #[.agg #[.slice a (512 * nb) hcap, .int .i64 (fr : Int), .int .i64 (bl : Int), .int .i64 rI]] w fun e w' => ∃ wb room W, e = .returned (.tuple #[.pointer (some ⟨wb, 0, none⟩), .bool true]) ∧ WD X0 W w' wb room nb fr bl 0 0 H [] ∧ (∀ k, W k → w.heap.size ≤ k) ∧ Below w.heap.size w w' := by
 obtain ⟨PO, hPO⟩ : ∃ PO : Ending → World → Prop, PO = fun e w' => ∃ wb room W, e = .returned (.tuple #[.pointer (some ⟨wb, 0, none⟩), .bool true]) ∧ WD X0 W w' wb room nb fr bl 0 0 H [] ∧ (∀ k, W k → w.heap.size ≤ k) ∧ Below w.heap.size w w' := ⟨_, rfl⟩
 rw [← hPO]
 obtain ⟨L, hLe⟩ : ∃ L, L = 512 * nb := ⟨_, rfl⟩
 obtain ⟨pk, hpk⟩ : ∃ pk, pk = w.heap.size := ⟨_, rfl⟩
 obtain ⟨w0, hw0⟩ : ∃ w0, w0 = w.alloc (.cells #[.slice a L hcap, .int .i64 (fr : Int), .int .i64 (bl : Int), .int .i64 rI] 24) := ⟨_, rfl⟩
 have b0 : Below w.heap.size w w0 := by rw [hw0]; exact (Below.refl _ _).alloc (Nat.le_refl _) _
 have z0 : w0.heap.size = w.heap.size + 1 := by rw [hw0]; simp
 have hpl : pk < w0.heap.size := by omega
 have c0 : w0.cell? ⟨pk, 0, none⟩ = some (.slice a L hcap) := by rw [hw0, hpk]; exact cell_new rfl 0 _ rfl
 have c1 : w0.cell? ⟨pk, 1, none⟩ = some (.int .i64 (fr : Int)) := by rw [hw0, hpk]; exact cell_new rfl 1 _ rfl
 have c2 : w0.cell? ⟨pk, 2, none⟩ = some (.int .i64 (bl : Int)) := by rw [hw0, hpk]; exact cell_new rfl 2 _ rfl
 have c3 : w0.cell? ⟨pk, 3, none⟩ = some (.int .i64 rI) := by rw [hw0, hpk]; exact cell_new rfl 3 _ rfl
 have hRb : ∀ w', Below w0.heap.size w0 w' → Rd w'.heap.size w' a (512 * nb) H := fun w' hb => ((hR.below b0).below (hb.mono b0.size)).mono (Nat.le_trans b0.size hb.size)
 have hisb := hR.2.1
 have HCp : Hid (∀ w', Below w0.heap.size w0 w' → Calls Tryz.prog 39 #[.slice a L hcap] w' fun e w'' => ∃ g cap, e = .returned (.slice (some ⟨g, 0, none⟩) L cap) ∧ w'.heap.size ≤ g ∧ Own w'' g (512 * nb) cap H ∧ Below w'.heap.size w' w'') := fun w' hb => by
  rw [hLe]
  exact CopyBytes_any a (512 * nb) hcap H w' (by omega) hnil (hRb w' hb)
 have HOd : Hid (∀ (w1 : World) (g1 cp1 : Nat), Own w1 g1 (512 * nb) cp1 H → Calls Tryz.prog 38 #[.slice (some ⟨g1, 0, none⟩) L cp1] w1 fun e w' => ∃ p, e = .returned (.tuple #[.pointer (some ⟨p, 0, none⟩), .int .i64 0]) ∧ w1.heap.size ≤ p ∧ Dk (fun x => w1.heap.size ≤ x) w' p H [] (-1) false nb ∧ Below w1.heap.size w1 w') := fun w1 g1 cp1 ho => by
  rw [hLe]
  exact Open_ok ⟨g1, 0, none⟩ nb cp1 H w1 n1 hnb (ho.rd hisb)
 have HNm := hid (num_any 0)
 have HLow := hid (low_any rI)
 have HPl := hid (refPlaced_any nb hnb (fr : Int) (bl : Int))
 rw [placeC_ok hlo hfit hnb] at HPl
 have HNw : Hid (∀ (w2 : World) (p room : Nat), 1 ≤ room → room ≤ 4096 → _) := fun w2 p room r1 r2 => CNew_ok (w := w2) p room r1 r2
 have HW0 := hid hw0
 have HPK := hid hpk
 -- format, open, and the rest
 have HFm : Hid (∀ (w1 w2 w3 : World) (p c room : Nat), 1 ≤ room → room ≤ 4096 → Below w0.heap.size w0 w1 → Below w1.heap.size w1 w2 → Below w2.heap.size w2 w3 → Dk (fun x => w1.heap.size ≤ x) w2 p H [] (-1) false nb → Cst (fun k => w2.heap.size ≤ k) w3 c p room 0 0 [] → Calls Tryz.prog 21 #[.pointer (some ⟨c, 0, none⟩), .int .i64 (fr : Int), .int .i64 (bl : Int)] w3 fun e w4 => e = .returned (.int .i64 0) ∧ (w4.cell? ⟨pk, 1, none⟩ = some (.int .i64 (fr : Int)) ∧ w4.cell? ⟨pk, 2, none⟩ = some (.int .i64 (bl : Int))) ∧
   Calls Tryz.prog 20 #[.pointer (some ⟨c, 0, none⟩), .int .i64 (fr : Int), .int .i64 (bl : Int)] w4 fun e w5 => ∃ j, e = .returned (.tuple #[.pointer (some ⟨j, 0, none⟩), .int .i64 0]) ∧ (w5.cell? ⟨pk, 0, none⟩ = some (.slice a L hcap) ∧ w5.cell? ⟨pk, 1, none⟩ = some (.int .i64 (fr : Int)) ∧ w5.cell? ⟨pk, 2, none⟩ = some (.int .i64 (bl : Int))) ∧
    Calls Tryz.prog 39 #[.slice a L hcap] w5.drew fun e w6 => ∃ hb hc, e = .returned (.slice (some ⟨hb, 0, none⟩) L hc) ∧ w6.cell? ⟨pk, 0, none⟩ = some (.slice a L hcap) ∧ w6.cell? ⟨pk, 1, none⟩ = some (.int .i64 (fr : Int)) ∧ w6.cell? ⟨pk, 2, none⟩ = some (.int .i64 (bl : Int)) ∧ pk < w6.heap.size ∧
     PO (.returned (.tuple #[.pointer (some ⟨w6.heap.size + 1, 0, none⟩), .bool true])) ((w6.alloc (.cells #[.slice (some ⟨hb, 0, none⟩) L hc, .int .i64 (fr : Int), .int .i64 (bl : Int), .slice none 0 0] 101)).alloc (.cells #[.pointer (some ⟨p, 0, none⟩), .pointer (some ⟨c, 0, none⟩), .pointer (some ⟨j, 0, none⟩), .pointer (some ⟨w6.heap.size, 0, none⟩), .int .i64 (room : Int), .int .i64 0, .bool false, .bool false, .slice none 0 0, .slice none 0 0, .slice none 0 0] 50))) := fun w1 w2 w3 p c room r1 r2 b1 b2 b3 hD hCs => by
  have s1 := b1.size
  have s2 := b2.size
  have s3 := b3.size
  have hq := Cq.new hD hCs b3 s2
  have hft := hq.fits
  have B3 : Below w0.heap.size w0 w3 := (b1.trans (b2.mono s1)).trans (b3.mono (by omega))
  refine Calls.mono (Format_any hq (fr : Int) (bl : Int) (by simp only [List.length_nil]; omega)) ?_
  rintro e w4 ⟨code, d', rfl, ⟨Z', q1, q2⟩, b4, hcase⟩
  have hlc : layC ⟨H, [], -1, false⟩ nb (fr : Int) (bl : Int) = 0 := by
   unfold layC
   rw [if_neg (by simp)]
   exact placeC_ok hlo hfit hnb
  rcases hcase with ⟨k1, _⟩ | ⟨_, f', b', ef, eb, _, _, hrun⟩
  ·exact absurd hlc k1
  ·have ef' : f' = fr := by omega
   have eb' : b' = bl := by omega
   subst ef' eb'
   obtain ⟨f1, _, f3⟩ := Pd.runs_free (d := ⟨H, [], -1, false⟩) rfl rfl (formatCmds f' b')
   have hon := format_on hlo hfit hft.1 rfl f1
   rw [hrun] at f1 f3 hon
   simp only at f1 f3 hon
   subst f1
   have B4 : Below w0.heap.size w0 w4 := ((But.of_below B3 (X := fun k => w0.heap.size ≤ k)).comp b4 (fun k hk q => by omega)).below (Nat.le_refl _) (fun k hk q => by omega)
   refine ⟨rfl, ⟨(B4.cell (p := ⟨pk, 1, none⟩) hpl).trans c1, (B4.cell (p := ⟨pk, 2, none⟩) hpl).trans c2⟩, ?_⟩
   have hpl4 := hon.puts hlo hfit hnb
   have q1c := q1.cut
   refine Calls.mono (Open_any q1c (f' : Int) (b' : Int) (by omega)) ?_
   intro e w5 hO
   obtain ⟨b5, j, Z5, d5, s5, rfl, hj5, g5, fu5, J5, on5⟩ := OpenP.anew hO hon f3 q1.fits.1 hlo hfit hnb
   have hz4 : ∀ k, k < w0.heap.size → ¬ (Z' k ∧ k < w4.heap.size) := fun k hk q => by
    have := (q2 k (by omega) q.1).1
    omega
   have B5 : Below w0.heap.size w0 w5 := ((But.of_below B4 (X := fun k => w0.heap.size ≤ k)).comp b5 (fun k hk q => absurd q (hz4 k hk))).below (Nat.le_refl _) (fun k hk q => by omega)
   refine ⟨j, rfl, ⟨(B5.cell (p := ⟨pk, 0, none⟩) hpl).trans c0, (B5.cell (p := ⟨pk, 1, none⟩) hpl).trans c1, (B5.cell (p := ⟨pk, 2, none⟩) hpl).trans c2⟩, ?_⟩
   refine Calls.mono (HCp.out w5.drew B5.drew) ?_
   rintro e w6 ⟨hb, hc, rfl, hhb, ho6, b6⟩
   have hhb' : w5.heap.size ≤ hb := hhb
   have B56 : Below w5.heap.size w5 w6 := (Below.refl w5.heap.size w5).drew.trans b6
   have B6 : Below w0.heap.size w0 w6 := B5.trans (B56.mono B5.size)
   have s5' := B5.size
   have s6 := B56.size
   have hlb6 := ho6.lt
   refine ⟨hb, hc, rfl, (B6.cell (p := ⟨pk, 0, none⟩) hpl).trans c0, (B6.cell (p := ⟨pk, 1, none⟩) hpl).trans c1, (B6.cell (p := ⟨pk, 2, none⟩) hpl).trans c2, by omega, ?_⟩
   rw [hPO]
   have hlb5 : ∀ k, (Z5 k ∧ k < w5.heap.size) → w0.heap.size ≤ k := fun k q => by
    rcases Nat.lt_or_ge k w0.heap.size with hk | hk
    ·exact absurd (g5 k (by have := B4.size; omega) q.1) (hz4 k hk)
    ·exact hk
   obtain ⟨w7, hw7⟩ : ∃ w7, w7 = w6.alloc (.cells #[.slice (some ⟨hb, 0, none⟩) L hc, .int .i64 (f' : Int), .int .i64 (b' : Int), .slice none 0 0] 101) := ⟨_, rfl⟩
   have b7 : Below w6.heap.size w6 w7 := by rw [hw7]; exact (Below.refl _ _).alloc (Nat.le_refl _) _
   have z7 : w7.heap.size = w6.heap.size + 1 := by rw [hw7]; simp
   have hlg7 : Lg w7 w6.heap.size (some ⟨hb, 0, none⟩) nb hc f' b' none 0 0 := ⟨by rw [hw7, hLe]; exact Array.getElem?_push_size⟩
   rw [← hw7]
   obtain ⟨w8, hw8⟩ : ∃ w8, w8 = w7.alloc (.cells #[.pointer (some ⟨p, 0, none⟩), .pointer (some ⟨c, 0, none⟩), .pointer (some ⟨j, 0, none⟩), .pointer (some ⟨w6.heap.size, 0, none⟩), .int .i64 (room : Int), .int .i64 0, .bool false, .bool false, .slice none 0 0, .slice none 0 0, .slice none 0 0] 50) := ⟨_, rfl⟩
   have b8 : Below w7.heap.size w7 w8 := by rw [hw8]; exact (Below.refl _ _).alloc (Nat.le_refl _) _
   have z8 : w8.heap.size = w6.heap.size + 2 := by rw [hw8]; simp [z7]
   have hwb8 : Wb w8 (w6.heap.size + 1) p c (.pointer (some ⟨j, 0, none⟩)) w6.heap.size (room : Int) ((0 : Nat) : Int) false false (.slice none 0 0) (.slice none 0 0) (.slice none 0 0) := ⟨by rw [hw8, ← z7]; exact Array.getElem?_push_size⟩
   rw [← hw8]
   have B68 : Below w6.heap.size w6 w8 := b7.trans (b8.mono b7.size)
   have hTB : ∀ k, ¬ TB (.slice none 0 0) (.slice none 0 0) [] k := fun k q => by
    rcases q with q | q | ⟨l, hl, _⟩
    ·cases q
    ·cases q
    ·cases hl
   have hlg : LgW (fun k => ((Z5 k ∧ k < w5.heap.size) ∨ k = w6.heap.size + 1 ∨ TB (.slice none 0 0) (.slice none 0 0) [] k) ∨ X0 k) w8 w6.heap.size hb hc nb f' b' H none 0 [] [] := by
    refine ⟨hlg7.keep (b8.block _ (by omega)), by omega, fun q => ?_, ho6.keep (B68.block hb hlb6), hisb, ⟨fun q => ?_, by omega, by intro q; cases q⟩, World.ownsRow_nil _ _ _ _, (fun k e => by cases e), fun i ps hi => by simp at hi⟩
    ·rcases q with (q | q | q) | q
     ·omega
     ·omega
     ·exact hTB _ q
     ·have := hX0 _ q
      omega
    ·rcases q with (q | q | q) | q
     ·omega
     ·omega
     ·exact hTB _ q
     ·have := hX0 _ q
      omega
   have hJ8 : Jq (fun k => Z5 k ∧ k < w5.heap.size) w8 j c p room nb 0 f' b' d5 s5 := (J5.cut.below B56).below B68
   have htr : Tr w8 (.slice none 0 0) [] [] := ⟨World.ownsRow_nil _ _ _ _, fun i l hi => by simp at hi, fun i l hi => by simp at hi, fun i j a b hi => by simp at hi, fun i l hi => by simp at hi, fun k e => by cases e⟩
   refine ⟨w6.heap.size + 1, room, _, rfl, ⟨_, p, c, j, w6.heap.size, _, _, _, hb, hc, none, 0, [], [], 0, [], d5, s5, ⟨hwb8, hlg, hJ8, fu5, htr, World.ownsRow_nil _ _ _ _, by omega, by simp, fun q => by omega, fun k q => absurd q (hTB k), hTB _, (fun k e => by cases e), fun k q => by omega, hlo, hfit, r1, r2, fun k q => by have := hX0 k q; omega⟩, on5, rfl⟩, fun k q => ?_, ?_⟩
   ·rcases q with (q | q | q) | q | q
    ·have := hlb5 k q
     omega
    ·omega
    ·exact absurd q (hTB k)
    ·omega
    ·cases q
   ·exact b0.trans ((B6.trans (B68.mono B6.size)).mono b0.size)
 have HCell : Hid (∀ w', Below w0.heap.size w0 w' → w'.cell? ⟨pk, 0, none⟩ = some (.slice a L hcap) ∧ w'.cell? ⟨pk, 1, none⟩ = some (.int .i64 (fr : Int)) ∧ w'.cell? ⟨pk, 2, none⟩ = some (.int .i64 (bl : Int)) ∧ w'.cell? ⟨pk, 3, none⟩ = some (.int .i64 rI)) := fun w' hb => ⟨(hb.cell (p := ⟨pk, 0, none⟩) hpl).trans c0, (hb.cell (p := ⟨pk, 1, none⟩) hpl).trans c1, (hb.cell (p := ⟨pk, 2, none⟩) hpl).trans c2, (hb.cell (p := ⟨pk, 3, none⟩) hpl).trans c3⟩
 have hLn : L ≤ 268435456 := by omega
 have hq1 : (L : Int).tdiv 512 = (nb : Int) := by rw [Int.tdiv_eq_ediv_of_nonneg (by omega)]; omega
 have hq2 : (L : Int) / 512 = (nb : Int) := by omega
 have hwn : IntKind.i64.wrap (nb : Int) = (nb : Int) := by rw [IntKind.wrap_i64]; omega
 rw [← hLe]
 clear hR hRb hPO hw0 hpk z0 b0 hisb c0 c1 c2 c3 hLe n1 hlo hfit hnil hnb
 go_enter Tryz.func10, Tryz.ntmps10
 go_wp2_with fail
 rw [← HW0.out, ← HPK.out]
 refine Calls.mono (HCp.out w0 (Below.refl _ _)) ?_
 rintro e w1 ⟨g1, cp1, rfl, hg1, o1, b1⟩
 have HO1 := hid (HOd.out w1 g1 cp1 o1)
 have B1 := hid b1
 have hs1 := b1.size
 clear HCp HOd o1 b1 HW0 HPK
 go_wp2_with fail
 refine Calls.mono HO1.out ?_
 rintro e w2 ⟨p, rfl, hp, dk, b2⟩
 have B2 := hid b2
 have DK := hid dk
 have hs2 := b2.size
 obtain ⟨d0, d1, d2, d3⟩ := HCell.out w2 (B1.out.trans (b2.mono hs1))
 clear HO1 dk b2
 go_wp2_with fail
 refine Calls.mono (HNm.out w2) ?_
 rintro e w9 ⟨rfl, hw9⟩
 rw [hw9]
 clear hw9
 go_wp2_with fail
 refine Calls.mono (HLow.out w2) ?_
 rintro e w9 ⟨y, rfl, hy, hw9, hye⟩
 clear hye
 rw [hw9]
 clear hw9
 obtain ⟨r0, hr0⟩ : ∃ r0 : Nat, r0 = y % 4096 := ⟨_, rfl⟩
 have ht1 : (y : Int).tmod 4096 = (r0 : Int) := by rw [Int.tmod_eq_emod_of_nonneg (by omega)]; omega
 have ht2 : (y : Int) % 4096 = (r0 : Int) := by omega
 have hr1 : r0 < 4096 := by omega
 have hw3 : IntKind.i64.wrap (r0 : Int) = (r0 : Int) := by rw [IntKind.wrap_i64]; omega
 have hw4 : IntKind.i64.wrap (1 + (r0 : Int)) = 1 + (r0 : Int) := by rw [IntKind.wrap_i64]; omega
 obtain ⟨room, hroom⟩ : ∃ room : Nat, room = 1 + r0 := ⟨_, rfl⟩
 have hrm : 1 + (r0 : Int) = (room : Int) := by omega
 have HNw2 := hid (HNw.out w2 p room (by omega) (by omega))
 have HRM := hid (And.intro hroom hr1)
 clear hr0 hroom HLow HNw
 go_wp2_with fail
 refine Calls.mono HNw2.out ?_
 rintro e w3 ⟨c, rfl, hc3, cs, b3⟩
 have hs3 := b3.size
 have B03 : Below w0.heap.size w0 w3 := (B1.out.trans (B2.out.mono hs1)).trans (b3.mono (by omega))
 obtain ⟨e0, e1, e2, _⟩ := HCell.out w3 B03
 have HFo := hid (HFm.out w1 w2 w3 p c room (by have := HRM.out; omega) (by have := HRM.out; omega) B1.out B2.out b3 DK.out cs)
 have HN3 := hid (HNm.out w3)
 have HP3 := hid (HPl.out w3)
 clear HNw2 cs b3 B03 HFm DK B2 B1 HPl HRM d0 d1 d2 d3 ht1 ht2 hr1 hw3 hw4 hrm hy HCell
 go_wp2_with fail
 refine Calls.mono HN3.out ?_
 rintro e w9 ⟨rfl, hw9⟩
 rw [hw9]
 clear hw9 HN3
 go_wp2_with fail
 refine Calls.mono HP3.out ?_
 rintro e w9 ⟨rfl, hw9⟩
 rw [hw9]
 clear hw9 HP3
 go_wp2_with fail
 refine Calls.mono HFo.out ?_
 rintro e w4 ⟨rfl, ⟨m1, m2⟩, hO⟩
 have HO := hid hO
 have HN4 := hid (HNm.out w4)
 clear hO HFo e0 e1 e2
 go_wp2_with fail
 refine Calls.mono HN4.out ?_
 rintro e w9 ⟨rfl, hw9⟩
 rw [hw9]
 clear hw9 HN4
 go_wp2_with fail
 refine Calls.mono HO.out ?_
 rintro e w5 ⟨j, rfl, ⟨f0, f1, f2⟩, h5⟩
 have HC5 := hid h5
 have HN5 := hid (HNm.out w5)
 clear h5 HO m1 m2 HNm
 go_wp2_with fail
 refine Calls.mono HN5.out ?_
 rintro e w9 ⟨rfl, hw9⟩
 rw [hw9]
 clear hw9 HN5
 go_wp2_with fail
 refine wp_region_held_drew (S := fun w' => w'.cell? ⟨pk, 0, none⟩ = some (.slice a L hcap) ∧ w'.cell? ⟨pk, 1, none⟩ = some (.int .i64 (fr : Int)) ∧ w'.cell? ⟨pk, 2, none⟩ = some (.int .i64 (bl : Int))) (by kernel_rfl) ⟨f0, f1, f2⟩ (fun hSS => ?_)
 refine tk 0 (some 103) (.move (.tmp 4)) 42 none hSS ?_
 refine tk 1 (some 104) (.move (.tmp 7)) 43 none hSS ?_
 refine tk 2 (some 105) (.move (.tmp 11)) 44 none hSS ?_
 refine tk 3 (some 106) (.fieldAddr 24 (.tmp 1) 0) 0 none hSS ?_
 try simp only [Act.put, zA, zB, zC]
 refine tk 4 (some 107) (.load 22 (.tmp 106)) 22 none hSS ?_
 refine tk 6 (some 109) (.fieldAddr 24 (.tmp 1) 1) 0 none hSS ?_
 refine tk 7 (some 110) (.load 3 (.tmp 109)) 3 none hSS ?_
 refine tk 8 (some 111) (.fieldAddr 24 (.tmp 1) 2) 0 none hSS ?_
 try simp only [Act.put, zA, zB, zC]
 refine tk 9 (some 112) (.load 3 (.tmp 111)) 3 none hSS ?_
 refine tk 12 (some 115) (.move (.tmp 6)) 3 none hSS ?_
 try simp only [Act.put, zA, zB, zC]
 refine wpAnyH_ready (rs := [5]) (by kernel_rfl) (by simp) (AllReadyH.cons (o := ({ dst := some 108, op := Op.call { callee := Callee.value (Operand.func 39), args := #[Operand.tmp 107], argTypes := #[22] }, type := 22, pos := _, after := _, guard := none } : Oper)) rfl (fun K9 hK9 => ?_) AllReadyH.nil)
 go_simp
 go_at_call 39
 refine Calls.mono HC5.out ?_
 rintro e w6 ⟨hb, hc, rfl, g0, g1, g2, hpl6, HF6⟩
 have HF := hid HF6
 clear HF6 HC5
 refine hK9.out _ _ ⟨g0, g1, g2⟩ (fun hSS => ?_)
 clear hK9 K9
 try simp only [Act.put, zA, zB, zC]
 refine tk 10 (some 113) (.build 101 #[(0, .tmp 108), (1, .tmp 110), (2, .tmp 112)]) 101 none hSS ?_
 try simp only [Act.put, zA, zB, zC]
 refine wpAnyH_ready (rs := [11]) (by kernel_rfl) (by simp) (AllReadyH.cons (o := ({ dst := some 114, op := Op.box 101 (Operand.tmp 113), type := 45, pos := _, after := _, guard := none } : Oper)) rfl (fun K9 hK9 => ?_) AllReadyH.nil)
 go_simp
 refine hK9.out _ _ ⟨(World.cell?_alloc_past _ _ _ hpl6).trans g0, (World.cell?_alloc_past _ _ _ hpl6).trans g1, (World.cell?_alloc_past _ _ _ hpl6).trans g2⟩ (fun hSS => ?_)
 clear hK9 K9
 try simp only [Act.put, zA, zB, zC]
 refine tk 13 (some 116) (.build 50 #[(0, .tmp 103), (1, .tmp 104), (2, .tmp 105), (3, .tmp 114), (4, .tmp 115)]) 50 none hSS ?_
 try simp only [Act.put, zA, zB, zC]
 refine wpAnyH_ready (rs := [14]) (by kernel_rfl) (by simp) (AllReadyH.cons (o := ({ dst := some 117, op := Op.box 50 (Operand.tmp 116), type := 28, pos := _, after := _, guard := none } : Oper)) rfl (fun K9 hK9 => ?_) AllReadyH.nil)
 go_simp
 refine hK9.out _ _ ⟨(World.cell?_alloc_past _ _ _ (by simp; omega)).trans ((World.cell?_alloc_past _ _ _ hpl6).trans g0), (World.cell?_alloc_past _ _ _ (by simp; omega)).trans ((World.cell?_alloc_past _ _ _ hpl6).trans g1), (World.cell?_alloc_past _ _ _ (by simp; omega)).trans ((World.cell?_alloc_past _ _ _ hpl6).trans g2)⟩ (fun hSS => ?_)
 clear hK9 K9
 try simp only [Act.put, zA, zB, zC]
 refine tk 15 (some 2) (.assign (.tmp 117)) 28 none hSS ?_
 refine tk 16 (some 3) (.assign (.const (.bool true))) 4 none hSS ?_
 try simp only [Act.put, zA, zB, zC]
 refine wpAnyH_done (by kernel_rfl) ?_ _
 go_wp2
 exact HF.out
end Go.Proofs.YtldlejpacgphmabGreat
