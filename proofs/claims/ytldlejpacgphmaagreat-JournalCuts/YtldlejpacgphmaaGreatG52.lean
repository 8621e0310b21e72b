import Derived.Test.YtldlejpacgphmaaGreatG49
import Derived.Test.YtldlejpacgphmaaGreatG27
namespace Go.Proofs.YtldlejpacgphmaaGreat
open Go.RowKit Go.Deep
theorem OpenP.cutOn {Z : Nat → Prop} {w : World} {c p room nb K f b : Nat} {d : Pd} {lo : Nat} {home : Nat → List Int} {Ts : List Tn} {I : List Int} {e : Ending} {w' : World} (H : OpenP Z w c p room nb K ⟨I, [], -1, false⟩ (f : Int) (b : Int) e w') (h : Cut d nb f b lo home Ts) (hlo : 16 ≤ b) (hfit : f + b ≤ nb) (hnb : nb ≤ 524288) (hI : ∀ x, x < nb → d.poss x (imgB I x)) (hf : (⟨I, [], -1, false⟩ : Pd).Fits nb) :
  But Z w w' ∧ ∃ j s n Z' d', e = .returned (.tuple #[.pointer (some ⟨j, 0, none⟩), .int .i64 0]) ∧ lo ≤ n ∧ n ≤ Ts.length ∧ Gr Z Z' w ∧ d'.fu = -1 ∧ Jq Z' w' j c p room nb K f b d' s ∧ On d' s nb f b n home (Ts.take n) := by
 obtain ⟨l, q, h1, h2, n, h3, h4, h5, h6⟩ := h.open hlo hfit hnb hI hf
 obtain ⟨b1, jv, code, rfl, k⟩ := H
 have hlc : layC ⟨I, [], -1, false⟩ nb (f : Int) (b : Int) = 0 := by
  unfold layC
  rw [if_neg (by simp)]
  exact placeC_ok hlo hfit hnb
 refine ⟨b1, ?_⟩
 rcases k with ⟨k1, _⟩ | ⟨_, f', b', ef, eb, _, _, k⟩
 ·exact absurd hlc k1
 ·have ef' : f' = f := by omega
  have eb' : b' = b := by omega
  subst ef' eb'
  rcases k with ⟨_, _, k | ⟨l', q', k1, k2⟩, _⟩ | ⟨l', q', k1, k2, k3, Z', k4, k5⟩
  ·rw [h1] at k; cases k
  ·rw [h1] at k1
   cases k1
   exact absurd h2 k2
  ·rw [h1] at k1
   cases k1
   obtain ⟨f1, _, f3⟩ := Pd.runs_free (d := ⟨I, [], -1, false⟩) rfl rfl (settleCmds nb f' b' (openS nb f' b' ⟨I, [], -1, false⟩ l q))
   rcases k5 with ⟨k6, _, _⟩ | ⟨k6, j, k7, k8, k9⟩
   ·exact absurd (k3.trans f1) k6
   ·subst k6 k7
    exact ⟨j, _, n, Z', _, rfl, h3, h4, k4, f3, k9, h5 f1⟩
theorem Wb.set0 {w : World} {wb p c : Nat} {jv : Value} {g : Nat} {rm lasted : Int} {off trying : Bool} {tried tl td : Value} (h : Wb w wb p c jv g rm lasted off trying tried tl td) (p' : Nat) : Wb (w.setCell ⟨wb, 0, none⟩ (.pointer (some ⟨p', 0, none⟩))) wb p' c jv g rm lasted off trying tried tl td := by
 refine ⟨?_⟩
 have h1 := h.blk
 simp only [World.setCell, Array.getElem?_modify]
 rw [h1]
 simp
theorem Wb.set1 {w : World} {wb p c : Nat} {jv : Value} {g : Nat} {rm lasted : Int} {off trying : Bool} {tried tl td : Value} (h : Wb w wb p c jv g rm lasted off trying tried tl td) (c' : Nat) : Wb (w.setCell ⟨wb, 1, none⟩ (.pointer (some ⟨c', 0, none⟩))) wb p c' jv g rm lasted off trying tried tl td := by
 refine ⟨?_⟩
 have h1 := h.blk
 simp only [World.setCell, Array.getElem?_modify]
 rw [h1]
 simp
theorem Wb.set6 {w : World} {wb p c : Nat} {jv : Value} {g : Nat} {rm lasted : Int} {off trying : Bool} {tried tl td : Value} (h : Wb w wb p c jv g rm lasted off trying tried tl td) (b : Bool) : Wb (w.setCell ⟨wb, 6, none⟩ (.bool b)) wb p c jv g rm lasted b trying tried tl td := by
 refine ⟨?_⟩
 have h1 := h.blk
 simp only [World.setCell, Array.getElem?_modify]
 rw [h1]
 simp
theorem Wb.set7 {w : World} {wb p c : Nat} {jv : Value} {g : Nat} {rm lasted : Int} {off trying : Bool} {tried tl td : Value} (h : Wb w wb p c jv g rm lasted off trying tried tl td) (b : Bool) : Wb (w.setCell ⟨wb, 7, none⟩ (.bool b)) wb p c jv g rm lasted off b tried tl td := by
 refine ⟨?_⟩
 have h1 := h.blk
 simp only [World.setCell, Array.getElem?_modify]
 rw [h1]
 simp
theorem Wb.set8 {w : World} {wb p c : Nat} {jv : Value} {g : Nat} {rm lasted : Int} {off trying : Bool} {tried tl td : Value} (h : Wb w wb p c jv g rm lasted off trying tried tl td) (v : Value) : Wb (w.setCell ⟨wb, 8, none⟩ v) wb p c jv g rm lasted off trying v tl td := by
 refine ⟨?_⟩
 have h1 := h.blk
 simp only [World.setCell, Array.getElem?_modify]
 rw [h1]
 simp
def cutW (w : World) (wb j g n : Nat) : World := (((((w.setCell ⟨wb, 2, none⟩ (.pointer (some ⟨j, 0, none⟩))).setCell ⟨wb, 3, none⟩ (.pointer (some ⟨g, 0, none⟩))).setCell ⟨wb, 5, none⟩ (.int .i64 (n : Int))).setCell ⟨wb, 6, none⟩ (.bool false)).setCell ⟨wb, 7, none⟩ (.bool false)).setCell ⟨wb, 8, none⟩ (.slice none 0 0)
def CutW (W : Nat → Prop) (w : World) (wb room nb fr bl : Nat) (H : List Int) (e : Ending) (w' : World) : Prop :=
 e = .returned (.bool true) ∧ But W w w' ∧ ∃ W' lasted' Us', WD W' w' wb room nb fr bl nb lasted' H Us' ∧ (∀ k, k < w.heap.size → W' k → W k)
set_option maxRecDepth 100000 in
set_option maxHeartbeats 8000000 in
theorem cut_any {W : Nat → Prop} {w : World} {wb room nb fr bl K lasted : Nat} {H : List Int} {Us : List (List Pm)} (hWD : WD W w wb room nb fr bl K lasted H Us) (kd at_ keep fz : Int) (pv : Value) :
  Calls Tryz.prog 35 #[.pointer (some ⟨wb, 0, none⟩), .agg #[.int .i64 kd, .int .i64 at_, pv, .int .u64 keep, .int .i64 fz, .int .i64 (-1)]] w (CutW W w wb room nb fr bl H) := by
 obtain ⟨PO, hPO⟩ : ∃ PO : Ending → World → Prop, PO = CutW W w wb room nb fr bl H := ⟨_, rfl⟩
 rw [← hPO]
 obtain ⟨ab, hab⟩ : ∃ ab, ab = w.heap.size := ⟨_, rfl⟩
 obtain ⟨w1, hw1⟩ : ∃ w1, w1 = w.alloc (.cells #[.int .i64 kd, .int .i64 at_, pv, .int .u64 keep, .int .i64 fz, .int .i64 (-1)] 33) := ⟨_, rfl⟩
 have b1 : Below w.heap.size w w1 := by rw [hw1]; exact (Below.refl _ _).alloc (Nat.le_refl _) _
 have z1 : w1.heap.size = w.heap.size + 1 := by rw [hw1]; simp
 have a5 : w1.cell? ⟨ab, 5, none⟩ = some (.int .i64 (-1)) := by rw [hw1, hab]; exact cell_new rfl 5 _ rfl
 have hal : ab < w1.heap.size := by omega
 obtain ⟨Z, p, c, j, g, tried, tl, td, hb, hc, ta, tc, vs, Ls, n1, cs, d, s, h, hOn, hW⟩ := hWD
 have hnb := h.nb
 have hlo := h.lo
 have hfit := h.fit
 have hpl := hOn.puts h.lo h.fit h.nb
 have hus := (hOn.us h.lo h.fit h.nb).2
 have hcut := hOn.cut h.lo h.fit h.nb
 have hwl := h.wd.lt
 have hgl := h.lg.gl
 obtain ⟨L, hLe⟩ : ∃ L, L = 512 * nb := ⟨_, rfl⟩
 have HK : Hid (∀ w', Below w1.heap.size w1 w' → w'.cell? ⟨wb, 4, none⟩ = some (.int .i64 (room : Int)) ∧ w'.cell? ⟨wb, 3, none⟩ = some (.pointer (some ⟨g, 0, none⟩)) ∧ w'.cell? ⟨g, 1, none⟩ = some (.int .i64 (fr : Int)) ∧ w'.cell? ⟨g, 2, none⟩ = some (.int .i64 (bl : Int)) ∧ w'.cell? ⟨ab, 5, none⟩ = some (.int .i64 (-1))) := fun w' hb' => by
  have h' := (h.below b1).below hb'
  exact ⟨h'.wd.cell 4, h'.wd.cell 3, h'.lg.lg.c1, h'.lg.lg.c2, (hb'.cell (p := ⟨ab, 5, none⟩) hal).trans a5⟩
 have HF : Hid (Calls Tryz.prog 12 #[.pointer (some ⟨wb, 0, none⟩), .int .u64 keep] w1 fun e w2 => ∃ ib ic, e = .returned (.tuple #[.slice (some ⟨ib, 0, none⟩) L ic, .bool true]) ∧ Below w1.heap.size w1 w2 ∧
   Calls Tryz.prog 22 #[.slice (some ⟨ib, 0, none⟩) L ic] w2 fun e w3 => ∃ g1 cp1, e = .returned (.slice (some ⟨g1, 0, none⟩) L cp1) ∧ Below w1.heap.size w1 w3 ∧
    Calls Tryz.prog 21 #[.slice (some ⟨g1, 0, none⟩) L cp1] w3 fun e w4 => ∃ p', e = .returned (.tuple #[.pointer (some ⟨p', 0, none⟩), .int .i64 0]) ∧ Below w1.heap.size w1 w4 ∧
     Calls Tryz.prog 24 #[.pointer (some ⟨p', 0, none⟩), .int .i64 (room : Int)] w4 fun e w5 => ∃ c', e = .returned (.tuple #[.pointer (some ⟨c', 0, none⟩), .int .i64 0]) ∧ Below w1.heap.size w1 w5 ∧
      Calls Tryz.prog 27 #[.pointer (some ⟨c', 0, none⟩), .int .i64 (fr : Int), .int .i64 (bl : Int)] w5.drew fun e w6 => ∃ j', e = .returned (.tuple #[.pointer (some ⟨j', 0, none⟩), .int .i64 0]) ∧ (w6.cell? ⟨wb, 3, none⟩ = some (.pointer (some ⟨g, 0, none⟩)) ∧ w6.cell? ⟨g, 1, none⟩ = some (.int .i64 (fr : Int)) ∧ w6.cell? ⟨g, 2, none⟩ = some (.int .i64 (bl : Int))) ∧ ((∃ v, w6.cell? ⟨wb, 0, none⟩ = some v) ∧ (∃ v, w6.cell? ⟨wb, 1, none⟩ = some v)) ∧ (∀ t, w6.frozen? ⟨wb, t, none⟩ = false) ∧
       Calls Tryz.prog 30 #[.pointer (some ⟨wb, 0, none⟩), .pointer (some ⟨j', 0, none⟩)] ((w6.setCell ⟨wb, 0, none⟩ (.pointer (some ⟨p', 0, none⟩))).setCell ⟨wb, 1, none⟩ (.pointer (some ⟨c', 0, none⟩))) fun e w8 => ∃ g' n ta' tc', e = .returned (.tuple #[.pointer (some ⟨g', 0, none⟩), .bool true]) ∧ g' ≠ wb ∧ n ≤ 1099511627776 ∧ w8.cell? ⟨g', 3, none⟩ = some (.slice ta' n tc') ∧ (∀ t, t < 11 → ∃ v, w8.cell? ⟨wb, t, none⟩ = some v) ∧ (∀ t, w8.frozen? ⟨wb, t, none⟩ = false) ∧ PO (.returned (.bool true)) (cutW w8 wb j' g' n)) := by
  have hx1 := h.below b1
  refine Calls.mono (left_any hx1.wd hx1.lg.lg hx1.jq.dk.1 hx1.jq.fits.1 (by omega) keep) ?_
  rintro e w2 ⟨ib, ic, I, rfl, _, oI, iI, hposs, _, b2⟩
  rw [← hLe] at oI ⊢
  refine ⟨ib, ic, rfl, b2, ?_⟩
  refine Calls.mono (CopyBytes_any (some ⟨ib, 0, none⟩) L ic I w2 (by omega) (by simp) (oI.rd iI)) ?_
  rintro e w3 ⟨g1, cp1, rfl, _, o1, b3⟩
  have B3 := b2.trans (b3.mono b2.size)
  refine ⟨g1, cp1, rfl, B3, ?_⟩
  rw [hLe] at o1 ⊢
  refine Calls.mono (Open_ok ⟨g1, 0, none⟩ nb cp1 I w3 (by omega) hnb (o1.rd iI)) ?_
  rintro e w4 ⟨p', rfl, _, dk, b4⟩
  have B4 := B3.trans (b4.mono B3.size)
  refine ⟨p', rfl, B4, ?_⟩
  refine Calls.mono (CNew_ok (w := w4) p' room h.r1 h.r2) ?_
  rintro e w5 ⟨c', rfl, _, cst, b5⟩
  have B5 := B4.trans (b5.mono B4.size)
  refine ⟨c', rfl, B5, ?_⟩
  have s3 := B3.size
  have s4 := b4.size
  have s5 := b5.size
  have hq := (Cq.new dk cst b5 s4).drew
  refine Calls.mono (Open_any hq (fr : Int) (bl : Int) (by simp only [List.length_nil]; omega)) ?_
  intro e w6 hO
  obtain ⟨b6', j', s', n, Z6, d6, rfl, n1', n2', g6, fu6, J6, on6⟩ := OpenP.cutOn hO hcut hlo hfit hnb (fun x _ => hposs x) hq.fits.1
  have b6 : But (fun k => w3.heap.size ≤ k ∧ k < w5.heap.size) w5 w6 := (But.of_below ((Below.refl w5.heap.size w5).drew)).comp b6' (fun _ _ q => q)
  have s6 := b6.size
  have B6 : Below w1.heap.size w1 w6 := ((But.of_below B5 (X := fun k => w1.heap.size ≤ k)).comp b6 (fun k hk q => by omega)).below (Nat.le_refl _) (fun k hk q => by omega)
  have h6 := (h.below b1).below B6
  refine ⟨j', rfl, ⟨h6.wd.cell 3, h6.lg.lg.c1, h6.lg.lg.c2⟩, ⟨⟨_, h6.wd.cell 0⟩, ⟨_, h6.wd.cell 1⟩⟩, h6.wd.frozen, ?_⟩
  obtain ⟨w7, hw7⟩ : ∃ w7, w7 = (w6.setCell ⟨wb, 0, none⟩ (.pointer (some ⟨p', 0, none⟩))).setCell ⟨wb, 1, none⟩ (.pointer (some ⟨c', 0, none⟩)) := ⟨_, rfl⟩
  have b7 : But (fun k => k = wb) w6 w7 := by rw [hw7]; exact ((But.refl (fun k => k = wb) w6).setCell rfl _).setCell rfl _
  have wd7 : Wb w7 wb p' c' (.pointer (some ⟨j, 0, none⟩)) g (room : Int) (lasted : Int) false false tried tl td := by rw [hw7]; exact (h6.wd.set0 _).set1 _
  rw [← hw7]
  have nwZ : ∀ k, k < w1.heap.size → ¬ (Z6 k ∧ k < w6.heap.size) := fun k hk q => by
   have := (g6 k (by show k < w5.heap.size; omega) q.1).1
   omega
  have J7 : Jq (fun k => Z6 k ∧ k < w6.heap.size) w7 j' c' p' room nb 0 fr bl d6 s' := J6.cut.but b7 (fun k _ q e => nwZ k (by omega) q)
  have hLb := (h.below b1).lg.below B6 (fun k => (Z k ∨ k = wb ∨ TB tl td Ls k) ∨ w1.heap.size ≤ k) (fun k hk q => by
   rcases q with q | q
   ·exact q
   ·omega)
  have hL7 := hLb.but b7 (fun k _ q => .inl (.inr (.inl q))) (fun k => (Z6 k ∧ k < w6.heap.size) ∨ k = wb ∨ TB tl td Ls k) (fun k hk q => by
   rcases q with q | q
   ·exact .inr (Nat.le_of_not_lt (fun hk' => nwZ k hk' q))
   ·exact .inl (.inr q))
  have hTl : (plainT Us).length = Us.length := by simp [plainT]
  have on7 : On d6 s' nb fr bl n (imgB H) (plainT (Us.take n)) := by rw [plainT_take]; exact on6
  have s7 := b7.size
  refine Calls.mono (opened_any wd7 hL7 J7 on7 (by omega) (by omega) (fun k _ q => .inl q) hlo hfit hus (by omega)) ?_
  rintro e w8 ⟨g', ta', tc', vs', Z8, rfl, ⟨hg', hta'⟩, hL8, J8, z8, g8, b8⟩
  have htk : (Us.take n).length = n := by rw [List.length_take]; omega
  have nwZ8 : ∀ k, k < w1.heap.size → ¬ Z8 k := fun k hk q => nwZ k hk (g8 k (by omega) q)
  have wd8 := wd7.keep (b8.block wb (by omega) (nwZ wb (by omega)))
  refine ⟨g', n, ta', tc', rfl, by omega, by omega, by have := hL8.lg.c3; rw [htk] at this; exact this, fun t ht => ?_, wd8.frozen, ?_⟩
  ·rw [wd8.cell t]
   exact ⟨_, Array.getElem?_eq_getElem (by simpa using ht)⟩
  rw [hPO]
  have bW : But (fun k => k = wb) w8 (cutW w8 wb j' g' n) := (((((((But.refl (fun k => k = wb) w8).setCell rfl _).setCell rfl _).setCell rfl _).setCell rfl _).setCell rfl _).setCell rfl _)
  have s8 := b8.size
  have sW := bW.size
  have b1F : But (fun k => k = wb ∨ w1.heap.size ≤ k) w1 (cutW w8 wb j' g' n) := (((But.of_below B6 (X := fun k => k = wb ∨ w1.heap.size ≤ k)).comp b7 (fun k _ q => .inl q)).comp b8 (fun k hk q => absurd q (nwZ k hk))).comp bW (fun k _ q => .inl q)
  have hx := h.below b1
  have wdF : Wb (cutW w8 wb j' g' n) wb p' c' (.pointer (some ⟨j', 0, none⟩)) g' (room : Int) (n : Int) false false (.slice none 0 0) tl td := (((((wd8.set2j _).set3 _).set5 _).set6 _).set7 _).set8 _
  have hTl1 : ∀ k, TB tl td Ls k → k < w1.heap.size := fun k q => hx.tlt q
  have hL9 := (hL8.but (Y := fun _ => False) (But.refl _ _) (fun _ _ q => q.elim) (fun k => Z8 k ∨ k = wb ∨ TB tl td Ls k) (fun k hk q => by
   rcases q with q | q | q
   ·exact .inr q
   ·exact .inl ⟨.inr (.inl q), by omega⟩
   ·exact .inl ⟨.inr (.inr q), by have := hTl1 k q; omega⟩)).but bW (fun k _ q => .inr (.inl q)) (fun k => Z8 k ∨ k = wb ∨ TB tl td Ls k) (fun _ _ q => q)
  have J9 := J8.but bW (fun k _ q e => nwZ8 k (by omega) q)
  have htr := hx.tr.but b1F (fun k hk q e => by
   rcases e with e | e
   ·exact hx.tw (by rw [← e]; exact .inr q)
   ·omega)
  have hls := owns_keep hx.ls (fun k e => b1F.block k (World.ownsRow.lt hx.ls k e).2 (fun r => by
   rcases r with r | r
   ·exact hx.tw (by rw [← r]; exact .inl e)
   ·have := (World.ownsRow.lt hx.ls k e).2
    omega))
  have hWw : W wb := by rw [hW]; exact .inl (.inr (.inl rfl))
  refine ⟨rfl, ?_, _, n, Us.take n, ⟨Z8, p', c', j', g', _, tl, td, hb, hc, ta', tc', vs', Ls, n1, cs, d6, s', ⟨wdF, hL9, J9.monoK (by omega), fu6, htr, hls, hx.n1, hx.nl, nwZ8 wb (by omega), fun k q => nwZ8 k (hTl1 k q), hx.tw, hx.lt, fun k q => Nat.lt_of_lt_of_le (z8 k q) sW, hlo, hfit, hx.r1, hx.r2⟩, on7, rfl⟩, fun k hk q => ?_⟩
  ·refine ((But.of_below b1 (X := W)).comp b1F (fun k hk q => ?_))
   rcases q with q | q
   ·rw [q]; exact hWw
   ·omega
  ·rcases q with (q | q | q) | q | q
   ·exact absurd q (nwZ8 k (by omega))
   ·rw [q]; exact hWw
   ·rw [hW]; exact .inl (.inr (.inr q))
   ·omega
   ·have := hta' k q
    omega
 have HN := hid (num_any 0)
 have HW1 := hid hw1
 have HAB := hid hab
 have hL2 : L ≤ 268435456 := by omega
 clear h hOn hW hPO hw1 b1 hpl hus hcut hab z1 a5 hal hwl hgl hLe
 unfold cutW at HF
 go_enter Tryz.func35, Tryz.ntmps35
 go_wp2_with fail
 rw [← HW1.out]
 refine Calls.mono HF.out ?_
 rintro e w2 ⟨ib, ic, rfl, b2, hC⟩
 have HC := hid hC
 have B2 := hid b2
 obtain ⟨d4, d3, d1, d2, d5⟩ := HK.out w2 b2
 rw [HAB.out] at d5
 clear hC b2 HF
 go_wp2_with fail
 go_loopw [5, 6, 7, 8] (fun v5 v6 v7 v8 wr => v5 = .slice (some ⟨ib, 0, none⟩) L ic ∧ v6 = .bool true ∧ v7 = .int .i64 (-1) ∧ v8 = .int .i64 0 ∧ wr = w2) (fun _ _ _ v8 _ => (intOf v8).toNat)
 case atStart => exact ⟨rfl, rfl, rfl, rfl, rfl⟩
 case round =>
  obtain ⟨rfl, rfl, rfl, rfl, rfl⟩ := hrel
  clear d4 d3 d1 d2 d5
  go_wp2_with fail
  refine Calls.mono HC.out ?_
  rintro e w3 ⟨g1, cp1, rfl, b3, hO⟩
  have HO := hid hO
  clear hO HC b3
  go_wp2_with fail
  refine Calls.mono HO.out ?_
  rintro e w4 ⟨p', rfl, b4, hN⟩
  have HNw := hid hN
  obtain ⟨d4, _, _, _, _⟩ := HK.out w4 b4
  clear hN HO b4
  go_wp2_with fail
  refine Calls.mono (HN.out w4) ?_
  rintro e w9 ⟨rfl, hw9⟩
  rw [hw9]
  clear hw9
  go_wp2_with fail
  refine Calls.mono HNw.out ?_
  rintro e w5 ⟨c', rfl, b5, hO6⟩
  have HO6 := hid hO6
  obtain ⟨_, e3, eg1, eg2, _⟩ := HK.out w5 b5
  clear hO6 HNw b5 d4
  go_wp2_with fail
  refine Calls.mono (HN.out w5) ?_
  rintro e w9 ⟨rfl, hw9⟩
  rw [hw9]
  clear hw9
  go_wp2_with fail
  refine wp_region_noPanic ?_
  refine wp_region_held_drew (S := fun w' => w'.cell? ⟨wb, 3, none⟩ = some (.pointer (some ⟨g, 0, none⟩)) ∧ w'.cell? ⟨g, 1, none⟩ = some (.int .i64 (fr : Int)) ∧ w'.cell? ⟨g, 2, none⟩ = some (.int .i64 (bl : Int))) (by kernel_rfl) ⟨e3, eg1, eg2⟩ (fun hSS => ?_)
  apply tk 0 (some 68) (.move (.tmp 11)) 38 none rfl (by kernel_rfl) (fun _ _ _ h => h) (by rfl) hSS
  ·(intro w9 hSw; (try dsimp only at hSw); (try go_split_ands); first | (go_simp; done) | (go_simp; with_reducible rfl))
  apply tk 1 (some 69) (.move (.tmp 0)) 27 none rfl (by kernel_rfl) (fun _ _ _ h => h) (by rfl) hSS
  ·(intro w9 hSw; (try dsimp only at hSw); (try go_split_ands); first | (go_simp; done) | (go_simp; with_reducible rfl))
  apply tk 2 (some 70) (.nilCheck (.tmp 69)) 0 none rfl (by kernel_rfl) (fun _ _ _ h => h) (by rfl) hSS
  ·(intro w9 hSw; (try dsimp only at hSw); (try go_split_ands); first | (go_simp; done) | (go_simp; with_reducible rfl))
  apply tk 3 (some 71) (.fieldAddr 45 (.tmp 70) 3) 0 none rfl (by kernel_rfl) (fun _ _ _ h => h) (by rfl) hSS
  ·(intro w9 hSw; (try dsimp only at hSw); (try go_split_ands); first | (go_simp; done) | (go_simp; with_reducible rfl))
  try simp only [Act.put, List.setIfInBounds_toArray, List.set_cons_zero, List.set_cons_succ]
  apply tk 4 (some 72) (.load 40 (.tmp 71)) 40 none rfl (by kernel_rfl) (fun _ _ _ h => h) (by rfl) hSS
  ·(intro w9 hSw; (try dsimp only at hSw); (try go_split_ands); first | (go_simp; done) | (go_simp; with_reducible rfl))
  apply tk 5 (some 73) (.nilCheck (.tmp 72)) 0 none rfl (by kernel_rfl) (fun _ _ _ h => h) (by rfl) hSS
  ·(intro w9 hSw; (try dsimp only at hSw); (try go_split_ands); first | (go_simp; done) | (go_simp; with_reducible rfl))
  apply tk 6 (some 74) (.fieldAddr 48 (.tmp 73) 1) 0 none rfl (by kernel_rfl) (fun _ _ _ h => h) (by rfl) hSS
  ·(intro w9 hSw; (try dsimp only at hSw); (try go_split_ands); first | (go_simp; done) | (go_simp; with_reducible rfl))
  apply tk 7 (some 75) (.load 3 (.tmp 74)) 3 none rfl (by kernel_rfl) (fun _ _ _ h => h) (by rfl) hSS
  ·(intro w9 hSw; (try dsimp only at hSw); (try go_split_ands); first | (go_simp; done) | (go_simp; with_reducible rfl))
  try simp only [Act.put, List.setIfInBounds_toArray, List.set_cons_zero, List.set_cons_succ]
  apply tk 8 (some 76) (.move (.tmp 0)) 27 none rfl (by kernel_rfl) (fun _ _ _ h => h) (by rfl) hSS
  ·(intro w9 hSw; (try dsimp only at hSw); (try go_split_ands); first | (go_simp; done) | (go_simp; with_reducible rfl))
  apply tk 9 (some 77) (.nilCheck (.tmp 76)) 0 none rfl (by kernel_rfl) (fun _ _ _ h => h) (by rfl) hSS
  ·(intro w9 hSw; (try dsimp only at hSw); (try go_split_ands); first | (go_simp; done) | (go_simp; with_reducible rfl))
  apply tk 10 (some 78) (.fieldAddr 45 (.tmp 77) 3) 0 none rfl (by kernel_rfl) (fun _ _ _ h => h) (by rfl) hSS
  ·(intro w9 hSw; (try dsimp only at hSw); (try go_split_ands); first | (go_simp; done) | (go_simp; with_reducible rfl))
  apply tk 11 (some 79) (.load 40 (.tmp 78)) 40 none rfl (by kernel_rfl) (fun _ _ _ h => h) (by rfl) hSS
  ·(intro w9 hSw; (try dsimp only at hSw); (try go_split_ands); first | (go_simp; done) | (go_simp; with_reducible rfl))
  try simp only [Act.put, List.setIfInBounds_toArray, List.set_cons_zero, List.set_cons_succ]
  apply tk 12 (some 80) (.nilCheck (.tmp 79)) 0 none rfl (by kernel_rfl) (fun _ _ _ h => h) (by rfl) hSS
  ·(intro w9 hSw; (try dsimp only at hSw); (try go_split_ands); first | (go_simp; done) | (go_simp; with_reducible rfl))
  apply tk 13 (some 81) (.fieldAddr 48 (.tmp 80) 2) 0 none rfl (by kernel_rfl) (fun _ _ _ h => h) (by rfl) hSS
  ·(intro w9 hSw; (try dsimp only at hSw); (try go_split_ands); first | (go_simp; done) | (go_simp; with_reducible rfl))
  apply tk 14 (some 82) (.load 3 (.tmp 81)) 3 none rfl (by kernel_rfl) (fun _ _ _ h => h) (by rfl) hSS
  ·(intro w9 hSw; (try dsimp only at hSw); (try go_split_ands); first | (go_simp; done) | (go_simp; with_reducible rfl))
  try simp only [Act.put, List.setIfInBounds_toArray, List.set_cons_zero, List.set_cons_succ]
  refine wpAnyH_ready (rs := [15]) (by kernel_rfl) (by simp) (AllReadyH.cons (o := ({ dst := some 83, op := Op.call { callee := Callee.value (Operand.func 27), args := #[Operand.tmp 68, Operand.tmp 75, Operand.tmp 82], argTypes := #[38, 3, 3] }, type := 70, pos := _, after := _, guard := none } : Oper)) rfl (fun K9 hK9 => ?_) AllReadyH.nil)
  go_simp
  go_at_call 27
  refine Calls.mono HO6.out ?_
  rintro e w6 ⟨j', rfl, ⟨s3, sg1, sg2⟩, ⟨s0, s1⟩, hf6, F6⟩
  have H6 := hid F6
  clear F6 HO6
  refine hK9.out _ _ ⟨s3, sg1, sg2⟩ (fun hSS => ?_)
  clear hK9 K9
  try simp only [Act.put, List.setIfInBounds_toArray, List.set_cons_zero, List.set_cons_succ]
  apply tk 16 (some 67) (.move (.tmp 83)) 70 none rfl (by kernel_rfl) (fun _ _ _ h => h) (by rfl) hSS
  ·(intro w9 hSw; (try dsimp only at hSw); (try go_split_ands); first | (go_simp; done) | (go_simp; with_reducible rfl))
  apply tk 17 (some 84) (.extract (.tmp 67) 0) 39 none rfl (by kernel_rfl) (fun _ _ _ h => h) (by rfl) hSS
  ·(intro w9 hSw; (try dsimp only at hSw); (try go_split_ands); first | (go_simp; done) | (go_simp; with_reducible rfl))
  try simp only [Act.put, List.setIfInBounds_toArray, List.set_cons_zero, List.set_cons_succ]
  apply tk 18 (some 85) (.extract (.tmp 67) 1) 55 none rfl (by kernel_rfl) (fun _ _ _ h => h) (by rfl) hSS
  ·(intro w9 hSw; (try dsimp only at hSw); (try go_split_ands); first | (go_simp; done) | (go_simp; with_reducible rfl))
  apply tk 19 (some 13) (.assign (.tmp 84)) 39 none rfl (by kernel_rfl) (fun _ _ _ h => h) (by rfl) hSS
  ·(intro w9 hSw; (try dsimp only at hSw); (try go_split_ands); first | (go_simp; done) | (go_simp; with_reducible rfl))
  apply tk 20 (some 14) (.assign (.tmp 85)) 55 none rfl (by kernel_rfl) (fun _ _ _ h => h) (by rfl) hSS
  ·(intro w9 hSw; (try dsimp only at hSw); (try go_split_ands); first | (go_simp; done) | (go_simp; with_reducible rfl))
  try simp only [Act.put, List.setIfInBounds_toArray, List.set_cons_zero, List.set_cons_succ]
  refine wpAnyH_done (by kernel_rfl) (NoPanic.normal ?_) _
  clear hSS e3 eg1 eg2 s3 sg1 sg2
  obtain ⟨v0, s0⟩ := s0
  obtain ⟨v1, s1⟩ := s1
  have f0 := hf6 0
  have f1 := hf6 1
  clear hf6
  go_wp2_with fail
  refine Calls.mono (HN.out _) ?_
  rintro e w9 ⟨rfl, hw9⟩
  rw [hw9]
  clear hw9
  go_wp2_with fail
  refine Calls.mono (HN.out _) ?_
  rintro e w9 ⟨rfl, hw9⟩
  rw [hw9]
  clear hw9
  go_wp2_with fail
  refine Calls.mono H6.out ?_
  rintro e w8 ⟨g', n, ta', tc', rfl, hgw, hn8, c3, hcs, hfs, hP⟩
  have FIN := hid hP
  obtain ⟨t2, l2⟩ := hcs 2 (by omega)
  obtain ⟨t3, l3⟩ := hcs 3 (by omega)
  obtain ⟨t5, l5⟩ := hcs 5 (by omega)
  obtain ⟨t6, l6⟩ := hcs 6 (by omega)
  obtain ⟨t7, l7⟩ := hcs 7 (by omega)
  obtain ⟨t8, l8⟩ := hcs 8 (by omega)
  have q2 := hfs 2
  have q3 := hfs 3
  have q5 := hfs 5
  have q6 := hfs 6
  have q7 := hfs 7
  have q8 := hfs 8
  have hgw' : ¬ wb = g' := fun e => hgw e.symm
  clear hP H6 hcs hfs s0 s1 f0 f1
  go_wp2
  exact FIN.out
end Go.Proofs.YtldlejpacgphmaaGreat
