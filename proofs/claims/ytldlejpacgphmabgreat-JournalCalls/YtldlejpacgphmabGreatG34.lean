import Derived.Test.YtldlejpacgphmabGreatG32
import Derived.Test.YtldlejpacgphmabGreatG22
import Derived.Test.YtldlejpacgphmabGreatG33
namespace Go.Proofs.YtldlejpacgphmabGreat
open Go.RowKit Go.Deep
variable {X0 : Nat → Prop}
theorem Wb.set2j {w : World} {wb p c : Nat} {jv : Value} {g : Nat} {rm lasted : Int} {off trying : Bool} {tried tl td : Value} (h : Wb w wb p c jv g rm lasted off trying tried tl td) (jv' : Value) : Wb (w.setCell ⟨wb, 2, none⟩ jv') wb p c jv' g rm lasted off trying tried tl td := by
 refine ⟨?_⟩
 have h1 := h.blk
 simp only [World.setCell, Array.getElem?_modify]
 rw [h1]
 simp
theorem Wb.set3 {w : World} {wb p c : Nat} {jv : Value} {g : Nat} {rm lasted : Int} {off trying : Bool} {tried tl td : Value} (h : Wb w wb p c jv g rm lasted off trying tried tl td) (g' : Nat) : Wb (w.setCell ⟨wb, 3, none⟩ (.pointer (some ⟨g', 0, none⟩))) wb p c jv g' rm lasted off trying tried tl td := by
 refine ⟨?_⟩
 have h1 := h.blk
 simp only [World.setCell, Array.getElem?_modify]
 rw [h1]
 simp
theorem Wx.renew {Z Z' : Nat → Prop} {w w' : World} {wb p c j j' g room nb fr bl K K' lasted : Nat} {tried tl td : Value} {hb hc : Nat} {H : List Int} {ta : Option Addr} {tc : Nat} {vs : List Value} {Us : List (List Pm)} {Ls : List Ln} {n1 : Nat} {cs : List Value} {d d' : Pd} {s s' : Js} (h : Wx X0 Z w wb p c j g room nb fr bl K lasted tried tl td hb hc H ta tc vs Us Ls n1 cs d s) (hJ : Jq Z' w' j' c p room nb K' fr bl d' s') (hzb : ∀ k, Z' k → k < w'.heap.size) (hGr : Gr Z Z' w) (hbt : But Z w w') (hfu : d'.fu = -1) : Wx X0 Z' (w'.setCell ⟨wb, 2, none⟩ (.pointer (some ⟨j', 0, none⟩))) wb p c j' g room nb fr bl K' lasted tried tl td hb hc H ta tc vs Us Ls n1 cs d' s' := by
 have hwl := h.wd.lt
 have b2 : But (fun k => k = wb) w' (w'.setCell ⟨wb, 2, none⟩ (.pointer (some ⟨j', 0, none⟩))) := (But.refl (fun k => k = wb) w').setCell rfl _
 have nzw : ¬ Z' wb := fun q => h.zw (hGr wb hwl q)
 have hs := hbt.size
 exact ⟨(h.wd.keep (hbt.block wb hwl h.zw)).set2j _, (h.lg.butX (X := fun k => Z k ∨ k = wb ∨ TB tl td Ls k) hbt (fun _ _ q => .inl q) (fun k => Z' k ∨ k = wb ∨ TB tl td Ls k) (fun k hk q => q.elim (fun q => .inl (hGr k hk q)) .inr)).butX (X := fun k => Z' k ∨ k = wb ∨ TB tl td Ls k) b2 (fun _ _ q => .inr (.inl q)) (fun k => Z' k ∨ k = wb ∨ TB tl td Ls k) (fun _ _ q => q), hJ.but b2 (fun k _ q r => nzw (by rw [← r]; exact q)), hfu, (h.tr.but hbt (fun k _ q r => h.zt k (.inr q) r)).but b2 (fun k _ q r => h.tw (by rw [← r]; exact .inr q)), owns_keep (owns_keep h.ls (fun k e => hbt.block k (World.ownsRow.lt h.ls k e).2 (h.zt k (.inl e)))) (fun k e => b2.block k (by have := (World.ownsRow.lt h.ls k e).2; omega) (fun r => h.tw (by rw [← r]; exact .inl e))), h.n1, h.nl, nzw, fun k q r => h.zt k q (hGr k (h.tlt q) r), h.tw, h.lt, fun k q => Nat.lt_of_lt_of_le (hzb k q) b2.size, h.lo, h.fit, h.r1, h.r2, fun k q => Nat.lt_of_lt_of_le (h.x0 k q) (by first | exact hbt.size | exact bt.size | exact Nat.le_trans hbt.size b2.size | exact Nat.le_refl _ | omega)⟩
set_option maxRecDepth 100000 in
set_option maxHeartbeats 4000000 in
theorem reopen_any {W : Nat → Prop} {w : World} {wb room nb fr bl K lasted : Nat} {H : List Int} {Us : List (List Pm)} (hWD : WD X0 W w wb room nb fr bl K lasted H Us) :
  Calls Tryz.prog 50 #[.pointer (some ⟨wb, 0, none⟩)] w (FluW X0 W w wb room nb fr bl K H Us) := by
 obtain ⟨PO, hPO⟩ : ∃ PO : Ending → World → Prop, PO = FluW X0 W w wb room nb fr bl K H Us := ⟨_, rfl⟩
 rw [← hPO]
 obtain ⟨Z, p, c, j, g, tried, tl, td, hb, hc, ta, tc, vs, Ls, n1, cs, d, s, h, hOn, hW⟩ := hWD
 have k2 : w.cell? ⟨wb, 2, none⟩ = some (.pointer (some ⟨j, 0, none⟩)) := h.wd.cell 2
 have hpl := hOn.puts h.lo h.fit h.nb
 have hUl : (plainT Us).length = Us.length := by simp [plainT]
 have HF : Hid (Calls Tryz.prog 18 #[.pointer (some ⟨j, 0, none⟩)] w fun e w2 => e = .returned (.int .i64 0) ∧ Calls Tryz.prog 49 #[.pointer (some ⟨wb, 0, none⟩), .int .i64 0] w2 fun e w3 => e = .returned (.bool true) ∧ (w3.cell? ⟨wb, 1, none⟩ = some (.pointer (some ⟨c, 0, none⟩)) ∧ w3.cell? ⟨wb, 3, none⟩ = some (.pointer (some ⟨g, 0, none⟩)) ∧ w3.cell? ⟨g, 1, none⟩ = some (.int .i64 (fr : Int)) ∧ w3.cell? ⟨g, 2, none⟩ = some (.int .i64 (bl : Int))) ∧ w3.cell? ⟨wb, 6, none⟩ = some (.bool false) ∧
   Calls Tryz.prog 20 #[.pointer (some ⟨c, 0, none⟩), .int .i64 (fr : Int), .int .i64 (bl : Int)] w3.drew fun e w4 => ∃ j', e = .returned (.tuple #[.pointer (some ⟨j', 0, none⟩), .int .i64 0]) ∧ (w4.cell? ⟨wb, 1, none⟩ = some (.pointer (some ⟨c, 0, none⟩)) ∧ w4.cell? ⟨wb, 3, none⟩ = some (.pointer (some ⟨g, 0, none⟩)) ∧ w4.cell? ⟨g, 1, none⟩ = some (.int .i64 (fr : Int)) ∧ w4.cell? ⟨g, 2, none⟩ = some (.int .i64 (bl : Int))) ∧ (∃ jv, w4.cell? ⟨wb, 2, none⟩ = some jv) ∧ w4.frozen? ⟨wb, 2, none⟩ = false ∧ PO (.returned (.bool true)) (w4.setCell ⟨wb, 2, none⟩ (.pointer (some ⟨j', 0, none⟩)))) := by
  have hnb9 := h.nb
  have hfit9 := h.fit
  refine Calls.mono (Flush_on h.jq hOn.on (by omega)) ?_
  rintro e w2 ⟨rfl, ⟨Z', s', q1, q2, q3⟩, q4⟩
  obtain ⟨f1, f2, f3⟩ := Pd.runs_free hOn.on h.fu [.fl]
  rw [f1]
  have hq := q2 f1
  rw [hq] at q1
  have x2 := h.turn q1.cut (fun k q => q.2) (fun k hk q => q3 k hk q.1) q4 f3
  refine ⟨rfl, Calls.mono (lasts_any x2) ?_⟩
  rintro e w3 ⟨rfl, rfl⟩
  have hon := (hOn.flush h.jq.fits.1 h.lo h.fit h.nb).1 f1
  rw [hUl] at hon
  have x3 := x2.lasts Us.length
  obtain ⟨w3, hw3⟩ : ∃ w3, w3 = w2.setCell ⟨wb, 5, none⟩ (.int .i64 (Us.length : Int)) := ⟨_, rfl⟩
  rw [← hw3] at x3 ⊢
  have c13 : But W w w3 := by
   rw [hw3]
   exact (q4.mono (fun k _ q => by rw [hW]; exact .inl (.inl q))).setCell (by rw [hW]; exact .inl (.inr (.inl rfl))) _
  have hpl3 := hon.puts h.lo h.fit h.nb
  refine ⟨rfl, ⟨x3.wd.cell 1, x3.wd.cell 3, x3.lg.lg.c1, x3.lg.lg.c2⟩, x3.wd.cell 6, Calls.mono (Open_any x3.jq.toCq.drew (fr : Int) (bl : Int) (by omega)) ?_⟩
  intro e w4 hO
  obtain ⟨b4, j', Z4, d4, s4, rfl, hj4, g4, fu4, J4, on4⟩ := OpenP.anew hO hon f3 x3.jq.fits.1 h.lo h.fit h.nb
  rw [hUl] at on4
  have b34 : But (fun k => Z' k ∧ k < w2.heap.size) w3 w4 := (But.of_below ((Below.refl w3.heap.size w3).drew)).comp b4 (fun _ _ q => q)
  have x4 := x3.renew J4.cut (fun k q => q.2) (fun k hk q => g4 k hk q.1) b34 fu4
  have wd4 := x3.wd.keep (b34.block wb x3.wd.lt x3.zw)
  have lg4 := x3.lg.lg.keep (b34.block g x3.lg.gl (fun q => x3.lg.ng (.inl (.inl q))))
  refine ⟨j', rfl, ⟨wd4.cell 1, wd4.cell 3, lg4.c1, lg4.c2⟩, ⟨_, wd4.cell 2⟩, wd4.frozen 2, ?_⟩
  rw [hPO]
  refine ⟨rfl, ?_, _, ⟨_, p, c, j', g, tried, tl, td, hb, hc, ta, tc, vs, Ls, n1, cs, d4, s4, x4, on4, rfl⟩, fun k hk q => ?_⟩
  ·have hs : w.heap.size ≤ w3.heap.size := c13.size
   exact (c13.comp b34 (fun k hk q => by rw [hW]; exact .inl (.inl (q3 k hk q.1)))).setCell (by rw [hW]; exact .inl (.inr (.inl rfl))) _
  ·rw [hW]
   have hs : w.heap.size ≤ w3.heap.size := c13.size
   rcases q with (q | q) | q
   ·exact .inl (.inl (q3 k hk (g4 k (by show k < w3.heap.size; omega) q.1).1))
   ·exact .inl (.inr q)
   ·exact .inr q
 have HN := hid (num_any 0)
 clear h hOn hW hPO hpl hUl
 go_enter Tryz.func50, Tryz.ntmps50
 go_wp2_with fail
 refine Calls.mono HF.out ?_
 rintro e w2 ⟨rfl, hL⟩
 have HL := hid hL
 clear hL HF
 go_wp2_with fail
 refine Calls.mono HL.out ?_
 rintro e w3 ⟨rfl, ⟨k1, k3, g1, g2⟩, k6, hO⟩
 have HOp := hid hO
 clear hO HL k2
 go_wp2_with fail
 refine wp_region_noPanic ?_
 refine wp_region_held_drew (S := fun w' => w'.cell? ⟨wb, 1, none⟩ = some (.pointer (some ⟨c, 0, none⟩)) ∧ w'.cell? ⟨wb, 3, none⟩ = some (.pointer (some ⟨g, 0, none⟩)) ∧ w'.cell? ⟨g, 1, none⟩ = some (.int .i64 (fr : Int)) ∧ w'.cell? ⟨g, 2, none⟩ = some (.int .i64 (bl : Int))) (by kernel_rfl) ⟨k1, k3, g1, g2⟩ (fun hSS => ?_)
 refine tk 0 (some 26) (.move (.tmp 0)) 28 none hSS ?_
 refine tk 1 (some 27) (.nilCheck (.tmp 26)) 0 none hSS ?_
 refine tk 2 (some 28) (.fieldAddr 50 (.tmp 27) 1) 0 none hSS ?_
 refine tk 3 (some 29) (.load 43 (.tmp 28)) 43 none hSS ?_
 try simp only [Act.put, zA, zB, zC]
 refine tk 4 (some 30) (.move (.tmp 0)) 28 none hSS ?_
 refine tk 5 (some 31) (.nilCheck (.tmp 30)) 0 none hSS ?_
 refine tk 6 (some 32) (.fieldAddr 50 (.tmp 31) 3) 0 none hSS ?_
 refine tk 7 (some 33) (.load 45 (.tmp 32)) 45 none hSS ?_
 try simp only [Act.put, zA, zB, zC]
 refine tk 8 (some 34) (.nilCheck (.tmp 33)) 0 none hSS ?_
 refine tk 9 (some 35) (.fieldAddr 101 (.tmp 34) 1) 0 none hSS ?_
 refine tk 10 (some 36) (.load 3 (.tmp 35)) 3 none hSS ?_
 refine tk 11 (some 37) (.move (.tmp 0)) 28 none hSS ?_
 try simp only [Act.put, zA, zB, zC]
 refine tk 12 (some 38) (.nilCheck (.tmp 37)) 0 none hSS ?_
 refine tk 13 (some 39) (.fieldAddr 50 (.tmp 38) 3) 0 none hSS ?_
 refine tk 14 (some 40) (.load 45 (.tmp 39)) 45 none hSS ?_
 refine tk 15 (some 41) (.nilCheck (.tmp 40)) 0 none hSS ?_
 try simp only [Act.put, zA, zB, zC]
 refine tk 16 (some 42) (.fieldAddr 101 (.tmp 41) 2) 0 none hSS ?_
 refine tk 17 (some 43) (.load 3 (.tmp 42)) 3 none hSS ?_
 try simp only [Act.put, zA, zB, zC]
 refine wpAnyH_ready (rs := [18]) (by kernel_rfl) (by simp) (AllReadyH.cons (o := ({ dst := some 44, op := Op.call { callee := Callee.value (Operand.func 20), args := #[Operand.tmp 29, Operand.tmp 36, Operand.tmp 43], argTypes := #[43, 3, 3] }, type := 58, pos := _, after := _, guard := none } : Oper)) rfl (fun K9 hK9 => ?_) AllReadyH.nil)
 go_simp
 go_at_call 20
 refine Calls.mono HOp.out ?_
 rintro e w4 ⟨j', rfl, F4⟩
 have H4 := hid F4
 obtain ⟨r1, r3, m1, m2⟩ := F4.1
 clear F4 HOp
 refine hK9.out _ _ ⟨r1, r3, m1, m2⟩ (fun hSS => ?_)
 clear hK9 K9
 try simp only [Act.put, zA, zB, zC]
 refine tk 19 (some 25) (.move (.tmp 44)) 58 none hSS ?_
 refine tk 20 (some 45) (.extract (.tmp 25) 0) 44 none hSS ?_
 refine tk 21 (some 46) (.extract (.tmp 25) 1) 40 none hSS ?_
 try simp only [Act.put, zA, zB, zC]
 refine tk 22 (some 4) (.assign (.tmp 45)) 44 none hSS ?_
 refine tk 23 (some 5) (.assign (.tmp 46)) 40 none hSS ?_
 try simp only [Act.put, zA, zB, zC]
 refine wpAnyH_done (by kernel_rfl) (NoPanic.normal ?_) _
 clear hSS k1 k3 g1 g2 k6 r1 r3 m1 m2
 obtain ⟨_, ⟨jv, l2⟩, lf, hP⟩ := H4.out
 have FIN := hid hP
 clear hP H4
 go_wp2_with fail
 refine Calls.mono (HN.out w4) ?_
 rintro e w9 ⟨rfl, hw9⟩
 rw [hw9]
 clear hw9
 go_wp2_with fail
 refine Calls.mono (HN.out w4) ?_
 rintro e w9 ⟨rfl, hw9⟩
 rw [hw9]
 clear hw9
 go_wp2
 exact FIN.out
theorem Wx.relog {Z : Nat → Prop} {w : World} {wb p c j g g' room nb fr bl K lasted : Nat} {tried tl td : Value} {hb hc : Nat} {H : List Int} {ta ta' : Option Addr} {tc tc' : Nat} {vs vs' : List Value} {Us Us' : List (List Pm)} {Ls : List Ln} {n1 : Nat} {cs : List Value} {d : Pd} {s : Js} (h : Wx X0 Z w wb p c j g room nb fr bl K lasted tried tl td hb hc H ta tc vs Us Ls n1 cs d s) (hL : LgW (fun k => (Z k ∨ k = wb ∨ TB tl td Ls k) ∨ X0 k) w g' hb hc nb fr bl H ta' tc' vs' Us') : Wx X0 Z (w.setCell ⟨wb, 3, none⟩ (.pointer (some ⟨g', 0, none⟩))) wb p c j g' room nb fr bl K lasted tried tl td hb hc H ta' tc' vs' Us' Ls n1 cs d s := by
 have hbt : But (fun k => k = wb) w (w.setCell ⟨wb, 3, none⟩ (.pointer (some ⟨g', 0, none⟩))) := (But.refl (fun k => k = wb) w).setCell rfl _
 exact ⟨h.wd.set3 _, hL.butX (X := fun k => Z k ∨ k = wb ∨ TB tl td Ls k) hbt (fun _ _ q => .inr (.inl q)) (fun k => Z k ∨ k = wb ∨ TB tl td Ls k) (fun _ _ q => q), h.jq.but hbt (fun k _ q r => h.zw (by rw [← r]; exact q)), h.fu, h.tr.but hbt (fun k _ q r => h.tw (by rw [← r]; exact .inr q)), owns_keep h.ls (fun k e => hbt.block k (World.ownsRow.lt h.ls k e).2 (fun r => h.tw (by rw [← r]; exact .inl e))), h.n1, h.nl, h.zw, h.zt, h.tw, h.lt, fun k q => Nat.lt_of_lt_of_le (h.zb k q) hbt.size, h.lo, h.fit, h.r1, h.r2, fun k q => Nat.lt_of_lt_of_le (h.x0 k q) (by first | exact hbt.size | exact bt.size | exact Nat.le_trans hbt.size b2.size | exact Nat.le_refl _ | omega)⟩
set_option maxRecDepth 100000 in
set_option maxHeartbeats 4000000 in
theorem again_any {W : Nat → Prop} {w : World} {wb room nb fr bl K lasted : Nat} {H : List Int} {Us : List (List Pm)} (hWD : WD X0 W w wb room nb fr bl K lasted H Us) (hK : K + nb < 4611686018427387904) :
  Calls Tryz.prog 51 #[.pointer (some ⟨wb, 0, none⟩)] w (FluW X0 W w wb room nb fr bl (K + nb) H Us) := by
 obtain ⟨PO, hPO⟩ : ∃ PO : Ending → World → Prop, PO = FluW X0 W w wb room nb fr bl (K + nb) H Us := ⟨_, rfl⟩
 rw [← hPO]
 obtain ⟨Z, p, c, j, g, tried, tl, td, hb, hc, ta, tc, vs, Ls, n1, cs, d, s, h, hOn, hW⟩ := hWD
 have k1 : w.cell? ⟨wb, 1, none⟩ = some (.pointer (some ⟨c, 0, none⟩)) := h.wd.cell 1
 have k3 : w.cell? ⟨wb, 3, none⟩ = some (.pointer (some ⟨g, 0, none⟩)) := h.wd.cell 3
 have g1 := h.lg.lg.c1
 have g2 := h.lg.lg.c2
 have hpl := hOn.puts h.lo h.fit h.nb
 have hUl : (plainT Us).length = Us.length := by simp [plainT]
 have hus := (hOn.us h.lo h.fit h.nb).2
 obtain ⟨n, hn⟩ : ∃ n, n = Us.length := ⟨_, rfl⟩
 have HOp : Hid (Calls Tryz.prog 20 #[.pointer (some ⟨c, 0, none⟩), .int .i64 (fr : Int), .int .i64 (bl : Int)] w.drew fun e w4 => ∃ j', e = .returned (.tuple #[.pointer (some ⟨j', 0, none⟩), .int .i64 0]) ∧ (w4.cell? ⟨wb, 1, none⟩ = some (.pointer (some ⟨c, 0, none⟩)) ∧ w4.cell? ⟨wb, 3, none⟩ = some (.pointer (some ⟨g, 0, none⟩)) ∧ w4.cell? ⟨g, 1, none⟩ = some (.int .i64 (fr : Int)) ∧ w4.cell? ⟨g, 2, none⟩ = some (.int .i64 (bl : Int))) ∧
   Calls Tryz.prog 96 #[.pointer (some ⟨wb, 0, none⟩), .pointer (some ⟨j', 0, none⟩)] w4 fun e w5 => ∃ g' ta' tc', e = .returned (.tuple #[.pointer (some ⟨g', 0, none⟩), .bool true]) ∧ g' ≠ wb ∧ w5.cell? ⟨g', 3, none⟩ = some (.slice ta' n tc') ∧ (∃ jv, w5.cell? ⟨wb, 2, none⟩ = some jv) ∧ (∃ gv, w5.cell? ⟨wb, 3, none⟩ = some gv) ∧ (∃ lv, w5.cell? ⟨wb, 5, none⟩ = some lv) ∧ (∀ t, w5.frozen? ⟨wb, t, none⟩ = false) ∧ PO (.returned (.bool true)) (((w5.setCell ⟨wb, 2, none⟩ (.pointer (some ⟨j', 0, none⟩))).setCell ⟨wb, 3, none⟩ (.pointer (some ⟨g', 0, none⟩))).setCell ⟨wb, 5, none⟩ (.int .i64 (n : Int)))) := by
  have hnb9 := h.nb
  have hfit9 := h.fit
  have hwl := h.wd.lt
  refine Calls.mono (Open_any h.jq.toCq.drew (fr : Int) (bl : Int) (by omega)) ?_
  intro e w4 hO
  obtain ⟨b4', j', Z4, d4, s4, rfl, hj4, g4, fu4, J4, on4⟩ := OpenP.anew hO hOn h.fu h.jq.fits.1 h.lo h.fit h.nb
  have b4 : But Z w w4 := (But.of_below ((Below.refl w.heap.size w).drew) (X := Z)).comp b4' (fun _ _ q => q)
  have g4' : Gr Z (fun k => Z4 k ∧ k < w4.heap.size) w := fun k hk q => g4 k hk q.1
  have wd4 := h.wd.keep (b4.block wb hwl h.zw)
  have lg4 := h.lg.butX (X := fun k => Z k ∨ k = wb ∨ TB tl td Ls k) b4 (fun _ _ q => .inl q) (fun k => (Z4 k ∧ k < w4.heap.size) ∨ k = wb ∨ TB tl td Ls k) (fun k hk q => q.elim (fun q => .inl (g4' k hk q)) .inr)
  have hs4 := b4.size
  refine ⟨j', rfl, ⟨wd4.cell 1, wd4.cell 3, lg4.lg.c1, lg4.lg.c2⟩, ?_⟩
  rw [hUl, ← hn] at on4
  have on4' : On d4 s4 nb fr bl n (imgB H) (plainT (Us.take n)) := by rw [hn, List.take_length, ← hn]; exact on4
  have hll : (lasted : Int) ≤ (n : Int) := by
   have := hOn.lo_le
   omega
  refine Calls.mono (opened_any wd4 lg4 J4.cut on4' (by omega) hll (fun k _ q => .inl (.inl q)) h.lo h.fit hus hK) ?_
  rintro e w5 ⟨g', ta', tc', vs', Z5, rfl, ⟨hg', hta'⟩, hL5, J5, z5, g5, b5⟩
  have etn : Us.take n = Us := by rw [hn]; exact List.take_length
  rw [etn] at hL5 hta'
  have b45 : But Z w w5 := b4.comp b5 (fun k hk q => g4' k hk q)
  have g45 : Gr Z Z5 w := fun k hk q => g4' k hk (g5 k (by omega) q)
  have x5 := h.renew J5 z5 g45 b45 fu4
  have wd5 := h.wd.keep (b45.block wb hwl h.zw)
  have bs : But (fun k => k = wb) w5 (w5.setCell ⟨wb, 2, none⟩ (.pointer (some ⟨j', 0, none⟩))) := (But.refl (fun k => k = wb) w5).setCell rfl _
  have hL6 := hL5.but (Y := fun _ => False) (But.refl _ _) (fun _ _ q => q.elim) (fun k => (Z5 k ∨ k = wb ∨ TB tl td Ls k) ∨ X0 k) (fun k hk q => by
   rcases q with (q | q | q) | q
   ·exact .inr q
   ·exact .inl ⟨.inl (.inr (.inl q)), by omega⟩
   ·exact .inl ⟨.inl (.inr (.inr q)), by have := h.tlt q; omega⟩
   ·exact .inl ⟨.inr q, by have := h.x0 k q; omega⟩)
  have hL7 := hL6.butX (X := fun k => Z5 k ∨ k = wb ∨ TB tl td Ls k) bs (fun _ _ q => .inr (.inl q)) (fun k => Z5 k ∨ k = wb ∨ TB tl td Ls k) (fun _ _ q => q)
  have x6 := (x5.relog hL7).lasts n
  refine ⟨g', ta', tc', rfl, by omega, ?_, ⟨_, wd5.cell 2⟩, ⟨_, wd5.cell 3⟩, ⟨_, wd5.cell 5⟩, wd5.frozen, ?_⟩
  ·rw [hn]; exact hL5.lg.c3
  ·rw [hPO]
   refine ⟨rfl, ?_, _, ⟨Z5, p, c, j', g', tried, tl, td, hb, hc, ta', tc', vs', Ls, n1, cs, d4, s4, ?_, ?_, rfl⟩, fun k hk q => ?_⟩
   ·have hww : W wb := by rw [hW]; exact .inl (.inr (.inl rfl))
    exact (((b45.mono (fun k _ q => by rw [hW]; exact .inl (.inl q))).setCell hww _).setCell hww _).setCell hww _
   ·rw [← hn]; exact x6
   ·rw [← hn]; exact on4
   ·rw [hW]
    rcases q with (q | q) | q | q
    ·exact .inl (.inl (g45 k hk q))
    ·exact .inl (.inr q)
    ·omega
    ·have := hta' k q
     omega
 have HN := hid (num_any 0)
 have hnn : n ≤ 1099511627776 := by omega
 clear h hOn hW hPO hpl hUl hus hn hK
 go_enter Tryz.func51, Tryz.ntmps51
 go_wp2_with fail
 refine wp_region_noPanic ?_
 refine wp_region_held_drew (S := fun w' => w'.cell? ⟨wb, 1, none⟩ = some (.pointer (some ⟨c, 0, none⟩)) ∧ w'.cell? ⟨wb, 3, none⟩ = some (.pointer (some ⟨g, 0, none⟩)) ∧ w'.cell? ⟨g, 1, none⟩ = some (.int .i64 (fr : Int)) ∧ w'.cell? ⟨g, 2, none⟩ = some (.int .i64 (bl : Int))) (by kernel_rfl) ⟨k1, k3, g1, g2⟩ (fun hSS => ?_)
 refine tk 0 (some 8) (.move (.tmp 0)) 28 none hSS ?_
 refine tk 1 (some 9) (.nilCheck (.tmp 8)) 0 none hSS ?_
 refine tk 2 (some 10) (.fieldAddr 50 (.tmp 9) 1) 0 none hSS ?_
 try simp only [Act.put, zA, zB, zC]
 refine tk 3 (some 11) (.load 43 (.tmp 10)) 43 none hSS ?_
 refine tk 4 (some 12) (.move (.tmp 0)) 28 none hSS ?_
 refine tk 5 (some 13) (.nilCheck (.tmp 12)) 0 none hSS ?_
 refine tk 6 (some 14) (.fieldAddr 50 (.tmp 13) 3) 0 none hSS ?_
 try simp only [Act.put, zA, zB, zC]
 refine tk 7 (some 15) (.load 45 (.tmp 14)) 45 none hSS ?_
 refine tk 8 (some 16) (.nilCheck (.tmp 15)) 0 none hSS ?_
 refine tk 9 (some 17) (.fieldAddr 101 (.tmp 16) 1) 0 none hSS ?_
 refine tk 10 (some 18) (.load 3 (.tmp 17)) 3 none hSS ?_
 try simp only [Act.put, zA, zB, zC]
 refine tk 11 (some 19) (.move (.tmp 0)) 28 none hSS ?_
 refine tk 12 (some 20) (.nilCheck (.tmp 19)) 0 none hSS ?_
 refine tk 13 (some 21) (.fieldAddr 50 (.tmp 20) 3) 0 none hSS ?_
 refine tk 14 (some 22) (.load 45 (.tmp 21)) 45 none hSS ?_
 try simp only [Act.put, zA, zB, zC]
 refine tk 15 (some 23) (.nilCheck (.tmp 22)) 0 none hSS ?_
 refine tk 16 (some 24) (.fieldAddr 101 (.tmp 23) 2) 0 none hSS ?_
 refine tk 17 (some 25) (.load 3 (.tmp 24)) 3 none hSS ?_
 try simp only [Act.put, zA, zB, zC]
 refine wpAnyH_ready (rs := [18]) (by kernel_rfl) (by simp) (AllReadyH.cons (o := ({ dst := some 26, op := Op.call { callee := Callee.value (Operand.func 20), args := #[Operand.tmp 11, Operand.tmp 18, Operand.tmp 25], argTypes := #[43, 3, 3] }, type := 58, pos := _, after := _, guard := none } : Oper)) rfl (fun K9 hK9 => ?_) AllReadyH.nil)
 go_simp
 go_at_call 20
 refine Calls.mono HOp.out ?_
 rintro e w4 ⟨j', rfl, F4⟩
 have H4 := hid F4
 obtain ⟨r1, r3, m1, m2⟩ := F4.1
 clear F4 HOp
 refine hK9.out _ _ ⟨r1, r3, m1, m2⟩ (fun hSS => ?_)
 clear hK9 K9
 try simp only [Act.put, zA, zB, zC]
 refine tk 19 (some 7) (.move (.tmp 26)) 58 none hSS ?_
 refine tk 20 (some 27) (.extract (.tmp 7) 0) 44 none hSS ?_
 try simp only [Act.put, zA, zB, zC]
 refine tk 21 (some 28) (.extract (.tmp 7) 1) 40 none hSS ?_
 refine tk 22 (some 3) (.assign (.tmp 27)) 44 none hSS ?_
 refine tk 23 (some 4) (.assign (.tmp 28)) 40 none hSS ?_
 try simp only [Act.put, zA, zB, zC]
 refine wpAnyH_done (by kernel_rfl) (NoPanic.normal ?_) _
 clear hSS k1 k3 g1 g2 r1 r3 m1 m2
 have H30 := hid H4.out.2
 clear H4
 go_wp2_with fail
 refine Calls.mono (HN.out w4) ?_
 rintro e w9 ⟨rfl, hw9⟩
 rw [hw9]
 clear hw9
 go_wp2_with fail
 refine Calls.mono (HN.out w4) ?_
 rintro e w9 ⟨rfl, hw9⟩
 rw [hw9]
 clear hw9
 go_wp2_with fail
 refine Calls.mono H30.out ?_
 rintro e w5 ⟨g', ta', tc', rfl, hgw, c3, ⟨jv, l2⟩, ⟨gv, l3⟩, ⟨lv, l5⟩, hf, hP⟩
 have FIN := hid hP
 have lf2 := hf 2
 have lf3 := hf 3
 have lf5 := hf 5
 have hgw' : ¬ wb = g' := fun e => hgw e.symm
 clear hP H30 hf
 go_wp2
 exact FIN.out
open Go.RowKit Go.Deep
variable {X0 : Nat → Prop}
set_option maxRecDepth 100000 in
set_option maxHeartbeats 8000000 in
theorem mirror_any {W : Nat → Prop} {w : World} {wb room nb fr bl K lasted : Nat} {H : List Int} {Us : List (List Pm)} (hWD : WD X0 W w wb room nb fr bl K lasted H Us) (kd at_ keep fz again : Int) (pv : Value) :
  Calls Tryz.prog 45 #[.pointer (some ⟨wb, 0, none⟩), .agg #[.int .i64 kd, .int .i64 at_, pv, .int .u64 keep, .int .i64 fz, .int .i64 again]] w fun e w' => ∃ gp q, e = .returned (.slice (some ⟨gp, 0, none⟩) 1 1) ∧ RdP W w' (some ⟨gp, 0, none⟩) [q] ∧ q.data.length = 512 ∧ (q.ad = none → q.cap = 0) ∧ Below w.heap.size w w' := by
 obtain ⟨PO, hPO⟩ : ∃ PO : Ending → World → Prop, PO = fun e w' => ∃ gp q, e = .returned (.slice (some ⟨gp, 0, none⟩) 1 1) ∧ RdP W w' (some ⟨gp, 0, none⟩) [q] ∧ q.data.length = 512 ∧ (q.ad = none → q.cap = 0) ∧ Below w.heap.size w w' := ⟨_, rfl⟩
 rw [← hPO]
 obtain ⟨ab, hab⟩ : ∃ ab, ab = w.heap.size := ⟨_, rfl⟩
 obtain ⟨w1, hw1⟩ : ∃ w1, w1 = w.alloc (.cells #[.int .i64 kd, .int .i64 at_, pv, .int .u64 keep, .int .i64 fz, .int .i64 again] 38) := ⟨_, rfl⟩
 have b1 : Below w.heap.size w w1 := by rw [hw1]; exact (Below.refl _ _).alloc (Nat.le_refl _) _
 have z1 : w1.heap.size = w.heap.size + 1 := by rw [hw1]; simp
 have a1 : w1.cell? ⟨ab, 1, none⟩ = some (.int .i64 at_) := by rw [hw1, hab]; exact cell_new rfl 1 _ rfl
 have a4 : w1.cell? ⟨ab, 4, none⟩ = some (.int .i64 fz) := by rw [hw1, hab]; exact cell_new rfl 4 _ rfl
 have hWlt : ∀ k, W k → k < w.heap.size := fun k q => by
  obtain ⟨Z0, p0, c0, j0, g0, tr0, tl0, td0, hb0, hc0, ta0, tc0, vs0, Ls0, n0, cs0, d0, s0, h0, _, hW0⟩ := hWD
  rw [hW0] at q
  exact h0.mu_lt q
 obtain ⟨Z, p, c, j, g, tried, tl, td, hb, hc, ta, tc, vs, Ls, n1, cs, d, s, h, hOn, hW⟩ := hWD.below b1
 have hnb9 := h.nb
 have hpl := hOn.puts h.lo h.fit h.nb
 have hlo9 := h.lo
 have hfit9 := h.fit
 have HKeep : Hid (∀ w', Below w1.heap.size w1 w' → w'.cell? ⟨wb, 0, none⟩ = some (.pointer (some ⟨p, 0, none⟩)) ∧ w'.cell? ⟨wb, 3, none⟩ = some (.pointer (some ⟨g, 0, none⟩)) ∧ w'.cell? ⟨g, 1, none⟩ = some (.int .i64 (fr : Int)) ∧ w'.cell? ⟨g, 2, none⟩ = some (.int .i64 (bl : Int)) ∧ w'.cell? ⟨ab, 4, none⟩ = some (.int .i64 fz) ∧ w'.cell? ⟨ab, 1, none⟩ = some (.int .i64 at_)) := fun w' hb' => by
  have h' := h.below hb'
  have hal : ab < w1.heap.size := by omega
  exact ⟨h'.wd.cell 0, h'.wd.cell 3, h'.lg.lg.c1, h'.lg.lg.c2, (hb'.cell (p := ⟨ab, 4, none⟩) hal).trans a4, (hb'.cell (p := ⟨ab, 1, none⟩) hal).trans a1⟩
 obtain ⟨k0, k3, g1, g2, _, _⟩ := HKeep.out w1 (Below.refl _ _)
 have HLow := hid low_any
 have HRd : Hid (∀ x, x < nb → Calls Tryz.prog 107 #[.pointer (some ⟨p, 0, none⟩), .int .i64 (x : Int)] w1.drew fun e w2 => ∃ gm cpm, e = .returned (.tuple #[.slice (some ⟨gm, 0, none⟩) 512 cpm, .int .i64 0]) ∧ Below w1.heap.size w1 w2 ∧ w1.heap.size ≤ gm ∧ ∃ zs, zs.length = 512 ∧ Pl.isB zs ∧ Own w2 gm 512 cpm zs) := fun x hx => by
  refine Calls.mono (Cq.dread h.jq.toCq.drew (by omega) hOn.on x hx) ?_
  rintro e w2 ⟨gm, cpm, rfl, q1, q2, q3⟩
  obtain ⟨q4, q5⟩ := Pd.read_len h.jq.toCq x hx
  exact ⟨gm, cpm, rfl, (Below.refl w1.heap.size w1).drew.trans q3, q1, d.read x, q4, q5, q2⟩
 have HDkA : Hid (∀ w', Below w1.heap.size w1 w' → Calls Tryz.prog 76 #[.pointer (some ⟨g, 0, none⟩)] w'.drew fun e w'' => e = .returned (.int .i64 (nb : Int)) ∧ w'' = w'.drew) := fun w' hb' => refDisk_any (h.below hb'.drew).lg.lg h.nb
 have n1nb := h.jq.fits.2.1
 have HF : Hid (∀ (w2 : World) (gm cpm r2 : Nat) (zs : List Int), Below w1.heap.size w1 w2 → w1.heap.size ≤ gm → zs.length = 512 → Pl.isB zs → Own w2 gm 512 cpm zs → PO (.returned (.slice (some ⟨w2.heap.size, 0, none⟩) 1 1)) (w2.drew.alloc (.cells #[.int .i64 (r2 : Int), .slice (some ⟨gm, 0, none⟩) 512 cpm] 97))) := fun w2 gm cpm r2 zs q1 q2 q3 q4 q5 => by
  rw [hPO]
  have hs := q1.size
  have bA : Below w2.heap.size w2 (w2.drew.alloc (.cells #[.int .i64 (r2 : Int), .slice (some ⟨gm, 0, none⟩) 512 cpm] 97)) := (Below.refl w2.heap.size w2).drew.alloc (Nat.le_refl _) _
  refine ⟨w2.heap.size, ⟨(r2 : Int), some ⟨gm, 0, none⟩, cpm, zs⟩, rfl, ⟨fun q hq => ?_, .inr ⟨w2.heap.size, 0, rfl, by simp, fun q => by have := hWlt _ q; omega, fun t q hq => ?_⟩⟩, q3, (fun e => by cases e), b1.trans ((q1.trans (bA.mono hs)).mono b1.size)⟩
  ·simp only [List.mem_singleton] at hq
   subst hq
   have := (q5.keep (bA.block gm q5.lt)).rdn (X := W) q4 (fun q => by have := hWlt _ q; omega)
   simp only
   rw [q3]
   exact this
  ·rcases t with _ | t
   ·simp only [List.getElem?_cons_zero, Option.some.injEq] at hq
    subst hq
    simp only
    rw [q3]
    exact ⟨cell_new rfl 0 _ rfl, cell_new rfl 1 _ rfl⟩
   ·simp at hq
 have HN := hid (num_any 0)
 have HW1 := hid hw1
 have HAB := hid hab
 obtain ⟨v24, hv24⟩ : ∃ v24, IntKind.i64.wrap (fz + at_) = v24 := ⟨_, rfl⟩
 have hb0 : ¬ ((bl : Int) = 0) := by omega
 have hb1 : ¬ (bl = 0) := by omega
 have hb2 : ((bl : Int) == 0) = false := by simpa using hb0
 have hn0 : ¬ ((nb : Int) = 0) := by omega
 have hn1 : ¬ (nb = 0) := by omega
 have hn2 : ((nb : Int) == 0) = false := by simpa using hn0
 clear hWD h hOn hW hPO hw1 b1 hpl z1 hab hWlt
 go_enter Tryz.func45, Tryz.ntmps45
 go_wp2_with fail
 rw [← HW1.out, ← HAB.out]
 refine wp_region_noPanic ?_
 refine wp_region_held_drew (S := fun w' => w'.cell? ⟨wb, 0, none⟩ = some (.pointer (some ⟨p, 0, none⟩)) ∧ w'.cell? ⟨wb, 3, none⟩ = some (.pointer (some ⟨g, 0, none⟩)) ∧ w'.cell? ⟨g, 1, none⟩ = some (.int .i64 (fr : Int)) ∧ w'.cell? ⟨g, 2, none⟩ = some (.int .i64 (bl : Int)) ∧ w'.cell? ⟨ab, 4, none⟩ = some (.int .i64 fz) ∧ w'.cell? ⟨ab, 1, none⟩ = some (.int .i64 at_)) (by kernel_rfl) ⟨k0, k3, g1, g2, a4, a1⟩ (fun hSS => ?_)
 refine tk 0 (some 9) (.move (.tmp 0)) 28 none hSS ?_
 refine tk 1 (some 10) (.nilCheck (.tmp 9)) 0 none hSS ?_
 refine tk 2 (some 11) (.fieldAddr 50 (.tmp 10) 0) 0 none hSS ?_
 refine tk 3 (some 12) (.load 42 (.tmp 11)) 42 none hSS ?_
 try simp only [Act.put, zA, zB, zC]
 refine tk 4 (some 13) (.move (.tmp 0)) 28 none hSS ?_
 refine tk 5 (some 14) (.nilCheck (.tmp 13)) 0 none hSS ?_
 refine tk 6 (some 15) (.fieldAddr 50 (.tmp 14) 3) 0 none hSS ?_
 refine tk 7 (some 16) (.load 45 (.tmp 15)) 45 none hSS ?_
 try simp only [Act.put, zA, zB, zC]
 refine tk 8 (some 17) (.nilCheck (.tmp 16)) 0 none hSS ?_
 refine tk 9 (some 18) (.fieldAddr 101 (.tmp 17) 1) 0 none hSS ?_
 refine tk 10 (some 19) (.load 3 (.tmp 18)) 3 none hSS ?_
 refine tk 11 (some 20) (.fieldAddr 38 (.tmp 3) 4) 0 none hSS ?_
 try simp only [Act.put, zA, zB, zC]
 refine tk 12 (some 21) (.load 3 (.tmp 20)) 3 none hSS ?_
 refine tk 13 (some 22) (.fieldAddr 38 (.tmp 3) 1) 0 none hSS ?_
 refine tk 14 (some 23) (.load 3 (.tmp 22)) 3 none hSS ?_
 refine tk 15 (some 24) (.binOp .add 3 (.tmp 21) (.tmp 23) 3) 3 none hSS ?_
 try simp only [Act.put, zA, zB, zC]
 refine tk 17 (some 26) (.move (.tmp 0)) 28 none hSS ?_
 refine tk 18 (some 27) (.nilCheck (.tmp 26)) 0 none hSS ?_
 refine tk 19 (some 28) (.fieldAddr 50 (.tmp 27) 3) 0 none hSS ?_
 refine tk 20 (some 29) (.load 45 (.tmp 28)) 45 none hSS ?_
 try simp only [Act.put, zA, zB, zC]
 refine tk 21 (some 30) (.nilCheck (.tmp 29)) 0 none hSS ?_
 refine tk 22 (some 31) (.fieldAddr 101 (.tmp 30) 2) 0 none hSS ?_
 refine tk 23 (some 32) (.load 3 (.tmp 31)) 3 none hSS ?_
 try simp only [Act.put, zA, zB, zC]
 refine wpAnyH_ready (rs := [16]) (by kernel_rfl) (by simp) (AllReadyH.cons (o := ({ dst := some 25, op := Op.call { callee := Callee.value (Operand.func 40), args := #[Operand.tmp 24], argTypes := #[3] }, type := 3, pos := _, after := _, guard := none } : Oper)) rfl (fun K9 hK9 => ?_) AllReadyH.nil)
 go_simp
 go_at_call 40
 refine Calls.mono (HLow.out v24 w1.drew) ?_
 rintro e w9 ⟨y, rfl, hy, hw9, hye⟩
 clear hye
 rw [hw9]
 clear hw9
 obtain ⟨r, hr⟩ : ∃ r : Nat, r = y % bl := ⟨_, rfl⟩
 have hrl : r < bl := by rw [hr]; exact Nat.mod_lt _ (by omega)
 have u1 : (y : Int).tmod (bl : Int) = (r : Int) := by rw [Int.tmod_eq_emod_of_nonneg (by omega), hr]; exact (Int.natCast_emod y bl).symm
 have u2 : (y : Int) % (bl : Int) = (r : Int) := by rw [hr]; exact (Int.natCast_emod y bl).symm
 have u3 : IntKind.i64.wrap (r : Int) = (r : Int) := by rw [IntKind.wrap_i64]; omega
 obtain ⟨x, hx⟩ : ∃ x : Nat, x = fr + r := ⟨_, rfl⟩
 have u4 : (fr : Int) + (r : Int) = (x : Int) := by omega
 have u5 : IntKind.i64.wrap (x : Int) = (x : Int) := by rw [IntKind.wrap_i64]; omega
 have HRx := hid (HRd.out x (by omega))
 clear hr hx hrl HRd hy
 refine hK9.out _ _ ⟨k0, k3, g1, g2, a4, a1⟩ (fun hSS => ?_)
 clear hK9 K9
 try simp only [Act.put, zA, zB, zC]
 refine tk 24 (some 33) (.binOp .rem 3 (.tmp 25) (.tmp 32) 3) 3 none hSS ?_
 refine tk 25 (some 34) (.binOp .add 3 (.tmp 19) (.tmp 33) 3) 3 none hSS ?_
 try simp only [Act.put, zA, zB, zC]
 refine wpAnyH_ready (rs := [26]) (by kernel_rfl) (by simp) (AllReadyH.cons (o := ({ dst := some 35, op := Op.call { callee := Callee.value (Operand.func 107), args := #[Operand.tmp 12, Operand.tmp 34], argTypes := #[42, 3] }, type := 41, pos := _, after := _, guard := none } : Oper)) rfl (fun K9 hK9 => ?_) AllReadyH.nil)
 go_simp
 go_at_call 107
 refine Calls.mono HRx.out ?_
 rintro e w2 ⟨gm, cpm, rfl, F2⟩
 have H2 := hid F2
 obtain ⟨l0, l3, lg1, lg2, la4, la1⟩ := HKeep.out w2 F2.1
 clear F2 HRx
 refine hK9.out _ _ ⟨l0, l3, lg1, lg2, la4, la1⟩ (fun hSS => ?_)
 clear hK9 K9
 try simp only [Act.put, zA, zB, zC]
 refine tk 27 (some 8) (.move (.tmp 35)) 41 none hSS ?_
 try simp only [Act.put, zA, zB, zC]
 refine tk 28 (some 36) (.extract (.tmp 8) 0) 22 none hSS ?_
 refine tk 29 (some 37) (.extract (.tmp 8) 1) 40 none hSS ?_
 refine tk 30 (some 5) (.assign (.tmp 36)) 22 none hSS ?_
 refine tk 31 (some 6) (.assign (.tmp 37)) 40 none hSS ?_
 try simp only [Act.put, zA, zB, zC]
 refine wpAnyH_done (by kernel_rfl) (NoPanic.normal ?_) _
 clear hSS k0 k3 g1 g2 a4 a1
 go_wp2_with fail
 refine Calls.mono (HN.out w2) ?_
 rintro e w9 ⟨rfl, hw9⟩
 rw [hw9]
 clear hw9
 have HDk := hid (HDkA.out w2 H2.out.1)
 clear HDkA
 go_wp2_with fail
 refine wp_region_noPanic ?_
 refine wp_region_held_drew (S := fun w' => w'.cell? ⟨wb, 3, none⟩ = some (.pointer (some ⟨g, 0, none⟩)) ∧ w'.cell? ⟨ab, 1, none⟩ = some (.int .i64 at_)) (by kernel_rfl) ⟨l3, la1⟩ (fun hSS => ?_)
 refine tk 0 (some 42) (.fieldAddr 38 (.tmp 3) 1) 0 none hSS ?_
 try simp only [Act.put, zA, zB, zC]
 refine tk 1 (some 43) (.load 3 (.tmp 42)) 3 none hSS ?_
 refine tk 3 (some 45) (.move (.tmp 0)) 28 none hSS ?_
 refine tk 4 (some 46) (.nilCheck (.tmp 45)) 0 none hSS ?_
 refine tk 5 (some 47) (.fieldAddr 50 (.tmp 46) 3) 0 none hSS ?_
 try simp only [Act.put, zA, zB, zC]
 refine tk 6 (some 48) (.load 45 (.tmp 47)) 45 none hSS ?_
 try simp only [Act.put, zA, zB, zC]
 refine wpAnyH_ready (rs := [2]) (by kernel_rfl) (by simp) (AllReadyH.cons (o := ({ dst := some 44, op := Op.call { callee := Callee.value (Operand.func 40), args := #[Operand.tmp 43], argTypes := #[3] }, type := 3, pos := _, after := _, guard := none } : Oper)) rfl (fun K9 hK9 => ?_) AllReadyH.nil)
 go_simp
 go_at_call 40
 refine Calls.mono (HLow.out at_ w2.drew) ?_
 rintro e w9 ⟨y2, rfl, hy2, hw9, hye⟩
 clear hye
 rw [hw9]
 clear hw9
 obtain ⟨r2, hr2⟩ : ∃ r2 : Nat, r2 = y2 % nb := ⟨_, rfl⟩
 have hrl2 : r2 < nb := by rw [hr2]; exact Nat.mod_lt _ (by omega)
 have v1 : (y2 : Int).tmod (nb : Int) = (r2 : Int) := by rw [Int.tmod_eq_emod_of_nonneg (by omega), hr2]; exact (Int.natCast_emod y2 nb).symm
 have v2 : (y2 : Int) % (nb : Int) = (r2 : Int) := by rw [hr2]; exact (Int.natCast_emod y2 nb).symm
 have v3 : IntKind.i64.wrap (r2 : Int) = (r2 : Int) := by rw [IntKind.wrap_i64]; omega
 clear hr2 hy2
 refine hK9.out _ _ ⟨l3, la1⟩ (fun hSS => ?_)
 clear hK9 K9
 try simp only [Act.put, zA, zB, zC]
 refine wpAnyH_ready (rs := [7]) (by kernel_rfl) (by simp) (AllReadyH.cons (o := ({ dst := some 49, op := Op.call { callee := Callee.value (Operand.func 76), args := #[Operand.tmp 48], argTypes := #[45] }, type := 3, pos := _, after := _, guard := none } : Oper)) rfl (fun K9 hK9 => ?_) AllReadyH.nil)
 go_simp
 go_at_call 76
 refine Calls.mono HDk.out ?_
 rintro e w9 ⟨rfl, hw9⟩
 rw [hw9]
 clear hw9 HDk
 refine hK9.out _ _ ⟨l3, la1⟩ (fun hSS => ?_)
 clear hK9 K9
 try simp only [Act.put, zA, zB, zC]
 refine tk 8 (some 50) (.binOp .rem 3 (.tmp 44) (.tmp 49) 3) 3 none hSS ?_
 refine tk 9 (some 7) (.assign (.tmp 50)) 3 none hSS ?_
 try simp only [Act.put, zA, zB, zC]
 refine wpAnyH_done (by kernel_rfl) (NoPanic.normal ?_) _
 clear hSS
 obtain ⟨f1, f2, zs, f3, f4, f5⟩ := H2.out
 have FIN := hid (HF.out w2 gm cpm r2 zs f1 f2 f3 f4 f5)
 clear f1 f2 f3 f4 f5 H2 HF
 go_wp2
 exact FIN.out
end Go.Proofs.YtldlejpacgphmabGreat
