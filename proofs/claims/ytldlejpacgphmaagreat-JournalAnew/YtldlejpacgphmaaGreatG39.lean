import Derived.Test.YtldlejpacgphmaaGreatG37
import Derived.Test.YtldlejpacgphmaaGreatG24
import Derived.Test.YtldlejpacgphmaaGreatG38
namespace Go.Proofs.YtldlejpacgphmaaGreat
open Go.RowKit Go.Deep
theorem Wb.set2j {w : World} {wb p c : Nat} {jv : Value} {g : Nat} {rm lasted : Int} {off trying : Bool} {tried tl td : Value} (h : Wb w wb p c jv g rm lasted off trying tried tl td) (jv' : Value) : Wb (w.setCell ⟨wb, 2, none⟩ jv') wb p c jv' g rm lasted off trying tried tl td := by
 refine ⟨?_⟩
 have h1 := h.blk
 simp only [World.setCell, Array.getElem?_modify]
 rw [h1]
 simp
theorem Wb.set3 {w : World} {wb p c : Nat} {jv : Value} {g : Nat} {rm lasted : Int} {off trying : Bool} {tried tl td : Value} (h : Wb w wb p c jv g rm lasted off trying tried tl td) (g' : Nat) : Wb (w.setCell ⟨wb, 3, none⟩ (.pointer (some ⟨g', 0, none⟩))) wb p c jv g' rm lasted off trying tried tl td := by
 refine ⟨?_⟩
 have h1 := h.blk
 simp only [World.setCell, Array.getElem?_modify]
 rw [h1]
 simp
theorem Wx.renew {Z Z' : Nat → Prop} {w w' : World} {wb p c j j' g room nb fr bl K K' lasted : Nat} {tried tl td : Value} {hb hc : Nat} {H : List Int} {ta : Option Addr} {tc : Nat} {vs : List Value} {Us : List (List Pm)} {Ls : List Ln} {n1 : Nat} {cs : List Value} {d d' : Pd} {s s' : Js} (h : Wx Z w wb p c j g room nb fr bl K lasted tried tl td hb hc H ta tc vs Us Ls n1 cs d s) (hJ : Jq Z' w' j' c p room nb K' fr bl d' s') (hzb : ∀ k, Z' k → k < w'.heap.size) (hGr : Gr Z Z' w) (hbt : But Z w w') (hfu : d'.fu = -1) : Wx Z' (w'.setCell ⟨wb, 2, none⟩ (.pointer (some ⟨j', 0, none⟩))) wb p c j' g room nb fr bl K' lasted tried tl td hb hc H ta tc vs Us Ls n1 cs d' s' := by
 have hwl := h.wd.lt
 have b2 : But (fun k => k = wb) w' (w'.setCell ⟨wb, 2, none⟩ (.pointer (some ⟨j', 0, none⟩))) := (But.refl (fun k => k = wb) w').setCell rfl _
 have nzw : ¬ Z' wb := fun q => h.zw (hGr wb hwl q)
 have hs := hbt.size
 exact ⟨(h.wd.keep (hbt.block wb hwl h.zw)).set2j _, (h.lg.but hbt (fun _ _ q => .inl q) (fun k => Z' k ∨ k = wb ∨ TB tl td Ls k) (fun k hk q => q.elim (fun q => .inl (hGr k hk q)) .inr)).but b2 (fun _ _ q => .inr (.inl q)) _ (fun _ _ q => q), hJ.but b2 (fun k _ q r => nzw (by rw [← r]; exact q)), hfu, (h.tr.but hbt (fun k _ q r => h.zt k (.inr q) r)).but b2 (fun k _ q r => h.tw (by rw [← r]; exact .inr q)), owns_keep (owns_keep h.ls (fun k e => hbt.block k (World.ownsRow.lt h.ls k e).2 (h.zt k (.inl e)))) (fun k e => b2.block k (by have := (World.ownsRow.lt h.ls k e).2; omega) (fun r => h.tw (by rw [← r]; exact .inl e))), h.n1, h.nl, nzw, fun k q r => h.zt k q (hGr k (h.tlt q) r), h.tw, h.lt, fun k q => Nat.lt_of_lt_of_le (hzb k q) b2.size, h.lo, h.fit, h.r1, h.r2⟩
set_option maxRecDepth 100000 in
set_option maxHeartbeats 4000000 in
theorem reopen_any {W : Nat → Prop} {w : World} {wb room nb fr bl K lasted : Nat} {H : List Int} {Us : List (List Pm)} (hWD : WD W w wb room nb fr bl K lasted H Us) :
  Calls Tryz.prog 49 #[.pointer (some ⟨wb, 0, none⟩)] w (FluW W w wb room nb fr bl K H Us) := by
 obtain ⟨PO, hPO⟩ : ∃ PO : Ending → World → Prop, PO = FluW W w wb room nb fr bl K H Us := ⟨_, rfl⟩
 rw [← hPO]
 obtain ⟨Z, p, c, j, g, tried, tl, td, hb, hc, ta, tc, vs, Ls, n1, cs, d, s, h, hOn, hW⟩ := hWD
 have k2 : w.cell? ⟨wb, 2, none⟩ = some (.pointer (some ⟨j, 0, none⟩)) := h.wd.cell 2
 have hpl := hOn.puts h.lo h.fit h.nb
 have hUl : (plainT Us).length = Us.length := by simp [plainT]
 have HF : Hid (Calls Tryz.prog 45 #[.pointer (some ⟨j, 0, none⟩)] w fun e w2 => e = .returned (.int .i64 0) ∧ Calls Tryz.prog 46 #[.pointer (some ⟨wb, 0, none⟩), .int .i64 0] w2 fun e w3 => e = .returned (.bool true) ∧ (w3.cell? ⟨wb, 1, none⟩ = some (.pointer (some ⟨c, 0, none⟩)) ∧ w3.cell? ⟨wb, 3, none⟩ = some (.pointer (some ⟨g, 0, none⟩)) ∧ w3.cell? ⟨g, 1, none⟩ = some (.int .i64 (fr : Int)) ∧ w3.cell? ⟨g, 2, none⟩ = some (.int .i64 (bl : Int))) ∧ w3.cell? ⟨wb, 6, none⟩ = some (.bool false) ∧
   Calls Tryz.prog 27 #[.pointer (some ⟨c, 0, none⟩), .int .i64 (fr : Int), .int .i64 (bl : Int)] w3.drew fun e w4 => ∃ j', e = .returned (.tuple #[.pointer (some ⟨j', 0, none⟩), .int .i64 0]) ∧ (w4.cell? ⟨wb, 1, none⟩ = some (.pointer (some ⟨c, 0, none⟩)) ∧ w4.cell? ⟨wb, 3, none⟩ = some (.pointer (some ⟨g, 0, none⟩)) ∧ w4.cell? ⟨g, 1, none⟩ = some (.int .i64 (fr : Int)) ∧ w4.cell? ⟨g, 2, none⟩ = some (.int .i64 (bl : Int))) ∧ (∃ jv, w4.cell? ⟨wb, 2, none⟩ = some jv) ∧ w4.frozen? ⟨wb, 2, none⟩ = false ∧ PO (.returned (.bool true)) (w4.setCell ⟨wb, 2, none⟩ (.pointer (some ⟨j', 0, none⟩)))) := by
  have hnb9 := h.nb
  have hfit9 := h.fit
  refine Calls.mono (Flush_on h.jq hOn.on (by omega)) ?_
  rintro e w2 ⟨rfl, ⟨Z', s', q1, q2, q3⟩, q4⟩
  obtain ⟨f1, f2, f3⟩ := Pd.runs_free hOn.on h.fu [.fl]
  rw [f1]
  have hq := q2 f1
  rw [hq] at q1
  have x2 := h.turn q1.cut (fun k q => q.2) (fun k hk q => q3 k hk q.1) q4 f3
  refine ⟨rfl, Calls.mono (lasts_any x2) ?_⟩
  rintro e w3 ⟨rfl, rfl⟩
  have hon := (hOn.flush h.jq.fits.1 h.lo h.fit h.nb).1 f1
  rw [hUl] at hon
  have x3 := x2.lasts Us.length
  obtain ⟨w3, hw3⟩ : ∃ w3, w3 = w2.setCell ⟨wb, 5, none⟩ (.int .i64 (Us.length : Int)) := ⟨_, rfl⟩
  rw [← hw3] at x3 ⊢
  have c13 : But W w w3 := by
   rw [hw3]
   exact (q4.mono (fun k _ q => by rw [hW]; exact .inl (.inl q))).setCell (by rw [hW]; exact .inl (.inr (.inl rfl))) _
  have hpl3 := hon.puts h.lo h.fit h.nb
  refine ⟨rfl, ⟨x3.wd.cell 1, x3.wd.cell 3, x3.lg.lg.c1, x3.lg.lg.c2⟩, x3.wd.cell 6, Calls.mono (Open_any x3.jq.toCq.drew (fr : Int) (bl : Int) (by omega)) ?_⟩
  intro e w4 hO
  obtain ⟨b4, j', Z4, d4, s4, rfl, hj4, g4, fu4, J4, on4⟩ := OpenP.anew hO hon f3 x3.jq.fits.1 h.lo h.fit h.nb
  rw [hUl] at on4
  have b34 : But (fun k => Z' k ∧ k < w2.heap.size) w3 w4 := (But.of_below ((Below.refl w3.heap.size w3).drew)).comp b4 (fun _ _ q => q)
  have x4 := x3.renew J4.cut (fun k q => q.2) (fun k hk q => g4 k hk q.1) b34 fu4
  have wd4 := x3.wd.keep (b34.block wb x3.wd.lt x3.zw)
  have lg4 := x3.lg.lg.keep (b34.block g x3.lg.gl (fun q => x3.lg.ng (.inl q)))
  refine ⟨j', rfl, ⟨wd4.cell 1, wd4.cell 3, lg4.c1, lg4.c2⟩, ⟨_, wd4.cell 2⟩, wd4.frozen 2, ?_⟩
  rw [hPO]
  refine ⟨rfl, ?_, _, ⟨_, p, c, j', g, tried, tl, td, hb, hc, ta, tc, vs, Ls, n1, cs, d4, s4, x4, on4, rfl⟩, fun k hk q => ?_⟩
  ·have hs : w.heap.size ≤ w3.heap.size := c13.size
   exact (c13.comp b34 (fun k hk q => by rw [hW]; exact .inl (.inl (q3 k hk q.1)))).setCell (by rw [hW]; exact .inl (.inr (.inl rfl))) _
  ·rw [hW]
   have hs : w.heap.size ≤ w3.heap.size := c13.size
   rcases q with (q | q) | q
   ·exact .inl (.inl (q3 k hk (g4 k (by show k < w3.heap.size; omega) q.1).1))
   ·exact .inl (.inr q)
   ·exact .inr q
 have HN := hid (num_any 0)
 clear h hOn hW hPO hpl hUl
 go_enter Tryz.func49, Tryz.ntmps49
 go_wp2_with fail
 refine Calls.mono HF.out ?_
 rintro e w2 ⟨rfl, hL⟩
 have HL := hid hL
 clear hL HF
 go_wp2_with fail
 refine Calls.mono HL.out ?_
 rintro e w3 ⟨rfl, ⟨k1, k3, g1, g2⟩, k6, hO⟩
 have HOp := hid hO
 clear hO HL k2
 go_wp2_with fail
 refine wp_region_noPanic ?_
 refine wp_region_held_drew (S := fun w' => w'.cell? ⟨wb, 1, none⟩ = some (.pointer (some ⟨c, 0, none⟩)) ∧ w'.cell? ⟨wb, 3, none⟩ = some (.pointer (some ⟨g, 0, none⟩)) ∧ w'.cell? ⟨g, 1, none⟩ = some (.int .i64 (fr : Int)) ∧ w'.cell? ⟨g, 2, none⟩ = some (.int .i64 (bl : Int))) (by kernel_rfl) ⟨k1, k3, g1, g2⟩ (fun hSS => ?_)
 apply tk 0 (some 26) (.move (.tmp 0)) 27 none rfl (by kernel_rfl) (fun _ _ _ h => h) (by rfl) hSS
 ·(intro a h; (try dsimp only at h); (try go_split_ands); go_simp; try with_reducible rfl)
 apply tk 1 (some 27) (.nilCheck (.tmp 26)) 0 none rfl (by kernel_rfl) (fun _ _ _ h => h) (by rfl) hSS
 ·(intro a h; (try dsimp only at h); (try go_split_ands); go_simp; try with_reducible rfl)
 apply tk 2 (some 28) (.fieldAddr 45 (.tmp 27) 1) 0 none rfl (by kernel_rfl) (fun _ _ _ h => h) (by rfl) hSS
 ·(intro a h; (try dsimp only at h); (try go_split_ands); go_simp; try with_reducible rfl)
 apply tk 3 (some 29) (.load 38 (.tmp 28)) 38 none rfl (by kernel_rfl) (fun _ _ _ h => h) (by rfl) hSS
 ·(intro a h; (try dsimp only at h); (try go_split_ands); go_simp; try with_reducible rfl)
 try simp only [Act.put, List.setIfInBounds_toArray, List.set_cons_zero, List.set_cons_succ]
 apply tk 4 (some 30) (.move (.tmp 0)) 27 none rfl (by kernel_rfl) (fun _ _ _ h => h) (by rfl) hSS
 ·(intro a h; (try dsimp only at h); (try go_split_ands); go_simp; try with_reducible rfl)
 apply tk 5 (some 31) (.nilCheck (.tmp 30)) 0 none rfl (by kernel_rfl) (fun _ _ _ h => h) (by rfl) hSS
 ·(intro a h; (try dsimp only at h); (try go_split_ands); go_simp; try with_reducible rfl)
 apply tk 6 (some 32) (.fieldAddr 45 (.tmp 31) 3) 0 none rfl (by kernel_rfl) (fun _ _ _ h => h) (by rfl) hSS
 ·(intro a h; (try dsimp only at h); (try go_split_ands); go_simp; try with_reducible rfl)
 apply tk 7 (some 33) (.load 40 (.tmp 32)) 40 none rfl (by kernel_rfl) (fun _ _ _ h => h) (by rfl) hSS
 ·(intro a h; (try dsimp only at h); (try go_split_ands); go_simp; try with_reducible rfl)
 try simp only [Act.put, List.setIfInBounds_toArray, List.set_cons_zero, List.set_cons_succ]
 apply tk 8 (some 34) (.nilCheck (.tmp 33)) 0 none rfl (by kernel_rfl) (fun _ _ _ h => h) (by rfl) hSS
 ·(intro a h; (try dsimp only at h); (try go_split_ands); go_simp; try with_reducible rfl)
 apply tk 9 (some 35) (.fieldAddr 48 (.tmp 34) 1) 0 none rfl (by kernel_rfl) (fun _ _ _ h => h) (by rfl) hSS
 ·(intro a h; (try dsimp only at h); (try go_split_ands); go_simp; try with_reducible rfl)
 apply tk 10 (some 36) (.load 3 (.tmp 35)) 3 none rfl (by kernel_rfl) (fun _ _ _ h => h) (by rfl) hSS
 ·(intro a h; (try dsimp only at h); (try go_split_ands); go_simp; try with_reducible rfl)
 apply tk 11 (some 37) (.move (.tmp 0)) 27 none rfl (by kernel_rfl) (fun _ _ _ h => h) (by rfl) hSS
 ·(intro a h; (try dsimp only at h); (try go_split_ands); go_simp; try with_reducible rfl)
 try simp only [Act.put, List.setIfInBounds_toArray, List.set_cons_zero, List.set_cons_succ]
 apply tk 12 (some 38) (.nilCheck (.tmp 37)) 0 none rfl (by kernel_rfl) (fun _ _ _ h => h) (by rfl) hSS
 ·(intro a h; (try dsimp only at h); (try go_split_ands); go_simp; try with_reducible rfl)
 apply tk 13 (some 39) (.fieldAddr 45 (.tmp 38) 3) 0 none rfl (by kernel_rfl) (fun _ _ _ h => h) (by rfl) hSS
 ·(intro a h; (try dsimp only at h); (try go_split_ands); go_simp; try with_reducible rfl)
 apply tk 14 (some 40) (.load 40 (.tmp 39)) 40 none rfl (by kernel_rfl) (fun _ _ _ h => h) (by rfl) hSS
 ·(intro a h; (try dsimp only at h); (try go_split_ands); go_simp; try with_reducible rfl)
 apply tk 15 (some 41) (.nilCheck (.tmp 40)) 0 none rfl (by kernel_rfl) (fun _ _ _ h => h) (by rfl) hSS
 ·(intro a h; (try dsimp only at h); (try go_split_ands); go_simp; try with_reducible rfl)
 try simp only [Act.put, List.setIfInBounds_toArray, List.set_cons_zero, List.set_cons_succ]
 apply tk 16 (some 42) (.fieldAddr 48 (.tmp 41) 2) 0 none rfl (by kernel_rfl) (fun _ _ _ h => h) (by rfl) hSS
 ·(intro a h; (try dsimp only at h); (try go_split_ands); go_simp; try with_reducible rfl)
 apply tk 17 (some 43) (.load 3 (.tmp 42)) 3 none rfl (by kernel_rfl) (fun _ _ _ h => h) (by rfl) hSS
 ·(intro a h; (try dsimp only at h); (try go_split_ands); go_simp; try with_reducible rfl)
 try simp only [Act.put, List.setIfInBounds_toArray, List.set_cons_zero, List.set_cons_succ]
 refine wpAnyH_ready (rs := [18]) (by kernel_rfl) (by simp) (AllReadyH.cons (o := ({ dst := some 44, op := Op.call { callee := Callee.value (Operand.func 27), args := #[Operand.tmp 29, Operand.tmp 36, Operand.tmp 43], argTypes := #[38, 3, 3] }, type := 70, pos := _, after := _, guard := none } : Oper)) rfl (fun K9 hK9 => ?_) AllReadyH.nil)
 go_simp
 go_at_call 27
 refine Calls.mono HOp.out ?_
 rintro e w4 ⟨j', rfl, F4⟩
 have H4 := hid F4
 obtain ⟨r1, r3, m1, m2⟩ := F4.1
 clear F4 HOp
 refine hK9.out _ _ ⟨r1, r3, m1, m2⟩ (fun hSS => ?_)
 clear hK9 K9
 try simp only [Act.put, List.setIfInBounds_toArray, List.set_cons_zero, List.set_cons_succ]
 apply tk 19 (some 25) (.move (.tmp 44)) 70 none rfl (by kernel_rfl) (fun _ _ _ h => h) (by rfl) hSS
 ·(intro a h; (try dsimp only at h); (try go_split_ands); go_simp; try with_reducible rfl)
 apply tk 20 (some 45) (.extract (.tmp 25) 0) 39 none rfl (by kernel_rfl) (fun _ _ _ h => h) (by rfl) hSS
 ·(intro a h; (try dsimp only at h); (try go_split_ands); go_simp; try with_reducible rfl)
 apply tk 21 (some 46) (.extract (.tmp 25) 1) 55 none rfl (by kernel_rfl) (fun _ _ _ h => h) (by rfl) hSS
 ·(intro a h; (try dsimp only at h); (try go_split_ands); go_simp; try with_reducible rfl)
 try simp only [Act.put, List.setIfInBounds_toArray, List.set_cons_zero, List.set_cons_succ]
 apply tk 22 (some 4) (.assign (.tmp 45)) 39 none rfl (by kernel_rfl) (fun _ _ _ h => h) (by rfl) hSS
 ·(intro a h; (try dsimp only at h); (try go_split_ands); go_simp; try with_reducible rfl)
 apply tk 23 (some 5) (.assign (.tmp 46)) 55 none rfl (by kernel_rfl) (fun _ _ _ h => h) (by rfl) hSS
 ·(intro a h; (try dsimp only at h); (try go_split_ands); go_simp; try with_reducible rfl)
 try simp only [Act.put, List.setIfInBounds_toArray, List.set_cons_zero, List.set_cons_succ]
 refine wpAnyH_done (by kernel_rfl) (NoPanic.normal ?_) _
 clear hSS k1 k3 g1 g2 k6 r1 r3 m1 m2
 obtain ⟨_, ⟨jv, l2⟩, lf, hP⟩ := H4.out
 have FIN := hid hP
 clear hP H4
 go_wp2_with fail
 refine Calls.mono (HN.out w4) ?_
 rintro e w9 ⟨rfl, hw9⟩
 rw [hw9]
 clear hw9
 go_wp2_with fail
 refine Calls.mono (HN.out w4) ?_
 rintro e w9 ⟨rfl, hw9⟩
 rw [hw9]
 clear hw9
 go_wp2
 exact FIN.out
theorem Wx.relog {Z : Nat → Prop} {w : World} {wb p c j g g' room nb fr bl K lasted : Nat} {tried tl td : Value} {hb hc : Nat} {H : List Int} {ta ta' : Option Addr} {tc tc' : Nat} {vs vs' : List Value} {Us Us' : List (List Pm)} {Ls : List Ln} {n1 : Nat} {cs : List Value} {d : Pd} {s : Js} (h : Wx Z w wb p c j g room nb fr bl K lasted tried tl td hb hc H ta tc vs Us Ls n1 cs d s) (hL : LgW (fun k => Z k ∨ k = wb ∨ TB tl td Ls k) w g' hb hc nb fr bl H ta' tc' vs' Us') : Wx Z (w.setCell ⟨wb, 3, none⟩ (.pointer (some ⟨g', 0, none⟩))) wb p c j g' room nb fr bl K lasted tried tl td hb hc H ta' tc' vs' Us' Ls n1 cs d s := by
 have hbt : But (fun k => k = wb) w (w.setCell ⟨wb, 3, none⟩ (.pointer (some ⟨g', 0, none⟩))) := (But.refl (fun k => k = wb) w).setCell rfl _
 exact ⟨h.wd.set3 _, hL.but hbt (fun _ _ q => .inr (.inl q)) _ (fun _ _ q => q), h.jq.but hbt (fun k _ q r => h.zw (by rw [← r]; exact q)), h.fu, h.tr.but hbt (fun k _ q r => h.tw (by rw [← r]; exact .inr q)), owns_keep h.ls (fun k e => hbt.block k (World.ownsRow.lt h.ls k e).2 (fun r => h.tw (by rw [← r]; exact .inl e))), h.n1, h.nl, h.zw, h.zt, h.tw, h.lt, fun k q => Nat.lt_of_lt_of_le (h.zb k q) hbt.size, h.lo, h.fit, h.r1, h.r2⟩
set_option maxRecDepth 100000 in
set_option maxHeartbeats 4000000 in
theorem again_any {W : Nat → Prop} {w : World} {wb room nb fr bl K lasted : Nat} {H : List Int} {Us : List (List Pm)} (hWD : WD W w wb room nb fr bl K lasted H Us) (hK : K + nb < 4611686018427387904) :
  Calls Tryz.prog 50 #[.pointer (some ⟨wb, 0, none⟩)] w (FluW W w wb room nb fr bl (K + nb) H Us) := by
 obtain ⟨PO, hPO⟩ : ∃ PO : Ending → World → Prop, PO = FluW W w wb room nb fr bl (K + nb) H Us := ⟨_, rfl⟩
 rw [← hPO]
 obtain ⟨Z, p, c, j, g, tried, tl, td, hb, hc, ta, tc, vs, Ls, n1, cs, d, s, h, hOn, hW⟩ := hWD
 have k1 : w.cell? ⟨wb, 1, none⟩ = some (.pointer (some ⟨c, 0, none⟩)) := h.wd.cell 1
 have k3 : w.cell? ⟨wb, 3, none⟩ = some (.pointer (some ⟨g, 0, none⟩)) := h.wd.cell 3
 have g1 := h.lg.lg.c1
 have g2 := h.lg.lg.c2
 have hpl := hOn.puts h.lo h.fit h.nb
 have hUl : (plainT Us).length = Us.length := by simp [plainT]
 have hus := (hOn.us h.lo h.fit h.nb).2
 obtain ⟨n, hn⟩ : ∃ n, n = Us.length := ⟨_, rfl⟩
 have HOp : Hid (Calls Tryz.prog 27 #[.pointer (some ⟨c, 0, none⟩), .int .i64 (fr : Int), .int .i64 (bl : Int)] w.drew fun e w4 => ∃ j', e = .returned (.tuple #[.pointer (some ⟨j', 0, none⟩), .int .i64 0]) ∧ (w4.cell? ⟨wb, 1, none⟩ = some (.pointer (some ⟨c, 0, none⟩)) ∧ w4.cell? ⟨wb, 3, none⟩ = some (.pointer (some ⟨g, 0, none⟩)) ∧ w4.cell? ⟨g, 1, none⟩ = some (.int .i64 (fr : Int)) ∧ w4.cell? ⟨g, 2, none⟩ = some (.int .i64 (bl : Int))) ∧
   Calls Tryz.prog 30 #[.pointer (some ⟨wb, 0, none⟩), .pointer (some ⟨j', 0, none⟩)] w4 fun e w5 => ∃ g' ta' tc', e = .returned (.tuple #[.pointer (some ⟨g', 0, none⟩), .bool true]) ∧ g' ≠ wb ∧ w5.cell? ⟨g', 3, none⟩ = some (.slice ta' n tc') ∧ (∃ jv, w5.cell? ⟨wb, 2, none⟩ = some jv) ∧ (∃ gv, w5.cell? ⟨wb, 3, none⟩ = some gv) ∧ (∃ lv, w5.cell? ⟨wb, 5, none⟩ = some lv) ∧ (∀ t, w5.frozen? ⟨wb, t, none⟩ = false) ∧ PO (.returned (.bool true)) (((w5.setCell ⟨wb, 2, none⟩ (.pointer (some ⟨j', 0, none⟩))).setCell ⟨wb, 3, none⟩ (.pointer (some ⟨g', 0, none⟩))).setCell ⟨wb, 5, none⟩ (.int .i64 (n : Int)))) := by
  have hnb9 := h.nb
  have hfit9 := h.fit
  have hwl := h.wd.lt
  refine Calls.mono (Open_any h.jq.toCq.drew (fr : Int) (bl : Int) (by omega)) ?_
  intro e w4 hO
  obtain ⟨b4', j', Z4, d4, s4, rfl, hj4, g4, fu4, J4, on4⟩ := OpenP.anew hO hOn h.fu h.jq.fits.1 h.lo h.fit h.nb
  have b4 : But Z w w4 := (But.of_below ((Below.refl w.heap.size w).drew) (X := Z)).comp b4' (fun _ _ q => q)
  have g4' : Gr Z (fun k => Z4 k ∧ k < w4.heap.size) w := fun k hk q => g4 k hk q.1
  have wd4 := h.wd.keep (b4.block wb hwl h.zw)
  have lg4 := h.lg.but b4 (fun _ _ q => .inl q) (fun k => (Z4 k ∧ k < w4.heap.size) ∨ k = wb ∨ TB tl td Ls k) (fun k hk q => q.elim (fun q => .inl (g4' k hk q)) .inr)
  have hs4 := b4.size
  refine ⟨j', rfl, ⟨wd4.cell 1, wd4.cell 3, lg4.lg.c1, lg4.lg.c2⟩, ?_⟩
  rw [hUl, ← hn] at on4
  have on4' : On d4 s4 nb fr bl n (imgB H) (plainT (Us.take n)) := by rw [hn, List.take_length, ← hn]; exact on4
  have hll : (lasted : Int) ≤ (n : Int) := by
   have := hOn.lo_le
   omega
  refine Calls.mono (opened_any wd4 lg4 J4.cut on4' (by omega) hll (fun k _ q => .inl q) h.lo h.fit hus hK) ?_
  rintro e w5 ⟨g', ta', tc', vs', Z5, rfl, ⟨hg', hta'⟩, hL5, J5, z5, g5, b5⟩
  have etn : Us.take n = Us := by rw [hn]; exact List.take_length
  rw [etn] at hL5 hta'
  have b45 : But Z w w5 := b4.comp b5 (fun k hk q => g4' k hk q)
  have g45 : Gr Z Z5 w := fun k hk q => g4' k hk (g5 k (by omega) q)
  have x5 := h.renew J5 z5 g45 b45 fu4
  have wd5 := h.wd.keep (b45.block wb hwl h.zw)
  have bs : But (fun k => k = wb) w5 (w5.setCell ⟨wb, 2, none⟩ (.pointer (some ⟨j', 0, none⟩))) := (But.refl (fun k => k = wb) w5).setCell rfl _
  have hL6 := hL5.but (Y := fun _ => False) (But.refl _ _) (fun _ _ q => q.elim) (fun k => Z5 k ∨ k = wb ∨ TB tl td Ls k) (fun k hk q => by
   rcases q with q | q | q
   ·exact .inr q
   ·exact .inl ⟨.inr (.inl q), by omega⟩
   ·exact .inl ⟨.inr (.inr q), by have := h.tlt q; omega⟩)
  have hL7 := hL6.but bs (fun _ _ q => .inr (.inl q)) (fun k => Z5 k ∨ k = wb ∨ TB tl td Ls k) (fun _ _ q => q)
  have x6 := (x5.relog hL7).lasts n
  refine ⟨g', ta', tc', rfl, by omega, ?_, ⟨_, wd5.cell 2⟩, ⟨_, wd5.cell 3⟩, ⟨_, wd5.cell 5⟩, wd5.frozen, ?_⟩
  ·rw [hn]; exact hL5.lg.c3
  ·rw [hPO]
   refine ⟨rfl, ?_, _, ⟨Z5, p, c, j', g', tried, tl, td, hb, hc, ta', tc', vs', Ls, n1, cs, d4, s4, ?_, ?_, rfl⟩, fun k hk q => ?_⟩
   ·have hww : W wb := by rw [hW]; exact .inl (.inr (.inl rfl))
    exact (((b45.mono (fun k _ q => by rw [hW]; exact .inl (.inl q))).setCell hww _).setCell hww _).setCell hww _
   ·rw [← hn]; exact x6
   ·rw [← hn]; exact on4
   ·rw [hW]
    rcases q with (q | q) | q | q
    ·exact .inl (.inl (g45 k hk q))
    ·exact .inl (.inr q)
    ·omega
    ·have := hta' k q
     omega
 have HN := hid (num_any 0)
 have hnn : n ≤ 1099511627776 := by omega
 clear h hOn hW hPO hpl hUl hus hn hK
 go_enter Tryz.func50, Tryz.ntmps50
 go_wp2_with fail
 refine wp_region_noPanic ?_
 refine wp_region_held_drew (S := fun w' => w'.cell? ⟨wb, 1, none⟩ = some (.pointer (some ⟨c, 0, none⟩)) ∧ w'.cell? ⟨wb, 3, none⟩ = some (.pointer (some ⟨g, 0, none⟩)) ∧ w'.cell? ⟨g, 1, none⟩ = some (.int .i64 (fr : Int)) ∧ w'.cell? ⟨g, 2, none⟩ = some (.int .i64 (bl : Int))) (by kernel_rfl) ⟨k1, k3, g1, g2⟩ (fun hSS => ?_)
 apply tk 0 (some 8) (.move (.tmp 0)) 27 none rfl (by kernel_rfl) (fun _ _ _ h => h) (by rfl) hSS
 ·(intro a h; (try dsimp only at h); (try go_split_ands); go_simp; try with_reducible rfl)
 apply tk 1 (some 9) (.nilCheck (.tmp 8)) 0 none rfl (by kernel_rfl) (fun _ _ _ h => h) (by rfl) hSS
 ·(intro a h; (try dsimp only at h); (try go_split_ands); go_simp; try with_reducible rfl)
 apply tk 2 (some 10) (.fieldAddr 45 (.tmp 9) 1) 0 none rfl (by kernel_rfl) (fun _ _ _ h => h) (by rfl) hSS
 ·(intro a h; (try dsimp only at h); (try go_split_ands); go_simp; try with_reducible rfl)
 try simp only [Act.put, List.setIfInBounds_toArray, List.set_cons_zero, List.set_cons_succ]
 apply tk 3 (some 11) (.load 38 (.tmp 10)) 38 none rfl (by kernel_rfl) (fun _ _ _ h => h) (by rfl) hSS
 ·(intro a h; (try dsimp only at h); (try go_split_ands); go_simp; try with_reducible rfl)
 apply tk 4 (some 12) (.move (.tmp 0)) 27 none rfl (by kernel_rfl) (fun _ _ _ h => h) (by rfl) hSS
 ·(intro a h; (try dsimp only at h); (try go_split_ands); go_simp; try with_reducible rfl)
 apply tk 5 (some 13) (.nilCheck (.tmp 12)) 0 none rfl (by kernel_rfl) (fun _ _ _ h => h) (by rfl) hSS
 ·(intro a h; (try dsimp only at h); (try go_split_ands); go_simp; try with_reducible rfl)
 apply tk 6 (some 14) (.fieldAddr 45 (.tmp 13) 3) 0 none rfl (by kernel_rfl) (fun _ _ _ h => h) (by rfl) hSS
 ·(intro a h; (try dsimp only at h); (try go_split_ands); go_simp; try with_reducible rfl)
 try simp only [Act.put, List.setIfInBounds_toArray, List.set_cons_zero, List.set_cons_succ]
 apply tk 7 (some 15) (.load 40 (.tmp 14)) 40 none rfl (by kernel_rfl) (fun _ _ _ h => h) (by rfl) hSS
 ·(intro a h; (try dsimp only at h); (try go_split_ands); go_simp; try with_reducible rfl)
 apply tk 8 (some 16) (.nilCheck (.tmp 15)) 0 none rfl (by kernel_rfl) (fun _ _ _ h => h) (by rfl) hSS
 ·(intro a h; (try dsimp only at h); (try go_split_ands); go_simp; try with_reducible rfl)
 apply tk 9 (some 17) (.fieldAddr 48 (.tmp 16) 1) 0 none rfl (by kernel_rfl) (fun _ _ _ h => h) (by rfl) hSS
 ·(intro a h; (try dsimp only at h); (try go_split_ands); go_simp; try with_reducible rfl)
 apply tk 10 (some 18) (.load 3 (.tmp 17)) 3 none rfl (by kernel_rfl) (fun _ _ _ h => h) (by rfl) hSS
 ·(intro a h; (try dsimp only at h); (try go_split_ands); go_simp; try with_reducible rfl)
 try simp only [Act.put, List.setIfInBounds_toArray, List.set_cons_zero, List.set_cons_succ]
 apply tk 11 (some 19) (.move (.tmp 0)) 27 none rfl (by kernel_rfl) (fun _ _ _ h => h) (by rfl) hSS
 ·(intro a h; (try dsimp only at h); (try go_split_ands); go_simp; try with_reducible rfl)
 apply tk 12 (some 20) (.nilCheck (.tmp 19)) 0 none rfl (by kernel_rfl) (fun _ _ _ h => h) (by rfl) hSS
 ·(intro a h; (try dsimp only at h); (try go_split_ands); go_simp; try with_reducible rfl)
 apply tk 13 (some 21) (.fieldAddr 45 (.tmp 20) 3) 0 none rfl (by kernel_rfl) (fun _ _ _ h => h) (by rfl) hSS
 ·(intro a h; (try dsimp only at h); (try go_split_ands); go_simp; try with_reducible rfl)
 apply tk 14 (some 22) (.load 40 (.tmp 21)) 40 none rfl (by kernel_rfl) (fun _ _ _ h => h) (by rfl) hSS
 ·(intro a h; (try dsimp only at h); (try go_split_ands); go_simp; try with_reducible rfl)
 try simp only [Act.put, List.setIfInBounds_toArray, List.set_cons_zero, List.set_cons_succ]
 apply tk 15 (some 23) (.nilCheck (.tmp 22)) 0 none rfl (by kernel_rfl) (fun _ _ _ h => h) (by rfl) hSS
 ·(intro a h; (try dsimp only at h); (try go_split_ands); go_simp; try with_reducible rfl)
 apply tk 16 (some 24) (.fieldAddr 48 (.tmp 23) 2) 0 none rfl (by kernel_rfl) (fun _ _ _ h => h) (by rfl) hSS
 ·(intro a h; (try dsimp only at h); (try go_split_ands); go_simp; try with_reducible rfl)
 apply tk 17 (some 25) (.load 3 (.tmp 24)) 3 none rfl (by kernel_rfl) (fun _ _ _ h => h) (by rfl) hSS
 ·(intro a h; (try dsimp only at h); (try go_split_ands); go_simp; try with_reducible rfl)
 try simp only [Act.put, List.setIfInBounds_toArray, List.set_cons_zero, List.set_cons_succ]
 refine wpAnyH_ready (rs := [18]) (by kernel_rfl) (by simp) (AllReadyH.cons (o := ({ dst := some 26, op := Op.call { callee := Callee.value (Operand.func 27), args := #[Operand.tmp 11, Operand.tmp 18, Operand.tmp 25], argTypes := #[38, 3, 3] }, type := 70, pos := _, after := _, guard := none } : Oper)) rfl (fun K9 hK9 => ?_) AllReadyH.nil)
 go_simp
 go_at_call 27
 refine Calls.mono HOp.out ?_
 rintro e w4 ⟨j', rfl, F4⟩
 have H4 := hid F4
 obtain ⟨r1, r3, m1, m2⟩ := F4.1
 clear F4 HOp
 refine hK9.out _ _ ⟨r1, r3, m1, m2⟩ (fun hSS => ?_)
 clear hK9 K9
 try simp only [Act.put, List.setIfInBounds_toArray, List.set_cons_zero, List.set_cons_succ]
 apply tk 19 (some 7) (.move (.tmp 26)) 70 none rfl (by kernel_rfl) (fun _ _ _ h => h) (by rfl) hSS
 ·(intro a h; (try dsimp only at h); (try go_split_ands); go_simp; try with_reducible rfl)
 apply tk 20 (some 27) (.extract (.tmp 7) 0) 39 none rfl (by kernel_rfl) (fun _ _ _ h => h) (by rfl) hSS
 ·(intro a h; (try dsimp only at h); (try go_split_ands); go_simp; try with_reducible rfl)
 try simp only [Act.put, List.setIfInBounds_toArray, List.set_cons_zero, List.set_cons_succ]
 apply tk 21 (some 28) (.extract (.tmp 7) 1) 55 none rfl (by kernel_rfl) (fun _ _ _ h => h) (by rfl) hSS
 ·(intro a h; (try dsimp only at h); (try go_split_ands); go_simp; try with_reducible rfl)
 apply tk 22 (some 3) (.assign (.tmp 27)) 39 none rfl (by kernel_rfl) (fun _ _ _ h => h) (by rfl) hSS
 ·(intro a h; (try dsimp only at h); (try go_split_ands); go_simp; try with_reducible rfl)
 apply tk 23 (some 4) (.assign (.tmp 28)) 55 none rfl (by kernel_rfl) (fun _ _ _ h => h) (by rfl) hSS
 ·(intro a h; (try dsimp only at h); (try go_split_ands); go_simp; try with_reducible rfl)
 try simp only [Act.put, List.setIfInBounds_toArray, List.set_cons_zero, List.set_cons_succ]
 refine wpAnyH_done (by kernel_rfl) (NoPanic.normal ?_) _
 clear hSS k1 k3 g1 g2 r1 r3 m1 m2
 have H30 := hid H4.out.2
 clear H4
 go_wp2_with fail
 refine Calls.mono (HN.out w4) ?_
 rintro e w9 ⟨rfl, hw9⟩
 rw [hw9]
 clear hw9
 go_wp2_with fail
 refine Calls.mono (HN.out w4) ?_
 rintro e w9 ⟨rfl, hw9⟩
 rw [hw9]
 clear hw9
 go_wp2_with fail
 refine Calls.mono H30.out ?_
 rintro e w5 ⟨g', ta', tc', rfl, hgw, c3, ⟨jv, l2⟩, ⟨gv, l3⟩, ⟨lv, l5⟩, hf, hP⟩
 have FIN := hid hP
 have lf2 := hf 2
 have lf3 := hf 3
 have lf5 := hf 5
 have hgw' : ¬ wb = g' := fun e => hgw e.symm
 clear hP H30 hf
 go_wp2
 exact FIN.out
end Go.Proofs.YtldlejpacgphmaaGreat
