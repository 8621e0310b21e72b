import Derived.Test.YtldlejpacgphmaaGreatG35
import Derived.Deep.RegionHeld3
namespace Go.Proofs.YtldlejpacgphmaaGreat
open Go.RowKit
theorem WD.below {W : Nat → Prop} {w w' : World} {wb room nb fr bl K lasted : Nat} {H : List Int} {Us : List (List Pm)} (h : WD W w wb room nb fr bl K lasted H Us) (hb : Below w.heap.size w w') : WD W w' wb room nb fr bl K lasted H Us := by
 obtain ⟨Z, p, c, j, g, tried, tl, td, hb', hc, ta, tc, vs, Ls, n1, cs, d, s, h, hOn, hW⟩ := h
 exact ⟨Z, p, c, j, g, tried, tl, td, hb', hc, ta, tc, vs, Ls, n1, cs, d, s, h.below hb, hOn, hW⟩
theorem WD.lt {W : Nat → Prop} {w : World} {wb room nb fr bl K lasted : Nat} {H : List Int} {Us : List (List Pm)} (h : WD W w wb room nb fr bl K lasted H Us) {k : Nat} (hk : W k) : k < w.heap.size := by
 obtain ⟨Z, p, c, j, g, tried, tl, td, hb', hc, ta, tc, vs, Ls, n1, cs, d, s, h, hOn, hW⟩ := h
 rw [hW] at hk
 exact h.mu_lt hk
theorem Wb.set5 {w : World} {wb p c : Nat} {jv : Value} {g : Nat} {rm lasted : Int} {off trying : Bool} {tried tl td : Value} (h : Wb w wb p c jv g rm lasted off trying tried tl td) (n : Int) : Wb (w.setCell ⟨wb, 5, none⟩ (.int .i64 n)) wb p c jv g rm n off trying tried tl td := by
 refine ⟨?_⟩
 have h1 := h.blk
 simp only [World.setCell, Array.getElem?_modify]
 rw [h1]
 simp
theorem Wx.turn {Z Z' : Nat → Prop} {w w' : World} {wb p c j g room nb fr bl K lasted : Nat} {tried tl td : Value} {hb hc : Nat} {H : List Int} {ta : Option Addr} {tc : Nat} {vs : List Value} {Us : List (List Pm)} {Ls : List Ln} {n1 : Nat} {cs : List Value} {d d' : Pd} {s s' : Js} (h : Wx Z w wb p c j g room nb fr bl K lasted tried tl td hb hc H ta tc vs Us Ls n1 cs d s) (hJ : Jq Z' w' j c p room nb K fr bl d' s') (hzb : ∀ k, Z' k → k < w'.heap.size) (hGr : Gr Z Z' w) (hbt : But Z w w') (hfu : d'.fu = -1) : Wx Z' w' wb p c j g room nb fr bl K lasted tried tl td hb hc H ta tc vs Us Ls n1 cs d' s' := by
 have hwl := h.wd.lt
 exact ⟨h.wd.keep (hbt.block wb hwl h.zw), h.lg.but hbt (fun _ _ q => .inl q) _ (fun k hk q => q.elim (fun q => .inl (hGr k hk q)) .inr), hJ, hfu, h.tr.but hbt (fun k _ q r => h.zt k (.inr q) r), owns_keep h.ls (fun k e => hbt.block k (World.ownsRow.lt h.ls k e).2 (h.zt k (.inl e))), h.n1, h.nl, fun q => h.zw (hGr wb hwl q), fun k q r => h.zt k q (hGr k (h.tlt q) r), h.tw, h.lt, hzb, h.lo, h.fit, h.r1, h.r2⟩
theorem Wx.lasts {Z : Nat → Prop} {w : World} {wb p c j g room nb fr bl K lasted : Nat} {tried tl td : Value} {hb hc : Nat} {H : List Int} {ta : Option Addr} {tc : Nat} {vs : List Value} {Us : List (List Pm)} {Ls : List Ln} {n1 : Nat} {cs : List Value} {d : Pd} {s : Js} (h : Wx Z w wb p c j g room nb fr bl K lasted tried tl td hb hc H ta tc vs Us Ls n1 cs d s) (n : Nat) : Wx Z (w.setCell ⟨wb, 5, none⟩ (.int .i64 (n : Int))) wb p c j g room nb fr bl K n tried tl td hb hc H ta tc vs Us Ls n1 cs d s := by
 have hbt : But (fun k => k = wb) w (w.setCell ⟨wb, 5, none⟩ (.int .i64 (n : Int))) := (But.refl (fun k => k = wb) w).setCell rfl _
 exact ⟨h.wd.set5 _, h.lg.but hbt (fun _ _ q => .inr (.inl q)) _ (fun _ _ q => q), h.jq.but hbt (fun k _ q r => h.zw (by rw [← r]; exact q)), h.fu, h.tr.but hbt (fun k _ q r => h.tw (by rw [← r]; exact .inr q)), owns_keep h.ls (fun k e => hbt.block k (World.ownsRow.lt h.ls k e).2 (fun r => h.tw (by rw [← r]; exact .inl e))), h.n1, h.nl, h.zw, h.zt, h.tw, h.lt, fun k q => Nat.lt_of_lt_of_le (h.zb k q) hbt.size, h.lo, h.fit, h.r1, h.r2⟩
def FluW (W : Nat → Prop) (w : World) (wb room nb fr bl K : Nat) (H : List Int) (Us : List (List Pm)) (e : Ending) (w' : World) : Prop :=
 e = .returned (.bool true) ∧ But W w w' ∧ ∃ W', WD W' w' wb room nb fr bl K Us.length H Us ∧ (∀ k, k < w.heap.size → W' k → W k)
set_option maxRecDepth 100000 in
set_option maxHeartbeats 4000000 in
theorem lasts_any {Z : Nat → Prop} {w : World} {wb p c j g room nb fr bl K lasted : Nat} {tried tl td : Value} {hb hc : Nat} {H : List Int} {ta : Option Addr} {tc : Nat} {vs : List Value} {Us : List (List Pm)} {Ls : List Ln} {n1 : Nat} {cs : List Value} {d : Pd} {s : Js} (h : Wx Z w wb p c j g room nb fr bl K lasted tried tl td hb hc H ta tc vs Us Ls n1 cs d s) : Calls Tryz.prog 46 #[.pointer (some ⟨wb, 0, none⟩), .int .i64 0] w fun e w' => e = .returned (.bool true) ∧ w' = w.setCell ⟨wb, 5, none⟩ (.int .i64 (Us.length : Int)) := by
 have k3 : w.cell? ⟨wb, 3, none⟩ = some (.pointer (some ⟨g, 0, none⟩)) := h.wd.cell 3
 have k5 : w.cell? ⟨wb, 5, none⟩ = some (.int .i64 (lasted : Int)) := h.wd.cell 5
 have f5 := h.wd.frozen 5
 have c3 := h.lg.lg.c3
 have HN := hid (num_any 0)
 obtain ⟨n, hn⟩ : ∃ n, n = Us.length := ⟨_, rfl⟩
 rw [← hn] at c3 ⊢
 clear h hn
 go_enter Tryz.func46, Tryz.ntmps46
 go_wp2_with fail
 refine Calls.mono (HN.out _) ?_
 rintro e w9 ⟨rfl, hw9⟩
 rw [hw9]
 clear hw9
 go_wp2_with fail
 refine Calls.mono (HN.out _) ?_
 rintro e w9 ⟨rfl, hw9⟩
 rw [hw9]
 clear hw9
 go_wp2
 go_ret
 exact ⟨rfl, rfl⟩
set_option maxRecDepth 100000 in
set_option maxHeartbeats 4000000 in
theorem act_append {W : Nat → Prop} {w : World} {wb room nb fr bl K lasted : Nat} {H : List Int} {Us : List (List Pm)} (hWD : WD W w wb room nb fr bl K lasted H Us) (at_ keep again : Int) (a0 : Option Addr) (cp : Nat) (ps : List Pm) (hR : RdP W w a0 ps) (hN : ps.length ≤ 536870912) (hd : ∀ p ∈ ps, p.data.length ≤ 16777216 ∧ (p.ad = none → p.cap = 0)) :
  Calls Tryz.prog 11 #[.pointer (some ⟨wb, 0, none⟩), .agg #[.int .i64 1, .int .i64 at_, .slice a0 ps.length cp, .int .u64 keep, .int .i64 (-1), .int .i64 again]] w (AppW W w wb room nb fr bl K lasted H Us ps) := by
 obtain ⟨PO, hPO⟩ : ∃ PO : Ending → World → Prop, PO = AppW W w wb room nb fr bl K lasted H Us ps := ⟨_, rfl⟩
 rw [← hPO]
 obtain ⟨N, hNe⟩ : ∃ N, N = ps.length := ⟨_, rfl⟩
 obtain ⟨w1, hw1⟩ : ∃ w1, w1 = w.alloc (.cells #[.int .i64 1, .int .i64 at_, .slice a0 N cp, .int .u64 keep, .int .i64 (-1), .int .i64 again] 33) := ⟨_, rfl⟩
 have b1 : Below w.heap.size w w1 := by rw [hw1]; exact (Below.refl _ _).alloc (Nat.le_refl _) _
 have HA : Hid (Calls Tryz.prog 41 #[.pointer (some ⟨wb, 0, none⟩), .slice a0 N cp] w1 fun e w2 => ∃ b, e = .returned (.bool b) ∧ PO (.returned (.bool b)) w2) := by
  rw [hNe]
  refine Calls.mono (append_any (hWD.below b1) a0 cp ps (hR.low b1) hN hd) ?_
  rintro e w2 ⟨rfl, q1, W', Us', q2, q3, q4⟩
  refine ⟨true, rfl, ?_⟩
  rw [hPO]
  exact ⟨rfl, (But.of_below b1 (X := W)).comp q1 (fun _ _ q => q), W', Us', q2, fun k hk q => q3 k (Nat.lt_of_lt_of_le hk b1.size) q, q4⟩
 have HW1 := hid hw1
 rw [← hNe]
 clear hWD hR hN hd hPO hNe hw1 b1
 go_enter Tryz.func11, Tryz.ntmps11
 go_wp2_with fail
 rw [← HW1.out]
 refine Calls.mono HA.out ?_
 rintro e w2 ⟨b, rfl, hP⟩
 have FIN := hid hP
 clear hP HA
 go_wp2
 exact FIN.out
set_option maxRecDepth 100000 in
set_option maxHeartbeats 4000000 in
theorem act_flush {W : Nat → Prop} {w : World} {wb room nb fr bl K lasted : Nat} {H : List Int} {Us : List (List Pm)} (hWD : WD W w wb room nb fr bl K lasted H Us) (at_ keep again : Int) (pv : Value) :
  Calls Tryz.prog 11 #[.pointer (some ⟨wb, 0, none⟩), .agg #[.int .i64 3, .int .i64 at_, pv, .int .u64 keep, .int .i64 (-1), .int .i64 again]] w (FluW W w wb room nb fr bl K H Us) := by
 obtain ⟨PO, hPO⟩ : ∃ PO : Ending → World → Prop, PO = FluW W w wb room nb fr bl K H Us := ⟨_, rfl⟩
 rw [← hPO]
 obtain ⟨w1, hw1⟩ : ∃ w1, w1 = w.alloc (.cells #[.int .i64 3, .int .i64 at_, pv, .int .u64 keep, .int .i64 (-1), .int .i64 again] 33) := ⟨_, rfl⟩
 have b1 : Below w.heap.size w w1 := by rw [hw1]; exact (Below.refl _ _).alloc (Nat.le_refl _) _
 have hWD1 := hWD.below b1
 obtain ⟨Z, p, c, j, g, tried, tl, td, hb, hc, ta, tc, vs, Ls, n1, cs, d, s, h, hOn, hW⟩ := hWD1
 have k2 : w1.cell? ⟨wb, 2, none⟩ = some (.pointer (some ⟨j, 0, none⟩)) := h.wd.cell 2
 have k2' : (w.alloc (.cells #[.int .i64 3, .int .i64 at_, pv, .int .u64 keep, .int .i64 (-1), .int .i64 again] 33)).cell? ⟨wb, 2, none⟩ = some (.pointer (some ⟨j, 0, none⟩)) := by rw [← hw1]; exact k2
 have hpl := hOn.puts h.lo h.fit h.nb
 have HF : Hid (Calls Tryz.prog 45 #[.pointer (some ⟨j, 0, none⟩)] w1 fun e w2 => e = .returned (.int .i64 0) ∧ Calls Tryz.prog 46 #[.pointer (some ⟨wb, 0, none⟩), .int .i64 0] w2 fun e w3 => ∃ b, e = .returned (.bool b) ∧ PO (.returned (.bool b)) w3) := by
  have hnb9 := h.nb
  refine Calls.mono (Flush_on h.jq hOn.on (by omega)) ?_
  rintro e w2 ⟨rfl, ⟨Z', s', q1, q2, q3⟩, q4⟩
  obtain ⟨f1, _, f3⟩ := Pd.runs_free hOn.on h.fu [.fl]
  rw [f1]
  have hq := q2 f1
  rw [hq] at q1
  have x2 := h.turn q1.cut (fun k q => q.2) (fun k hk q => q3 k hk q.1) q4 f3
  refine ⟨rfl, Calls.mono (lasts_any x2) ?_⟩
  rintro e w3 ⟨rfl, rfl⟩
  refine ⟨true, rfl, ?_⟩
  rw [hPO]
  have hon := (hOn.flush h.jq.fits.1 h.lo h.fit h.nb).1 f1
  have hUl : (plainT Us).length = Us.length := by simp [plainT]
  rw [hUl] at hon
  refine ⟨rfl, ?_, _, ⟨_, p, c, j, g, tried, tl, td, hb, hc, ta, tc, vs, Ls, n1, cs, _, s, x2.lasts Us.length, hon, rfl⟩, fun k hk q => ?_⟩
  ·have c1 : But W w w2 := (But.of_below b1 (X := W)).comp q4 (fun k _ q => by rw [hW]; exact .inl (.inl q))
   exact c1.setCell (by rw [hW]; exact .inl (.inr (.inl rfl))) _
  ·rw [hW]
   rcases q with (q | q) | q
   ·exact .inl (.inl (q3 k (Nat.lt_of_lt_of_le hk b1.size) q.1))
   ·exact .inl (.inr q)
   ·exact .inr q
 have HW1 := hid hw1
 clear hWD h hOn hW hPO hw1 b1 hpl
 go_enter Tryz.func11, Tryz.ntmps11
 go_wp2_with fail
 rw [← HW1.out]
 refine Calls.mono HF.out ?_
 rintro e w2 ⟨rfl, hL⟩
 have HL := hid hL
 clear hL HF
 go_wp2_with fail
 refine Calls.mono HL.out ?_
 rintro e w3 ⟨b, rfl, hP⟩
 have FIN := hid hP
 clear hP HL
 go_wp2
 exact FIN.out
end Go.Proofs.YtldlejpacgphmaaGreat
namespace Go.Proofs.YtldlejpacgphmaaGreat
open Go.RowKit Go.Deep
def StW (W : Nat → Prop) (w : World) (wb room nb fr bl K lasted : Nat) (H : List Int) (Us : List (List Pm)) (e : Ending) (w' : World) : Prop :=
 e = .returned (.bool true) ∧ But W w w' ∧ ∃ W', WD W' w' wb room nb fr bl K lasted H Us ∧ (∀ k, k < w.heap.size → W' k → W k)
theorem WD.monoK {W : Nat → Prop} {w : World} {wb room nb fr bl K K' lasted : Nat} {H : List Int} {Us : List (List Pm)} (h : WD W w wb room nb fr bl K lasted H Us) (hK : K ≤ K') : WD W w wb room nb fr bl K' lasted H Us := by
 obtain ⟨Z, p, c, j, g, tried, tl, td, hb, hc, ta, tc, vs, Ls, n1, cs, d, s, h, hOn, hW⟩ := h
 exact ⟨Z, p, c, j, g, tried, tl, td, hb, hc, ta, tc, vs, Ls, n1, cs, d, s, ⟨h.wd, h.lg, h.jq.monoK hK, h.fu, h.tr, h.ls, h.n1, h.nl, h.zw, h.zt, h.tw, h.lt, h.zb, h.lo, h.fit, h.r1, h.r2⟩, hOn, hW⟩
theorem Jq.drew {Z : Nat → Prop} {w : World} {j c p room nb K fr bl : Nat} {d : Pd} {s : Js} (h : Jq Z w j c p room nb K fr bl d s) : Jq Z w.drew j c p room nb K fr bl d s := h.keep (fun _ _ _ => rfl) (Nat.le_refl _)
theorem homeC_far {nb fr bl : Nat} {at_ : Int} (h : homeC nb fr bl at_ ≠ 0) : homeC nb fr bl at_ = 42 := by
 unfold homeC at h ⊢
 split
 ·rfl
 ·rw [if_neg (by assumption)] at h
  exact absurd rfl h
set_option maxRecDepth 100000 in
theorem refRead_far {w : World} {g : Nat} {ha : Option Addr} {nb hc fr bl : Nat} {ta : Option Addr} {tn tc : Nat} (h : Lg w g ha nb hc fr bl ta tn tc) (hnb : nb ≤ 524288) (hfit : fr + bl ≤ nb) (at_ : Int) (hh : homeC nb fr bl at_ ≠ 0) :
  Calls Tryz.prog 44 #[.pointer (some ⟨g, 0, none⟩), .int .i64 at_] w fun e w' => e = .returned (.tuple #[.slice none 0 0, .int .i64 42]) ∧ Below w.heap.size w w' := by
 have HA := hid (refAt_any h hnb hfit at_)
 rw [homeC_far hh] at HA
 clear h hh
 go_enter Tryz.func44, Tryz.ntmps44
 go_wp2_with fail
 refine Calls.mono HA.out ?_
 rintro e w1 ⟨rfl, b1⟩
 have B1 := hid b1
 clear b1 HA
 go_wp2
 go_ret2
 exact ⟨rfl, B1.out⟩
set_option maxRecDepth 100000 in
theorem refRead_home {X : Nat → Prop} {w : World} {g hb hc nb fr bl : Nat} {H : List Int} {ta : Option Addr} {tc : Nat} {vs : List Value} {Us : List (List Pm)} (h : LgW X w g hb hc nb fr bl H ta tc vs Us) (hnb : nb ≤ 524288) (hfit : fr + bl ≤ nb) (x : Nat) (hx : x < nb) (hUs : Us.length ≤ 1099511627776) (hh : homeC nb fr bl (x : Int) = 0) :
  Calls Tryz.prog 44 #[.pointer (some ⟨g, 0, none⟩), .int .i64 (x : Int)] w fun e w' => ∃ g' cp, e = .returned (.tuple #[.slice (some ⟨g', 0, none⟩) 512 cp, .int .i64 0]) ∧ w.heap.size ≤ g' ∧ Own w' g' 512 cp (contT (imgB H) (plainT Us) Us.length x) ∧ Below w.heap.size w w' := by
 have HA := hid (refAt_any h.lg hnb hfit (x : Int))
 rw [hh] at HA
 have HK : Hid (∀ w', Below w.heap.size w w' → w'.cell? ⟨g, 3, none⟩ = some (.slice ta Us.length tc) ∧ Calls Tryz.prog 17 #[.pointer (some ⟨g, 0, none⟩), .int .i64 (x : Int), .int .i64 (Us.length : Int)] w' fun e w'' => ∃ g' cp, e = .returned (.slice (some ⟨g', 0, none⟩) 512 cp) ∧ w'.heap.size ≤ g' ∧ Own w'' g' 512 cp (contT (imgB H) (plainT Us) Us.length x) ∧ Below w'.heap.size w' w'') := fun w' hb' => by
  have h' := h.below hb' X (fun _ _ q => q)
  exact ⟨h'.lg.c3, refBehind_any h' hnb x hx Us.length (Nat.le_refl _) hUs⟩
 obtain ⟨n, hn⟩ : ∃ n, n = Us.length := ⟨_, rfl⟩
 rw [← hn] at HK ⊢
 have hn2 : n ≤ 1099511627776 := by omega
 clear h hh hn hUs
 go_enter Tryz.func44, Tryz.ntmps44
 go_wp2_with fail
 refine Calls.mono HA.out ?_
 rintro e w1 ⟨rfl, b1⟩
 obtain ⟨c3, hB⟩ := HK.out w1 b1
 have HB := hid hB
 have B1 := hid b1
 clear b1 HA hB HK
 go_wp2_with fail
 refine Calls.mono HB.out ?_
 rintro e w2 ⟨g', cp, rfl, q1, q2, q3⟩
 have FIN : Hid (w.heap.size ≤ g' ∧ Own w2 g' 512 cp (contT (imgB H) (plainT Us) n x) ∧ Below w.heap.size w w2) := ⟨Nat.le_trans B1.out.size q1, q2, B1.out.trans (q3.mono B1.out.size)⟩
 clear q1 q2 q3 HB B1
 go_wp2
 go_ret2
 exact ⟨g', cp, rfl, FIN.out⟩
set_option maxRecDepth 100000 in
set_option maxHeartbeats 4000000 in
theorem act_none {W : Nat → Prop} {w : World} {wb room nb fr bl K lasted : Nat} {H : List Int} {Us : List (List Pm)} (hWD : WD W w wb room nb fr bl K lasted H Us) (kd at_ keep again : Int) (pv : Value) (n1 : ¬ kd = 1) (n2 : ¬ kd = 2) (n3 : ¬ kd = 3) (n4 : ¬ kd = 4) (n5 : ¬ kd = 5) (n6 : ¬ kd = 6) (n7 : ¬ kd = 7) (n9 : ¬ kd = 9) :
  Calls Tryz.prog 11 #[.pointer (some ⟨wb, 0, none⟩), .agg #[.int .i64 kd, .int .i64 at_, pv, .int .u64 keep, .int .i64 (-1), .int .i64 again]] w (StW W w wb room nb fr bl K lasted H Us) := by
 obtain ⟨w1, hw1⟩ : ∃ w1, w1 = w.alloc (.cells #[.int .i64 kd, .int .i64 at_, pv, .int .u64 keep, .int .i64 (-1), .int .i64 again] 33) := ⟨_, rfl⟩
 have b1 : Below w.heap.size w w1 := by rw [hw1]; exact (Below.refl _ _).alloc (Nat.le_refl _) _
 have FIN : Hid (StW W w wb room nb fr bl K lasted H Us (.returned (.bool true)) w1) := ⟨rfl, But.of_below b1, W, hWD.below b1, fun _ _ q => q⟩
 rw [hw1] at FIN
 generalize StW W w wb room nb fr bl K lasted H Us = PO at *
 clear hWD hw1 b1
 go_enter Tryz.func11, Tryz.ntmps11
 go_wp2
 exact FIN.out
set_option maxRecDepth 100000 in
set_option maxHeartbeats 4000000 in
theorem act_seq {W : Nat → Prop} {w : World} {wb room nb fr bl K lasted : Nat} {H : List Int} {Us : List (List Pm)} (hWD : WD W w wb room nb fr bl K lasted H Us) (at_ keep again : Int) (pv : Value) :
  Calls Tryz.prog 11 #[.pointer (some ⟨wb, 0, none⟩), .agg #[.int .i64 5, .int .i64 at_, pv, .int .u64 keep, .int .i64 (-1), .int .i64 again]] w (StW W w wb room nb fr bl K lasted H Us) := by
 obtain ⟨w1, hw1⟩ : ∃ w1, w1 = w.alloc (.cells #[.int .i64 5, .int .i64 at_, pv, .int .u64 keep, .int .i64 (-1), .int .i64 again] 33) := ⟨_, rfl⟩
 have b1 : Below w.heap.size w w1 := by rw [hw1]; exact (Below.refl _ _).alloc (Nat.le_refl _) _
 have HWD := hid (hWD.below b1)
 obtain ⟨Z, p, c, j, g, tried, tl, td, hb, hc, ta, tc, vs, Ls, n1, cs, d, s, h, hOn, hW⟩ := hWD.below b1
 have hsq := (hOn.us h.lo h.fit h.nb)
 obtain ⟨hD, _, _⟩ := h.jq.dk
 have k2' : (w.alloc (.cells #[.int .i64 5, .int .i64 at_, pv, .int .u64 keep, .int .i64 (-1), .int .i64 again] 33)).cell? ⟨wb, 2, none⟩ = some (.pointer (some ⟨j, 0, none⟩)) := by rw [← hw1]; exact h.wd.cell 2
 have HK : Hid (∀ w', Below w1.heap.size w1 w' → w'.cell? ⟨wb, 0, none⟩ = some (.pointer (some ⟨p, 0, none⟩)) ∧ w'.cell? ⟨wb, 3, none⟩ = some (.pointer (some ⟨g, 0, none⟩)) ∧ w'.cell? ⟨g, 3, none⟩ = some (.slice ta Us.length tc) ∧ Calls Tryz.prog 37 #[.pointer (some ⟨p, 0, none⟩)] w' fun e w'' => e = .returned (.bool true) ∧ Below w'.heap.size w' w'') := fun w' hb' => by
  have h' := h.below hb'
  have ho := On_any h'.jq.dk.1
  rw [hOn.on] at ho
  exact ⟨h'.wd.cell 0, h'.wd.cell 3, h'.lg.lg.c3, ho⟩
 have HS := hid (Seq_any h.jq)
 rw [hOn.on, hsq.1] at HS
 simp only [Bool.false_eq_true, ↓reduceIte] at HS
 obtain ⟨n, hn⟩ : ∃ n, n = Us.length := ⟨_, rfl⟩
 rw [← hn] at HK HS
 have HF : Hid (∀ w', Below w1.heap.size w1 w' → StW W w wb room nb fr bl K lasted H Us (.returned (.bool true)) w') := fun w' hb' => ⟨rfl, But.of_below (b1.trans (hb'.mono b1.size)), W, HWD.out.below hb', fun _ _ q => q⟩
 have HN := hid (num_any 0)
 have HW1 := hid hw1
 generalize StW W w wb room nb fr bl K lasted H Us = PO at *
 have HB1 : Hid (∀ w2 w3, Below w1.heap.size w1 w2 → Below w2.heap.size w2 w3 → Below w1.heap.size w1 w3) := fun w2 w3 x y => x.trans (y.mono x.size)
 clear hWD h hOn hW hw1 b1 hD hsq hn HWD
 go_enter Tryz.func11, Tryz.ntmps11
 go_wp2_with fail
 rw [← HW1.out]
 refine Calls.mono HS.out ?_
 rintro e w2 ⟨rfl, b2⟩
 obtain ⟨l0, l3, lg, hO⟩ := HK.out w2 b2
 have B2 := hid b2
 have HO := hid hO
 clear HS b2 hO k2'
 go_wp2_with fail
 refine Calls.mono HO.out ?_
 rintro e w3 ⟨rfl, b3⟩
 have B3 := hid (HB1.out w2 w3 B2.out b3)
 obtain ⟨m0, m3, mg, _⟩ := HK.out w3 B3.out
 have FIN := hid (HF.out w3 B3.out)
 clear HO b3 B2 HK HF B3 l0 l3 lg HB1
 go_wp2_with fail
 refine Calls.mono (HN.out w3) ?_
 rintro e w9 ⟨rfl, hw9⟩
 rw [hw9]
 clear hw9
 go_wp2
 exact FIN.out
set_option maxRecDepth 100000 in
set_option maxHeartbeats 4000000 in
theorem act_check {W : Nat → Prop} {w : World} {wb room nb fr bl K lasted : Nat} {H : List Int} {Us : List (List Pm)} (hWD : WD W w wb room nb fr bl K lasted H Us) (at_ keep again : Int) (pv : Value) :
  Calls Tryz.prog 11 #[.pointer (some ⟨wb, 0, none⟩), .agg #[.int .i64 4, .int .i64 at_, pv, .int .u64 keep, .int .i64 (-1), .int .i64 again]] w (FluW W w wb room nb fr bl K H Us) := by
 obtain ⟨PO, hPO⟩ : ∃ PO : Ending → World → Prop, PO = FluW W w wb room nb fr bl K H Us := ⟨_, rfl⟩
 rw [← hPO]
 obtain ⟨w1, hw1⟩ : ∃ w1, w1 = w.alloc (.cells #[.int .i64 4, .int .i64 at_, pv, .int .u64 keep, .int .i64 (-1), .int .i64 again] 33) := ⟨_, rfl⟩
 have b1 : Below w.heap.size w w1 := by rw [hw1]; exact (Below.refl _ _).alloc (Nat.le_refl _) _
 have hWD1 := hWD.below b1
 obtain ⟨Z, p, c, j, g, tried, tl, td, hb, hc, ta, tc, vs, Ls, n1, cs, d, s, h, hOn, hW⟩ := hWD1
 have k2' : (w.alloc (.cells #[.int .i64 4, .int .i64 at_, pv, .int .u64 keep, .int .i64 (-1), .int .i64 again] 33)).cell? ⟨wb, 2, none⟩ = some (.pointer (some ⟨j, 0, none⟩)) := by rw [← hw1]; exact h.wd.cell 2
 have hpl := hOn.puts h.lo h.fit h.nb
 have HF : Hid (Calls Tryz.prog 47 #[.pointer (some ⟨j, 0, none⟩)] w1 fun e w2 => e = .returned (.int .i64 0) ∧ Calls Tryz.prog 46 #[.pointer (some ⟨wb, 0, none⟩), .int .i64 0] w2 fun e w3 => ∃ b, e = .returned (.bool b) ∧ PO (.returned (.bool b)) w3) := by
  have hnb9 := h.nb
  have hfit9 := h.fit
  refine Calls.mono (Checkpoint_on h.jq (hOn.jn h.lo h.fit h.nb) hOn.on (by omega)) ?_
  rintro e w2 ⟨rfl, ⟨Z', s', q1, q2, q3⟩, q4⟩
  obtain ⟨f1, _, f3⟩ := Pd.runs_free hOn.on h.fu (settleCmds nb fr bl s)
  rw [f1]
  have hq := q2 f1
  rw [hq] at q1
  have x2 := h.turn q1.cut (fun k q => q.2) (fun k hk q => q3 k hk q.1) q4 f3
  refine ⟨rfl, Calls.mono (lasts_any x2) ?_⟩
  rintro e w3 ⟨rfl, rfl⟩
  refine ⟨true, rfl, ?_⟩
  rw [hPO]
  have hon := ((hOn.settle h.jq.fits.1 h.lo h.fit h.nb).1 f1).1
  have hUl : (plainT Us).length = Us.length := by simp [plainT]
  rw [hUl] at hon
  refine ⟨rfl, ?_, _, ⟨_, p, c, j, g, tried, tl, td, hb, hc, ta, tc, vs, Ls, n1, cs, _, _, x2.lasts Us.length, hon, rfl⟩, fun k hk q => ?_⟩
  ·have c1 : But W w w2 := (But.of_below b1 (X := W)).comp q4 (fun k _ q => by rw [hW]; exact .inl (.inl q))
   exact c1.setCell (by rw [hW]; exact .inl (.inr (.inl rfl))) _
  ·rw [hW]
   rcases q with (q | q) | q
   ·exact .inl (.inl (q3 k (Nat.lt_of_lt_of_le hk b1.size) q.1))
   ·exact .inl (.inr q)
   ·exact .inr q
 have HW1 := hid hw1
 clear hWD h hOn hW hPO hw1 b1 hpl
 go_enter Tryz.func11, Tryz.ntmps11
 go_wp2_with fail
 rw [← HW1.out]
 refine Calls.mono HF.out ?_
 rintro e w2 ⟨rfl, hL⟩
 have HL := hid hL
 clear hL HF
 go_wp2_with fail
 refine Calls.mono HL.out ?_
 rintro e w3 ⟨b, rfl, hP⟩
 have FIN := hid hP
 clear hP HL
 go_wp2
 exact FIN.out
end Go.Proofs.YtldlejpacgphmaaGreat
