import Derived.Test.YtldlejpacgphmabGreatG31
import Derived.Deep.RegionHeld3
import Derived.Test.YtldlejpacgphmabGreatG22
namespace Go.Proofs.YtldlejpacgphmabGreat
open Go.RowKit Go.Deep
variable {X0 : Nat → Prop}
def StW (X0 W : Nat → Prop) (w : World) (wb room nb fr bl K lasted : Nat) (H : List Int) (Us : List (List Pm)) (e : Ending) (w' : World) : Prop :=
 e = .returned (.bool true) ∧ But W w w' ∧ ∃ W', WD X0 W' w' wb room nb fr bl K lasted H Us ∧ (∀ k, k < w.heap.size → W' k → W k)
theorem WD.monoK {W : Nat → Prop} {w : World} {wb room nb fr bl K K' lasted : Nat} {H : List Int} {Us : List (List Pm)} (h : WD X0 W w wb room nb fr bl K lasted H Us) (hK : K ≤ K') : WD X0 W w wb room nb fr bl K' lasted H Us := by
 obtain ⟨Z, p, c, j, g, tried, tl, td, hb, hc, ta, tc, vs, Ls, n1, cs, d, s, h, hOn, hW⟩ := h
 exact ⟨Z, p, c, j, g, tried, tl, td, hb, hc, ta, tc, vs, Ls, n1, cs, d, s, ⟨h.wd, h.lg, h.jq.monoK hK, h.fu, h.tr, h.ls, h.n1, h.nl, h.zw, h.zt, h.tw, h.lt, h.zb, h.lo, h.fit, h.r1, h.r2, h.x0⟩, hOn, hW⟩
theorem Jq.drew {Z : Nat → Prop} {w : World} {j c p room nb K fr bl : Nat} {d : Pd} {s : Js} (h : Jq Z w j c p room nb K fr bl d s) : Jq Z w.drew j c p room nb K fr bl d s := h.keep (fun _ _ _ => rfl) (Nat.le_refl _)
theorem homeC_far {nb fr bl : Nat} {at_ : Int} (h : homeC nb fr bl at_ ≠ 0) : homeC nb fr bl at_ = 42 := by
 unfold homeC at h ⊢
 split
 ·rfl
 ·rw [if_neg (by assumption)] at h
  exact absurd rfl h
set_option maxRecDepth 100000 in
theorem refRead_far {w : World} {g : Nat} {ha : Option Addr} {nb hc fr bl : Nat} {ta : Option Addr} {tn tc : Nat} (h : Lg w g ha nb hc fr bl ta tn tc) (hnb : nb ≤ 524288) (hfit : fr + bl ≤ nb) (at_ : Int) (hh : homeC nb fr bl at_ ≠ 0) :
  Calls Tryz.prog 46 #[.pointer (some ⟨g, 0, none⟩), .int .i64 at_] w fun e w' => e = .returned (.tuple #[.slice none 0 0, .int .i64 42]) ∧ Below w.heap.size w w' := by
 have HA := hid (refAt_any h hnb hfit at_)
 rw [homeC_far hh] at HA
 clear h hh
 go_enter Tryz.func46, Tryz.ntmps46
 go_wp2_with fail
 refine Calls.mono HA.out ?_
 rintro e w1 ⟨rfl, b1⟩
 have B1 := hid b1
 clear b1 HA
 go_wp2
 go_ret2
 exact ⟨rfl, B1.out⟩
set_option maxRecDepth 100000 in
theorem refRead_home {X : Nat → Prop} {w : World} {g hb hc nb fr bl : Nat} {H : List Int} {ta : Option Addr} {tc : Nat} {vs : List Value} {Us : List (List Pm)} (h : LgW X w g hb hc nb fr bl H ta tc vs Us) (hnb : nb ≤ 524288) (hfit : fr + bl ≤ nb) (x : Nat) (hx : x < nb) (hUs : Us.length ≤ 1099511627776) (hh : homeC nb fr bl (x : Int) = 0) :
  Calls Tryz.prog 46 #[.pointer (some ⟨g, 0, none⟩), .int .i64 (x : Int)] w fun e w' => ∃ g' cp, e = .returned (.tuple #[.slice (some ⟨g', 0, none⟩) 512 cp, .int .i64 0]) ∧ w.heap.size ≤ g' ∧ Own w' g' 512 cp (contT (imgB H) (plainT Us) Us.length x) ∧ Below w.heap.size w w' := by
 have HA := hid (refAt_any h.lg hnb hfit (x : Int))
 rw [hh] at HA
 have HK : Hid (∀ w', Below w.heap.size w w' → w'.cell? ⟨g, 3, none⟩ = some (.slice ta Us.length tc) ∧ Calls Tryz.prog 78 #[.pointer (some ⟨g, 0, none⟩), .int .i64 (x : Int), .int .i64 (Us.length : Int)] w' fun e w'' => ∃ g' cp, e = .returned (.slice (some ⟨g', 0, none⟩) 512 cp) ∧ w'.heap.size ≤ g' ∧ Own w'' g' 512 cp (contT (imgB H) (plainT Us) Us.length x) ∧ Below w'.heap.size w' w'') := fun w' hb' => by
  have h' := h.below hb' X (fun _ _ q => q)
  exact ⟨h'.lg.c3, refBehind_any h' hnb x hx Us.length (Nat.le_refl _) hUs⟩
 obtain ⟨n, hn⟩ : ∃ n, n = Us.length := ⟨_, rfl⟩
 rw [← hn] at HK ⊢
 have hn2 : n ≤ 1099511627776 := by omega
 clear h hh hn hUs
 go_enter Tryz.func46, Tryz.ntmps46
 go_wp2_with fail
 refine Calls.mono HA.out ?_
 rintro e w1 ⟨rfl, b1⟩
 obtain ⟨c3, hB⟩ := HK.out w1 b1
 have HB := hid hB
 have B1 := hid b1
 clear b1 HA hB HK
 go_wp2_with fail
 refine Calls.mono HB.out ?_
 rintro e w2 ⟨g', cp, rfl, q1, q2, q3⟩
 have FIN : Hid (w.heap.size ≤ g' ∧ Own w2 g' 512 cp (contT (imgB H) (plainT Us) n x) ∧ Below w.heap.size w w2) := ⟨Nat.le_trans B1.out.size q1, q2, B1.out.trans (q3.mono B1.out.size)⟩
 clear q1 q2 q3 HB B1
 go_wp2
 go_ret2
 exact ⟨g', cp, rfl, FIN.out⟩
set_option maxRecDepth 100000 in
set_option maxHeartbeats 4000000 in
theorem act_none {W : Nat → Prop} {w : World} {wb room nb fr bl K lasted : Nat} {H : List Int} {Us : List (List Pm)} (hWD : WD X0 W w wb room nb fr bl K lasted H Us) (kd at_ keep again : Int) (pv : Value) (n1 : ¬ kd = 1) (n2 : ¬ kd = 2) (n3 : ¬ kd = 3) (n4 : ¬ kd = 4) (n5 : ¬ kd = 5) (n6 : ¬ kd = 6) (n7 : ¬ kd = 7) (n9 : ¬ kd = 9) :
  Calls Tryz.prog 11 #[.pointer (some ⟨wb, 0, none⟩), .agg #[.int .i64 kd, .int .i64 at_, pv, .int .u64 keep, .int .i64 (-1), .int .i64 again]] w (StW X0 W w wb room nb fr bl K lasted H Us) := by
 obtain ⟨w1, hw1⟩ : ∃ w1, w1 = w.alloc (.cells #[.int .i64 kd, .int .i64 at_, pv, .int .u64 keep, .int .i64 (-1), .int .i64 again] 38) := ⟨_, rfl⟩
 have b1 : Below w.heap.size w w1 := by rw [hw1]; exact (Below.refl _ _).alloc (Nat.le_refl _) _
 have FIN : Hid (StW X0 W w wb room nb fr bl K lasted H Us (.returned (.bool true)) w1) := ⟨rfl, But.of_below b1, W, hWD.below b1, fun _ _ q => q⟩
 rw [hw1] at FIN
 generalize StW X0 W w wb room nb fr bl K lasted H Us = PO at *
 clear hWD hw1 b1
 go_enter Tryz.func11, Tryz.ntmps11
 go_wp2
 exact FIN.out
set_option maxRecDepth 100000 in
set_option maxHeartbeats 4000000 in
theorem act_seq {W : Nat → Prop} {w : World} {wb room nb fr bl K lasted : Nat} {H : List Int} {Us : List (List Pm)} (hWD : WD X0 W w wb room nb fr bl K lasted H Us) (at_ keep again : Int) (pv : Value) :
  Calls Tryz.prog 11 #[.pointer (some ⟨wb, 0, none⟩), .agg #[.int .i64 5, .int .i64 at_, pv, .int .u64 keep, .int .i64 (-1), .int .i64 again]] w (StW X0 W w wb room nb fr bl K lasted H Us) := by
 obtain ⟨w1, hw1⟩ : ∃ w1, w1 = w.alloc (.cells #[.int .i64 5, .int .i64 at_, pv, .int .u64 keep, .int .i64 (-1), .int .i64 again] 38) := ⟨_, rfl⟩
 have b1 : Below w.heap.size w w1 := by rw [hw1]; exact (Below.refl _ _).alloc (Nat.le_refl _) _
 have HWD := hid (hWD.below b1)
 obtain ⟨Z, p, c, j, g, tried, tl, td, hb, hc, ta, tc, vs, Ls, n1, cs, d, s, h, hOn, hW⟩ := hWD.below b1
 have hsq := (hOn.us h.lo h.fit h.nb)
 obtain ⟨hD, _, _⟩ := h.jq.dk
 have k2' : (w.alloc (.cells #[.int .i64 5, .int .i64 at_, pv, .int .u64 keep, .int .i64 (-1), .int .i64 again] 38)).cell? ⟨wb, 2, none⟩ = some (.pointer (some ⟨j, 0, none⟩)) := by rw [← hw1]; exact h.wd.cell 2
 have HK : Hid (∀ w', Below w1.heap.size w1 w' → w'.cell? ⟨wb, 0, none⟩ = some (.pointer (some ⟨p, 0, none⟩)) ∧ w'.cell? ⟨wb, 3, none⟩ = some (.pointer (some ⟨g, 0, none⟩)) ∧ w'.cell? ⟨g, 3, none⟩ = some (.slice ta Us.length tc) ∧ Calls Tryz.prog 47 #[.pointer (some ⟨p, 0, none⟩)] w' fun e w'' => e = .returned (.bool true) ∧ Below w'.heap.size w' w'') := fun w' hb' => by
  have h' := h.below hb'
  have ho := On_any h'.jq.dk.1
  rw [hOn.on] at ho
  exact ⟨h'.wd.cell 0, h'.wd.cell 3, h'.lg.lg.c3, ho⟩
 have HS := hid (Seq_any h.jq)
 rw [hOn.on, hsq.1] at HS
 simp only [Bool.false_eq_true, ↓reduceIte] at HS
 obtain ⟨n, hn⟩ : ∃ n, n = Us.length := ⟨_, rfl⟩
 rw [← hn] at HK HS
 have HF : Hid (∀ w', Below w1.heap.size w1 w' → StW X0 W w wb room nb fr bl K lasted H Us (.returned (.bool true)) w') := fun w' hb' => ⟨rfl, But.of_below (b1.trans (hb'.mono b1.size)), W, HWD.out.below hb', fun _ _ q => q⟩
 have HN := hid (num_any 0)
 have HW1 := hid hw1
 generalize StW X0 W w wb room nb fr bl K lasted H Us = PO at *
 have HB1 : Hid (∀ w2 w3, Below w1.heap.size w1 w2 → Below w2.heap.size w2 w3 → Below w1.heap.size w1 w3) := fun w2 w3 x y => x.trans (y.mono x.size)
 clear hWD h hOn hW hw1 b1 hD hsq hn HWD
 go_enter Tryz.func11, Tryz.ntmps11
 go_wp2_with fail
 rw [← HW1.out]
 refine Calls.mono HS.out ?_
 rintro e w2 ⟨rfl, b2⟩
 obtain ⟨l0, l3, lg, hO⟩ := HK.out w2 b2
 have B2 := hid b2
 have HO := hid hO
 clear HS b2 hO k2'
 go_wp2_with fail
 refine Calls.mono HO.out ?_
 rintro e w3 ⟨rfl, b3⟩
 have B3 := hid (HB1.out w2 w3 B2.out b3)
 obtain ⟨m0, m3, mg, _⟩ := HK.out w3 B3.out
 have FIN := hid (HF.out w3 B3.out)
 clear HO b3 B2 HK HF B3 l0 l3 lg HB1
 go_wp2_with fail
 refine Calls.mono (HN.out w3) ?_
 rintro e w9 ⟨rfl, hw9⟩
 rw [hw9]
 clear hw9
 go_wp2
 exact FIN.out
set_option maxRecDepth 100000 in
set_option maxHeartbeats 4000000 in
theorem act_check {W : Nat → Prop} {w : World} {wb room nb fr bl K lasted : Nat} {H : List Int} {Us : List (List Pm)} (hWD : WD X0 W w wb room nb fr bl K lasted H Us) (at_ keep again : Int) (pv : Value) :
  Calls Tryz.prog 11 #[.pointer (some ⟨wb, 0, none⟩), .agg #[.int .i64 4, .int .i64 at_, pv, .int .u64 keep, .int .i64 (-1), .int .i64 again]] w (FluW X0 W w wb room nb fr bl K H Us) := by
 obtain ⟨PO, hPO⟩ : ∃ PO : Ending → World → Prop, PO = FluW X0 W w wb room nb fr bl K H Us := ⟨_, rfl⟩
 rw [← hPO]
 obtain ⟨w1, hw1⟩ : ∃ w1, w1 = w.alloc (.cells #[.int .i64 4, .int .i64 at_, pv, .int .u64 keep, .int .i64 (-1), .int .i64 again] 38) := ⟨_, rfl⟩
 have b1 : Below w.heap.size w w1 := by rw [hw1]; exact (Below.refl _ _).alloc (Nat.le_refl _) _
 have hWD1 := hWD.below b1
 obtain ⟨Z, p, c, j, g, tried, tl, td, hb, hc, ta, tc, vs, Ls, n1, cs, d, s, h, hOn, hW⟩ := hWD1
 have k2' : (w.alloc (.cells #[.int .i64 4, .int .i64 at_, pv, .int .u64 keep, .int .i64 (-1), .int .i64 again] 38)).cell? ⟨wb, 2, none⟩ = some (.pointer (some ⟨j, 0, none⟩)) := by rw [← hw1]; exact h.wd.cell 2
 have hpl := hOn.puts h.lo h.fit h.nb
 have HF : Hid (Calls Tryz.prog 19 #[.pointer (some ⟨j, 0, none⟩)] w1 fun e w2 => e = .returned (.int .i64 0) ∧ Calls Tryz.prog 49 #[.pointer (some ⟨wb, 0, none⟩), .int .i64 0] w2 fun e w3 => ∃ b, e = .returned (.bool b) ∧ PO (.returned (.bool b)) w3) := by
  have hnb9 := h.nb
  have hfit9 := h.fit
  refine Calls.mono (Checkpoint_on h.jq (hOn.jn h.lo h.fit h.nb) hOn.on (by omega)) ?_
  rintro e w2 ⟨rfl, ⟨Z', s', q1, q2, q3⟩, q4⟩
  obtain ⟨f1, _, f3⟩ := Pd.runs_free hOn.on h.fu (settleCmds nb fr bl s)
  rw [f1]
  have hq := q2 f1
  rw [hq] at q1
  have x2 := h.turn q1.cut (fun k q => q.2) (fun k hk q => q3 k hk q.1) q4 f3
  refine ⟨rfl, Calls.mono (lasts_any x2) ?_⟩
  rintro e w3 ⟨rfl, rfl⟩
  refine ⟨true, rfl, ?_⟩
  rw [hPO]
  have hon := ((hOn.settle h.jq.fits.1 h.lo h.fit h.nb).1 f1).1
  have hUl : (plainT Us).length = Us.length := by simp [plainT]
  rw [hUl] at hon
  refine ⟨rfl, ?_, _, ⟨_, p, c, j, g, tried, tl, td, hb, hc, ta, tc, vs, Ls, n1, cs, _, _, x2.lasts Us.length, hon, rfl⟩, fun k hk q => ?_⟩
  ·have c1 : But W w w2 := (But.of_below b1 (X := W)).comp q4 (fun k _ q => by rw [hW]; exact .inl (.inl q))
   exact c1.setCell (by rw [hW]; exact .inl (.inr (.inl rfl))) _
  ·rw [hW]
   rcases q with (q | q) | q
   ·exact .inl (.inl (q3 k (Nat.lt_of_lt_of_le hk b1.size) q.1))
   ·exact .inl (.inr q)
   ·exact .inr q
 have HW1 := hid hw1
 clear hWD h hOn hW hPO hw1 b1 hpl
 go_enter Tryz.func11, Tryz.ntmps11
 go_wp2_with fail
 rw [← HW1.out]
 refine Calls.mono HF.out ?_
 rintro e w2 ⟨rfl, hL⟩
 have HL := hid hL
 clear hL HF
 go_wp2_with fail
 refine Calls.mono HL.out ?_
 rintro e w3 ⟨b, rfl, hP⟩
 have FIN := hid hP
 clear hP HL
 go_wp2
 exact FIN.out
open Go.RowKit Go.Deep
variable {X0 : Nat → Prop}
set_option maxRecDepth 100000 in
set_option maxHeartbeats 8000000 in
theorem act_read {W : Nat → Prop} {w : World} {wb room nb fr bl K lasted : Nat} {H : List Int} {Us : List (List Pm)} (hWD : WD X0 W w wb room nb fr bl K lasted H Us) (hK : K < 4611686018427387904) (at_ keep again : Int) (pv : Value) :
  Calls Tryz.prog 11 #[.pointer (some ⟨wb, 0, none⟩), .agg #[.int .i64 2, .int .i64 at_, pv, .int .u64 keep, .int .i64 (-1), .int .i64 again]] w (StW X0 W w wb room nb fr bl (K + 1) lasted H Us) := by
 obtain ⟨PO, hPO⟩ : ∃ PO : Ending → World → Prop, PO = StW X0 W w wb room nb fr bl (K + 1) lasted H Us := ⟨_, rfl⟩
 rw [← hPO]
 obtain ⟨ab, hab⟩ : ∃ ab, ab = w.heap.size := ⟨_, rfl⟩
 obtain ⟨w1, hw1⟩ : ∃ w1, w1 = w.alloc (.cells #[.int .i64 2, .int .i64 at_, pv, .int .u64 keep, .int .i64 (-1), .int .i64 again] 38) := ⟨_, rfl⟩
 have b1 : Below w.heap.size w w1 := by rw [hw1]; exact (Below.refl _ _).alloc (Nat.le_refl _) _
 have z1 : w1.heap.size = w.heap.size + 1 := by rw [hw1]; simp
 have a1 : w1.cell? ⟨ab, 1, none⟩ = some (.int .i64 at_) := by rw [hw1, hab]; exact cell_new rfl 1 _ rfl
 obtain ⟨Z, p, c, j, g, tried, tl, td, hb, hc, ta, tc, vs, Ls, n1, cs, d, s, h, hOn, hW⟩ := hWD.below b1
 have hnb9 := h.nb
 have hpl := hOn.puts h.lo h.fit h.nb
 have hzab : ¬ Z ab := fun q => by
  obtain ⟨Z0, p0, c0, j0, g0, tr0, tl0, td0, hb0, hc0, ta0, tc0, vs0, Ls0, n0, cs0, d0, s0, h0, _, hW0⟩ := hWD
  have h1 : W ab := by rw [hW]; exact .inl (.inl q)
  rw [hW0] at h1
  have := h0.mu_lt h1
  omega
 have HKeep : Hid (∀ w', But Z w1 w' → w'.cell? ⟨wb, 2, none⟩ = some (.pointer (some ⟨j, 0, none⟩)) ∧ w'.cell? ⟨wb, 3, none⟩ = some (.pointer (some ⟨g, 0, none⟩)) ∧ w'.cell? ⟨ab, 1, none⟩ = some (.int .i64 at_)) := fun w' hb' => by
  have hwd := h.wd.keep (hb'.block wb h.wd.lt h.zw)
  exact ⟨hwd.cell 2, hwd.cell 3, (hb'.cell (p := ⟨ab, 1, none⟩) (by show ab < _; omega) hzab).trans a1⟩
 have k0 : Hid (∀ w', But Z w1 w' → w'.cell? ⟨wb, 0, none⟩ = some (.pointer (some ⟨p, 0, none⟩))) := fun w' hb' => (h.wd.keep (hb'.block wb h.wd.lt h.zw)).cell 0
 obtain ⟨k2, k3, ka⟩ := HKeep.out w1 (But.refl _ _)
 have HN := hid num_any
 have HW1 := hid hw1
 have HAB := hid hab
 rcases homeC_cases nb fr bl at_ with hh | hh
 ·have hne : homeC nb fr bl at_ ≠ 0 := by rw [hh]; decide
  have HRd := hid (Read_far h.jq.drew h.fit hOn.on at_ hne)
  rw [hh] at HRd
  have HLrA : Hid (∀ w', Below w1.heap.size w1 w' → Calls Tryz.prog 46 #[.pointer (some ⟨g, 0, none⟩), .int .i64 at_] w'.drew fun e w'' => e = .returned (.tuple #[.slice none 0 0, .int .i64 42]) ∧ Below w'.drew.heap.size w'.drew w'') := fun w' hb' => refRead_far (h.below hb'.drew).lg.lg h.nb h.fit at_ hne
  have HO : Hid (∀ w', Below w1.heap.size w1 w' → Calls Tryz.prog 47 #[.pointer (some ⟨p, 0, none⟩)] w' fun e w'' => e = .returned (.bool true) ∧ Below w'.heap.size w' w'') := fun w' hb' => by
   have ho := On_any (h.below hb').jq.dk.1
   rw [hOn.on] at ho
   exact ho
  have HF : Hid (∀ w', Below w1.heap.size w1 w' → PO (.returned (.bool true)) w') := fun w' hb' => by
   rw [hPO]
   have hWDk := (hWD.below b1).below hb'
   exact ⟨rfl, But.of_below (b1.trans (hb'.mono b1.size)), W, hWDk.monoK (by omega), fun _ _ q => q⟩
  have HSm : Hid (∀ w', Calls Tryz.prog 48 #[.slice none 0 0, .slice none 0 0] w' fun e w'' => e = .returned (.bool true) ∧ w'' = w') := fun w' => SameBytes_eq 0 none none 0 0 0 0 [] w' ⟨rfl, Pl.isB_nil, .inl rfl⟩ ⟨rfl, Pl.isB_nil, .inl rfl⟩
  clear hWD h hOn hW hPO hw1 b1 hpl hne hh hnb9 z1 a1 hzab hab hK
  go_enter Tryz.func11, Tryz.ntmps11
  go_wp2_with fail
  rw [← HW1.out, ← HAB.out]
  refine wp_region_noPanic ?_
  refine wp_region_held_drew (S := fun w' => w'.cell? ⟨wb, 2, none⟩ = some (.pointer (some ⟨j, 0, none⟩)) ∧ w'.cell? ⟨wb, 3, none⟩ = some (.pointer (some ⟨g, 0, none⟩)) ∧ w'.cell? ⟨ab, 1, none⟩ = some (.int .i64 at_)) (by kernel_rfl) ⟨k2, k3, ka⟩ (fun hSS => ?_)
  refine tk 0 (some 46) (.move (.tmp 0)) 28 none hSS ?_
  refine tk 1 (some 47) (.nilCheck (.tmp 46)) 0 none hSS ?_
  refine tk 2 (some 48) (.fieldAddr 50 (.tmp 47) 2) 0 none hSS ?_
  refine tk 3 (some 49) (.load 44 (.tmp 48)) 44 none hSS ?_
  try simp only [Act.put, zA, zB, zC]
  refine tk 4 (some 50) (.fieldAddr 38 (.tmp 3) 1) 0 none hSS ?_
  refine tk 5 (some 51) (.load 3 (.tmp 50)) 3 none hSS ?_
  try simp only [Act.put, zA, zB, zC]
  refine wpAnyH_ready (rs := [6]) (by kernel_rfl) (by simp) (AllReadyH.cons (o := ({ dst := some 52, op := Op.call { callee := Callee.value (Operand.func 13), args := #[Operand.tmp 49, Operand.tmp 51], argTypes := #[44, 3] }, type := 41, pos := _, after := _, guard := none } : Oper)) rfl (fun K9 hK9 => ?_) AllReadyH.nil)
  go_simp
  go_at_call 13
  refine Calls.mono HRd.out ?_
  rintro e w2 ⟨rfl, b2⟩
  obtain ⟨l2, l3, la⟩ := HKeep.out w2 (But.of_below ((Below.refl w1.heap.size w1).drew.trans b2))
  have B2 := hid ((Below.refl w1.heap.size w1).drew.trans b2)
  clear b2 HRd
  refine hK9.out _ _ ⟨l2, l3, la⟩ (fun hSS => ?_)
  clear hK9 K9
  try simp only [Act.put, zA, zB, zC]
  refine tk 7 (some 45) (.move (.tmp 52)) 41 none hSS ?_
  refine tk 8 (some 53) (.extract (.tmp 45) 0) 22 none hSS ?_
  refine tk 9 (some 54) (.extract (.tmp 45) 1) 40 none hSS ?_
  try simp only [Act.put, zA, zB, zC]
  refine tk 10 (some 5) (.assign (.tmp 53)) 22 none hSS ?_
  refine tk 11 (some 6) (.assign (.tmp 54)) 40 none hSS ?_
  try simp only [Act.put, zA, zB, zC]
  refine wpAnyH_done (by kernel_rfl) (NoPanic.normal ?_) _
  clear hSS k2 k3 ka
  have HLr := hid (HLrA.out w2 B2.out)
  clear HLrA
  go_wp2_with fail
  refine wp_region_noPanic ?_
  refine wp_region_held_drew (S := fun w' => w'.cell? ⟨wb, 2, none⟩ = some (.pointer (some ⟨j, 0, none⟩)) ∧ w'.cell? ⟨wb, 3, none⟩ = some (.pointer (some ⟨g, 0, none⟩)) ∧ w'.cell? ⟨ab, 1, none⟩ = some (.int .i64 at_)) (by kernel_rfl) ⟨l2, l3, la⟩ (fun hSS => ?_)
  refine tk 0 (some 56) (.move (.tmp 0)) 28 none hSS ?_
  refine tk 1 (some 57) (.nilCheck (.tmp 56)) 0 none hSS ?_
  refine tk 2 (some 58) (.fieldAddr 50 (.tmp 57) 3) 0 none hSS ?_
  try simp only [Act.put, zA, zB, zC]
  refine tk 3 (some 59) (.load 45 (.tmp 58)) 45 none hSS ?_
  refine tk 4 (some 60) (.fieldAddr 38 (.tmp 3) 1) 0 none hSS ?_
  refine tk 5 (some 61) (.load 3 (.tmp 60)) 3 none hSS ?_
  try simp only [Act.put, zA, zB, zC]
  refine wpAnyH_ready (rs := [6]) (by kernel_rfl) (by simp) (AllReadyH.cons (o := ({ dst := some 62, op := Op.call { callee := Callee.value (Operand.func 46), args := #[Operand.tmp 59, Operand.tmp 61], argTypes := #[45, 3] }, type := 112, pos := _, after := _, guard := none } : Oper)) rfl (fun K9 hK9 => ?_) AllReadyH.nil)
  go_simp
  go_at_call 46
  refine Calls.mono HLr.out ?_
  rintro e w3 ⟨rfl, b3⟩
  have B3 := hid ((Below.refl w2.heap.size w2).drew.trans b3)
  obtain ⟨m2, m3, ma⟩ := HKeep.out w3 (But.of_below (B2.out.trans (B3.out.mono B2.out.size)))
  clear b3 HLr
  refine hK9.out _ _ ⟨m2, m3, ma⟩ (fun hSS => ?_)
  clear hK9 K9
  try simp only [Act.put, zA, zB, zC]
  refine tk 7 (some 55) (.move (.tmp 62)) 112 none hSS ?_
  refine tk 8 (some 63) (.extract (.tmp 55) 0) 22 none hSS ?_
  try simp only [Act.put, zA, zB, zC]
  refine tk 9 (some 64) (.extract (.tmp 55) 1) 3 none hSS ?_
  refine tk 10 (some 7) (.assign (.tmp 63)) 22 none hSS ?_
  refine tk 11 (some 8) (.assign (.tmp 64)) 3 none hSS ?_
  try simp only [Act.put, zA, zB, zC]
  refine wpAnyH_done (by kernel_rfl) (NoPanic.normal ?_) _
  clear hSS l2 l3 la
  have B13 := hid (B2.out.trans (B3.out.mono B2.out.size))
  have kk := k0.out w3 (But.of_below B13.out)
  have HO3 := hid (HO.out w3 B13.out)
  clear HO m2 m3 ma
  go_wp2_with fail
  refine Calls.mono HO3.out ?_
  rintro e w4 ⟨rfl, b4⟩
  have FIN := hid (HF.out w4 (B13.out.trans (b4.mono B13.out.size)))
  clear HO3 b4 kk HF
  go_wp2_with fail
  refine Calls.mono (HN.out 42 w4) ?_
  rintro e w9 ⟨rfl, hw9⟩
  rw [hw9]
  clear hw9
  go_wp2_with fail
  refine Calls.mono (HSm.out w4) ?_
  rintro e w9 ⟨rfl, hw9⟩
  rw [hw9]
  clear hw9
  go_wp2
  exact FIN.out
 ·obtain ⟨x, hx, hxn, hhb⟩ : ∃ x : Nat, at_ = (x : Int) ∧ x < nb ∧ HomeB nb fr bl x := by
   have h9 := hh
   unfold homeC at h9
   by_cases h8 : at_ < 0 ∨ (nb : Int) ≤ at_ ∨ ((fr : Int) ≤ at_ ∧ at_ < (fr : Int) + (bl : Int))
   ·rw [if_pos h8] at h9
    cases h9
   ·exact ⟨at_.toNat, by omega, by omega, by omega, by omega⟩
  subst hx
  have hUl : (plainT Us).length = Us.length := by simp [plainT]
  have hus := (hOn.us h.lo h.fit h.nb).2
  have HRd : Hid (Calls Tryz.prog 13 #[.pointer (some ⟨j, 0, none⟩), .int .i64 (x : Int)] w1.drew fun e w2 => ∃ gr cpr, e = .returned (.tuple #[.slice (some ⟨gr, 0, none⟩) 512 cpr, .int .i64 0]) ∧ But Z w1 w2 ∧ Own w2 gr 512 cpr (contT (imgB H) (plainT Us) Us.length x) ∧ Pl.isB (contT (imgB H) (plainT Us) Us.length x) ∧ ∃ Z', Jq Z' w2 j c p room nb (K + 1) fr bl d s ∧ (∀ k, Z' k → k < w2.heap.size) ∧ Gr Z Z' w1) := by
   refine Calls.mono (Read_home h.jq.drew h.fit hOn.on (by omega) hK x hxn hh) ?_
   rintro e w2 ⟨gr, cpr, rfl, _, q2, q3, ⟨Z', q4, q5, _⟩, q6⟩
   have e2 := hOn.read hhb
   rw [hUl] at e2
   rw [e2] at q2 q3
   exact ⟨gr, cpr, rfl, (But.of_below ((Below.refl w1.heap.size w1).drew) (X := Z)).comp q6 (fun _ _ q => q), q2, q3, _, q4.cut, fun k q => q.2, fun k hk q => q5 k hk q.1⟩
  have HLrA : Hid (∀ w', But Z w1 w' → Calls Tryz.prog 46 #[.pointer (some ⟨g, 0, none⟩), .int .i64 (x : Int)] w'.drew fun e w3 => ∃ gl cpl, e = .returned (.tuple #[.slice (some ⟨gl, 0, none⟩) 512 cpl, .int .i64 0]) ∧ But Z w1 w3 ∧ Own w3 gl 512 cpl (contT (imgB H) (plainT Us) Us.length x) ∧ Below w'.heap.size w' w3) := fun w' hb' => by
   have hL := (h.lg.butX (X := fun k => Z k ∨ k = wb ∨ TB tl td Ls k) hb' (fun _ _ q => .inl q) (fun k => Z k ∨ k = wb ∨ TB tl td Ls k) (fun _ _ q => q)).below ((Below.refl w'.heap.size w').drew) _ (fun _ _ q => q)
   refine Calls.mono (refRead_home hL h.nb h.fit x hxn hus hh) ?_
   rintro e w3 ⟨gl, cpl, rfl, _, q2, q3⟩
   have q4 : Below w'.heap.size w' w3 := (Below.refl w'.heap.size w').drew.trans q3
   exact ⟨gl, cpl, rfl, hb'.comp (But.of_below q4 (X := fun _ => False)) (fun _ _ q => q.elim), q2, q4⟩
  have HF : Hid (∀ w2 w4 Z', Jq Z' w2 j c p room nb (K + 1) fr bl d s → (∀ k, Z' k → k < w2.heap.size) → Gr Z Z' w1 → But Z w1 w2 → Below w2.heap.size w2 w4 → PO (.returned (.bool true)) w4) := fun w2 w4 Z' q1 q2 q3 q4 q5 => by
   rw [hPO]
   have hx1 : Wx X0 Z w1 wb p c j g room nb fr bl (K + 1) lasted tried tl td hb hc H ta tc vs Us Ls n1 cs d s := ⟨h.wd, h.lg, h.jq.monoK (by omega), h.fu, h.tr, h.ls, h.n1, h.nl, h.zw, h.zt, h.tw, h.lt, h.zb, h.lo, h.fit, h.r1, h.r2, h.x0⟩
   have x2 := (hx1.turn q1 q2 q3 q4 h.fu).below q5
   refine ⟨rfl, ?_, _, ⟨Z', p, c, j, g, tried, tl, td, hb, hc, ta, tc, vs, Ls, n1, cs, d, s, x2, hOn, rfl⟩, fun k hk q => ?_⟩
   ·exact ((But.of_below b1 (X := W)).comp q4 (fun k _ q => by rw [hW]; exact .inl (.inl q))).comp (But.of_below q5 (X := fun _ => False)) (fun _ _ q => q.elim)
   ·rw [hW]
    rcases q with (q | q) | q
    ·exact .inl (.inl (q3 k (Nat.lt_of_lt_of_le hk b1.size) q))
    ·exact .inl (.inr q)
    ·exact .inr q
  have HO : Hid (∀ w2 w' Z', Jq Z' w2 j c p room nb (K + 1) fr bl d s → Below w2.heap.size w2 w' → Calls Tryz.prog 47 #[.pointer (some ⟨p, 0, none⟩)] w' fun e w'' => e = .returned (.bool true) ∧ Below w'.heap.size w' w'') := fun w2 w' Z' q1 q5 => by
   have ho := On_any (q1.below q5).dk.1
   rw [hOn.on] at ho
   exact ho
  clear hWD h hOn hW hPO hw1 b1 hpl hh hnb9 z1 a1 hzab hab hK hUl hus hhb hxn
  go_enter Tryz.func11, Tryz.ntmps11
  go_wp2_with fail
  rw [← HW1.out, ← HAB.out]
  refine wp_region_noPanic ?_
  refine wp_region_held_drew (S := fun w' => w'.cell? ⟨wb, 2, none⟩ = some (.pointer (some ⟨j, 0, none⟩)) ∧ w'.cell? ⟨wb, 3, none⟩ = some (.pointer (some ⟨g, 0, none⟩)) ∧ w'.cell? ⟨ab, 1, none⟩ = some (.int .i64 (x : Int))) (by kernel_rfl) ⟨k2, k3, ka⟩ (fun hSS => ?_)
  refine tk 0 (some 46) (.move (.tmp 0)) 28 none hSS ?_
  refine tk 1 (some 47) (.nilCheck (.tmp 46)) 0 none hSS ?_
  try simp only [Act.put, zA, zB, zC]
  refine tk 2 (some 48) (.fieldAddr 50 (.tmp 47) 2) 0 none hSS ?_
  refine tk 3 (some 49) (.load 44 (.tmp 48)) 44 none hSS ?_
  refine tk 4 (some 50) (.fieldAddr 38 (.tmp 3) 1) 0 none hSS ?_
  refine tk 5 (some 51) (.load 3 (.tmp 50)) 3 none hSS ?_
  try simp only [Act.put, zA, zB, zC]
  refine wpAnyH_ready (rs := [6]) (by kernel_rfl) (by simp) (AllReadyH.cons (o := ({ dst := some 52, op := Op.call { callee := Callee.value (Operand.func 13), args := #[Operand.tmp 49, Operand.tmp 51], argTypes := #[44, 3] }, type := 41, pos := _, after := _, guard := none } : Oper)) rfl (fun K9 hK9 => ?_) AllReadyH.nil)
  go_simp
  go_at_call 13
  refine Calls.mono HRd.out ?_
  rintro e w2 ⟨gr, cpr, rfl, F2⟩
  have H2 := hid F2
  obtain ⟨l2, l3, la⟩ := HKeep.out w2 F2.1
  clear F2 HRd
  refine hK9.out _ _ ⟨l2, l3, la⟩ (fun hSS => ?_)
  clear hK9 K9
  try simp only [Act.put, zA, zB, zC]
  refine tk 7 (some 45) (.move (.tmp 52)) 41 none hSS ?_
  try simp only [Act.put, zA, zB, zC]
  refine tk 8 (some 53) (.extract (.tmp 45) 0) 22 none hSS ?_
  refine tk 9 (some 54) (.extract (.tmp 45) 1) 40 none hSS ?_
  refine tk 10 (some 5) (.assign (.tmp 53)) 22 none hSS ?_
  refine tk 11 (some 6) (.assign (.tmp 54)) 40 none hSS ?_
  try simp only [Act.put, zA, zB, zC]
  refine wpAnyH_done (by kernel_rfl) (NoPanic.normal ?_) _
  clear hSS k2 k3 ka
  have HLr2 := hid (HLrA.out w2 H2.out.1)
  clear HLrA
  go_wp2_with fail
  refine wp_region_noPanic ?_
  refine wp_region_held_drew (S := fun w' => w'.cell? ⟨wb, 2, none⟩ = some (.pointer (some ⟨j, 0, none⟩)) ∧ w'.cell? ⟨wb, 3, none⟩ = some (.pointer (some ⟨g, 0, none⟩)) ∧ w'.cell? ⟨ab, 1, none⟩ = some (.int .i64 (x : Int))) (by kernel_rfl) ⟨l2, l3, la⟩ (fun hSS => ?_)
  refine tk 0 (some 56) (.move (.tmp 0)) 28 none hSS ?_
  try simp only [Act.put, zA, zB, zC]
  refine tk 1 (some 57) (.nilCheck (.tmp 56)) 0 none hSS ?_
  refine tk 2 (some 58) (.fieldAddr 50 (.tmp 57) 3) 0 none hSS ?_
  refine tk 3 (some 59) (.load 45 (.tmp 58)) 45 none hSS ?_
  refine tk 4 (some 60) (.fieldAddr 38 (.tmp 3) 1) 0 none hSS ?_
  try simp only [Act.put, zA, zB, zC]
  refine tk 5 (some 61) (.load 3 (.tmp 60)) 3 none hSS ?_
  try simp only [Act.put, zA, zB, zC]
  refine wpAnyH_ready (rs := [6]) (by kernel_rfl) (by simp) (AllReadyH.cons (o := ({ dst := some 62, op := Op.call { callee := Callee.value (Operand.func 46), args := #[Operand.tmp 59, Operand.tmp 61], argTypes := #[45, 3] }, type := 112, pos := _, after := _, guard := none } : Oper)) rfl (fun K9 hK9 => ?_) AllReadyH.nil)
  go_simp
  go_at_call 46
  refine Calls.mono HLr2.out ?_
  rintro e w3 ⟨gl, cpl, rfl, F3⟩
  have H3 := hid F3
  obtain ⟨m2, m3, ma⟩ := HKeep.out w3 F3.1
  clear F3 HLr2
  refine hK9.out _ _ ⟨m2, m3, ma⟩ (fun hSS => ?_)
  clear hK9 K9
  try simp only [Act.put, zA, zB, zC]
  refine tk 7 (some 55) (.move (.tmp 62)) 112 none hSS ?_
  refine tk 8 (some 63) (.extract (.tmp 55) 0) 22 none hSS ?_
  refine tk 9 (some 64) (.extract (.tmp 55) 1) 3 none hSS ?_
  refine tk 10 (some 7) (.assign (.tmp 63)) 22 none hSS ?_
  try simp only [Act.put, zA, zB, zC]
  refine tk 11 (some 8) (.assign (.tmp 64)) 3 none hSS ?_
  try simp only [Act.put, zA, zB, zC]
  refine wpAnyH_done (by kernel_rfl) (NoPanic.normal ?_) _
  clear hSS l2 l3 la
  have kk := k0.out w3 H3.out.1
  obtain ⟨Z2, J2, z2, G2⟩ := H2.out.2.2.2
  have HO3 := hid (HO.out w2 w3 Z2 J2 H3.out.2.2)
  have HFA : Hid (∀ w4, Below w3.heap.size w3 w4 → PO (.returned (.bool true)) w4 ∧ Calls Tryz.prog 48 #[.slice (some ⟨gr, 0, none⟩) 512 cpr, .slice (some ⟨gl, 0, none⟩) 512 cpl] w4 fun e w'' => e = .returned (.bool true) ∧ w'' = w4) := fun w4 b4 => by
   have b24 := H3.out.2.2.trans (b4.mono H3.out.2.2.size)
   refine ⟨HF.out w2 w4 Z2 J2 z2 G2 H2.out.1 b24, ?_⟩
   have r1 := (H2.out.2.1.keep (b24.block gr H2.out.2.1.lt)).rd H2.out.2.2.1
   have r2 := (H3.out.2.1.keep (b4.block gl H3.out.2.1.lt)).rd H2.out.2.2.1
   exact SameBytes_eq w4.heap.size (some ⟨gr, 0, none⟩) (some ⟨gl, 0, none⟩) 512 cpr 512 cpl _ w4 r1 r2
  clear HO m2 m3 ma J2 z2 G2 HF H2 H3
  go_wp2_with fail
  refine Calls.mono HO3.out ?_
  rintro e w4 ⟨rfl, b4⟩
  obtain ⟨hP, hS⟩ := HFA.out w4 b4
  have FIN := hid hP
  have HSm := hid hS
  clear HO3 b4 kk HFA hP hS
  go_wp2_with fail
  refine Calls.mono (HN.out 0 w4) ?_
  rintro e w9 ⟨rfl, hw9⟩
  rw [hw9]
  clear hw9
  go_wp2_with fail
  refine Calls.mono HSm.out ?_
  rintro e w9 ⟨rfl, hw9⟩
  rw [hw9]
  clear hw9
  go_wp2
  exact FIN.out
end Go.Proofs.YtldlejpacgphmabGreat
